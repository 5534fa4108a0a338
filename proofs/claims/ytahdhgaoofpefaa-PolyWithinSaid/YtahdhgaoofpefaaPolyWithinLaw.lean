/-
  Layer 34: the walk of the law PolyWithin.
-/
import Derived.Test.YtahdhgaoofpefaaPolyWithin
import Derived.Test.YtahdhgaoofpefaaPolyCutN
import Derived.Test.YtahdhgaoofpefaaPolyLawOnN
namespace Go.Proofs.Ytahdhgaoofpefaa
open Go.RowKit
set_option linter.unusedVariables false
set_option linter.unusedSimpArgs false

theorem crossL_ways (a b q : P2) (t : Int) (ht : tn a b q = t) : ∃ r, crossL a b q = r ∧
    ((a.y ≤ q.y ∧ q.y < b.y ∧ decide (b.y ≤ q.y) = false ∧ 0 < t ∧ r = true) ∨
     (a.y ≤ q.y ∧ q.y < b.y ∧ decide (b.y ≤ q.y) = false ∧ decide (0 < t) = false ∧ r = false) ∨
     (decide (a.y ≤ q.y) = false ∧ b.y ≤ q.y ∧ q.y < a.y ∧ t < 0 ∧ r = true) ∨
     (decide (a.y ≤ q.y) = false ∧ b.y ≤ q.y ∧ q.y < a.y ∧ decide (t < 0) = false ∧ r = false) ∨
     (decide (a.y ≤ q.y) = false ∧ decide (b.y ≤ q.y) = false ∧ r = false) ∨
     (a.y ≤ q.y ∧ decide (q.y < b.y) = false ∧ b.y ≤ q.y ∧ decide (q.y < a.y) = false ∧ r = false)) := by
  refine ⟨_, rfl, ?_⟩
  unfold crossL
  rw [ht]
  by_cases h1 : a.y ≤ q.y
  · by_cases h2 : q.y < b.y
    · have h3 : ¬ b.y ≤ q.y := by omega
      by_cases h4 : 0 < t
      · exact .inl ⟨h1, h2, by simp [h3], h4, by simp [h1, h2, h3, h4]⟩
      · exact .inr (.inl ⟨h1, h2, by simp [h3], by simp [h4], by simp [h1, h2, h3, h4]⟩)
    · have h3 : b.y ≤ q.y := by omega
      have h4 : ¬ q.y < a.y := by omega
      exact .inr (.inr (.inr (.inr (.inr ⟨h1, by simp [h2], h3, by simp [h4], by simp [h1, h2, h3, h4]⟩))))
  · by_cases h2 : b.y ≤ q.y
    · have h3 : q.y < a.y := by omega
      by_cases h4 : t < 0
      · exact .inr (.inr (.inl ⟨by simp [h1], h2, h3, h4, by simp [h1, h2, h3, h4]⟩))
      · exact .inr (.inr (.inr (.inl ⟨by simp [h1], h2, h3, by simp [h4], by simp [h1, h2, h3, h4]⟩)))
    · exact .inr (.inr (.inr (.inr (.inl ⟨by simp [h1], by simp [h2], by simp [h1, h2]⟩))))

theorem cutP_low (q : Pt) : (p2 (cutP q)).low := ⟨(sm_bd _).1, (sm_bd _).2, (sm_bd _).1, (sm_bd _).2⟩
theorem cutP_ok {q : Pt} (h : q.ok) : (cutP q).ok := by
  have h1 := sm_bd q.x
  have h2 := sm_bd q.y
  unfold Pt.ok at h ⊢
  unfold cutP
  refine ⟨h.1, h.2.1, h1.1, by show sm q.x ≤ _; omega, h2.1, by show sm q.y ≤ _; omega, ?_⟩
  show ByteArray.size ByteArray.empty ≤ maxLen
  exact Nat.zero_le _

/-- The rows that cut hands out, by their index. -/
theorem cut_open {w : World} {base : Nat} {v : Value} {f : Nat → Pt} {k : Nat} (h : PtsOwn w base v (cutL f k)) :
    ∃ p cap, v = .slice p k cap ∧ k ≤ cap ∧ cap ≤ maxLen ∧ RowP w p 4 k (fun i => pcells (cutP (f i))) := by
  obtain ⟨p, cap, h1, h2, h3, R⟩ := h.open
  rw [cutL_length] at h1 h2 R
  refine ⟨p, cap, h1, h2, h3, R.imp id ?_⟩
  rintro ⟨b, o, e, r⟩
  exact ⟨b, o, e, r.lt, fun i hi j u hu => r.cell i hi j u (by show (pcells (ptAt (cutL f k) i))[j]? = _; rw [cutL_at f k i hi]; exact hu)⟩

theorem row_one (w : World) (q : Pt) : RowP (w.alloc (.cells #[.int .i64 q.id, .int .u32 q.x, .int .u32 q.y, .string q.d] 63)) (some ⟨w.heap.size, 0, none⟩) 4 1 (fun _ => pcells q) := by
  have h := Blk.new w #[.int .i64 q.id, .int .u32 q.x, .int .u32 q.y, .string q.d] 63
  refine .inr ⟨_, _, rfl, h.lt, fun i hi j v hv => ?_⟩
  obtain rfl : i = 0 := by omega
  simp only [Nat.zero_mul, Nat.zero_add]
  exact (h.cell j).trans (by simpa [pcells] using hv)

set_option maxRecDepth 100000 in
set_option maxHeartbeats 16000000 in
theorem polyWithin (p : Option Addr) (n cap : Nat) (f : Nat → Pt) (hf : ∀ i, (f i).ok) (h1 : n ≤ cap) (h2 : cap ≤ maxLen) (q : Pt) (hq : q.ok) (w : World) (HA : RowP w p 4 n (fun i => pcells (f i))) :
    Calls Try.prog 8 #[.slice p n cap, .agg #[.int .i64 q.id, .int .u32 q.x, .int .u32 q.y, .string q.d]] w fun e w' => e = .returned (.bool true) ∧ Below w.heap.size w w' := by
  have hfh := hid hf
  have hqh := hid hq
  have h12 := hid (And.intro h1 h2)
  have HAh := hid HA
  clear hf hq h1 h2 HA
  go_enter Try.func8, Try.ntmps8
  go_wp2_with fail
  refine (alive34 _).mono ?_
  rintro e w1 ⟨rfl, hb1⟩
  have HB := hid ((Blk.new w #[.int .i64 q.id, .int .u32 q.x, .int .u32 q.y, .string q.d] 63).more hb1)
  have H1 : Hid (Below w.heap.size w w1) := hid (((Below.refl _ _).alloc (Nat.le_refl _) _).trans (hb1.mono (by simp)))
  have KC := hid (cutN_any p n cap f hfh.out h12.out.1 h12.out.2 w1 (HAh.out.more H1.out))
  obtain ⟨m, hm⟩ : ∃ m, min n 16 = m := ⟨_, rfl⟩
  rw [hm] at KC
  have hm16 : m ≤ 16 := by omega
  clear hm hb1 HAh
  go_wp2_with fail
  refine (KC.out).mono ?_
  rintro e w2 ⟨v2, rfl, own2, hb2⟩
  obtain ⟨p2', c2, rfl, hc2, hc2', R2⟩ := cut_open own2
  have HB2 := hid (HB.out.more hb2)
  have H2 := hid (H1.out.trans (hb2.mono H1.out.size))
  have R2h := hid R2
  have hcc := hid (And.intro hc2 hc2')
  clear own2 hb2 KC HB R2 hc2 hc2'
  obtain ⟨l0, k0, f0⟩ := HB2.out
  go_wp2_with fail
  have hb3 : Below w2.heap.size w2 (w2.alloc (.cells #[.int .i64 q.id, .int .u32 q.x, .int .u32 q.y, .string q.d] 63)) := (Below.refl _ _).alloc (Nat.le_refl _) _
  have KQ := cutN_any (some ⟨w2.heap.size, 0, none⟩) 1 1 (fun _ => q) (fun _ => hqh.out) (Nat.le_refl _) (by decide) (w2.alloc (.cells #[.int .i64 q.id, .int .u32 q.x, .int .u32 q.y, .string q.d] 63)) (row_one w2 q)
  rw [show min 1 16 = 1 from rfl] at KQ
  refine KQ.mono ?_
  rintro e w4 ⟨v4, rfl, own4, hb4⟩
  have H4' : Below w2.heap.size w2 w4 := hb3.trans (hb4.mono hb3.size)
  have H4 := hid (H2.out.trans (H4'.mono H2.out.size))
  have R4h := hid (R2h.out.more H4')
  obtain ⟨p4, c4, rfl, hc4, hc4', R4⟩ := cut_open own4
  obtain ⟨b4, o4, rfl, RR⟩ := R4.row (by decide)
  have z0 := RR.at0 (i := 0) (by decide) (v := .int .i64 (cutP q).id) rfl
  have z1 := RR.at1 (i := 0) (by decide) (v := .int .u32 (cutP q).x) rfl
  have z2 := RR.at2 (i := 0) (by decide) (v := .int .u32 (cutP q).y) rfl
  have z3 := RR.at3 (i := 0) (by decide) (v := .string (cutP q).d) rfl
  simp only [Nat.zero_mul, Nat.add_zero] at z0 z1 z2 z3
  have hql := hid (cutP_low q)
  have hqo := hid (cutP_ok hqh.out)
  clear KQ own4 hb3 hb4 H4' R4 RR HB2 l0 k0 f0 H1 H2 R2h hc4 hc4' hqh
  generalize cutP q = Q at *
  obtain ⟨qi, qx, qy, qd⟩ := Q
  simp only [p2] at *
  go_wp2_with fail
  have B0 := hid (Blk.new w4 #[.int .i64 qi, .int .u32 qx, .int .u32 qy, .string qd] 63)
  have hb5 : Below w4.heap.size w4 (w4.alloc (.cells #[.int .i64 qi, .int .u32 qx, .int .u32 qy, .string qd] 63)) := (Below.refl _ _).alloc (Nat.le_refl _) _
  have H5 := hid (H4.out.trans (hb5.mono H4.out.size))
  have R5 := hid (R4h.out.more hb5)
  clear hb5 H4 R4h z0 z1 z2 z3
  generalize hB : w4.heap.size = bq at *
  generalize w4.alloc (.cells #[.int .i64 qi, .int .u32 qx, .int .u32 qy, .string qd] 63) = W at *
  obtain ⟨F, hF⟩ : ∃ F : Nat → Pt, F = fun i => cutP (f i) := ⟨_, rfl⟩
  have R6 : Hid (RowP W p2' 4 m (fun i => pcells (F i))) := hid (by rw [hF]; exact R5.out)
  have hFl : Hid (∀ i, (p2 (F i)).low) := hid (fun i => by rw [hF]; exact cutP_low _)
  have hFo : Hid (∀ i, (F i).ok) := hid (fun i => by rw [hF]; exact cutP_ok (hfh.out i))
  clear hF R5 hB hfh
  obtain ⟨cl, hcl⟩ : ∃ cl : Nat → Bool, cl = fun i => crossL (p2 (F i)) (p2 (F ((i + 1) % m))) ⟨qx, qy⟩ := ⟨_, rfl⟩
  have KON := hid (fun (w : World) (R : RowP w p2' 4 m (fun i => pcells (F i))) => lawonN_any F m hFl.out qi ⟨qx, qy⟩ (.string qd) hql.out p2' c2 hcc.out.1 hcc.out.2 w R)
  have KPO := hid (fun (w : World) (R : RowP w p2' 4 m (fun i => pcells (F i))) => polyOn_any p2' m c2 F hFo.out hcc.out.1 hcc.out.2 ⟨qx, qy⟩ hql.out.ok w R)
  have KPW := hid (fun (w : World) (R : RowP w p2' 4 m (fun i => pcells (F i))) => within_any p2' m c2 F hFo.out hcc.out.1 hcc.out.2 ⟨qx, qy⟩ hql.out.ok w R)
  rw [← hcl] at KPW
  generalize onAny F m ⟨qx, qy⟩ = r at *
  replace hcl := hid hcl
  go_loopw [6, 7] (fun z i wr => ∃ k : Nat, k ≤ m ∧ i = .int .i64 (k : Int) ∧ z = .bool (oddB cl k) ∧ Below W.heap.size W wr) (fun _ i _ => m - (intOf i).toNat)
  case atStart => exact ⟨0, by omega, rfl, rfl, Below.refl _ _⟩
  case round =>
    obtain ⟨k, hk, rfl, rfl, hb⟩ := hrel
    by_cases hlt : k < m
    · obtain ⟨b, o, rfl, R0⟩ := R6.out.row (by omega)
      have R := R0.more hb
      obtain ⟨k', hm⟩ : ∃ k', (k + 1) % m = k' := ⟨_, rfl⟩
      have hm1 : k' < m := by rw [← hm]; exact Nat.mod_lt _ (by omega)
      have hmi : Int.tmod ((k : Int) + 1) (m : Int) = (k' : Int) := by rw [← hm]; rfl
      have hm1' : (k' : Int) < (m : Int) := by omega
      have hlt' : (k : Int) < (m : Int) := by omega
      have hl63 : (m : Int) ≤ 9223372036854775807 := by omega
      have hl0 : (0 : Int) < (m : Int) := by omega
      have hl0' : ¬ (m : Int) = 0 := by omega
      have hl0'' : ((m : Int) == 0) = false := by simp; omega
      have hmw : IntKind.i64.wrap (Int.tmod ((k : Int) + 1) (m : Int)) = (k' : Int) := by rw [hmi]; exact IntWalk.i64_in _ ⟨by omega, by omega⟩
      have T1 := hid (fun w => lawturn3 (F k) (F k') qi ⟨qx, qy⟩ (.string qd) (hFl.out k) (hFl.out k') hql.out w)
      have how := crossL_ways (p2 (F k)) (p2 (F k')) ⟨qx, qy⟩ _ rfl
      obtain ⟨x, hx, ways⟩ := how
      have hod : Hid (oddB cl (k + 1) = (oddB cl k).xor x) := hid (by show (oddB cl k).xor (cl k) = _; rw [hcl.out]; show (oddB _ k).xor (crossL (p2 (F k)) (p2 (F ((k + 1) % m))) ⟨qx, qy⟩) = _; rw [hm, hx])
      clear hx
      have k00 := R.at0 hlt (v := .int .i64 (F k).id) rfl
      have k01 := R.at1 hlt (v := .int .u32 (F k).x) rfl
      have k02 := R.at2 hlt (v := .int .u32 (F k).y) rfl
      have k03 := R.at3 hlt (v := .string (F k).d) rfl
      have k10 := R.at0 hm1 (v := .int .i64 (F k').id) rfl
      have k11 := R.at1 hm1 (v := .int .u32 (F k').x) rfl
      have k12 := R.at2 hm1 (v := .int .u32 (F k').y) rfl
      have k13 := R.at3 hm1 (v := .string (F k').d) rfl
      have hwr := R.lt
      have hb' := hid hb
      have hlth := hid hlt
      clear R R0 hb hk hm hlt
      generalize F k = A at *
      generalize F k' = B at *
      generalize tn (p2 A) (p2 B) ⟨qx, qy⟩ = t1 at *
      generalize oddB cl k = z at *
      obtain ⟨ia, ax, ay, da⟩ := A
      obtain ⟨ib, bx, by', db⟩ := B
      simp only [p2] at *
      replace ways := hid ways
      go_upto_region 9 with (fail)
      go_cut [8, 9] (fun s6 s7 wx => ∃ p q, s6 = .pointer (some ⟨p, 0, none⟩) ∧ s7 = .pointer (some ⟨q, 0, none⟩) ∧ Blk wx p #[.int .i64 ia, .int .u32 ax, .int .u32 ay, .string da] ∧ Blk wx q #[.int .i64 ib, .int .u32 bx, .int .u32 by', .string db] ∧ Below wr.heap.size wr wx)
      case first =>
        have h1 : b < wr.heap.size + 1 := by omega
        have h2 : b < wr.heap.size + 1 + 1 := by omega
        have h3 : b < wr.heap.size + 2 := by omega
        have e1 : b ≠ wr.heap.size := by omega
        have e2 : b ≠ wr.heap.size + 1 := by omega
        have e3 : b ≠ wr.heap.size + 1 + 1 := by omega
        go_region
        all_goals
          go_wp2_with fail
          go_meet
          case rel => first
            | exact ⟨_, _, rfl, rfl, (boxed2 (Below.drew (Below.refl _ _))).1, (boxed2 (Below.drew (Below.refl _ _))).2.1, (boxed2 (Below.drew (Below.refl _ _))).2.2⟩
            | exact ⟨_, _, rfl, rfl, (boxed2 (Below.drew (Below.refl _ _))).2.1, (boxed2 (Below.drew (Below.refl _ _))).1, (boxed2 (Below.drew (Below.refl _ _))).2.2⟩
      case rest =>
        obtain ⟨p, q, rfl, rfl, P0, Q0, H2⟩ := hcut
        have hbs := hb'.out.size
        have B1 := hid ((B0.out.more hb'.out).more H2)
        have H3 := hid (hb'.out.trans (H2.mono hbs))
        have P1 := hid P0
        have Q1 := hid Q0
        clear H2 k00 k01 k02 k03 k10 k11 k12 k13
        have ways := ways.out
        obtain ⟨l0, c0, f0⟩ := B1.out
        obtain ⟨l1, c1, f1⟩ := P0
        obtain ⟨l2, c2, f2⟩ := Q0
        rcases ways with ⟨g1, g2, g3, g4, rfl⟩ | ⟨g1, g2, g3, g4, rfl⟩ | ⟨g1, g2, g3, g4, rfl⟩ | ⟨g1, g2, g3, g4, rfl⟩ | ⟨g1, g2, rfl⟩ | ⟨g1, g2, g3, g4, rfl⟩
        all_goals
          try have n1 := Int.not_le.1 (of_decide_eq_false g1)
          try have n2 := Int.not_le.1 (of_decide_eq_false g2)
          try have m2 := Int.not_lt.1 (of_decide_eq_false g2)
          try have n3 := Int.not_le.1 (of_decide_eq_false g3)
          try have m4 := Int.not_lt.1 (of_decide_eq_false g4)
          go_wp2_with fail
        rotate_left 4
        · go_roundw
          case rel => exact ⟨k + 1, hlth.out, by go_num, by rw [hod.out]; simp, H3.out⟩
          case measure => have := hlth.out; simp [intOf]; omega
        · go_roundw
          case rel => exact ⟨k + 1, hlth.out, by go_num, by rw [hod.out]; simp, H3.out⟩
          case measure => have := hlth.out; simp [intOf]; omega
        all_goals
          refine (T1.out _).mono ?_
          rintro e w5 ⟨rfl, hb5⟩
          have H6 := hid (H3.out.trans (hb5.mono H3.out.size))
          clear l0 c0 f0 l1 c1 f1 l2 c2 f2 hb5 P1 Q1 H3 B1
          go_wp2_with fail
          go_roundw
          case rel => exact ⟨k + 1, hlth.out, by go_num, by rw [hod.out]; simp, H6.out⟩
          case measure => have := hlth.out; simp [intOf]; omega
    · obtain rfl : k = m := by omega
      have hb' := hid hb
      have Rk := hid (R6.out.more hb)
      have Bk := hid (B0.out.more hb)
      obtain ⟨l0, k0, f0⟩ := Bk.out
      generalize oddB cl k = z at *
      clear hb hlt
      cases hr : r
      all_goals
        rw [hr] at KON KPO KPW
        go_wp2_with fail
        refine (KON.out _ Rk.out).mono ?_
        rintro e w5 ⟨rfl, hb5⟩
        have H6 := hid (hb'.out.trans (hb5.mono hb'.out.size))
        have R7 := hid (Rk.out.more hb5)
        obtain ⟨l6, k6, f6⟩ := Bk.out.more hb5
        have B7 := hid (Bk.out.more hb5)
        clear l0 k0 f0 hb5 Rk hb'
        go_wp2_with fail
        refine (KPO.out _ R7.out).mono ?_
        rintro e w6 ⟨rfl, hb6⟩
        have H8 := hid (H6.out.trans (hb6.mono H6.out.size))
        have R8 := hid (R7.out.more hb6)
        obtain ⟨l7, k7, f7⟩ := B7.out.more hb6
        clear l6 k6 f6 hb6 R7 H6 B7
        go_wp2_with fail
        refine (KPW.out _ R8.out).mono ?_
        rintro e w7 ⟨rfl, hb7⟩
        have H9 := hid (H8.out.trans (hb7.mono H8.out.size))
        clear l7 k7 f7 hb7 R8 H8
        go_wp2_with fail
        go_ret
        exact ⟨by simp, H5.out.trans (H9.out.mono H5.out.size)⟩
end Go.Proofs.Ytahdhgaoofpefaa
