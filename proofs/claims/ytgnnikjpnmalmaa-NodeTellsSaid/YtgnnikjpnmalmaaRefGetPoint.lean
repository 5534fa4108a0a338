/-
  The document's own points as octets: a point of octets.
-/
import Derived.Test.YtgnnikjpnmalmaaRefPoint
import Derived.Test.YtgnnikjpnmalmaaRegionAlloc
namespace Go.Proofs.Ytgnnikjpnmalmaa
open Go.RowKit
set_option linter.unusedVariables false
set_option linter.unusedSimpArgs false

instance (P : Pt) : Decidable P.may := by unfold Pt.may; infer_instance
set_option maxRecDepth 100000 in
theorem may_any (P : Pt) (hP : P.ok) (w : World) : Calls Try.prog 77 #[pval P] w fun e w' => e = .returned (.bool (decide P.may)) ∧ Below w.heap.size w w' := by
  obtain ⟨i1, i2, _, _, _, _, d1⟩ := hP
  unfold maxLen at d1
  have sz : (P.d.size : Int) ≤ 9223372036854775807 := by omega
  have ways : (∃ h : Hid (decide P.may = false), P.id < 1) ∨ (∃ h : Hid (decide P.may = false), decide (P.id < 1) = false ∧ 1 ≤ P.id ∧ 2147483648 ≤ P.id) ∨
      (∃ h : Hid (decide P.may = false), decide (P.id < 1) = false ∧ 1 ≤ P.id ∧ P.id < 2147483648 ∧ 16 < (P.d.size : Int)) ∨
      (∃ h : Hid (decide P.may = true), decide (P.id < 1) = false ∧ 1 ≤ P.id ∧ P.id < 2147483648 ∧ (P.d.size : Int) ≤ 16) := by
    unfold Pt.may
    by_cases h1 : P.id < 1
    · exact .inl ⟨hid (decide_eq_false (by omega)), h1⟩
    · by_cases h2 : 2147483648 ≤ P.id
      · exact .inr (.inl ⟨hid (decide_eq_false (by omega)), decide_eq_false h1, by omega, h2⟩)
      · by_cases h3 : 16 < (P.d.size : Int)
        · exact .inr (.inr (.inl ⟨hid (decide_eq_false (by omega)), decide_eq_false h1, by omega, by omega, h3⟩))
        · exact .inr (.inr (.inr ⟨hid (decide_eq_true (by omega)), decide_eq_false h1, by omega, by omega, by omega⟩))
  generalize decide P.may = m at *
  clear d1
  rcases ways with ⟨hc, g1⟩ | ⟨hc, g1, g2, g3⟩ | ⟨hc, g1, g2, g3, g4⟩ | ⟨hc, g1, g2, g3, g4⟩
  all_goals
    go_enter Try.func77, Try.ntmps77
    go_wp2
    go_ret
    exact ⟨by rw [hc.out]; (try rfl); (try simp; omega), (Below.refl _ _).alloc (Nat.le_refl _) _⟩

theorem pt_makes (dst : Option Tmp) (ty : TypeId) (pos : String) (af : Array Edge) : Makes Try.prog { dst := dst, op := .alloc 33, type := ty, pos := pos, after := af, guard := none } #[.int .i64 0, .int .u32 0, .int .u32 0, .string ByteArray.empty] := by
  exact ⟨rfl, _, rfl, fun w => by kernel_rfl⟩
/-- What the document's own reading tells. -/
def GPost (l : List UInt8) (w : World) (e : Ending) (w' : World) : Prop :=
  ∃ P n, e = .returned (.tuple #[pval P, .int .i64 n]) ∧ Below w.heap.size w w' ∧
    ((13 + lenAt l ≤ l.length ∧ (pointOf l).may ∧ P = pointOf l ∧ n = 13 + (lenAt l : Int)) ∨ (¬ (13 + lenAt l ≤ l.length ∧ (pointOf l).may) ∧ P = pt0 ∧ n = 0))
theorem lenAt_get (l : List UInt8) (h : 12 < l.length) : lenAt l = l[12].toNat := by
  unfold lenAt
  rw [show l.drop 12 = l[12] :: l.drop 13 from List.drop_eq_getElem_cons h]
  simp only [List.take_succ_cons, List.take_zero, numOf]
  omega

set_option maxRecDepth 100000 in
set_option maxHeartbeats 4000000 in
theorem refGetPoint_any (l : List UInt8) (a : Option Addr) (cap : Nat) (w : World) (O : Octs w a l) (h1 : l.length ≤ cap) (h2 : cap ≤ maxLen) :
    Calls Try.prog 30 #[.slice a l.length cap] w (GPost l w) := by
  unfold maxLen at h2
  by_cases hl : l.length < 13
  · have g1 : decide (l.length < 13) = true := decide_eq_true hl
    have g1' : (l.length : Int) < 13 := by omega
    replace O := hid O
    go_enter Try.func30, Try.ntmps30
    go_wp2_with fail
    refine bodyPost_ret (v := .tuple #[pval pt0, .int .i64 0]) (by simp [results, Try.results30, go_sem]; rfl) rfl ?_
    exact ⟨pt0, 0, rfl, (Below.refl w.heap.size w).alloc (Nat.le_refl _) _, .inr ⟨fun h => by omega, rfl, rfl⟩⟩
  · have hl13 : 13 ≤ l.length := by omega
    obtain ⟨b, o, rfl, lt, hc⟩ := O.row (fun e => by rw [e] at hl; simp at hl)
    have z := hc 12 (by omega)
    have hla := lenAt_get l (by omega)
    have hN : lenAt l < 256 := by rw [hla]; exact l[12].toNat_lt
    rw [← hla] at z
    have g1 : decide (l.length < 13) = false := decide_eq_false hl
    have g1' : 13 ≤ (l.length : Int) := by omega
    replace hla := hid hla
    generalize hn : lenAt l = n at *
    replace hn := hid hn
    have n0 : 0 ≤ (n : Int) ∧ (n : Int) ≤ 255 := by omega
    by_cases hfit : l.length < 13 + n
    · have g2 : (l.length : Int) < 13 + (n : Int) := by omega
      clear hc O
      go_enter Try.func30, Try.ntmps30
      go_wp2_with fail
      refine bodyPost_ret (v := .tuple #[pval pt0, .int .i64 0]) (by simp [results, Try.results30, go_sem]; rfl) rfl ?_
      exact ⟨pt0, 0, rfl, (Below.refl w.heap.size w).alloc (Nat.le_refl _) _, .inr ⟨fun h => by rw [hn.out] at h; omega, rfl, rfl⟩⟩
    · have g2 : decide ((l.length : Int) < 13 + (n : Int)) = false := decide_eq_false (by omega)
      have t4 : (l.take 4).length = 4 := by rw [List.length_take]; omega
      have t8 : ((l.drop 4).take 4).length = 4 := by rw [List.length_take, List.length_drop]; omega
      have t12 : ((l.drop 8).take 4).length = 4 := by rw [List.length_take, List.length_drop]; omega
      have tN : ((l.drop 13).take n).length = n := by rw [List.length_take, List.length_drop]; omega
      have K1 := fun w (O : Octs w (some ⟨b, o, none⟩) (l.take 4)) => refGet_any (l.take 4) (some ⟨b, o, none⟩) cap w O (by omega)
      have K2 := fun w (O : Octs w (some ⟨b, o + 4, none⟩) ((l.drop 4).take 4)) => refGet_any ((l.drop 4).take 4) (some ⟨b, o + 4, none⟩) (cap - 4) w O (by omega)
      have K3 := fun w (O : Octs w (some ⟨b, o + 8, none⟩) ((l.drop 8).take 4)) => refGet_any ((l.drop 8).take 4) (some ⟨b, o + 8, none⟩) (cap - 8) w O (by omega)
      obtain ⟨ad, had, K4⟩ : ∃ ad, (if cap = 13 then some (⟨b, o, none⟩ : Addr) else some ⟨b, o + 13, none⟩) = ad ∧ ∀ w, Octs w (some ⟨b, o + 13, none⟩) ((l.drop 13).take n) → (convert 22 9 (.slice ad n (cap - 13))).run Try.prog w = .ok (.string (textOf ((l.drop 13).take n))) w := by
        refine ⟨_, rfl, fun w O => ?_⟩
        have e0 := tN
        generalize hL : (l.drop 13).take n = L at *
        subst e0
        by_cases h : cap = 13
        · rw [if_pos h]
          have e0 : L = [] := List.eq_nil_of_length_eq_zero (by omega)
          subst e0
          exact conv_octs (.inl rfl) _
        · rw [if_neg h]
          exact conv_octs O _
      have e10 : 13 + n - 13 = n := by omega
      have hp : pointOf l = ⟨numOf (l.take 4), numOf ((l.drop 4).take 4), numOf ((l.drop 8).take 4), textOf ((l.drop 13).take n)⟩ := by rw [← hn.out]; rfl
      have vb : ∀ m : List UInt8, numOf (m.take 4) < 256 ^ 4 := fun m => by
        have h1 := numOf_lt (m.take 4)
        have hp : (256 : Nat) ^ (m.take 4).length ≤ 256 ^ 4 := Nat.pow_le_pow_right (by omega) (by rw [List.length_take]; omega)
        omega
      have b1 := vb l
      have b2 := vb (l.drop 4)
      have b3 := vb (l.drop 8)
      have hok : (pointOf l).ok := pointOf_ok l (by
        rw [hp]
        show (textOf ((l.drop 13).take n)).size ≤ maxLen
        rw [show (textOf ((l.drop 13).take n)).size = ((l.drop 13).take n).length from by simp [ByteArray.size], tN]
        unfold maxLen; omega)
      have KM := fun w => may_any (pointOf l) hok w
      rw [t4] at K1
      rw [t8] at K2
      rw [t12] at K3
      replace K1 := hid K1
      replace K2 := hid K2
      replace K3 := hid K3
      rw [hp] at KM
      generalize textOf ((l.drop 13).take n) = s at *
      generalize numOf (l.take 4) = v1 at *
      generalize numOf ((l.drop 4).take 4) = v2 at *
      generalize numOf ((l.drop 8).take 4) = v3 at *
      have e1 : 0 ≤ (v1 : Int) ∧ (v1 : Int) ≤ 4294967295 := by omega
      have e2 : 0 ≤ (v2 : Int) ∧ (v2 : Int) ≤ 4294967295 := by omega
      have e3 : 0 ≤ (v3 : Int) ∧ (v3 : Int) ≤ 4294967295 := by omega
      replace K4 := hid K4
      replace hp := hid hp
      replace KM := hid KM
      clear vb b1 b2 b3 hok
      replace O := hid O
      have c1 : ¬ cap = 4 := by omega
      have c2 : ¬ cap = 8 := by omega
      have c3 : ¬ cap = 12 := by omega
      have c5 : (13 : Int) ≤ cap := by omega
      have c6 : 13 + (n : Int) ≤ cap := by omega
      have u1 : IntKind.i64.wrap (13 + (n : Int)) = 13 + (n : Int) := IntWalk.i64_in _ (by omega)
      clear hc t4 t8 t12 tN
      go_enter Try.func30, Try.ntmps30
      go_upto_region 3 with (fail)
      have hb0 : Below w.heap.size w (w.alloc (.cells #[.int .i64 0, .int .u32 0, .int .u32 0, .string ⟨#[]⟩] 33)) := (Below.refl _ _).alloc (Nat.le_refl _) _
      have BX := Blk.new w #[.int .i64 0, .int .u32 0, .int .u32 0, .string ⟨#[]⟩] 33
      have O0 := O.out.more hb0
      have z0 : (w.alloc (.cells #[.int .i64 0, .int .u32 0, .int .u32 0, .string ⟨#[]⟩] 33)).cell? ⟨b, o + 12, none⟩ = some (.int .u8 (n : Int)) := (hb0.cell (p := ⟨b, o + 12, none⟩) lt).trans z
      have lt0 := Nat.lt_of_lt_of_le lt hb0.size
      generalize hw0 : w.alloc (.cells #[.int .i64 0, .int .u32 0, .int .u32 0, .string ⟨#[]⟩] 33) = w0 at *
      generalize hg : w.heap.size = g0 at *
      replace hb0 := hid hb0
      replace O0 := hid O0
      replace BX := hid BX
      clear z O
      refine wp_region_late_alloc 20 [#[.int .i64 0, .int .u32 0, .int .u32 0, .string ⟨#[]⟩]] ?A (by kernel_rfl) (by kernel_rfl) ?hz ?walk ?rest
      case hz =>
        rintro (_ | i) z h
        · simp at h; subst h; exact ⟨_, rfl, pt_makes _ _ _ _⟩
        · simp at h
      case walk =>
        intro S hS hN
        have q0 := fun u : LaterC w0 S => (LaterC.cell b (o + 12) lt0 u).trans z0
        have k1 := hid (fun (w' : World) (hw : Below w0.heap.size w0 w') => K1.out w' ((O0.out.take 4).more hw))
        have k2 := hid (fun (w' : World) (hw : Below w0.heap.size w0 w') => K2.out w' (((O0.out.drop 4).take 4).more hw))
        have k3 := hid (fun (w' : World) (hw : Below w0.heap.size w0 w') => K3.out w' (((O0.out.drop 8).take 4).more hw))
        have k4 := fun u : LaterC w0 S => K4.out u.val (((O0.out.drop 13).take n).more u.h)
        simp only [List.take_succ_cons, List.take_zero, List.drop_succ_cons, List.drop_zero]
        repeat (go_big_quiet_step (first
          | (go_at_call 76; (with_reducible exact latec_same (k1.out _ (LaterC.h _))))
          | (go_at_call 76; (with_reducible exact latec_same (k2.out _ (LaterC.h _))))
          | (go_at_call 76; (with_reducible exact latec_same (k3.out _ (LaterC.h _))))))
        refine wpQuiet_nil ?_
        rfl
      case rest =>
        intro β w5 hb5 hnew hne
        obtain ⟨g4, B4⟩ := hnew 0 _ rfl
        simp only [laid, puts, List.range', List.foldl_cons, List.foldl_nil, List.length_cons, List.length_nil]
        simp only [Nat.add_zero, Nat.reduceAdd] at g4 B4 ⊢
        generalize β 20 = p at *
        have BX5 := BX.out.more hb5
        have hB5 := hid (below2 hb0.out hb5 (by have h := hb0.out.size; omega))
        have HB4 := hid B4
        obtain ⟨l4, k4, f4⟩ := B4
        go_wp2_with fail
        have hpg : p ≠ g0 := by have := BX.out.lt; omega
        have B6 : Blk (setAll w5 p 0 [.int .i64 v1, .int .u32 v2, .int .u32 v3, .string s]) p #[.int .i64 v1, .int .u32 v2, .int .u32 v3, .string s] := by
          have h := Blk.fill [.int .i64 v1, .int .u32 v2, .int .u32 v3, .string s] 0 HB4.out (by simp)
          simpa [fillC] using h
        have X6 := Blk.past hpg [.int .i64 v1, .int .u32 v2, .int .u32 v3, .string s] 0 BX5
        have z5 : w5.cell? ⟨b, o + 12, none⟩ = some (.int .u8 (n : Int)) := (hb5.cell (p := ⟨b, o + 12, none⟩) lt0).trans z0
        have S6 := sole_fill (b := p) [.int .i64 v1, .int .u32 v2, .int .u32 v3, .string s] 0 w5
        have z6 := (S6.cell (o := o + 12) (Nat.lt_of_lt_of_le lt0 hb5.size) (by have := lt0; omega)).trans z5
        have lb6 := Nat.lt_of_lt_of_le (Nat.lt_of_lt_of_le lt0 hb5.size) S6.size
        have hB6 := hid (hB5.out.trans (S6.below (B := g0) (by have h := hB5.out.size; omega) fun k hk => by have := BX.out.lt; omega))
        refine (KM.out (setAll w5 p 0 [.int .i64 v1, .int .u32 v2, .int .u32 v3, .string s])).mono ?_
        rintro e w7 ⟨rfl, hb7⟩
        generalize setAll w5 p 0 _ = w6 at *
        have B7 := B6.more hb7
        have X7 := X6.more hb7
        have z7 := (hb7.cell (p := ⟨b, o + 12, none⟩) lb6).trans z6
        have hB7 := hid (below2 hB6.out hb7 (by have h := hB6.out.size; omega))
        have hg0' := hid (show g0 ≤ w7.heap.size by have h := hB7.out.size; omega)
        have HX7 := hid X7
        clear l4 k4 f4 hb5 hb7 B6 X6 z5 z6 S6 BX5 hB6 hB5 z0 lb6 K1 K2 K3 K4 O0 hb0
        obtain ⟨l4, k4, f4⟩ := B7
        obtain ⟨l5, k5, f5⟩ := X7
        by_cases hm : (⟨v1, v2, v3, s⟩ : Pt).may
        · rw [decide_eq_true hm]
          replace hm := hid hm
          have u1 : IntKind.i64.wrap (13 + (n : Int)) = 13 + (n : Int) := IntWalk.i64_in _ (by omega)
          go_wp2_with fail
          go_region_with (fail)
          all_goals
            go_wp2_with fail
            have B9 := Blk.fill [.int .i64 v1, .int .u32 v2, .int .u32 v3, .string s] 0 HX7.out.drew (by simp)
            have S9 := sole_fill (b := g0) [.int .i64 v1, .int .u32 v2, .int .u32 v3, .string s] 0 w7.drew
            show bodyPost _ _ _ _ _ (setAll w7.drew g0 0 [.int .i64 v1, .int .u32 v2, .int .u32 v3, .string s])
            generalize setAll w7.drew g0 0 _ = w9 at *
            obtain ⟨l9, k9, f9⟩ := B9
            have u2 : IntKind.i64.wrap (n : Int) = n := IntWalk.i64_in _ (by omega)
            refine bodyPost_ret (v := .tuple #[pval ⟨v1, v2, v3, s⟩, .int .i64 (13 + (n : Int))]) (by simp [results, Try.results30, go_sem, k9, fillC, u1, u2]) (by first | rfl | simp) ?_
            refine ⟨⟨v1, v2, v3, s⟩, _, rfl, ?_, .inl ⟨by rw [hn.out]; omega, hp.out ▸ hm.out, hp.out.symm, by rw [hn.out]⟩⟩
            rw [hg]
            exact hB7.out.drew.trans (S9.below (B := g0) hg0'.out fun k hk => by omega)
        · rw [decide_eq_false hm]
          replace hm := hid hm
          go_wp2_with fail
          have B9 := Blk.fill [.int .i64 0, .int .u32 0, .int .u32 0, .string ByteArray.empty] 0 HX7.out (by simp)
          have S9 := sole_fill (b := g0) [.int .i64 0, .int .u32 0, .int .u32 0, .string ByteArray.empty] 0 w7
          show bodyPost _ _ _ _ _ (setAll w7 g0 0 [.int .i64 0, .int .u32 0, .int .u32 0, .string ByteArray.empty])
          generalize setAll w7 g0 0 _ = w9 at *
          obtain ⟨l9, k9, f9⟩ := B9
          refine bodyPost_ret (v := .tuple #[pval pt0, .int .i64 0]) (by simp [results, Try.results30, go_sem, k9, fillC]) rfl ?_
          refine ⟨pt0, 0, rfl, ?_, .inr ⟨fun h => hm.out (hp.out ▸ h.2), rfl, rfl⟩⟩
          rw [hg]
          exact hB7.out.trans (S9.below (B := g0) hg0'.out fun k hk => by omega)
end Go.Proofs.Ytgnnikjpnmalmaa
