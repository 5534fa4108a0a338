/-
  track.between, slices.Clip, and the way that track.Thin keeps.
-/
import Derived.Test.YtjenhnigdgkkoaaPolySides
import Derived.OwnWalk
import Derived.Deep.AppendLies
namespace Go.Proofs.Ytjenhnigdgkkoaa
open Go.RowKit
set_option linter.unusedVariables false
set_option linter.unusedSimpArgs false

def ptv (P : Pt) : Value := .agg #[.int .i64 P.id, .int .u32 P.x, .int .u32 P.y, .string P.d]
def dval (h l : Int) : Value := .agg #[.int .u64 h, .int .u64 l]

set_option maxRecDepth 100000 in
theorem tbetween_any (P Q : Pt) (hP : P.ok) (hQ : Q.ok) (w : World) : Calls Try.prog 38 #[ptv P, ptv Q] w fun e w' => e = .returned (dval (dHi P Q) (dLo P Q)) ∧ Below w.heap.size w w' := by
  unfold Pt.ok at hP hQ
  have KW := hid (fun w => between_any P.x P.y Q.x Q.y (by omega) (by omega) (by omega) (by omega) (by omega) (by omega) (by omega) (by omega) w)
  change Hid (∀ w, Calls Try.prog 54 #[.int .u32 P.x, .int .u32 P.y, .int .u32 Q.x, .int .u32 Q.y] w fun e w' => e = .returned (dval (dHi P Q) (dLo P Q)) ∧ Below w.heap.size w w') at KW
  clear hP hQ
  generalize dHi P Q = h at *
  generalize dLo P Q = l at *
  unfold dval at *
  obtain ⟨pi, px, py, pd⟩ := P
  obtain ⟨qi, qx, qy, qd⟩ := Q
  unfold ptv
  simp only at *
  obtain ⟨B0, B1, B2, H⟩ := @boxed3 w _ #[.int .i64 pi, .int .u32 px, .int .u32 py, .string pd] #[.int .i64 qi, .int .u32 qx, .int .u32 qy, .string qd] #[.int .u64 0, .int .u64 0] 25 25 34 (Below.refl _ _)
  have HB2 := hid B2
  have HH := hid H
  obtain ⟨l0, k0, f0⟩ := B0
  obtain ⟨l1, k1, f1⟩ := B1
  clear B2 H
  go_enter Try.func38, Try.ntmps38
  go_wp2_with fail
  refine (KW.out _).mono ?_
  rintro e w3 ⟨rfl, hb⟩
  have B3 := HB2.out.more hb
  have H3 := HH.out.trans (hb.mono HH.out.size)
  obtain ⟨l3, k3, f3⟩ := B3
  have HH3 := hid H3
  clear hb H3
  go_wp2_with fail
  refine bodyPost_ret (v := .agg #[.int .u64 h, .int .u64 l]) (by simp [results, Try.results38, go_sem, k3]) rfl ⟨rfl, ?_⟩
  exact Below.setCell (Below.setCell HH3.out (by simp; omega) _) (by simp; omega) _

/-- The spare is cut off: the same points. -/
theorem clip_any (p : Option Addr) (n cap : Nat) (h1 : n ≤ cap) (h2 : cap ≤ maxLen) (w : World) : Calls Try.prog 56 #[.slice p n cap] w fun e w' => e = .returned (.slice p n n) ∧ w' = w := by
  have h1' : (n : Int) ≤ (cap : Int) := by omega
  go_enter Try.func56, Try.ntmps56
  go_wp2
  go_ret
  exact ⟨rfl, rfl⟩

theorem four_new (w : World) (c : Array Value) (t : TypeId) : ∀ j u, c.toList[j]? = some u → (w.alloc (.cells c t)).cell? (Addr.add ⟨w.heap.size, 0, none⟩ j) = some u :=
  World.news_of_block (cs := c) (t := t) (fr := (0, 0)) (heap_alloc_new w _)

theorem pt_one (P : Pt) : ∀ u ∈ [Value.int .i64 P.id, .int .u32 P.x, .int .u32 P.y, .string P.d], u.oneCell' = true := by
  intro u hu
  simp at hu
  rcases hu with rfl | rfl | rfl | rfl <;> rfl

set_option maxRecDepth 100000 in
set_option maxHeartbeats 400000 in
theorem thin1_any (h l : Int) (bd base : Nat) (K : List Pt) (v : Value) (P : Pt) (hP : P.ok) (hK : ∀ q ∈ K, q.ok) (hn : K.length ≤ 100000) (w : World) (HK : PtsOwn w base v K) (BD : Blk w bd #[.int .u64 h, .int .u64 l]) (hbase : base ≤ w.heap.size) :
    Calls Try.prog 43 #[v, ptv P, .pointer (some ⟨bd, 0, none⟩)] w fun e w' => ∃ v', e = .returned v' ∧ PtsOwn w' base v' (thinStep h l K P) ∧ Below base w w' := by
  obtain ⟨i0, hi, hz0, hz1, hz2⟩ := info_parts ptTab
  obtain ⟨p, cap, rfl, h1, h2, RV⟩ := HK.open
  have HB := Blk.new w #[.int .i64 P.id, .int .u32 P.x, .int .u32 P.y, .string P.d] 25
  have hb1 : Below w.heap.size w (w.alloc (.cells #[.int .i64 P.id, .int .u32 P.x, .int .u32 P.y, .string P.d] 25)) := (Below.refl _ _).alloc (Nat.le_refl _) _
  have BD1 := BD.more hb1
  have RV1 := RV.more hb1
  have HK1 := HK.more hb1
  have hbs := hb1.size
  generalize hW1 : w.alloc (.cells #[.int .i64 P.id, .int .u32 P.x, .int .u32 P.y, .string P.d] 25) = W1 at *
  cases hL : K.length with
  | zero =>
    obtain rfl : K = [] := List.eq_nil_of_length_eq_zero hL
    have hst : thinStep h l [] P = [] ++ [P] := rfl
    rw [hst]
    simp only [List.length_nil] at *
    unfold ptv
    go_enter Try.func43, Try.ntmps43
    go_wp2_with fail
    refine wp_region_late 15 (by kernel_rfl) (by kernel_rfl) ?_
    simp only [List.take_succ_cons, List.take_zero, List.drop_succ_cons, List.drop_zero]
    iterate 15 (go_big_quiet_step (fail))
    refine wpQuiet_nil ?_
    intro w3 h3'
    have h3 := late_out h3'
    clear h3'
    have HB3 := HB.more h3
    have HK3 := HK1.more h3
    have hbel := (hb1.mono hbase).trans (h3.mono (Nat.le_trans hbase hbs))
    have hb3s := h3.size
    have hnews := hid (four_new w3 #[.int .i64 P.id, .int .u32 P.x, .int .u32 P.y, .string P.d] 25)
    obtain ⟨l3, k3, f3⟩ := HB3
    clear HB BD1 BD RV RV1 HK HK1
    unfold PtsOwn at HK3
    simp only [List.length_nil] at HK3
    go_wp2_with (at_builtin; refine wpList_append_own _ rfl _ _ 22 rfl base 25 i0 (.agg #[.int .i64 0, .int .u32 0, .int .u32 0, .string ByteArray.empty]) 4 32 Try.underlying22 hi hz0 hz1 hz2 rfl (by decide) (.slice p 0 cap) 0 (flatP []) rfl (HK3.alloc _) ⟨w3.heap.size, 0, none⟩ 1 1 [.int .i64 P.id, .int .u32 P.x, .int .u32 P.y, .string P.d] rfl rfl hnews.out (pt_one P) (by unfold maxLen; omega) (by omega) (by first | omega | (simp; omega)) ?_)
    intro v9 w9 hown hgrow hne
    have hO9 : PtsOwn w9 base v9 ([] ++ [P]) := hown
    have hbel9 : Below base w w9 := (hbel.alloc (Nat.le_trans hbase (Nat.le_trans hbs hb3s)) _).grown hgrow (by simp; omega) (fun k hk => (HK3.lt k hk).1)
    clear hown hgrow hne HK3
    go_wp2_with fail
    go_ret
    exact ⟨_, rfl, hO9, hbel9⟩
  | succ m =>
    have hmem : lastP K ∈ K := ptAt_mem K _ (by omega)
    have hlast : ptAt K m = lastP K := by unfold lastP; rw [hL]; rfl
    have KB := hid (fun w => tbetween_any (lastP K) P (hK _ hmem) hP w)
    have KC := hid (fun w => cmp_any (dHi (lastP K) P) (dLo (lastP K) P) h l w)
    rw [hL] at RV1 h1
    obtain ⟨b, o, rfl, R⟩ := RV1.row (by omega)
    have z0 := R.at0 (i := m) (by omega) (v := .int .i64 (lastP K).id) (by show (pcells (ptAt K m))[0]? = _; rw [hlast]; rfl)
    have z1 := R.at1 (i := m) (by omega) (v := .int .u32 (lastP K).x) (by show (pcells (ptAt K m))[1]? = _; rw [hlast]; rfl)
    have z2 := R.at2 (i := m) (by omega) (v := .int .u32 (lastP K).y) (by show (pcells (ptAt K m))[2]? = _; rw [hlast]; rfl)
    have z3 := R.at3 (i := m) (by omega) (v := .string (lastP K).d) (by show (pcells (ptAt K m))[3]? = _; rw [hlast]; rfl)
    have hnear : nearB h l (lastP K) P = decide (cmpD (dHi (lastP K) P) (dLo (lastP K) P) h l ≤ 0) := rfl
    have hst : thinStep h l K P = if nearB h l (lastP K) P then K else K ++ [P] := by unfold thinStep; simp [hL]
    rw [hst]
    generalize cmpD (dHi (lastP K) P) (dLo (lastP K) P) h l = cd at *
    generalize nearB h l (lastP K) P = nb at *
    have hm1 : (m : Int) + 1 ≤ 100001 := by omega
    have hlt : (m : Int) < ((m + 1 : Nat) : Int) := by omega
    replace hnear := hid hnear
    rw [hL] at HK1
    replace HK1 := hid HK1
    replace hL := hid hL
    have HBW := hid hb1
    have HHB := hid HB
    have q0 := fun u : Later W1 => u.blk HB
    have q1 := fun u : Later W1 => u.blk BD1
    have cc : ∀ (c oo : Nat) (v : Value), W1.cell? ⟨c, oo, none⟩ = some v → ∀ u : Later W1, u.val.cell? ⟨c, oo, none⟩ = some v := fun c oo v hv u => (u.cell c oo (cell_lt hv)).trans hv
    have a0 := cc _ _ _ z0
    have a1 := cc _ _ _ z1
    have a2 := cc _ _ _ z2
    have a3 := cc _ _ _ z3
    unfold dval at *
    clear cc z0 z1 z2 z3 R RV1 RV HK BD BD1 hb1 HB hmem hlast
    generalize lastP K = L0 at *
    obtain ⟨qi, qx, qy, qd⟩ := L0
    unfold ptv at *
    simp only at *
    go_enter Try.func43, Try.ntmps43
    go_wp2_with fail
    refine wp_region_late 15 (by kernel_rfl) (by kernel_rfl) ?_
    simp only [List.take_succ_cons, List.take_zero, List.drop_succ_cons, List.drop_zero]
    iterate 15 (go_big_quiet_step ((first | (go_at_call 38; (with_reducible exact late_call (KB.out _))) | (go_at_call 17; (with_reducible exact late_call (KC.out _))))))
    refine wpQuiet_nil ?_
    intro w3 h3'
    have h3 := late_out h3'
    clear h3'
    have HB3 := HHB.out.more h3
    have HK3 := HK1.out.more h3
    have hbel := (HBW.out.mono hbase).trans (h3.mono (Nat.le_trans hbase hbs))
    have hb3s := h3.size
    clear q0 q1 a0 a1 a2 a3
    cases nb with
    | true =>
      have hcd : cd ≤ 0 := of_decide_eq_true hnear.out.symm
      clear hnear
      go_wp2_with fail
      go_ret
      exact ⟨_, rfl, by simpa using HK3, hbel⟩
    | false =>
      have hcd : ¬ cd ≤ 0 := of_decide_eq_false hnear.out.symm
      clear hnear
      have hnews := hid (four_new w3 #[.int .i64 P.id, .int .u32 P.x, .int .u32 P.y, .string P.d] 25)
      obtain ⟨l3, k3, f3⟩ := HB3
      unfold PtsOwn at HK3
      rw [hL.out] at HK3
      replace HK3 := hid HK3
      clear hst hn hK hP
      go_wp2_with (at_builtin; refine wpList_append_own _ rfl _ _ 22 rfl base 25 i0 (.agg #[.int .i64 0, .int .u32 0, .int .u32 0, .string ByteArray.empty]) 4 32 Try.underlying22 hi hz0 hz1 hz2 rfl (by decide) (.slice (some ⟨b, o, none⟩) (m + 1) cap) (m + 1) (flatP K) (by kernel_rfl) (HK3.out.alloc _) ⟨w3.heap.size, 0, none⟩ 1 1 [.int .i64 P.id, .int .u32 P.x, .int .u32 P.y, .string P.d] (by kernel_rfl) rfl hnews.out (pt_one P) (by unfold maxLen; omega) (by omega) (by first | omega | (simp; omega)) ?_)
      intro v9 w9 hown hgrow hne
      have hO9 : PtsOwn w9 base v9 (K ++ [P]) := by unfold PtsOwn; rw [flatP_append, flatP_one, List.length_append, hL.out]; exact hown
      have hbel9 : Below base w w9 := (hbel.alloc (Nat.le_trans hbase (Nat.le_trans hbs hb3s)) _).grown hgrow (by simp; omega) (fun k hk => (HK3.out.lt k hk).1)
      replace hO9 := hid hO9
      replace hbel9 := hid hbel9
      clear hown hgrow hne HK3 hcd hlt hm1 h1 h2 l3 k3 f3 hnews hbel hb3s h3 hbs hbase hi hz0 hz1 hz2 HBW HHB KB KC hL hW1
      go_wp2_with fail
      go_ret
      exact ⟨_, rfl, by simpa using hO9.out, hbel9.out⟩

/-- A slice with these points, within reach. -/
def PtsAt (w : World) (v : Value) (L : List Pt) : Prop := ∃ q c, v = .slice q L.length c ∧ L.length ≤ c ∧ c ≤ maxLen ∧ RowP w q 4 L.length (fun i => pcells (ptAt L i))
theorem PtsAt.more {w w' : World} {v : Value} {L : List Pt} (h : PtsAt w v L) (hb : Below w.heap.size w w') : PtsAt w' v L := by
  obtain ⟨q, c, e, h1, h2, R⟩ := h
  exact ⟨q, c, e, h1, h2, R.more hb⟩

set_option maxRecDepth 100000 in
set_option maxHeartbeats 4000000 in
theorem keepThin_any (h l : Int) (bd : Nat) (p : Option Addr) (n cap : Nat) (f : Nat → Pt) (hf : ∀ i, (f i).ok) (h1 : n ≤ cap) (h2 : cap ≤ maxLen) (hn : n ≤ 60) (w : World) (HA : RowP w p 4 n (fun i => pcells (f i))) (BD : Blk w bd #[.int .u64 h, .int .u64 l]) :
    Calls Try.prog 42 #[.slice p n cap, .func (.func 43) #[] #[.pointer (some ⟨bd, 0, none⟩)]] w fun e w' => ∃ v, e = .returned v ∧ PtsAt w' v (keepL (thinStep h l) f n) ∧ Below w.heap.size w w' := by
  have KT := hid (fun K v P hP hK hn wx HK BX hb => thin1_any h l bd w.heap.size K v P hP hK hn wx HK BX hb)
  have HAh := hid HA
  have HBD := hid BD
  have hfh := hid hf
  clear HA BD hf
  have h1' := hid h1
  have h2' := hid h2
  clear h1 h2
  go_enter Try.func42, Try.ntmps42
  go_wp2_with fail
  go_loopw [5, 10] (fun v i wr => ∃ k : Nat, k ≤ n ∧ i = .int .i64 (k : Int) ∧ PtsOwn wr w.heap.size v (keepL (thinStep h l) f k) ∧ Below w.heap.size w wr) (fun _ i _ => n - (intOf i).toNat)
  case atStart => exact ⟨0, by omega, rfl, PtsOwn.nil _ _, Below.refl _ _⟩
  case round =>
    obtain ⟨k, hk, rfl, HK, hb⟩ := hrel
    have hlen : (keepL (thinStep h l) f k).length ≤ 100000 := Nat.le_trans (keep_len (thin_len h l) f k) (by omega)
    have hmem : ∀ q ∈ keepL (thinStep h l) f k, q.ok := fun q hq => by
      obtain ⟨j, _, e⟩ := keep_mem (thin_mem h l) f k q hq
      rw [e]; exact hfh.out j
    by_cases hlt : k < n
    · obtain ⟨b, o, rfl, R0⟩ := HAh.out.row (by omega)
      have R := R0.more hb
      have z0 := R.at0 hlt (v := .int .i64 (f k).id) rfl
      have z1 := R.at1 hlt (v := .int .u32 (f k).x) rfl
      have z2 := R.at2 hlt (v := .int .u32 (f k).y) rfl
      have z3 := R.at3 hlt (v := .string (f k).d) rfl
      have hb1 : Below wr.heap.size wr (wr.alloc (.cells #[.int .i64 (f k).id, .int .u32 (f k).x, .int .u32 (f k).y, .string (f k).d] 25)) := (Below.refl _ _).alloc (Nat.le_refl _) _
      have HBd := (HBD.out.more hb).more hb1
      have hbs := hb.size
      have hk1 := hid (KT.out _ _ (f k) (hfh.out k) hmem hlen _ (HK.more hb1) HBd (Nat.le_trans hbs hb1.size))
      unfold ptv at hk1
      have hbb := hid (hb.trans (hb1.mono hbs))
      have hlt' : (k : Int) < (n : Int) := by omega
      clear R R0 HK hb1 HBd hmem hlen hb
      go_wp2_with fail
      refine hk1.out.mono ?_
      rintro e w3 ⟨v3, rfl, O3, hb3⟩
      have O4 := hid O3
      have hb4 := hid (hbb.out.trans hb3)
      clear O3 hb3 z0 z1 z2 z3 hk1 hbb
      go_wp2_with fail
      go_roundw
      case rel => exact ⟨k + 1, by omega, by go_num, O4.out, hb4.out⟩
      case measure => simp [intOf]; omega
    · obtain rfl : k = n := by omega
      obtain ⟨L, hL⟩ : ∃ L, keepL (thinStep h l) f k = L := ⟨_, rfl⟩
      rw [hL] at HK
      replace hL := hid hL
      obtain ⟨q, c, rfl, c1, c2, RV⟩ := HK.open
      have KC := hid (clip_any q L.length c c1 c2 wr)
      have hbh := hid hb
      have RVh := hid RV
      have c3 := hid (And.intro c1 c2)
      clear HK hb RV c1 c2 hmem hlen
      go_wp2_with fail
      refine KC.out.mono ?_
      rintro e w3 ⟨rfl, rfl⟩
      go_wp2_with fail
      go_ret
      exact ⟨_, rfl, by rw [hL.out]; exact ⟨q, L.length, rfl, Nat.le_refl _, Nat.le_trans c3.out.1 c3.out.2, RVh.out⟩, hbh.out⟩
end Go.Proofs.Ytjenhnigdgkkoaa
