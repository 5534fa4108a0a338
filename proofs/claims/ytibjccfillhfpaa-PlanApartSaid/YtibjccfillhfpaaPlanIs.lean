/-
  Layer 18: a part as the law holds it against the page; Room.
-/
import Derived.Test.YtibjccfillhfpaaPlanAlive
namespace Go.Proofs.Ytibjccfillhfpaa
open Go.RowKit
set_option linter.unusedVariables false
set_option linter.unusedSimpArgs false

def eqP (a b c a' b' c' : Int) : Bool := decide (a = a') && (decide (b = b') && decide (c = c'))
theorem eqP_self (a b c : Int) : eqP a b c a b c = true := by simp [eqP]
@[go_sem high] theorem eql_plc (a b c a' b' c' : Int) (w : World) : (binOp .eql 25 (.agg #[.int .i64 a, .int .i64 b, .int .i64 c]) (.agg #[.int .i64 a', .int .i64 b', .int .i64 c'])).run Try.prog w = .ok (.bool (eqP a b c a' b' c')) w := by
  by_cases h1 : a = a' <;> by_cases h2 : b = b' <;> by_cases h3 : c = c' <;> simp [go_sem, eqP, h1, h2, h3]
@[go_sem high] theorem neq_plc (a b c a' b' c' : Int) (w : World) : (binOp .neq 25 (.agg #[.int .i64 a, .int .i64 b, .int .i64 c]) (.agg #[.int .i64 a', .int .i64 b', .int .i64 c'])).run Try.prog w = .ok (.bool (!eqP a b c a' b' c')) w := by
  by_cases h1 : a = a' <;> by_cases h2 : b = b' <;> by_cases h3 : c = c' <;> simp [go_sem, eqP, h1, h2, h3]
def eqE2 (a b a' b' : Int) : Bool := decide (a = a') && decide (b = b')
theorem eqE2_self (a b : Int) : eqE2 a b a b = true := by simp [eqE2]
@[go_sem high] theorem neq_en (a b a' b' : Int) (w : World) : (binOp .neq 34 (.agg #[.int .i64 a, .int .i64 b]) (.agg #[.int .i64 a', .int .i64 b'])).run Try.prog w = .ok (.bool (!eqE2 a b a' b')) w := by
  by_cases h1 : a = a' <;> by_cases h2 : b = b' <;> simp [go_sem, eqE2, h1, h2]

abbrev ptagg (x : PtV) : Value := .agg #[.int .i64 x.pl.seg, .int .i64 x.pl.off, .int .i64 x.pl.next, .int .i64 x.pl.next, .bool x.last, .slice x.q x.es.length x.cap]

set_option maxRecDepth 100000 in
set_option maxHeartbeats 4000000 in
theorem is_same (s o x : Int) (la : Bool) (q lq : Option Addr) (cq lc : Nat) (E : List En) (hl : E.length ≤ 1000) (h1 : E.length ≤ cq) (h2 : E.length ≤ lc) (w : World) (HE : RowOf enT w q E) (HL : RowOf enT w lq E) :
    Calls Try.prog 11 #[.agg #[.int .i64 s, .int .i64 o, .int .i64 x, .int .i64 x, .bool la, .slice q E.length cq], plv s o x, .slice lq E.length lc, .bool la] w fun e w' => e = .returned (.bool true) ∧ Below w.heap.size w w' := by
  obtain ⟨B0, B1, Hb⟩ := @boxed2 w _ #[.int .i64 s, .int .i64 o, .int .i64 x, .int .i64 x, .bool la, .slice q E.length cq] #[.int .i64 s, .int .i64 o, .int .i64 x] 41 25 (Below.refl _ _)
  obtain ⟨W, hW⟩ : ∃ W, (w.alloc (.cells #[.int .i64 s, .int .i64 o, .int .i64 x, .int .i64 x, .bool la, .slice q E.length cq] 41)).alloc (.cells #[.int .i64 s, .int .i64 o, .int .i64 x] 25) = W := ⟨_, rfl⟩
  rw [hW] at B0 B1 Hb
  have HEh := hid (en_rowp (RowOf.more HE Hb))
  have HLh := hid (en_rowp (RowOf.more HL Hb))
  have HB0 := hid B0
  have HB1 := hid B1
  have HH := hid Hb
  replace hW := hid hW
  obtain ⟨n, hn⟩ : ∃ n, E.length = n := ⟨_, rfl⟩
  rw [hn] at hl h1 h2 HEh HLh HB0 hW ⊢
  have hee := eqP_self s o x
  have hla : (la != la) = false := by simp
  have hxx : (x != x) = false := by simp
  have hnn : ((n : Int) != (n : Int)) = false := by simp
  clear B0 B1 Hb HE HL hn
  go_enter Try.func11, Try.ntmps11
  go_wp2_with fail
  rw [hW.out]
  go_loopw [9] (fun i wr => ∃ k : Nat, k ≤ n ∧ i = .int .i64 (k : Int) ∧ Below W.heap.size W wr) (fun i _ => n - (intOf i).toNat)
  case atStart => exact ⟨0, by omega, rfl, Below.refl _ _⟩
  case round =>
    obtain ⟨k, hk, rfl, hb⟩ := hrel
    by_cases hlt : k < n
    · obtain ⟨ba, oa, rfl, Ra0⟩ := HEh.out.row (by omega)
      obtain ⟨bb, ob, rfl, Rb0⟩ := HLh.out.row (by omega)
      have Ra := Ra0.more hb
      have Rb := Rb0.more hb
      have a0 := Ra.at0 hlt (v := .int .i64 (enAt E k).k) rfl
      have a1 := Ra.at1 hlt (v := .int .i64 (enAt E k).i) rfl
      have b0 := Rb.at0 hlt (v := .int .i64 (enAt E k).k) rfl
      have b1 := Rb.at1 hlt (v := .int .i64 (enAt E k).i) rfl
      generalize (enAt E k).k = ek at *
      generalize (enAt E k).i = ei at *
      have he2 := eqE2_self ek ei
      have hlt1 : (k : Int) < (n : Int) := by omega
      have hk0 : (0 : Int) ≤ (k : Int) := by omega
      have q0 := fun u : Later wr => u.blk (HB0.out.more hb)
      have cc : ∀ (c oo : Nat) (v : Value), wr.cell? ⟨c, oo, none⟩ = some v → ∀ u : Later wr, u.val.cell? ⟨c, oo, none⟩ = some v := fun c oo v hv u => (u.cell c oo (cell_lt hv)).trans hv
      replace a0 := cc _ _ _ a0
      replace a1 := cc _ _ _ a1
      replace b0 := cc _ _ _ b0
      replace b1 := cc _ _ _ b1
      have hbh := hid hb
      clear Ra Rb Ra0 Rb0 cc hb
      go_wp2_with fail
      refine wp_region_late 10 (by kernel_rfl) (by kernel_rfl) ?_
      simp only [List.take_succ_cons, List.take_zero, List.drop_succ_cons, List.drop_zero]
      iterate 10 (go_big_quiet_step (fail))
      refine wpQuiet_nil ?_
      intro w6 h6'
      have h6 := late_out h6'
      have Hb6 := hid (hbh.out.trans (h6.mono hbh.out.size))
      clear h6' h6 q0 a0 a1 b0 b1
      go_wp2_with fail
      go_roundw
      case rel => exact ⟨k + 1, hlt, by go_num, Hb6.out⟩
      case measure => simp [intOf]; omega
    · obtain rfl : k = n := by omega
      have D := hid (below2 HH.out hb HH.out.size)
      clear hb
      go_wp2_with fail
      go_ret
      exact ⟨rfl, D.out⟩

/-- How many written entries can go. -/
def roomI (n z : Int) (p : Plc) (F : List Int) : Int := if placedB n z p F = true then max (z - p.off - 1) 0 + F.length * (z - 1) else 0

set_option maxRecDepth 100000 in
set_option maxHeartbeats 4000000 in
theorem room_any (n z s o x : Int) (L : List Int) (p : Option Addr) (cap : Nat) (h1 : L.length ≤ cap) (h2 : cap ≤ maxLen) (h3 : placedB n z ⟨s, o, x⟩ L = true → L.length ≤ 1000) (w : World) (HR : RowOf inT w p L) :
    Calls Try.prog 10 #[geo n z, plv s o x, .slice p L.length cap] w fun e w' => e = .returned (.int .i64 (roomI n z ⟨s, o, x⟩ L)) ∧ Below w.heap.size w w' := by
  obtain ⟨B0, B1, Hb⟩ := @boxed2 w _ #[.int .i64 n, .int .i64 z] #[.int .i64 s, .int .i64 o, .int .i64 x] 23 25 (Below.refl _ _)
  obtain ⟨W, hW⟩ : ∃ W, (w.alloc (.cells #[.int .i64 n, .int .i64 z] 23)).alloc (.cells #[.int .i64 s, .int .i64 o, .int .i64 x] 25) = W := ⟨_, rfl⟩
  rw [hW] at B0 B1 Hb
  have KP := hid (placed_any n z s o x L p cap h1 h2 W (RowOf.more HR Hb))
  have HB0 := hid B0
  have HB1 := hid B1
  have HH := hid Hb
  replace hW := hid hW
  have hG := fun h => goodP_of (n := n) (z := z) (p := ⟨s, o, x⟩) (F := L) h
  cases hpb : placedB n z ⟨s, o, x⟩ L
  · have hr := hid (show roomI n z ⟨s, o, x⟩ L = 0 by unfold roomI; rw [hpb]; rfl)
    rw [hpb] at KP
    clear hpb hG HR B0 B1 Hb h1 h2 h3
    generalize L.length = m at *
    go_enter Try.func10, Try.ntmps10
    go_wp2_with fail
    rw [hW.out]
    refine KP.out.mono ?_
    rintro e w2 ⟨rfl, hb2⟩
    have D2 := hid (below2 HH.out hb2 HH.out.size)
    clear hb2 KP
    go_wp2
    go_ret
    exact ⟨by rw [hr.out]; rfl, D2.out⟩
  · have g := hG hpb
    have hm := h3 hpb
    have g1 := g.z4
    have g2 := g.z32
    have g3 := g.o0
    have g4 := g.oz
    simp only at g3 g4
    have hr := hid (show roomI n z ⟨s, o, x⟩ L = max (z - o - 1) 0 + L.length * (z - 1) by unfold roomI; rw [hpb]; rfl)
    rw [hpb] at KP
    clear hpb hG HR B0 B1 Hb h1 h2 h3 g
    generalize L.length = m at *
    have m0 : 0 ≤ (m : Int) * (z - 1) := Int.mul_nonneg (by omega) (by omega)
    have m1 : (m : Int) * (z - 1) ≤ 31000 := by
      have := Int.mul_le_mul (show (m : Int) ≤ 1000 by omega) (show z - 1 ≤ 31 by omega) (by omega) (by omega)
      omega
    have w1 : IntKind.i64.wrap (z - o) = z - o := IntWalk.i64_in _ ⟨by omega, by omega⟩
    have w2 : IntKind.i64.wrap (z - o - 1) = z - o - 1 := IntWalk.i64_in _ ⟨by omega, by omega⟩
    have w3 : IntKind.i64.wrap (z - 1) = z - 1 := IntWalk.i64_in _ ⟨by omega, by omega⟩
    have w4 : IntKind.i64.wrap ((m : Int) * (z - 1)) = (m : Int) * (z - 1) := IntWalk.i64_in _ ⟨by omega, by omega⟩
    have w5 : IntKind.i64.wrap (max (z - o - 1) 0 + (m : Int) * (z - 1)) = max (z - o - 1) 0 + (m : Int) * (z - 1) := IntWalk.i64_in _ ⟨by omega, by omega⟩
    rw [IntWalk.i64_left] at w4 w5
    have w45 := hid (And.intro w4 w5)
    clear w4 w5 m0 m1
    go_enter Try.func10, Try.ntmps10
    go_wp2_with fail
    rw [hW.out]
    refine KP.out.mono ?_
    rintro e w2 ⟨rfl, hb2⟩
    have D2 := hid (below2 HH.out hb2 HH.out.size)
    obtain ⟨l0, k0, f0⟩ := HB0.out.more hb2
    obtain ⟨l1, k1, f1⟩ := HB1.out.more hb2
    clear hb2 KP
    go_wp2_with fail
    go_ret
    refine ⟨?_, D2.out⟩
    rw [hr.out]
    show Ending.returned (.int .i64 (wrap64 (max (z - o - 1) 0 + wrap64 ((m : Int) * (z - 1))))) = _
    rw [w45.out.1, w45.out.2]
end Go.Proofs.Ytibjccfillhfpaa
