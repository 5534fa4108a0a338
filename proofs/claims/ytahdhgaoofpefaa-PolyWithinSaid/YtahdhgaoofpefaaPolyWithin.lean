/-
  poly.Within: on a side, or an odd number of sides is crossed.
-/
import Derived.Test.YtahdhgaoofpefaaPolyWithMath
import Derived.Test.YtahdhgaoofpefaaPolySidesS
namespace Go.Proofs.Ytahdhgaoofpefaa
open Go.RowKit Go.Shelf
set_option linter.unusedVariables false
set_option linter.unusedSimpArgs false

attribute [local go_sem] Oper.semAt_some

/-- A place in a block of its own. -/
def BoxPl (W : World) (B : Nat) (q : P2) : Prop := W.heap[B]? = some (.cells #[.int .u32 q.x, .int .u32 q.y] 82)
theorem boxPl_own {β : Type} (B : Nat) (q : P2) : Own (fun (_ : β) W => BoxPl W B q) := fun s X Y row hs hg hrow => heap_kept hs rfl hg hrow
theorem BoxPl.kept {W W' : World} {row : Option Nat} {B : Nat} {q : P2} (h : BoxPl W B q) (hg : W.grownBy W' row) (hne : some B ≠ row) : BoxPl W' B q := (hg.block B (Array.getElem?_eq_some_iff.1 h).1 hne).trans h
theorem BoxPl.cell0 {W : World} {B : Nat} {q : P2} (h : BoxPl W B q) : W.cell? ⟨B, 0, none⟩ = some (.int .u32 q.x) := by simp [World.cell?, show W.heap[B]? = _ from h]
theorem BoxPl.cell1 {W : World} {B : Nat} {q : P2} (h : BoxPl W B q) : W.cell? ⟨B, 1, none⟩ = some (.int .u32 q.y) := by simp [World.cell?, show W.heap[B]? = _ from h]

def oddLst (c : Nat → Bool) (l : List Nat) : Bool := l.foldl (fun b i => b.xor (c i)) false
theorem oddLst_snoc (c : Nat → Bool) (l : List Nat) (i : Nat) : oddLst c (l ++ [i]) = (oddLst c l).xor (c i) := by simp [oddLst]
theorem oddLst_range (c : Nat → Bool) : ∀ n, oddLst c (List.range n) = oddB c n
  | 0 => rfl
  | n + 1 => by rw [List.range_succ, oddLst_snoc, oddLst_range c n]; rfl
theorem ownFrom_sole {β : Type} {B : Nat} {S : Nat → Prop} {w₀ : World} (hS : ∀ k, B ≤ k → S k) : OwnFrom B (fun (_ : β) W => Sole S w₀ W) :=
  fun _ _ _ _ hs hg hr => hs.trans (Sole.grown hg fun k e => hS k (hr k e).1)

/-- What a round asks, as the walk spells it. -/
theorem cross_ways (a b p : P2) : ∃ r, crossP a b p = r ∧ (((decide (a.y < p.y) == decide (b.y < p.y)) = true ∧ r = false) ∨ ((decide (a.y < p.y) == decide (b.y < p.y)) = false ∧ (decide (0 < tn a b p) == decide (a.y < p.y)) = true ∧ r = true) ∨ ((decide (a.y < p.y) == decide (b.y < p.y)) = false ∧ (decide (0 < tn a b p) == decide (a.y < p.y)) = false ∧ r = false)) := by
  refine ⟨_, rfl, ?_⟩
  unfold crossP
  cases (decide (a.y < p.y) == decide (b.y < p.y)) <;> cases (decide (0 < tn a b p) == decide (a.y < p.y)) <;> simp

set_option maxRecDepth 100000 in
set_option maxHeartbeats 4000000 in
theorem within_in (fr : Nat) (hn : 4 ≤ fr) (len cap : Nat) (p : Option Addr) (f : Nat → Pt) (hf : ∀ i, (f i).ok) (h1 : len ≤ cap) (h2 : cap ≤ maxLen) (q : P2) (hq : q.ok) (w : World) (R0 : RowP w p 4 len (fun i => pcells (f i))) :
    CallsIn Fence.wide fr Try.prog 31 #[.slice p len cap, .int .u32 q.x, .int .u32 q.y] w fun e W' => e = .returned (.bool (onAny f len q || oddB (fun i => crossP (p2 (f i)) (p2 (f ((i + 1) % len))) q) len)) ∧ Below w.heap.size w W' := by
  have h1n : 1 ≤ fr := by omega
  have hro : Fence.wide.round = none := rfl
  have HB := Boxed.new w 61 (.int .u32 q.y)
  have hb1 : Below w.heap.size w (w.alloc (.cells #[.int .u32 q.y] 61)) := (Below.refl _ _).alloc (Nat.le_refl _) _
  have KO := hid (polyOn_any p len cap f hf h1 h2 q hq _ (R0.more hb1))
  have RW := hid R0
  have hbh := hid hb1
  have HBh := hid HB
  have hfh := hid hf
  have hqh := hid hq
  have h12 := hid (And.intro h1 h2)
  clear R0 hb1 HB hf h1 h2
  generalize honr : onAny f len q = r at *
  obtain ⟨c, hc⟩ : ∃ c : Nat → Bool, c = fun i => crossP (p2 (f i)) (p2 (f ((i + 1) % len))) q := ⟨_, rfl⟩
  rw [← hc]
  replace hc := hid hc
  refine callsIn_of_wp_marks Try.func31 rfl trivial ?_ hro
  simp only [Try.ntmps31, List.size_toArray, List.length_cons, List.length_nil, Nat.reduceAdd, Nat.reduceSub, Array.replicate_succ, Array.replicate_zero, List.push_toArray, List.append_toArray, List.nil_append, List.cons_append]
  cases r with
  | true =>
    gi_wp2_with (refine ⟨trivial, ?_⟩; gi_at_call 30; refine (callsIn_wide.2 KO.out).mono ?_; rintro e w' ⟨rfl, hb⟩; have hbb := hid (hbh.out.trans (hb.mono hbh.out.size)))
    exact ⟨.bool true, by simp [results, Try.f31, go_sem], by simp, hbb.out⟩
  | false =>
    gi_wp2_with (refine ⟨trivial, ?_⟩; first | (gi_at_call 30; refine (callsIn_wide.2 KO.out).mono ?_; rintro e w2 ⟨rfl, hb⟩; have hbb := hid (hbh.out.trans (hb.mono hbh.out.size)); have hY := hid (HBh.out.kept (grown_of hb) (by simp)); have c2 := hY.out.cell; have hyl := hid hY.out.lt) | (gi_at_call 44; refine (callsIn_wide.2 (sides_any _ _ _ _)).mono ?_; rintro e w' ⟨rfl, rfl⟩))
    have bY := ((hY.out.alloc (.cells #[.int .u32 q.x, .int .u32 q.y] 82)).alloc (.cells #[.bool false] 4)).alloc (.cells #[.slice p len cap] 60)
    have bP : BoxPl (((w2.alloc (.cells #[.int .u32 q.x, .int .u32 q.y] 82)).alloc (.cells #[.bool false] 4)).alloc (.cells #[.slice p len cap] 60)) w2.heap.size q :=
      (BoxPl.kept (World.alloc_heap_new w2 _ : BoxPl (w2.alloc (.cells #[.int .u32 q.x, .int .u32 q.y] 82)) w2.heap.size q) (World.grownBy_alloc _ _ none) (by simp)).kept (World.grownBy_alloc _ _ none) (by simp)
    have bO := (Boxed.new (w2.alloc (.cells #[.int .u32 q.x, .int .u32 q.y] 82)) 4 (.bool false)).alloc (.cells #[.slice p len cap] 60)
    have bS := Boxed.new ((w2.alloc (.cells #[.int .u32 q.x, .int .u32 q.y] 82)).alloc (.cells #[.bool false] 4)) 60 (.slice p len cap)
    simp only [World.size_alloc] at bO bS
    have hB0 : Below w2.heap.size w2 (((w2.alloc (.cells #[.int .u32 q.x, .int .u32 q.y] 82)).alloc (.cells #[.bool false] 4)).alloc (.cells #[.slice p len cap] 60)) := (((Below.refl _ w2).alloc (Nat.le_refl _) _).alloc (by simp) _).alloc (by simp; omega) _
    have hsz : (((w2.alloc (.cells #[.int .u32 q.x, .int .u32 q.y] 82)).alloc (.cells #[.bool false] 4)).alloc (.cells #[.slice p len cap] 60)).heap.size = w2.heap.size + 3 := by simp
    obtain ⟨W0, hW0⟩ : ∃ W0, ((w2.alloc (.cells #[.int .u32 q.x, .int .u32 q.y] 82)).alloc (.cells #[.bool false] 4)).alloc (.cells #[.slice p len cap] 60) = W0 := ⟨_, rfl⟩
    rw [hW0] at bY bP bO bS hB0 hsz ⊢
    clear hW0
    have hbw0 := hid (hbb.out.trans (hB0.mono hbb.out.size))
    have RW0 := RW.out.more hbw0.out
    have RWL := RW.out
    have hw2 := hbb.out.size
    have R3 : len = 0 ∨ ∃ b o, p = some ⟨b, o, none⟩ ∧ ¬ (fun k => k = w2.heap.size + 1 ∨ W0.heap.size ≤ k) b ∧ Row W0 b o 4 len (fun i => pcells (f i)) := by
      rcases RW.out with h | ⟨b, o, e, h⟩
      · exact .inl h
      · exact .inr ⟨b, o, e, (by have := h.lt; show ¬ (b = w2.heap.size + 1 ∨ W0.heap.size ≤ b); omega), h.more hbw0.out⟩
    obtain ⟨S, hS⟩ : ∃ S : Nat → Prop, S = fun k => k = w2.heap.size + 1 ∨ W0.heap.size ≤ k := ⟨_, rfl⟩
    rw [← hS] at R3
    refine wpIn_rangeFunc_ownH hro h1n (gf := 52) (lb := #[.pointer (some ⟨w2.heap.size + 1 + 1, 0, none⟩)]) rfl trivial (enters_of Try.func52 (by kernel_rfl) rfl)
      (sides_stopsS (fr - 1) (by omega) S (w2.heap.size + 1 + 1) len cap p f h12.out.1 h12.out.2 W0 bS.cell (by rw [hS]; show ¬ (_ ∨ _); omega) R3) Sole.trans
      (fun W l o o' hl h hc1 hc2 => Sole.grown (grownBy_putObj' W l o') (fun k e => by cases e; rw [hS]; exact .inr hl)) (Below.refl _ _) (fun _ => rfl)
      (fun pre W => ((Boxed W w.heap.size 61 (.int .u32 q.y) ∧ BoxPl W w2.heap.size q) ∧ Boxed W (w2.heap.size + 1) 4 (.bool (oddLst c pre))) ∧ Sole S W0 W)
      (fun cd pre W => False)
      (OwnFrom.and (OwnFrom.and (OwnFrom.and (Own.from (boxed_own _ _ _) _) (Own.from (boxPl_own _ _) _)) (Own.from (boxed_own _ _ _) _)) (ownFrom_sole (fun k hk => by rw [hS]; exact .inr hk)))
      (fun cd => ownFrom_pure _ _)
      ⟨⟨⟨bY, bP⟩, bO⟩, Sole.refl _ _⟩
      (fun i a' W => ∃ Ba Bb, w2.heap.size + 1 < Ba ∧ w2.heap.size + 1 < Bb ∧ Boxed2 W Ba Bb (p2 (f i)) (p2 (f ((i + 1) % len))) ∧ a' = { tmps := #[.slice p len cap, .int .u32 q.x, .int .u32 q.y, undef, undef, .pointer (some ⟨w.heap.size, 0, none⟩), .bool false, .pointer (some ⟨w2.heap.size, 0, none⟩), .pointer (some ⟨w2.heap.size + 1, 0, none⟩), .pointer (some ⟨Ba, 0, none⟩), .pointer (some ⟨Bb, 0, none⟩), undef, .slice p len cap, .int .u32 q.x, .int .u32 q.y, .bool false, .int .u32 q.x, .int .u32 q.y, .agg #[.int .u32 q.x, .int .u32 q.y], .slice p len cap, .func (.func 52) #[] #[.pointer (some ⟨w2.heap.size + 1 + 1, 0, none⟩)], pl (p2 (f i)), pl (p2 (f ((i + 1) % len))), undef, undef, undef, undef, undef, undef, undef, undef, undef, undef, undef, undef, undef, undef, undef, undef, undef, undef, undef, undef, undef, undef, undef], defers := [] })
      ?hAx ?assign ?body ?done ?stop
    case hAx =>
      rintro i a' _ X Y row ⟨Ba, Bb, h3, h4, ⟨h5, h6⟩, h7⟩ hg hr
      exact ⟨Ba, Bb, h3, h4, ⟨heap_kept h5 rfl hg (fun r e => (hr r e).2), heap_kept h6 rfl hg (fun r e => (hr r e).2)⟩, h7⟩
    case assign =>
      rintro l pre i W K ⟨⟨⟨bY1, bP1⟩, bO1⟩, hB1⟩ hK
      gi_wp2
      have hs1 := hB1.size
      have hb2 : Below W.heap.size W ((W.alloc (.cells #[.int .u32 (p2 (f i)).x, .int .u32 (p2 (f i)).y] 82)).alloc (.cells #[.int .u32 (p2 (f ((i + 1) % len))).x, .int .u32 (p2 (f ((i + 1) % len))).y] 82)) :=
        ((Below.refl _ W).alloc (Nat.le_refl _) _).alloc (by simp) _
      refine hK _ _ (((KeepsOthers.alloc _ _).trans (KeepsOthers.alloc _ _)).from _) (Sole.made hb2) ⟨⟨⟨(bY1.alloc _).alloc _, (bP1.kept (World.grownBy_alloc _ _ none) (by simp)).kept (World.grownBy_alloc _ _ none) (by simp)⟩, (bO1.alloc _).alloc _⟩, hB1.trans (Sole.made hb2)⟩ ⟨W.heap.size, W.heap.size + 1, by omega, by omega, ⟨?_, ?_⟩, rfl⟩
      · exact (Below.heap_alloc _ _ _ (by simp)).trans (World.alloc_heap_new W _)
      · have := World.alloc_heap_new (W.alloc (.cells #[.int .u32 (p2 (f i)).x, .int .u32 (p2 (f i)).y] 82)) (.cells #[.int .u32 (p2 (f ((i + 1) % len))).x, .int .u32 (p2 (f ((i + 1) % len))).y] 82)
        rwa [World.size_alloc] at this
    case body =>
      rintro l pre i a' W hl ⟨r, hr⟩ ⟨⟨⟨bY1, bP1⟩, bO1⟩, hB1⟩ ⟨Ba, Bb, h3, h4, ⟨h5, h6⟩, rfl⟩ hlt
      obtain ⟨x, hx, ways⟩ := cross_ways (p2 (f i)) (p2 (f ((i + 1) % len))) q
      have hci : c i = x := by rw [hc.out]; exact hx
      have KT := hid (fun w => turn2 (p2 (f i)) (p2 (f ((i + 1) % len))) q (p2_ok (hfh.out _)) (p2_ok (hfh.out _)) hqh.out w)
      have hod : oddLst c (pre ++ [i]) = (oddLst c pre).xor x := by rw [oddLst_snoc, hci]
      clear hci hx
      obtain ⟨z, hz⟩ : ∃ z, oddLst c pre = z := ⟨_, rfl⟩
      rw [hz] at bO1 hod
      replace hod := hid hod
      clear hz
      generalize tn (p2 (f i)) (p2 (f ((i + 1) % len))) q = t at *
      generalize p2 (f i) = A at *
      generalize p2 (f ((i + 1) % len)) = B at *
      obtain ⟨ax, ay⟩ := A
      obtain ⟨bx, by'⟩ := B
      obtain ⟨qx, qy⟩ := q
      simp only at *
      have cY := bY1.cell
      have cP0 := bP1.cell0
      have cP1 := bP1.cell1
      have a0 : W.cell? ⟨Ba, 0, none⟩ = some (.int .u32 ax) := by simp [World.cell?, h5]
      have a1 : W.cell? ⟨Ba, 1, none⟩ = some (.int .u32 ay) := by simp [World.cell?, h5]
      have b0 : W.cell? ⟨Bb, 0, none⟩ = some (.int .u32 bx) := by simp [World.cell?, h6]
      have b1 : W.cell? ⟨Bb, 1, none⟩ = some (.int .u32 by') := by simp [World.cell?, h6]
      have HB1 := hid hB1
      have HY1 := hid bY1
      have HP1 := hid bP1
      have HO1 := hid bO1
      have hs1 := hB1.size
      clear hB1 bY1 bP1 bO1 hr h5 h6
      replace hS := hid hS
      rcases ways with ⟨g1, rfl⟩ | ⟨g1, g2, rfl⟩ | ⟨g1, g2, rfl⟩
      · gi_wp2
        exact ⟨KeepsFrom.refl _ _, Sole.refl _ _, ⟨⟨HY1.out, HP1.out⟩, by show Boxed _ _ _ (.bool (oddLst c (pre ++ [i]))); rw [hod.out, Bool.xor_false]; exact HO1.out⟩, HB1.out⟩
      · gi_wp2_with (refine ⟨trivial, fun h => (by cases h), ?_⟩; gi_at_call 45; refine (CallsIn.inRound l (callsIn_wide.2 (KT.out _))).mono ?_; rintro e w' ⟨rfl, hb⟩; have hk := HO1.out.kept (grown_of hb) (by simp); have hcr := hk.cell; have hfr := hk.frozen; have HBB := hid hb)
        have hy' := HY1.out.kept (grown_of HBB.out) (by simp)
        have hp' := HP1.out.kept (grown_of HBB.out) (by simp)
        have ho' := HO1.out.kept (grown_of HBB.out) (by simp)
        have hso : S (w2.heap.size + 1) := by rw [hS.out]; exact .inl rfl
        refine ⟨(KeepsFrom.of_grownBy (grown_of HBB.out) (fun j e => by cases e)).trans ((KeepsOthers.setCell _ _ _).from _), (Sole.made HBB.out).trans (Sole.setCell _ _ hso), ⟨⟨hy'.other (by have := hyl.out; omega) _, hp'.kept (grownBy_setCell' _ _ _) (fun e => by simp at e)⟩, by show Boxed _ _ _ (.bool (oddLst c (pre ++ [i]))); rw [hod.out, Bool.xor_true]; exact ho'.set _⟩, HB1.out.trans ((Sole.made HBB.out).trans (Sole.setCell _ _ hso))⟩
      · gi_wp2_with (refine ⟨trivial, fun h => (by cases h), ?_⟩; gi_at_call 45; refine (CallsIn.inRound l (callsIn_wide.2 (KT.out _))).mono ?_; rintro e w' ⟨rfl, hb⟩; have HBB := hid hb)
        exact ⟨KeepsFrom.of_grownBy (grown_of HBB.out) (fun j e => by cases e), Sole.made HBB.out, ⟨⟨HY1.out.kept (grown_of HBB.out) (by simp), HP1.out.kept (grown_of HBB.out) (by simp)⟩, by show Boxed _ _ _ (.bool (oddLst c (pre ++ [i]))); rw [hod.out, Bool.xor_false]; exact HO1.out.kept (grown_of HBB.out) (by simp)⟩, HB1.out.trans (Sole.made HBB.out)⟩
    case done =>
      rintro D zs W hD rfl ⟨⟨⟨bY1, bP1⟩, bO1⟩, hB1⟩ hK
      rw [oddLst_range] at bO1
      obtain ⟨z, hz⟩ : ∃ z, oddB c len = z := ⟨_, rfl⟩
      rw [hz] at bO1
      replace hz := hid hz
      have hcr := bO1.cell
      have HB1 := hid hB1
      clear hB1
      gi_wp2
      refine ⟨by simp, .inl ⟨_, _, rfl, run_takeDeferred hK, ?_⟩⟩
      refine ⟨.bool z, by simp [results, Try.f31, go_sem], by rw [hz.out]; rfl, ?_⟩
      have hbw : Below w.heap.size w W := hbw0.out.trans (HB1.out.below (by have := hbw0.out.size; omega) (fun k hk => by rw [hS] at hk; rcases hk with rfl | hk <;> omega))
      exact hbw.trans (belowK_b (w := w) (Nat.le_refl _) W D _ _ (by omega) hK rfl rfl)
    case stop =>
      rintro D cd pre W hD hpre h hK
      exact h.elim

theorem within_any (p : Option Addr) (n cap : Nat) (f : Nat → Pt) (hf : ∀ i, (f i).ok) (h1 : n ≤ cap) (h2 : cap ≤ maxLen) (q : P2) (hq : q.ok) (w : World) (HA : RowP w p 4 n (fun i => pcells (f i))) :
    Calls Try.prog 31 #[.slice p n cap, .int .u32 q.x, .int .u32 q.y] w fun e w' => e = .returned (.bool (onAny f n q || oddB (fun i => crossL (p2 (f i)) (p2 (f ((i + 1) % n))) q) n)) ∧ Below w.heap.size w w' := by
  rw [← within_same]
  exact callsIn_wide.1 (within_in 4 (Nat.le_refl _) n cap p f hf h1 h2 q hq w HA)
end Go.Proofs.Ytahdhgaoofpefaa
