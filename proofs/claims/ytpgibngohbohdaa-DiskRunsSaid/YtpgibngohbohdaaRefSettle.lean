/-
  The document's own disk: Settle: what waits has its fates.
-/
import Derived.Test.YtpgibngohbohdaaRefPut
import Derived.Test.YtpgibngohbohdaaRegionInv
import Derived.LoopTactic
namespace Go.Proofs.Ytpgibngohbohdaa
open Go.RowKit Go.Maps
set_option linter.unusedVariables false
set_option linter.unusedSimpArgs false

/-- Which sectors are odd, as a function. -/
def oddF (O : List Bool) (z : Int) : Bool := decide (0 ≤ z ∧ z < (O.length : Int)) && O.getD z.toNat false
theorem oddF_set (O : List Bool) (i : Nat) (hi : i < O.length) (b : Bool) : oddF (O.set i b) = fun y => if y = (i : Int) then b else oddF O y := by
  funext y
  unfold oddF
  by_cases h : y = (i : Int)
  · subst h
    simp [hi]
  · simp only [h, if_false, List.length_set]
    by_cases h0 : 0 ≤ y ∧ y < (O.length : Int)
    · have : y.toNat ≠ i := by omega
      rw [List.getD_eq_getElem?_getD, List.getD_eq_getElem?_getD, List.getElem?_set_ne (Ne.symm this)]
    · simp [h0]
/-- Its sectors, and which are odd. -/
def RM.sd (m : RM) : SD := (m.L.map OcS.l, oddF m.O)
/-- The first k of those that wait have their fates. -/
def rset (Q : List WtS) (F : List Int) (s : SD) (k : Nat) : SD := (List.range k).foldl (fun s i => stepD s (atR rwT Q i).at_ (atR rwT Q i).x.l (atR fatT F i)) s
theorem rset_succ (Q : List WtS) (F : List Int) (s : SD) (k : Nat) : rset Q F s (k + 1) = stepD (rset Q F s k) (atR rwT Q k).at_ (atR rwT Q k).x.l (atR fatT F k) := by
  unfold rset
  rw [List.range_succ, List.foldl_append, List.foldl_cons, List.foldl_nil]
theorem sd_put (m : RM) (p0 : Option Addr) (c0 : Nat) (p2 : Option Addr) (c2 : Nat) (i : Nat) (hi : i < m.O.length) (y : OcS) (odd : Bool) : (m.put p0 c0 p2 c2 i y odd).sd = (m.sd.1.set i y.l, fun z => if z = (i : Int) then odd else m.sd.2 z) := by
  unfold RM.sd
  rw [List.map_set, oddF_set m.O i hi]
theorem stepD_low (s : SD) (z : Int) (l : List UInt8) (f : Int) (h : f < 1) : stepD s z l f = s := by
  unfold stepD
  rw [if_neg (by omega)]
/-- A store of what the fate tells. -/
theorem sd_step (m : RM) (p0 : Option Addr) (c0 : Nat) (p2 : Option Addr) (c2 : Nat) (i : Nat) (hi : i < m.O.length) (y : OcS) (odd : Bool) (l : List UInt8) (f : Int) (hf : 1 ≤ f) (hy : y.l = nowL f l (m.sd.1.getD i [])) (ho : odd = oddL l (m.sd.1.getD i []) y.l (m.sd.2 (i : Int))) :
    (m.put p0 c0 p2 c2 i y odd).sd = stepD m.sd (i : Int) l f := by
  rw [sd_put m p0 c0 p2 c2 i hi]
  unfold stepD
  rw [if_pos hf, Int.toNat_natCast, ← hy]
  congr 1
  funext z
  by_cases h : z = (i : Int)
  · subst h; simp only [if_true]; exact ho
  · simp only [h, if_false]
/-- Nothing becomes other. -/
theorem sd_same (m : RM) (i : Nat) (hi : i < m.L.length) (l : List UInt8) (f : Int) (hf : 1 ≤ f) (h1 : nowL f l (m.sd.1.getD i []) = m.sd.1.getD i []) (h2 : nowL f l (m.sd.1.getD i []) ≠ l) : m.sd = stepD m.sd (i : Int) l f := by
  unfold stepD
  rw [if_pos hf, Int.toNat_natCast, h1]
  have e1 : m.sd.1.set i (m.sd.1.getD i []) = m.sd.1 := by
    have : i < m.sd.1.length := by simpa [RM.sd] using hi
    rw [List.getD_eq_getElem?_getD, List.getElem?_eq_getElem this, Option.getD_some, List.set_getElem_self]
  rw [e1]
  have e2 : (fun y => if y = (i : Int) then oddL l (m.sd.1.getD i []) (m.sd.1.getD i []) (m.sd.2 y) else m.sd.2 y) = m.sd.2 := by
    funext y
    split
    · unfold oddL
      rw [if_neg (by rw [← h1]; exact h2), if_pos rfl]
    · rfl
  rw [e2]

/-- The same, but for its sectors. -/
abbrev RM.sec (m : RM) (p0 : Option Addr) (c0 : Nat) (L : List OcS) (p2 : Option Addr) (c2 : Nat) (O : List Bool) : RM := { m with p0 := p0, c0 := c0, L := L, p2 := p2, c2 := c2, O := O }
abbrev rz : Array Value := (rdv none 0 0 none 0 0 none 0 0 false 0 none 0 0 0).toArray
/-- As the calls' loops go. -/
structure Mid' (w : World) (J : Nat → Prop) (W : World) (mm : RM) : Prop where
  R : RefM W mm (fun j => J j ∨ (w.heap.size + 1 + 1 ≤ j ∧ j < W.heap.size))
  B : Blk W w.heap.size mm.cells.toArray
  Z : Blk W (w.heap.size + 1) rz
  D : Below w.heap.size w W
theorem Mid'.more {w W W' : World} {J : Nat → Prop} {mm : RM} (h : Mid' w J W mm) (hb : Below W.heap.size W W') : Mid' w J W' mm :=
  ⟨(h.R.more hb).wide (fun k hk => hk.imp id fun x => ⟨x.1, Nat.lt_of_lt_of_le x.2 hb.size⟩) (fun k hk => hk.elim (fun x => Nat.lt_of_lt_of_le (h.R.jlt k (.inl x)) hb.size) (·.2)), h.B.more hb, h.Z.more hb, below2 h.D hb h.D.size⟩
theorem Mid'.start (w : World) (J : Nat → Prop) (m : RM) (R : RefM w m J) : Mid' w J ((w.alloc (.cells m.cells.toArray 31)).alloc (.cells rz 31)) m := by
  have hb0 : Below w.heap.size w ((w.alloc (.cells m.cells.toArray 31)).alloc (.cells rz 31)) := (rbelow_one _ _).trans ((rbelow_one _ _).mono (by simp))
  refine ⟨(R.more hb0).wide (fun k hk => .inl hk) (fun k hk => ?_), (Blk.new w _ _).more (rbelow_one _ _), ?_, hb0⟩
  · rcases hk with h | h
    · have := R.jlt k h; have := hb0.size; omega
    · exact h.2
  · have := Blk.new (w.alloc (.cells m.cells.toArray 31)) rz 31
    simpa using this
/-- The disk that a call has made is stored. -/
theorem Mid'.stored {w W W1 : World} {J : Nat → Prop} {mm mm' : RM} (h : Mid' w J W mm) (hJ : ∀ k, J k → k < w.heap.size) (hb : Below W.heap.size W W1) (R1 : RefM W1 mm' (JN (fun j => J j ∨ (w.heap.size + 1 + 1 ≤ j ∧ j < W.heap.size)) W W1)) :
    Mid' w J (setAll W1 w.heap.size 0 mm'.cells) mm' := by
  have hs := size_setAll (b := w.heap.size) mm'.cells 0 W1
  have hzl := h.Z.lt
  refine ⟨(R1.sole (sole_setAll (S := fun k => k = w.heap.size) rfl mm'.cells 0 W1) fun k hk e => ?_).wide (fun k hk => ?_) (fun k hk => ?_), ?_, ?_, below_fill (Nat.le_refl _) mm'.cells 0 (below2 h.D hb h.D.size)⟩
  · rcases hk with (h1 | h1) | h1
    · have := hJ k h1; omega
    · omega
    · omega
  · rw [hs]
    rcases hk with (h1 | h1) | h1
    · exact .inl h1
    · exact .inr ⟨h1.1, Nat.lt_of_lt_of_le h1.2 hb.size⟩
    · exact .inr ⟨by omega, h1.2⟩
  · rw [hs] at hk ⊢
    rcases hk with h1 | h1
    · exact R1.jlt k (.inl (.inl h1))
    · exact h1.2
  · have e : fillC mm.cells.toArray 0 mm'.cells = mm'.cells.toArray := by simp [RM.cells, rdv, fillC]
    rw [← e]
    exact Blk.fill mm'.cells 0 (h.B.more hb) (by simp)
  · exact Blk.past (by simp) mm'.cells 0 (h.Z.more hb)
/-- Where a write that waits stands. -/
theorem RefM.wait {w : World} {m : RM} {J : Nat → Prop} (h : RefM w m J) {k : Nat} (hk : k < m.Q.length) : ∃ i : Nat, (atR rwT m.Q k).at_ = (i : Int) ∧ i < m.L.length ∧ (atR rwT m.Q k).x.there w ∧ (atR rwT m.Q k).x.l.length = 256 := by
  obtain ⟨⟨h1, h2, _⟩, h3, h4⟩ := h.QO _ (atR_mem (T := rwT) m.Q k hk)
  exact ⟨(atR rwT m.Q k).at_.toNat, by omega, by omega, h1, h2⟩
end Go.Proofs.Ytpgibngohbohdaa
