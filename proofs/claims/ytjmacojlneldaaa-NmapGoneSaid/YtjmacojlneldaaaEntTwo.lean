/-
  Two rows of entries, each one longer, one behind the other.
-/
import Derived.Test.YtjmacojlneldaaaEntRow
namespace Go.Proofs.Ytjmacojlneldaaa
open Go.RowKit
set_option linter.unusedVariables false

theorem ownE_more {w w' : World} {base : Nat} {e : TypeId} {size : Nat} {v : Value} {n : Nat} {xs : List Value} (h : w.ownsRow base e size v n xs) (hb : Below w.heap.size w w') : w'.ownsRow base e size v n xs :=
  own_sole h (Sole.made (S := fun _ => False) hb) fun _ _ x => x
theorem entsTwo {base : Nat} {w0 wx W1 w1 W2 w2 : World} {v u : Value} {L M : List En} {x y : En} {g h c1 c2 : Nat}
    (O : EntsOwn wx base v L) (U : EntsOwn wx base u M) (hap : ∀ b, v.ownBlock = some b → u.ownBlock ≠ some b) (hb : Below base w0 wx) (hs : base ≤ wx.heap.size)
    (b1 : Below wx.heap.size wx W1) (g1 : W1.grownBy w1 v.ownBlock) (t1 : v.ownBlock = some g ∨ g = W1.heap.size) (l1 : g < w1.heap.size)
    (b2 : Below w1.heap.size w1 W2) (g2 : W2.grownBy w2 u.ownBlock) (t2 : u.ownBlock = some h ∨ h = W2.heap.size)
    (o1 : w1.ownsRow base 61 2 (.slice (some ⟨g, 0, none⟩) (L.length + 1) c1) (L.length + 1) (flatE L ++ ecells x))
    (o2 : w2.ownsRow base 61 2 (.slice (some ⟨h, 0, none⟩) (M.length + 1) c2) (M.length + 1) (flatE M ++ ecells y)) :
    EntsOwn w2 base (.slice (some ⟨g, 0, none⟩) (L.length + 1) c1) (L ++ [x]) ∧ EntsOwn w2 base (.slice (some ⟨h, 0, none⟩) (M.length + 1) c2) (M ++ [y]) ∧
      (∀ b, (Value.slice (some ⟨g, 0, none⟩) (L.length + 1) c1).ownBlock = some b → (Value.slice (some ⟨h, 0, none⟩) (M.length + 1) c2).ownBlock ≠ some b) ∧ Below base w0 w2 := by
  unfold EntsOwn at O U
  have s1 := b1.size
  have s2 := g1.size
  have s3 := b2.size
  have hu : u.ownBlock ≠ some g := fun e => by
    rcases t1 with t | t
    · exact hap g t e
    · have := (U.lt g e).2; omega
  have hgh : g ≠ h := fun e => by
    rcases t2 with t | t
    · exact hu (by rw [e]; exact t)
    · omega
  have U1 := ownE_more U b1
  have O1 := ownE_more O b1
  have p1 := ownE_more o1 b2
  have nv : (Value.slice (some ⟨g, 0, none⟩) (L.length + 1) c1).ownBlock = none ∨ (Value.slice (some ⟨g, 0, none⟩) (L.length + 1) c1).ownBlock ≠ u.ownBlock :=
    .inr fun e => hu (by rw [← e]; rfl)
  have p2 := p1.kept g2 nv
  have nu : u.ownBlock = none ∨ u.ownBlock ≠ v.ownBlock := by
    cases hh : u.ownBlock with
    | none => exact .inl rfl
    | some k => exact .inr fun e => hap k e.symm hh
  have U2 := ownE_more (U1.kept g1 nu) b2
  refine ⟨?_, ?_, ?_, ?_⟩
  · unfold EntsOwn
    rw [flatE_append, flatE_one, List.length_append]
    exact p2
  · unfold EntsOwn
    rw [flatE_append, flatE_one, List.length_append]
    exact o2
  · intro b e1 e2
    simp [Value.ownBlock] at e1 e2
    omega
  · have c1' : Below base w0 W1 := below2 hb b1 hs
    have c2' : Below base w0 w1 := Below.grown c1' g1 (by omega) fun k e => (O1.lt k e).1
    have c3' : Below base w0 W2 := below2 c2' b2 (by omega)
    exact Below.grown c3' g2 (by omega) fun k e => (U2.lt k e).1
end Go.Proofs.Ytjmacojlneldaaa
