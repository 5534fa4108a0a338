/-
  append(append([]byte{}, a[:n]...), b[n:]...) in a region that draws its order: what is known as it goes.
-/
import Derived.Test.YtpgibngohbohdaaRefSettle
namespace Go.Proofs.Ytpgibngohbohdaa
open Go.RowKit Go.Maps
set_option linter.unusedVariables false
set_option linter.unusedSimpArgs false

theorem run_append_op {P : Program} {ρ : Operand → Value} {o : Oper} {w : World} (s x : Operand) (t : TypeId) (ho : o.op = .call { callee := .builtin .append, args := #[s, x], argTypes := #[t, t] }) (v u : Value) (hs : ρ s = v) (hx : ρ x = u) (v' : Value) (w' : World)
    (hr : ∀ ty, (Builtin.append_ #[t, t] ty #[v, u]).run P w = .ok v' w') : (execOp ρ o).run P w = .ok (.value v') w' := by
  simp [execOp, ho, resolve, invoke, builtin, hs, hx, hr, Result.andThen]
theorem run_slice_op {P : Program} {ρ : Operand → Value} {o : Oper} {w : World} (t : TypeId) (x : Operand) (lo hi mx : Option Operand) (ho : o.op = .slice t x lo hi mx) (v : Value) (hr : (Instr.sliceAt t (ρ x) (lo.map ρ) (hi.map ρ) (mx.map ρ)).run P w = .ok v w) : (execOp ρ o).run P w = .ok (.value v) w := by
  simp [execOp, ho, hr, Result.andThen]
/-- As octets are put together. -/
structure HT (W : World) (l1 l2 : List UInt8) (V : Nat → Option Value) (D : Nat → Bool) (vs : Nat → Value) (wx : World) : Prop where
  vals : Vals V D vs
  z : D 0 = true → D 5 = false → wx.ownsRow W.heap.size 5 1 (vs 0) 0 []
  f : D 5 = true → D 14 = false → wx.ownsRow W.heap.size 5 1 (vs 5) l1.length (Lib.byteCells l1)
  e : D 14 = true → wx.ownsRow W.heap.size 5 1 (vs 14) (l1 ++ l2).length (Lib.byteCells (l1 ++ l2))
  d5 : D 5 = true → D 0 = true
  d14 : D 14 = true → D 5 = true
  low : Below W.heap.size W wx
theorem HT.quiet {W : World} {l1 l2 : List UInt8} {V : Nat → Option Value} {D : Nat → Bool} {vs : Nat → Value} {wx : World} (h : HT W l1 l2 V D vs wx) (j : Nat) (v : Value) (h0 : 0 ≠ j) (h5 : 5 ≠ j) (h14 : 14 ≠ j) (hv : V j = some v) : HT W l1 l2 V (fset D j true) (fset vs j v) wx := by
  refine ⟨h.vals.set j v (fun u hu => Option.some.inj (hv.symm.trans hu)), ?_, ?_, ?_, ?_, ?_, h.low⟩
  · rw [fset_ne D true h0, fset_ne D true h5, fset_ne vs v h0]; exact h.z
  · rw [fset_ne D true h5, fset_ne D true h14, fset_ne vs v h5]; exact h.f
  · rw [fset_ne D true h14, fset_ne vs v h14]; exact h.e
  · rw [fset_ne D true h5, fset_ne D true h0]; exact h.d5
  · rw [fset_ne D true h14, fset_ne D true h5]; exact h.d14
theorem HT.nil {W : World} {l1 l2 : List UInt8} {V : Nat → Option Value} : HT W l1 l2 V (fun _ => false) (fun _ => undef) W.drew :=
  ⟨Vals.nil, (fun h => by cases h), (fun h => by cases h), (fun h => by cases h), (fun h => by cases h), (fun h => by cases h), (Below.refl _ _).drew⟩
/-- The empty row is made. -/
theorem HT.made {W : World} {l1 l2 : List UInt8} {V : Nat → Option Value} {D : Nat → Bool} {vs : Nat → Value} {wx : World} (h : HT W l1 l2 V D vs wx) (hD : D 0 = false) (hV : V 0 = none) :
    HT W l1 l2 V (fset D 0 true) (fset vs 0 (.slice (some ⟨wx.heap.size, 0, none⟩) 0 0)) (wx.alloc (.cells #[] 5)) := by
  have n5 : D 5 = false := by
    cases e : D 5 with
    | false => rfl
    | true => rw [h.d5 e] at hD; cases hD
  have n14 : D 14 = false := by
    cases e : D 14 with
    | false => rfl
    | true => rw [h.d14 e] at n5; cases n5
  have OM := World.ownsRow_made (size := 1) (e := 5) (base := W.heap.size) wx #[] 0 h.low.size (Nat.zero_le _) rfl
  refine ⟨h.vals.set 0 _ (fun u hu => by rw [hV] at hu; cases hu), ?_, ?_, ?_, ?_, ?_, h.low.alloc h.low.size _⟩
  · rw [fset_same]; exact fun _ _ => OM
  · rw [fset_ne D true (by decide : 5 ≠ 0), n5]; exact fun h => by cases h
  · rw [fset_ne D true (by decide : 14 ≠ 0), n14]; exact fun h => by cases h
  · rw [fset_ne D true (by decide : 5 ≠ 0), n5]; exact fun h => by cases h
  · rw [fset_ne D true (by decide : 14 ≠ 0), n14]; exact fun h => by cases h
/-- The first part is put to it. -/
theorem HT.five {W : World} {l1 l2 : List UInt8} {V : Nat → Option Value} {D : Nat → Bool} {vs : Nat → Value} {wx : World} (h : HT W l1 l2 V D vs wx) (hD : D 5 = false) (hD0 : D 0 = true) (hV : V 5 = none) (a : Option Addr) (c : Nat) (hl : Octs W a l1) (hn : l1.length ≤ 140737488355328) :
    ∃ v' w', (∀ ty, (Builtin.append_ #[35, 35] ty #[vs 0, .slice a l1.length c]).run Try.prog wx = .ok v' w') ∧ HT W l1 l2 V (fset D 5 true) (fset vs 5 v') w' := by
  have n14 : D 14 = false := by
    cases e : D 14 with
    | false => rfl
    | true => rw [h.d14 e] at hD; cases hD
  have OM := h.z hD0 hD
  obtain ⟨v', w', hr, O', gr, mv⟩ := append_octs W.heap.size 35 wx _ 0 [] OM a c l1 (hl.more h.low) (by omega) h.low.size
  rw [Nat.zero_add, List.nil_append] at O'
  refine ⟨v', w', fun ty => hr, h.vals.set 5 _ (fun u hu => by rw [hV] at hu; cases hu), ?_, ?_, ?_, ?_, ?_, Below.grown h.low gr h.low.size fun k hk => (OM.lt k hk).1⟩
  · rw [fset_same]; exact fun _ h => by cases h
  · rw [fset_same, fset_same]; exact fun _ _ => O'
  · rw [fset_ne D true (by decide : 14 ≠ 5), n14]; exact fun h => by cases h
  · rw [fset_ne D true (by decide : 0 ≠ 5)]; exact fun _ => hD0
  · rw [fset_ne D true (by decide : 14 ≠ 5), n14]; exact fun h => by cases h
/-- The other part is put to it. -/
theorem HT.last {W : World} {l1 l2 : List UInt8} {V : Nat → Option Value} {D : Nat → Bool} {vs : Nat → Value} {wx : World} (h : HT W l1 l2 V D vs wx) (hD : D 14 = false) (hD5 : D 5 = true) (hV : V 14 = none) (a : Option Addr) (c : Nat) (hl : Octs W a l2) (hn : l1.length + l2.length ≤ 140737488355328) :
    ∃ v' w', (∀ ty, (Builtin.append_ #[35, 35] ty #[vs 5, .slice a l2.length c]).run Try.prog wx = .ok v' w') ∧ HT W l1 l2 V (fset D 14 true) (fset vs 14 v') w' := by
  have OM := h.f hD5 hD
  obtain ⟨v', w', hr, O', gr, mv⟩ := append_octs W.heap.size 35 wx _ _ _ OM a c l2 (hl.more h.low) (by omega) h.low.size
  rw [← Lib.byteCells_append, ← List.length_append] at O'
  refine ⟨v', w', fun ty => hr, h.vals.set 14 _ (fun u hu => by rw [hV] at hu; cases hu), ?_, ?_, ?_, ?_, ?_, Below.grown h.low gr h.low.size fun k hk => (OM.lt k hk).1⟩
  · rw [fset_ne D true (by decide : 5 ≠ 14), hD5]; exact fun _ h => by cases h
  · rw [fset_same]; exact fun _ h => by cases h
  · rw [fset_same, fset_same]; exact fun _ => O'
  · rw [fset_ne D true (by decide : 5 ≠ 14), fset_ne D true (by decide : 0 ≠ 14)]; exact h.d5
  · rw [fset_ne D true (by decide : 5 ≠ 14)]; exact fun _ => hD5
end Go.Proofs.Ytpgibngohbohdaa
