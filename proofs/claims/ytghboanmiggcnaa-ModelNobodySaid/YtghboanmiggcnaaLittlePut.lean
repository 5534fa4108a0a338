/-
  Package little: Text of an Out.
-/
import Derived.Test.YtghboanmiggcnaaLittlePad
namespace Go.Proofs.Ytghboanmiggcnaa
open Go.RowKit
set_option linter.unusedVariables false
set_option linter.unusedSimpArgs false

theorem wpList_copy_eq {P : Program} (w : World) {ops : Array Oper} {rest : List Oper} {o : Oper} {a : Act} {Q : Exit → Act → World → Prop} (hgd : o.guard = none) (d s : Operand) (t t' : TypeId)
    (ho : o.op = .call { callee := .builtin .copy, args := #[d, s], argTypes := #[t, t'] }) (vd vs : Value) (hd : a.eval d = vd) (hs : a.eval s = vs)
    (v' : Value) (w' : World) (hr : (Builtin.copy_ #[t, t'] o.type #[vd, vs]).run P w = .ok v' w') (h : wpList P ops Q rest (a.put o.dst v') w') : wpList P ops Q (o :: rest) a w := by
  refine wpList_plain hgd fun K hK => ?_
  unfold Oper.wp
  simp [execOp, ho, resolve, invoke, builtin, hd, hs, hr, Result.andThen]
  exact hK _ _ h

theorem size_list (s : ByteArray) : s.data.toList.length = s.size := Array.length_toList
theorem u8One : (Try.prog.info? 5).map (·.size) = some 1 := by kernel_rfl

/-- A store of what is there. -/
theorem set_same {w : World} {p : Nat} {room : Int} {a : Option Addr} {l : List UInt8} {e : Int} {cap : Nat} (B : Blk w p (outC room a l.length cap e)) (O : w.ownsRow (p + 1) 5 1 (.slice a l.length cap) l.length (Lib.byteCells l)) :
    OutS (w.setCell ⟨p, 2, none⟩ (.slice a l.length cap)) p a room l e ∧ Grew p a a w (w.setCell ⟨p, 2, none⟩ (.slice a l.length cap)) :=
  ⟨⟨cap, B.set 2 _ (by simp), ownsRow_setCell_below O (Nat.lt_succ_self p) _⟩, Sole.setCell _ _ (.inl rfl), .inl rfl⟩

end Go.Proofs.Ytghboanmiggcnaa
