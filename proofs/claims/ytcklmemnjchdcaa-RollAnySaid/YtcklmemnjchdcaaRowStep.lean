/-
  An append of rows of any elements, as one step of a region that draws its order.
-/
import Derived.Test.YtcklmemnjchdcaaOwnRow
namespace Go.Proofs.Ytcklmemnjchdcaa
open Go.RowKit
set_option linter.unusedVariables false
set_option linter.unusedSimpArgs false

theorem step_append_row {α : Type} {T : RowT α} (Kk : T.Ok) {ops : Array Oper} {o : Oper} {a : Act} {K : Act → World → Prop} {Q : Exit → Act → World → Prop} {E : Prop} {w : World} (hgd : o.guard = none) (s x : Operand)
    (ho : o.op = .call { callee := .builtin .append, args := #[s, x], argTypes := #[T.sl, T.sl] })
    (base : Nat) (v : Value) (l : List α) (hs : a.eval s = v) (hown : RowOwn T w base v l) (q : Option Addr) (m c : Nat) (M : List α) (hx : a.eval x = .slice q m c) (hm : M.length = m) (R : RowOf T w q M) (hn : (l.length + m) * T.bytes ≤ 140737488355328) (h63 : l.length + m ≤ maxLen) (hbase : base ≤ w.heap.size)
    (h : ∀ v' w', RowOwn T w' base v' (l ++ M) → w.grownBy w' v.ownBlock → (v'.ownBlock = v.ownBlock ∨ v'.ownBlock = some w.heap.size) → K (a.put o.dst v') w') :
    if Region.wanted o (yielded ops a.tmps) = true then Oper.wp Try.prog o a w K Q else E := by
  have hw : Region.wanted o (yielded ops a.tmps) = true := by simp [Region.wanted, hgd]
  subst hm
  obtain ⟨v', w', hr, O, G, hv⟩ := append_row Kk base o.type w v l hown q c M R hn h63 hbase
  rw [if_pos hw]
  unfold Oper.wp
  simp [execOp, ho, resolve, invoke, builtin, hs, hx, hr, Result.andThen]
  exact h v' w' O G hv
end Go.Proofs.Ytcklmemnjchdcaa
