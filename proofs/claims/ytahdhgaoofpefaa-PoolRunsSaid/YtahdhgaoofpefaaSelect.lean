/-
  A select of one case with a default, where the walk goes on behind it: a region that begins with it, in one goroutine.
-/
import Derived.Conc.LoneSelect
import Derived.Test.YtahdhgaoofpefaaSole
namespace Go.Proofs.Ytahdhgaoofpefaa
open Go.RowKit Go.Conc
set_option linter.unusedVariables false

theorem stepG_comm_any {P : Program} {main : Bool} {b : Frame} {a : Act} {k : List Item} {cs : List Frame} {w w' : World} {ops : Array Oper} {i : Nat} {rest : List Nat} {o : Oper} {cases : Array CommCase} {blocking : Bool} {shape : CommShape}
    (ho : ops[i]? = some o) (hw : Region.wanted o (yielded ops a.tmps) = true) (hr : (execOp a.eval o).run P w = .ok (.comm cases blocking shape) w') :
    ∃ es, stepG P main (G (b.at a (.inRegion ops (i :: rest) :: k)) cs) w = .comm (G (b.at a (.inRegion ops (i :: rest) :: k)) cs) cases blocking shape w' es := by
  rw [stepG_oper ho hw]
  by_cases hk : b.kind = .early
  · have hk' : (b.kind == CallKind.early) = true := by simp [hk]
    simp [stepG.apply, hr, G, Frame.at, hk', GStep.after]
  · have hk' : (b.kind == CallKind.early) = false := by simpa using hk
    simp [stepG.apply, hr, G, Frame.at, hk', GStep.after]

/-- A region that begins with a communication which one step of the machine carries out: go on behind it. -/
theorem wp_region_comm {P : Program} {Q : Exit → Act → World → Prop} {a : Act} {w w' : World} {id : Nat} {ops : Array Oper} {o : Oper} {l : List Oper} {cases : Array CommCase} {blocking : Bool} {shape : CommShape} {v : Value}
    (ho : ops.toList = o :: l) (hg : o.guard = none) (hr : (execOp a.eval o).run P w = .ok (.comm cases blocking shape) w)
    (hs : ∀ fr cs es, stepG P true (G fr cs) w = .comm (G fr cs) cases blocking shape w es → step P (solo (G fr cs) w) = .next (solo (G (fr.finish v) cs) w'))
    (h : wpList P ops Q l (a.put o.dst v) w') : (Code.region id ops false).wp P Q a w := by
  intro b k cs
  have hsz : ops.size = l.length + 1 := by have := congrArg List.length ho; simpa using this
  have hall : ∀ j, ops[j]? = (o :: l)[j]? := fun j => by rw [← Array.getElem?_toList, ho]
  have h1 : wpOps P ops Q (List.range' 1 l.length) (a.put o.dst v) w' := by
    rw [wpOps_eq_wpList l 1 (fun j => by rw [hall, Nat.add_comm]; rfl)]
    exact h
  obtain ⟨e, a', w'', hq, harr⟩ := wp_ops _ _ _ h1 b k cs
  refine ⟨e, a', w'', hq, .of_steps (Steps.head step_region (.one ?_)) harr⟩
  rw [List.range_eq_range', hsz]
  have h0 : ops[0]? = some o := by rw [hall]; rfl
  obtain ⟨es, hc⟩ := stepG_comm_any (P := P) (main := true) (b := b) (a := a) (k := k) (cs := cs) (w := w) (ops := ops) (i := 0) (rest := List.range' 1 l.length) h0 (by simp [Region.wanted, hg]) hr
  have hst := hs _ _ _ hc
  rw [Frame.finish_at, h0] at hst
  exact hst
end Go.Proofs.Ytahdhgaoofpefaa
