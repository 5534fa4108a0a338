/-
  The document's own points as octets: a point's octets.
-/
import Derived.Test.YtdagddahpccnkaaPointGetWalk
import Derived.Test.YtdagddahpccnkaaRefCat
import Derived.Deep.RegionWith
import Derived.Deep.DeepCutAuto
namespace Go.Proofs.Ytdagddahpccnkaa
open Go.RowKit
set_option linter.unusedVariables false
set_option linter.unusedSimpArgs false

theorem Fresh.octs {w w' : World} {v : Value} {l : List UInt8} (h : Fresh w w' v l) : ∃ a cap, v = .slice a l.length cap ∧ Octs w' a l ∧ Below w.heap.size w w' := by
  obtain ⟨a, cap, rfl, O, hb⟩ := h
  exact ⟨a, cap, rfl, Octs.of_own O, hb⟩
theorem refNum_fit (N : Int) (m : Nat) (M : Int) (hM : (m : Int) = M) (h1 : 0 ≤ N) (h2 : N ≤ 9223372036854775807) (hm : m ≤ 1000) (w : World) :
    Calls Try.prog 23 #[.int .i64 N, .int .i64 M] w fun e w' => ∃ ba bc, e = .returned (.slice ba m bc) ∧ Octs w' ba (leB N.toNat m) ∧ Below w.heap.size w w' := by
  subst hM
  refine (refNum_any N m (by omega) h2 hm w).mono ?_
  rintro e w' ⟨ba, bc, bl, he, hl, hle, O, hb⟩
  exact ⟨ba, bc, he, by rw [← hle h1]; exact O, hb⟩
theorem own_base {w : World} {base base' : Nat} {e : TypeId} {size : Nat} {v : Value} {n : Nat} {xs : List Value} (h : w.ownsRow base e size v n xs) (hb : base' ≤ base) : w.ownsRow base' e size v n xs := by
  refine ⟨h.1, h.2.imp id ?_⟩
  rintro ⟨g, cap, cur, hv, hg, rest⟩
  exact ⟨g, cap, cur, hv, Nat.le_trans hb hg, rest⟩
theorem undrew {w w' : World} (h : Below w.drew.heap.size w.drew w') : Below w.heap.size w w' := ⟨h.os, h.tape, h.output, h.size, h.block⟩
/-- Two rows of known lengths. -/
theorem refCat_len (l1 l2 : List UInt8) (n1 n2 : Nat) (h1 : l1.length = n1) (h2 : l2.length = n2) (a1 a2 : Option Addr) (c1 c2 : Nat) (w : World) (O1 : Octs w a1 l1) (O2 : Octs w a2 l2) (hl : n1 + n2 ≤ 140737488355328) :
    Calls Try.prog 22 #[.slice a1 n1 c1, .slice a2 n2 c2] w fun e w' => ∃ a cap, e = .returned (.slice a (n1 + n2) cap) ∧ w'.ownsRow w.heap.size 5 1 (.slice a (n1 + n2) cap) (n1 + n2) (Lib.byteCells (l1 ++ l2)) ∧ Below w.heap.size w w' := by
  subst h1 h2
  refine (refCat_any l1 l2 a1 a2 c1 c2 w O1 O2 hl).mono ?_
  rintro e w' ⟨v, rfl, a, cap, rfl, O, hb⟩
  rw [List.length_append] at O ⊢
  exact ⟨a, cap, rfl, O, hb⟩

end Go.Proofs.Ytdagddahpccnkaa
