/-
  Octets as elements of a row: as data, and where they lie.
-/
import Derived.Test.YtcklmemnjchdcaaOct
import Derived.Test.YtcklmemnjchdcaaOwnRow
namespace Go.Proofs.Ytcklmemnjchdcaa
open Go.RowKit
set_option linter.unusedVariables false
set_option linter.unusedSimpArgs false

/-- Octets as a slice: where they lie. -/
structure OcS where
  a : Option Addr
  cap : Nat
  l : List UInt8
def ocT : RowT OcS := { ty := 51, sl := 53, sz := 1, bytes := 24, zero := .slice none 0 0, cells := fun x => [.slice x.a x.l.length x.cap], dflt := ⟨none, 0, []⟩ }
theorem ocOk : ocT.Ok := ⟨Try.underlying53, by kernel_rfl, rfl, by decide, fun _ => rfl, fun x u hu => by
  simp [ocT] at hu
  rcases hu with rfl; rfl⟩
def OcS.there (w : World) (x : OcS) : Prop := Octs w x.a x.l ∧ x.l.length ≤ x.cap ∧ x.cap ≤ maxLen
theorem OcS.there.more {w w' : World} {x : OcS} (h : x.there w) (hb : Below w.heap.size w w') : x.there w' := ⟨h.1.more hb, h.2⟩

theorem oc_sole {S : Nat → Prop} {w w' : World} {x : OcS} (h : x.there w) (hs : Sole S w w') (hn : ∀ b o, x.a = some ⟨b, o, none⟩ → ¬ S b) : x.there w' := ⟨h.1.sole hs fun b o e _ => hn b o e, h.2⟩
def ocA (L : List OcS) (i : Nat) : OcS := atR ocT L i
theorem ocA_eq (L : List OcS) (i : Nat) (h : i < L.length) : ocA L i = L[i] := atR_eq L i h
theorem ocA_mem (L : List OcS) (i : Nat) (h : i < L.length) : ocA L i ∈ L := by rw [ocA_eq L i h]; exact List.getElem_mem h
end Go.Proofs.Ytcklmemnjchdcaa
