/-
  Points of an argument, and none beyond them: each of them may be.
-/
import Derived.Test.YtahdhgaoofpefaaPtRow
namespace Go.Proofs.Ytahdhgaoofpefaa
open Go.RowKit

theorem pts_total {W : World} {p : Option Addr} {n : Nat} {f : Nat → Pt} (hf : ∀ i, i < n → (f i).ok) (HR : RowP W p 4 n (fun i => pcells (f i))) :
    ∃ g : Nat → Pt, (∀ i, (g i).ok) ∧ RowP W p 4 n (fun i => pcells (g i)) := by
  refine ⟨fun i => if i < n then f i else ⟨0, 0, 0, ByteArray.empty⟩, fun i => ?_, ?_⟩
  · show (if i < n then f i else (⟨0, 0, 0, ByteArray.empty⟩ : Pt)).ok
    split
    · exact hf i (by assumption)
    · exact ⟨by decide, by decide, by decide, by decide, by decide, by decide, Nat.zero_le _⟩
  · rcases HR with h | ⟨b, o, e, R⟩
    · exact .inl h
    · refine .inr ⟨b, o, e, R.lt, fun i hi j v hv => R.cell i hi j v ?_⟩
      have hv' : (pcells (if i < n then f i else (⟨0, 0, 0, ByteArray.empty⟩ : Pt)))[j]? = some v := hv
      rw [if_pos hi] at hv'
      exact hv'
end Go.Proofs.Ytahdhgaoofpefaa
