/-
  The document's own sum, bit by bit.
-/
import Derived.Test.YtpgibngohbohdaaCrcBits
import Derived.Test.YtpgibngohbohdaaRefCat
import Derived.Test.YtpgibngohbohdaaByteAt
namespace Go.Proofs.Ytpgibngohbohdaa
open Go.RowKit
set_option linter.unusedVariables false
set_option linter.unusedSimpArgs false

/-- The sum of octets. -/
def sumN (l : List UInt8) : Nat := bitsN (byteAt l) 4294967295 l.length
theorem sumN_lt (l : List UInt8) : sumN l < 2 ^ 32 := bits_lt (by decide) _ fun i _ => byteAt_lt l i
theorem sumN_app (l m : List UInt8) : sumN (l ++ m) = bitsN (byteAt m) (sumN l) m.length := by
  unfold sumN
  rw [List.length_append, bits_more (byteAt l) (byteAt m) 4294967295 l.length (byteAt (l ++ m)) (byteAt_app l m)]
theorem row_of_octs {w : World} {a : Option Addr} {l : List UInt8} (h : Octs w a l) : RowP w a 1 l.length (fun i => [.int .u8 (byteAt l i : Int)]) := by
  by_cases h0 : l = []
  · exact .inl (by rw [h0]; rfl)
  · obtain ⟨b, o, rfl, lt, hc⟩ := h.row h0
    refine .inr ⟨b, o, rfl, lt, fun i hi j v hv => ?_⟩
    have hj : j = 0 := by
      rcases j with _ | j
      · rfl
      · simp at hv
    subst hj
    simp at hv
    subst hv
    rw [Nat.mul_one, Nat.add_zero, hc i hi, byteAt_get l i hi]

end Go.Proofs.Ytpgibngohbohdaa
