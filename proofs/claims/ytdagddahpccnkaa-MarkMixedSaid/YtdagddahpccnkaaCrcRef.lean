/-
  The document's own sum, bit by bit.
-/
import Derived.Test.YtdagddahpccnkaaCrcBits
import Derived.Test.YtdagddahpccnkaaRefCat
import Derived.Test.YtdagddahpccnkaaByteAt
namespace Go.Proofs.Ytdagddahpccnkaa
open Go.RowKit
set_option linter.unusedVariables false
set_option linter.unusedSimpArgs false

/-- The sum of octets. -/
def sumN (l : List UInt8) : Nat := bitsN (byteAt l) 4294967295 l.length
theorem sumN_lt (l : List UInt8) : sumN l < 2 ^ 32 := bits_lt (by decide) _ fun i _ => byteAt_lt l i
theorem sumN_app (l m : List UInt8) : sumN (l ++ m) = bitsN (byteAt m) (sumN l) m.length := by
  unfold sumN
  rw [List.length_append, bits_more (byteAt l) (byteAt m) 4294967295 l.length (byteAt (l ++ m)) (byteAt_app l m)]
theorem row_of_octs {w : World} {a : Option Addr} {l : List UInt8} (h : Octs w a l) : RowP w a 1 l.length (fun i => [.int .u8 (byteAt l i : Int)]) := by
  by_cases h0 : l = []
  · exact .inl (by rw [h0]; rfl)
  · obtain ⟨b, o, rfl, lt, hc⟩ := h.row h0
    refine .inr ⟨b, o, rfl, lt, fun i hi j v hv => ?_⟩
    have hj : j = 0 := by
      rcases j with _ | j
      · rfl
      · simp at hv
    subst hj
    simp at hv
    subst hv
    rw [Nat.mul_one, Nat.add_zero, hc i hi, byteAt_get l i hi]

set_option maxRecDepth 100000 in
set_option maxHeartbeats 4000000 in
theorem refSum_any (l : List UInt8) (a : Option Addr) (cap : Nat) (w : World) (O : Octs w a l) (hl : l.length ≤ 140737488355328) :
    Calls Try.prog 36 #[.slice a l.length cap] w fun e w' => e = .returned (.int .u32 (4294967295 - (sumN l : Int))) ∧ w' = w := by
  replace O := hid O
  have hl' : (l.length : Int) ≤ 140737488355328 := by omega
  clear hl
  go_enter Try.func36, Try.ntmps36
  go_wp2_with fail
  go_loop [3, 4] (fun s i => ∃ k : Nat, k ≤ l.length ∧ i = .int .i64 (k : Int) ∧ s = .int .u32 (bitsN (byteAt l) 4294967295 k : Int)) (fun _ i => l.length - (intOf i).toNat)
  case atStart => exact ⟨0, by omega, rfl, rfl⟩
  case round =>
    obtain ⟨k, hk, rfl, rfl⟩ := hrel
    have hb := bits_lt (s := 4294967295) (by decide) k fun i _ => byteAt_lt l i
    by_cases hlt : k < l.length
    · obtain ⟨b, o, rfl, lt, hc⟩ := O.out.row (fun e => by rw [e] at hlt; simp at hlt)
      have z := hc k hlt
      rw [← byteAt_get l k hlt] at z
      have st : bitsN (byteAt l) 4294967295 (k + 1) = tabN (bitsN (byteAt l) 4294967295 k ^^^ byteAt l k) := rfl
      have hbl := byteAt_lt l k
      generalize byteAt l k = c at *
      generalize bitsN (byteAt l) 4294967295 k = q at *
      have e1 := u32_xor_nat q c (by omega) (by omega)
      have hx : q ^^^ c < 2 ^ 32 := Nat.xor_lt_two_pow hb (by omega)
      generalize q ^^^ c = x at *
      replace st := hid st
      have c1 : 0 ≤ (q : Int) ∧ (q : Int) ≤ 4294967295 := by omega
      have c2 : 0 ≤ (c : Int) ∧ (c : Int) ≤ 255 := by omega
      have HL := hid (fun j => halves_lt hx j)
      clear hc hb hbl hx
      go_wp2_with fail
      go_loop [3, 5] (fun s i => ∃ j : Nat, j ≤ 8 ∧ i = .int .i64 (j : Int) ∧ s = .int .u32 (halves x j : Int)) (fun _ i => 8 - (intOf i).toNat)
      case atStart => exact ⟨0, by omega, rfl, rfl⟩
      case round =>
        obtain ⟨j, hj, rfl, rfl⟩ := hrel
        by_cases hj8 : j < 8
        · have hq := HL.out j
          have hw := half_ways (halves x j) hq
          have hs : halves x (j + 1) = halfN (halves x j) := rfl
          generalize halves x j = y at *
          generalize halfN y = y' at *
          replace hs := hid hs
          have d1 : 0 ≤ (y : Int) ∧ (y : Int) ≤ 4294967295 := by omega
          rcases hw with ⟨h1, h2⟩ | ⟨h1, h2⟩
          · have h3 : (y : Int) % 2 = 1 := by omega
            clear h1 hq
            go_wp2_with fail
            go_round
            case rel => exact ⟨j + 1, by omega, by go_num, by rw [hs.out]⟩
            case measure => simp [intOf]; omega
          · have h3 : (y : Int) % 2 = 0 := by omega
            clear h1 hq
            go_wp2_with fail
            go_round
            case rel => exact ⟨j + 1, by omega, by go_num, by rw [hs.out]⟩
            case measure => simp [intOf]; omega
        · obtain rfl : j = 8 := by omega
          go_wp2_with fail
          go_round
          case rel => exact ⟨k + 1, by omega, by go_num, by rw [st.out]; rfl⟩
          case measure => simp [intOf]; omega
    · obtain rfl : k = l.length := by omega
      generalize hr : bitsN (byteAt l) 4294967295 l.length = r at *
      replace hr := hid hr
      have c1 : 0 ≤ (r : Int) ∧ (r : Int) ≤ 4294967295 := by omega
      go_wp2
      go_ret
      exact ⟨by rw [show sumN l = r from hr.out]; rfl, rfl⟩
end Go.Proofs.Ytdagddahpccnkaa
