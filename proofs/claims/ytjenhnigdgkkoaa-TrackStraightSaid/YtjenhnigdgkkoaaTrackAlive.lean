/-
  Layer 46: alive.
-/
import Derived.Test.YtjenhnigdgkkoaaTrackStr
import Derived.Test.YtjenhnigdgkkoaaTrackLegs
namespace Go.Proofs.Ytjenhnigdgkkoaa
open Go.RowKit
set_option linter.unusedVariables false
set_option linter.unusedSimpArgs false

def f46 (i : Nat) : Pt := if i = 0 then ⟨0, 0, 0, ByteArray.empty⟩ else if i = 1 then ⟨0, 3, 0, ByteArray.empty⟩ else ⟨0, 5, 0, ByteArray.empty⟩
theorem f46_ok (i : Nat) : (f46 i).ok := by
  unfold f46
  split
  · exact ⟨by decide, by decide, by decide, by decide, by decide, by decide, Nat.zero_le _⟩
  · split
    · exact ⟨by decide, by decide, by decide, by decide, by decide, by decide, Nat.zero_le _⟩
    · exact ⟨by decide, by decide, by decide, by decide, by decide, by decide, Nat.zero_le _⟩
theorem row46 (w : World) : RowP (w.alloc (.cells #[.int .i64 0, .int .u32 0, .int .u32 0, .string ByteArray.empty, .int .i64 0, .int .u32 3, .int .u32 0, .string ByteArray.empty, .int .i64 0, .int .u32 5, .int .u32 0, .string ByteArray.empty] 25)) (some ⟨w.heap.size, 0, none⟩) 4 3 (fun i => pcells (f46 i)) := by
  have h := Blk.new w #[.int .i64 0, .int .u32 0, .int .u32 0, .string ByteArray.empty, .int .i64 0, .int .u32 3, .int .u32 0, .string ByteArray.empty, .int .i64 0, .int .u32 5, .int .u32 0, .string ByteArray.empty] 25
  refine .inr ⟨_, _, rfl, h.lt, fun i hi j v hv => ?_⟩
  have hij : (#[.int .i64 0, .int .u32 0, .int .u32 0, .string ByteArray.empty, .int .i64 0, .int .u32 3, .int .u32 0, .string ByteArray.empty, .int .i64 0, .int .u32 5, .int .u32 0, .string ByteArray.empty] : Array Value)[i * 4 + j]? = some v := by
    have hj : j < 4 := by
      have := (List.getElem?_eq_some_iff.1 hv).1
      simpa [pcells] using this
    have h01 : i = 0 ∨ i = 1 ∨ i = 2 := by omega
    have h0123 : j = 0 ∨ j = 1 ∨ j = 2 ∨ j = 3 := by omega
    rcases h01 with rfl | rfl | rfl <;> rcases h0123 with rfl | rfl | rfl | rfl <;> simpa [pcells, f46] using hv
  have := (h.cell (i * 4 + j)).trans hij
  rw [Nat.zero_add]
  exact this
theorem sum46 : sumTo f46 (3 - 1) = ⟨0, 13⟩ := by
  have h0 : leg f46 0 = ⟨0, 9⟩ := by simp [leg, f46, dHi, dLo, hiS, loS, caS, sqI, apartI]; decide
  have h1 : leg f46 1 = ⟨0, 4⟩ := by simp [leg, f46, dHi, dLo, hiS, loS, caS, sqI, apartI]; decide
  simp only [Nat.reduceSub, sumTo, h0, h1]
  simp [addD, hiS, loS, caS]
theorem str46 : (keepL strStep f46 3).length = 2 := by
  have h1 : keepL strStep f46 1 = [f46 0] := rfl
  have h2 : keepL strStep f46 2 = [f46 0, f46 1] := by
    show strStep (keepL strStep f46 1) (f46 1) = _
    rw [h1]
    simp [strStep, lastP, ptAt, samB, f46]
  have h3 : keepL strStep f46 3 = [f46 0, f46 2] := by
    show strStep (keepL strStep f46 2) (f46 2) = _
    rw [h2]
    simp [strStep, lastP, lastP2, ptAt, samB, f46, onB2, onB, p2, btw, tn, turnI, cmpI]
    decide
  rw [h3]; rfl

set_option maxRecDepth 100000 in
set_option maxHeartbeats 4000000 in
theorem alive46 (w : World) : Calls Try.prog 18 #[] w fun e w' => e = .returned (.bool true) ∧ Below w.heap.size w w' := by
  have hb1 : Below w.heap.size w (w.alloc (.cells #[.int .i64 0, .int .u32 0, .int .u32 0, .string ByteArray.empty, .int .i64 0, .int .u32 3, .int .u32 0, .string ByteArray.empty, .int .i64 0, .int .u32 5, .int .u32 0, .string ByteArray.empty] 25)) := (Below.refl _ _).alloc (Nat.le_refl _) _
  have HR := row46 w
  have KL := hid (legs_any (some ⟨w.heap.size, 0, none⟩) 3 3 f46 f46_ok (Nat.le_refl _) (by decide) (by decide) _ HR)
  have HRh := hid HR
  have hbh := hid hb1
  have KS := hid (fun wx (H : RowP wx (some ⟨w.heap.size, 0, none⟩) 4 3 (fun i => pcells (f46 i))) => straight_any (some ⟨w.heap.size, 0, none⟩) 3 3 f46 f46_ok (Nat.le_refl _) (by decide) (by decide) wx H)
  have KN := hid (fun wx (H : RowP wx (some ⟨w.heap.size, 0, none⟩) 4 3 (fun i => pcells (f46 i))) => length_any (some ⟨w.heap.size, 0, none⟩) 3 3 f46 f46_ok (Nat.le_refl _) (by decide) (by decide) wx H)
  rw [sum46] at KN
  have hl := hid (legsTo_len f46 (3 - 1))
  have hs := hid str46
  generalize legsTo f46 (3 - 1) = LL at *
  generalize keepL strStep f46 3 = SS at *
  clear hb1 HR
  go_enter Try.func18, Try.ntmps18
  go_wp2_with fail
  refine KL.out.mono ?_
  rintro e w3 ⟨v, rfl, HD, hb⟩
  obtain ⟨pv, cv, rfl, c1, c2, RD⟩ := HD.open
  rw [hl.out] at c1 ⊢
  have hr3 := hid (HRh.out.more hb)
  have hb3 := hid (below2 hbh.out hb hbh.out.size)
  clear HD RD hb KL
  go_wp2_with fail
  refine (KN.out _ hr3.out).mono ?_
  rintro e w4 ⟨rfl, hb⟩
  have hr4 := hid (hr3.out.more hb)
  have hb4 := hid (below2 hb3.out hb hb3.out.size)
  clear hb KN
  go_wp2_with fail
  refine (KS.out _ hr4.out).mono ?_
  rintro e w5 ⟨v, rfl, ⟨q, c, rfl, d1, d2, RS⟩, hb⟩
  rw [hs.out]
  have hb5 := hid (below2 hb4.out hb hb4.out.size)
  clear hb KS RS
  go_wp2_with fail
  go_ret
  exact ⟨rfl, hb5.out⟩
end Go.Proofs.Ytjenhnigdgkkoaa
