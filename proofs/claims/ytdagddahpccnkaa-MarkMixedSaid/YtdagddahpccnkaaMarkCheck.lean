/-
  Package mark: marks as cells; which may be: Check.
-/
import Derived.Test.YtdagddahpccnkaaOwnRow
import Derived.Test.YtdagddahpccnkaaArrArg
import Derived.Test.YtdagddahpccnkaaLittleNil
import Derived.Test.YtdagddahpccnkaaRegion
import Derived.WalkKit
namespace Go.Proofs.Ytdagddahpccnkaa
open Go.RowKit
set_option linter.unusedVariables false
set_option linter.unusedSimpArgs false

def miT : RowT Int := { ty := 3, sl := 57, sz := 1, bytes := 8, zero := .int .i64 0, cells := fun x => [.int .i64 x], dflt := 0 }
theorem miOk : miT.Ok := ⟨Try.underlying57, by kernel_rfl, rfl, by decide, fun _ => rfl, fun x u hu => by
  simp [miT] at hu
  rcases hu with rfl; rfl⟩
abbrev miAt (L : List Int) (i : Nat) : Int := atR miT L i
/-- From 0 to high. -/
def inB (high z : Int) : Bool := decide (0 ≤ z) && decide (z ≤ high)
theorem inB_iff (high z : Int) : inB high z = true ↔ 0 ≤ z ∧ z ≤ high := by simp [inB]
theorem inB_false {high z : Int} (h : inB high z = false) : z < 0 ∨ high < z := by
  simp [inB] at h; omega

set_option maxRecDepth 100000 in
theorem mout1_any (z high : Int) (b : Nat) (w : World) (B : Blk w b #[.int .i64 high]) :
    Calls Try.prog 32 #[.int .i64 z, .pointer (some ⟨b, 0, none⟩)] w fun e w' => e = .returned (.bool (!inB high z)) ∧ w' = w := by
  obtain ⟨l0, k0, f0⟩ := B
  by_cases h0 : z < 0
  · have hc := hid (show inB high z = false by simp [inB]; omega)
    have h0' : decide (z < 0) = true := decide_eq_true h0
    clear h0
    go_enter Try.func32, Try.ntmps32
    go_wp2
    go_ret
    exact ⟨by rw [hc.out]; rfl, rfl⟩
  · have h0' : decide (z < 0) = false := decide_eq_false h0
    by_cases h1 : high < z
    · have hc := hid (show inB high z = false by simp [inB]; omega)
      have h1' : decide (high < z) = true := decide_eq_true h1
      clear h0 h1
      go_enter Try.func32, Try.ntmps32
      go_wp2
      go_ret
      exact ⟨by rw [hc.out]; rfl, rfl⟩
    · have hc := hid (show inB high z = true by simp [inB]; omega)
      have h1' : decide (high < z) = false := decide_eq_false h1
      clear h0 h1
      go_enter Try.func32, Try.ntmps32
      go_wp2
      go_ret
      exact ⟨by rw [hc.out]; rfl, rfl⟩

set_option maxRecDepth 100000 in
set_option maxHeartbeats 2000000 in
theorem moutindex_any (high : Int) (bg : Nat) (L : List Int) (p : Option Addr) (cap : Nat) (h1 : L.length ≤ cap) (h2 : cap ≤ maxLen) (w : World) (HB : Blk w bg #[.int .i64 high]) (HR : RowOf miT w p L) :
    Calls Try.prog 42 #[.slice p L.length cap, .func (.func 32) #[] #[.pointer (some ⟨bg, 0, none⟩)]] w fun e w' => ∃ r : Int, e = .returned (.int .i64 r) ∧ decide (0 ≤ r) = !L.all (inB high) ∧ w' = w := by
  have hR0 : Hid (RowP w p 1 L.length (fun i => [.int .i64 (miAt L i)])) := hid HR
  have hall : Hid (∀ k, k < L.length → (L.take (k + 1)).all (inB high) = ((L.take k).all (inB high) && inB high (miAt L k))) := hid (fun k hk => by
    rw [List.take_add_one, List.getElem?_eq_getElem hk, ← atR_eq (T := miT) L k hk]
    simp [List.all_append])
  have hbad : Hid (∀ k, k < L.length → inB high (miAt L k) = false → L.all (inB high) = false) := hid (fun k hk hg => by
    rw [List.all_eq_false]
    exact ⟨_, atR_mem (T := miT) L k hk, by rw [show atR miT L k = miAt L k from rfl, hg]; simp⟩)
  have hfull : Hid ((L.take L.length).all (inB high) = L.all (inB high)) := hid (by rw [List.take_length])
  have h00 : Hid ((L.take 0).all (inB high) = true) := hid (by simp)
  have HBh := hid HB
  obtain ⟨n, hn⟩ : ∃ n, L.length = n := ⟨_, rfl⟩
  rw [hn] at h1 hR0 hall hbad hfull ⊢
  have hn63 : (n : Int) ≤ 9223372036854775807 := by unfold maxLen at h2; omega
  generalize L.all (inB high) = G at *
  clear HR hn HB
  go_enter Try.func42, Try.ntmps42
  go_wp2_with fail
  go_loopw [8] (fun i wr => wr = w ∧ ∃ k : Nat, k ≤ n ∧ i = .int .i64 (k : Int) ∧ (L.take k).all (inB high) = true) (fun i _ => n - (intOf i).toNat)
  case atStart => exact ⟨rfl, 0, by omega, rfl, h00.out⟩
  case round =>
    obtain ⟨rfl, k, hk, rfl, hg⟩ := hrel
    have hgh := hid hg
    by_cases hlt : k < n
    · obtain ⟨b, o, rfl, R⟩ := hR0.out.row (by omega)
      have z0 := R.at0 hlt (v := .int .i64 (miAt L k)) rfl
      rw [Nat.mul_one] at z0
      have KC := hid (mout1_any (miAt L k) high bg _ HBh.out)
      have hlt1 : (k : Int) < (n : Int) := by omega
      have hk1 : IntKind.i64.wrap ((k : Int) + 1) = (k : Int) + 1 := IntWalk.i64_in _ ⟨by omega, by omega⟩
      have hst := hid (hall.out k hlt)
      have hbd := hid (hbad.out k hlt)
      clear R hg
      cases hgk : inB high (miAt L k)
      · have hG := hid (hbd.out hgk)
        rw [hgk] at KC
        clear hgk hst hbd
        generalize miAt L k = y at *
        go_wp2_with fail
        refine KC.out.mono ?_
        rintro e w2 ⟨rfl, hw⟩
        rw [hw]
        clear hw w2 KC z0
        go_wp2_with fail
        go_ret
        exact ⟨_, rfl, by rw [hG.out]; simp, rfl⟩
      · have hst2 : Hid ((L.take (k + 1)).all (inB high) = true) := hid (by rw [hst.out, hgh.out, hgk]; rfl)
        rw [hgk] at KC
        clear hgk hst hbd
        generalize miAt L k = y at *
        go_wp2_with fail
        refine KC.out.mono ?_
        rintro e w2 ⟨rfl, hw⟩
        rw [hw]
        clear hw w2 KC z0
        go_wp2_with fail
        go_roundw
        case rel => exact ⟨by first | trivial | rfl, k + 1, hlt, by go_num, hst2.out⟩
        case measure => simp [intOf]; omega
    · obtain rfl : k = n := by omega
      have hG : Hid (G = true) := hid (by rw [← hfull.out]; exact hg)
      clear hg
      go_wp2_with fail
      go_ret
      exact ⟨_, rfl, by rw [hG.out]; rfl, rfl⟩

set_option maxRecDepth 100000 in
theorem mcont_any (high : Int) (bg : Nat) (L : List Int) (p : Option Addr) (cap : Nat) (h1 : L.length ≤ cap) (h2 : cap ≤ maxLen) (w : World) (HB : Blk w bg #[.int .i64 high]) (HR : RowOf miT w p L) :
    Calls Try.prog 31 #[.slice p L.length cap, .func (.func 32) #[] #[.pointer (some ⟨bg, 0, none⟩)]] w fun e w' => e = .returned (.bool (!L.all (inB high))) ∧ w' = w := by
  have KI := hid (moutindex_any high bg L p cap h1 h2 w HB HR)
  generalize L.length = n at *
  generalize (!L.all (inB high)) = G at *
  clear HR h1 h2 HB
  go_enter Try.func31, Try.ntmps31
  go_wp2_with fail
  refine KI.out.mono ?_
  rintro e w2 ⟨r, rfl, hr, hw⟩
  rw [hw]
  subst hr
  clear hw w2 KI
  go_wp2
  go_ret
  exact ⟨rfl, rfl⟩

set_option maxRecDepth 100000 in
theorem mout_any (high : Int) (L : List Int) (p : Option Addr) (cap : Nat) (h1 : L.length ≤ cap) (h2 : cap ≤ maxLen) (w : World) (HR : RowOf miT w p L) :
    Calls Try.prog 19 #[.int .i64 high, .slice p L.length cap] w fun e w' => e = .returned (.bool (!L.all (inB high))) ∧ Below w.heap.size w w' := by
  have hb := (Below.refl w.heap.size w).alloc (Nat.le_refl _) (.cells #[.int .i64 high] 3)
  have KC := hid (mcont_any high w.heap.size L p cap h1 h2 _ (Blk.new w #[.int .i64 high] 3) (RowOf.more HR hb))
  have hbh := hid hb
  generalize L.length = n at *
  generalize (!L.all (inB high)) = G at *
  clear HR h1 h2 hb
  go_enter Try.func19, Try.ntmps19
  go_wp2_with fail
  refine KC.out.mono ?_
  rintro e w2 ⟨rfl, hw⟩
  rw [hw]
  clear hw w2 KC
  go_wp2
  go_ret
  exact ⟨rfl, hbh.out⟩
end Go.Proofs.Ytdagddahpccnkaa
