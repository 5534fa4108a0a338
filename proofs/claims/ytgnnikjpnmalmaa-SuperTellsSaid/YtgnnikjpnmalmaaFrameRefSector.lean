/-
  The document's own sectors: Sector.
-/
import Derived.Test.YtgnnikjpnmalmaaFrameSeal
import Derived.Test.YtgnnikjpnmalmaaRefNum
namespace Go.Proofs.Ytgnnikjpnmalmaa
open Go.RowKit
set_option linter.unusedVariables false
set_option linter.unusedSimpArgs false

set_option maxRecDepth 100000 in
set_option maxHeartbeats 8000000 in
theorem sector_bad (kind : Int) (t : Stp) (l : List UInt8) (a : Option Addr) (cap : Nat) (hl : l.length ≤ 9223372036854775807) (h : ¬ (stFits kind t ∧ l.length ≤ 238)) (w : World) :
    Calls Try.prog 49 #[.int .i64 kind, sval t, .slice a l.length cap] w (SealPost kind t l w) := by
  have E : Hid (∀ c, c = sealC kind t l.length → SealPost kind t l w (.returned (.tuple #[.slice none 0 0, .int .i64 c])) (w.alloc (.cells (scells t) 75))) := hid (fun c hc =>
    ⟨.slice none 0 0, by rw [hc], by unfold sealL; rw [if_neg h]; exact Fresh.none ((Below.refl _ _).alloc (Nat.le_refl _) _)⟩)
  have bad : ∀ h : ¬ stFits kind t, sealC kind t l.length = 4 := fun h => by unfold sealC; rw [if_neg h]
  have hlI : (l.length : Int) ≤ 9223372036854775807 := by omega

  by_cases c0 : kind < 0
  · have E4 := hid (E.out 4 (Eq.symm (bad fun hf => by obtain ⟨k0, k1, e0, e1, s0, s1, a0, a1⟩ := hf; omega)))
    clear E bad h hl hlI
    go_enter Try.func49, Try.ntmps49
    go_wp2_with fail
    go_ret2
    exact E4.out
  by_cases c1 : 255 < kind
  · have E4 := hid (E.out 4 (Eq.symm (bad fun hf => by obtain ⟨k0, k1, e0, e1, s0, s1, a0, a1⟩ := hf; omega)))
    replace c0 := decide_eq_false c0
    clear E bad h hl hlI
    go_enter Try.func49, Try.ntmps49
    go_wp2_with fail
    go_ret2
    exact E4.out
  by_cases c2 : t.e < 0
  · have E4 := hid (E.out 4 (Eq.symm (bad fun hf => by obtain ⟨k0, k1, e0, e1, s0, s1, a0, a1⟩ := hf; omega)))
    replace c0 := decide_eq_false c0
    replace c1 := decide_eq_false c1
    clear E bad h hl hlI
    go_enter Try.func49, Try.ntmps49
    go_wp2_with fail
    go_ret2
    exact E4.out
  by_cases c3 : 4294967295 < t.e
  · have E4 := hid (E.out 4 (Eq.symm (bad fun hf => by obtain ⟨k0, k1, e0, e1, s0, s1, a0, a1⟩ := hf; omega)))
    replace c0 := decide_eq_false c0
    replace c1 := decide_eq_false c1
    replace c2 := decide_eq_false c2
    clear E bad h hl hlI
    go_enter Try.func49, Try.ntmps49
    go_wp2_with fail
    go_ret2
    exact E4.out
  by_cases c4 : t.s < 0
  · have E4 := hid (E.out 4 (Eq.symm (bad fun hf => by obtain ⟨k0, k1, e0, e1, s0, s1, a0, a1⟩ := hf; omega)))
    replace c0 := decide_eq_false c0
    replace c1 := decide_eq_false c1
    replace c2 := decide_eq_false c2
    replace c3 := decide_eq_false c3
    clear E bad h hl hlI
    go_enter Try.func49, Try.ntmps49
    go_wp2_with fail
    go_ret2
    exact E4.out
  by_cases c5 : 4294967295 < t.s
  · have E4 := hid (E.out 4 (Eq.symm (bad fun hf => by obtain ⟨k0, k1, e0, e1, s0, s1, a0, a1⟩ := hf; omega)))
    replace c0 := decide_eq_false c0
    replace c1 := decide_eq_false c1
    replace c2 := decide_eq_false c2
    replace c3 := decide_eq_false c3
    replace c4 := decide_eq_false c4
    clear E bad h hl hlI
    go_enter Try.func49, Try.ntmps49
    go_wp2_with fail
    go_ret2
    exact E4.out
  by_cases c6 : t.a < 0
  · have E4 := hid (E.out 4 (Eq.symm (bad fun hf => by obtain ⟨k0, k1, e0, e1, s0, s1, a0, a1⟩ := hf; omega)))
    replace c0 := decide_eq_false c0
    replace c1 := decide_eq_false c1
    replace c2 := decide_eq_false c2
    replace c3 := decide_eq_false c3
    replace c4 := decide_eq_false c4
    replace c5 := decide_eq_false c5
    clear E bad h hl hlI
    go_enter Try.func49, Try.ntmps49
    go_wp2_with fail
    go_ret2
    exact E4.out
  by_cases c7 : 65535 < t.a
  · have E4 := hid (E.out 4 (Eq.symm (bad fun hf => by obtain ⟨k0, k1, e0, e1, s0, s1, a0, a1⟩ := hf; omega)))
    replace c0 := decide_eq_false c0
    replace c1 := decide_eq_false c1
    replace c2 := decide_eq_false c2
    replace c3 := decide_eq_false c3
    replace c4 := decide_eq_false c4
    replace c5 := decide_eq_false c5
    replace c6 := decide_eq_false c6
    clear E bad h hl hlI
    go_enter Try.func49, Try.ntmps49
    go_wp2_with fail
    go_ret2
    exact E4.out
  have hf : stFits kind t := ⟨by omega, by omega, by omega, by omega, by omega, by omega, by omega, by omega⟩
  have hlong : 238 < (l.length : Int) := by
    have : ¬ l.length ≤ 238 := fun hh => h ⟨hf, hh⟩
    omega
  have E4 := hid (E.out 5 (show 5 = sealC kind t l.length by unfold sealC; rw [if_pos hf, if_neg (by omega)]))
  replace c0 := decide_eq_false c0
  replace c1 := decide_eq_false c1
  replace c2 := decide_eq_false c2
  replace c3 := decide_eq_false c3
  replace c4 := decide_eq_false c4
  replace c5 := decide_eq_false c5
  replace c6 := decide_eq_false c6
  replace c7 := decide_eq_false c7
  clear E bad h hl hf
  go_enter Try.func49, Try.ntmps49
  go_wp2_with fail
  go_ret2
  exact E4.out
end Go.Proofs.Ytgnnikjpnmalmaa
