/-
  Package plan: what Parts calls.
-/
import Derived.Test.YtibjccfillhfpaaPlanMath
import Derived.Test.YtibjccfillhfpaaLayout
namespace Go.Proofs.Ytibjccfillhfpaa
open Go.RowKit
set_option linter.unusedVariables false
set_option linter.unusedSimpArgs false

set_option maxRecDepth 100000 in
set_option maxHeartbeats 4000000 in
theorem written_any (nx : Int) (la : Bool) (p : Option Addr) (cap : Nat) (L : List En) (h1 : L.length ≤ cap) (h2 : cap ≤ maxLen) (w : World) (HR : RowOf enT w p L) :
    Calls Try.prog 22 #[smval nx la p L.length cap] w fun e w' => e = .returned (.int .i64 (wrN L : Int)) ∧ Below w.heap.size w w' := by
  have hb0 : Below w.heap.size w (w.alloc (.cells (smcells nx la p L.length cap) 39)) := (Below.refl _ _).alloc (Nat.le_refl _) _
  have hR0 := hid (en_rowp HR)
  have D0 := hid hb0
  unfold maxLen at h2
  clear HR hb0
  have hst := hid (fun k h => wrN_take L k h)
  have hle := hid (fun k => wrN_le (L.take k))
  have hfull : Hid (wrN (L.take L.length) = wrN L) := hid (by rw [List.take_length])
  have hz : Hid (wrN (L.take 0) = 0) := hid (by rw [List.take_zero]; rfl)
  obtain ⟨n, hn⟩ : ∃ n, L.length = n := ⟨_, rfl⟩
  rw [hn] at h1 hR0 hfull hst D0 ⊢
  have htk := hid (fun k => (List.length_take (i := k) (l := L)))
  clear hn
  go_enter Try.func22, Try.ntmps22
  go_wp2_with fail
  go_loopw [3, 9, 5] (fun c i zz wx => ∃ k : Nat, k ≤ n ∧ i = .int .i64 (k : Int) ∧ c = .int .i64 (wrN (L.take k) : Int) ∧ Below w.heap.size w wx) (fun _ i _ _ => n - (intOf i).toNat)
  case atStart => exact ⟨0, by omega, rfl, by rw [hz.out]; rfl, D0.out⟩
  case round =>
    obtain ⟨k, hk, rfl, rfl, hb⟩ := hrel
    by_cases hlt : k < n
    · obtain ⟨b, o, rfl, R0⟩ := hR0.out.row (by omega)
      have R := R0.more hb
      have z0 := R.at0 hlt (v := .int .i64 (enAt L k).k) rfl
      have z1 := R.at1 hlt (v := .int .i64 (enAt L k).i) rfl
      have hbG := hid (hb.alloc hb.size (.cells #[.int .i64 (enAt L k).k, .int .i64 (enAt L k).i] 34))
      have hl := hle.out k
      rw [htk.out] at hl
      have hs := hst.out k hlt
      clear R R0 hb
      by_cases hk1 : (enAt L k).k = 1
      · rw [if_pos hk1] at hs
        replace hs := hid hs
        rw [hk1] at z0 hbG
        replace hk1 := hid hk1
        generalize wrN (L.take k) = c at *
        have uc : IntKind.i64.wrap ((c : Int) + 1) = (c : Int) + 1 := IntWalk.i64_in _ (by omega)
        go_wp2_with fail
        go_roundw
        case rel => exact ⟨k + 1, by omega, by go_num, by rw [hs.out]; go_num, hbG.out⟩
        case measure => simp [intOf]; omega
      · rw [if_neg hk1] at hs
        replace hs := hid hs
        have hk1' : ((enAt L k).k == 1) = false := by simpa using hk1
        clear hk1
        go_wp2_with fail
        go_roundw
        case rel => exact ⟨k + 1, by omega, by go_num, by rw [hs.out]; rfl, hbG.out⟩
        case measure => simp [intOf]; omega
    · obtain rfl : k = n := by omega
      rw [hfull.out]
      replace hb := hid hb
      go_wp2
      go_ret
      exact ⟨rfl, hb.out⟩

set_option maxRecDepth 100000 in
set_option maxHeartbeats 2000000 in
theorem eclone_any (p : Option Addr) (cap : Nat) (L : List En) (hl : L.length ≤ 1000000) (w : World) (R : RowOf enT w p L) (hp : p = none → L = []) :
    Calls Try.prog 21 #[.slice p L.length cap] w fun e w' => ∃ v, e = .returned v ∧ RowOwn enT w' w.heap.size v L ∧ Below w.heap.size w w' := by
  rcases p with _ | x
  · obtain rfl := hp rfl
    have ke := fun w => Lib.run_eql_slice_nil_nil (P := Try.prog) w (t := 27) (e := 34) 0 cap Try.underlying27
    go_enter Try.func21, Try.ntmps21
    go_wp2_with fail
    go_ret
    exact ⟨_, rfl, RowOwn.nil _ _, Below.refl _ _⟩
  · have ke := fun w => Lib.run_eql_slice_some_nil (P := Try.prog) w (t := 27) (e := 34) x L.length cap Try.underlying27
    have OM : RowOwn enT (w.alloc (.cells #[] 34)) w.heap.size (.slice (some ⟨w.heap.size, 0, none⟩) 0 0) [] := World.ownsRow_made (size := 2) w #[] 0 (Nat.le_refl _) (Nat.zero_le _) rfl
    have hb0 : Below w.heap.size w (w.alloc (.cells #[] 34)) := Below.alloc (Below.refl _ _) (Nat.le_refl _) _
    obtain ⟨v', w', hr, O', gr, mv⟩ := append_row enOk w.heap.size 27 (w.alloc (.cells #[] 34)) _ [] OM (some x) cap L (RowOf.more R hb0) (by show (0 + L.length) * 16 ≤ _; omega) (by unfold maxLen; simp; omega) (by simp)
    have E : Hid (RowOwn enT w' w.heap.size v' L ∧ Below w.heap.size w w') := hid ⟨O', Below.grown hb0 gr (by simp) fun k hk => (OM.within k hk).1⟩
    clear R OM hb0 O' gr mv hp
    replace hl := hid hl
    go_enter Try.func21, Try.ntmps21
    go_wp2_with (at_builtin; go_loud (refine Lib.wpList_append_run _ rfl _ _ _ _ rfl _ _ rfl rfl _ _ hr ?_))
    go_ret
    exact ⟨_, rfl, E.out.1, E.out.2⟩
set_option maxRecDepth 100000 in
set_option maxHeartbeats 2000000 in
theorem iclone_any (p : Option Addr) (cap : Nat) (L : List Int) (hl : L.length ≤ 17592186044416) (w : World) (R : RowOf inT w p L) (hp : p = none → L = []) :
    Calls Try.prog 23 #[.slice p L.length cap] w fun e w' => ∃ v, e = .returned v ∧ RowOwn inT w' w.heap.size v L ∧ Below w.heap.size w w' := by
  rcases p with _ | x
  · obtain rfl := hp rfl
    have ke := fun w => Lib.run_eql_slice_nil_nil (P := Try.prog) w (t := 26) (e := 3) 0 cap Try.underlying26
    go_enter Try.func23, Try.ntmps23
    go_wp2_with fail
    go_ret
    exact ⟨_, rfl, RowOwn.nil _ _, Below.refl _ _⟩
  · have ke := fun w => Lib.run_eql_slice_some_nil (P := Try.prog) w (t := 26) (e := 3) x L.length cap Try.underlying26
    have OM : RowOwn inT (w.alloc (.cells #[] 3)) w.heap.size (.slice (some ⟨w.heap.size, 0, none⟩) 0 0) [] := World.ownsRow_made (size := 1) w #[] 0 (Nat.le_refl _) (Nat.zero_le _) rfl
    have hb0 : Below w.heap.size w (w.alloc (.cells #[] 3)) := Below.alloc (Below.refl _ _) (Nat.le_refl _) _
    obtain ⟨v', w', hr, O', gr, mv⟩ := append_row inOk w.heap.size 26 (w.alloc (.cells #[] 3)) _ [] OM (some x) cap L (RowOf.more R hb0) (by show (0 + L.length) * 8 ≤ _; omega) (by unfold maxLen; simp; omega) (by simp)
    have E : Hid (RowOwn inT w' w.heap.size v' L ∧ Below w.heap.size w w') := hid ⟨O', Below.grown hb0 gr (by simp) fun k hk => (OM.within k hk).1⟩
    clear R OM hb0 O' gr mv hp
    replace hl := hid hl
    go_enter Try.func23, Try.ntmps23
    go_wp2_with (at_builtin; go_loud (refine Lib.wpList_append_run _ rfl _ _ _ _ rfl _ _ rfl rfl _ _ hr ?_))
    go_ret
    exact ⟨_, rfl, E.out.1, E.out.2⟩
end Go.Proofs.Ytibjccfillhfpaa
