/-
  The document's own sectors: Sound, Read.
-/
import Derived.Test.YtgnnikjpnmalmaaFrameOpen
import Derived.Test.YtgnnikjpnmalmaaRegion
namespace Go.Proofs.Ytgnnikjpnmalmaa
open Go.RowKit
set_option linter.unusedVariables false
set_option linter.unusedSimpArgs false

set_option maxRecDepth 100000 in
set_option maxHeartbeats 8000000 in
theorem refSound_any (l : List UInt8) (a : Option Addr) (cap : Nat) (h1 : l.length ≤ cap) (h2 : cap ≤ maxLen) (w : World) (O : Octs w a l) :
    Calls Try.prog 53 #[.slice a l.length cap] w fun e w' => e = .returned (.bool (soundB l)) ∧ Below w.heap.size w w' := by
  by_cases hlen : l.length = 256
  · obtain ⟨b, o, rfl, hb, hc⟩ := O.row (by intro h; rw [h] at hlen; cases hlen)
    rw [hlen] at h1 ⊢
    have O1 := O.drop 252
    have O2 := O.take 252
    have l1 : (l.drop 252).length = 4 := by simp [hlen]
    have l2 : (l.take 252).length = 252 := by simp [hlen]
    have KG := fun (wx : World) (hb : Below w.heap.size w wx) => refGet_any (l.drop 252) (some ⟨b, o + 252, none⟩) (cap - 252) wx (O1.more hb) (by omega)
    have KS := fun (wx : World) (hb : Below w.heap.size w wx) => refSum_any (l.take 252) (some ⟨b, o, none⟩) cap wx (O2.more hb) (by omega)
    rw [l1] at KG
    rw [l2] at KS
    rw [← crcN_int] at KS
    have hs : Hid (soundB l = ((numOf (l.drop 252) : Int) == (crcN (l.take 252) : Int))) := hid (by
      unfold soundB
      rw [hlen]
      by_cases h : numOf (l.drop 252) = crcN (l.take 252)
      · rw [h]; simp
      · have h' : ¬ (numOf (l.drop 252) : Int) = (crcN (l.take 252) : Int) := by omega
        simp [h, h'])
    unfold maxLen at h2
    have e1 : (252 : Int) ≤ cap := by omega
    have e2 : (256 : Int) ≤ cap := by omega
    have cl := crcN_lt (l.take 252)
    have cl0 : 0 ≤ (crcN (l.take 252) : Int) ∧ (crcN (l.take 252) : Int) ≤ 4294967295 := by omega
    have cw : IntKind.i64.wrap (crcN (l.take 252) : Int) = (crcN (l.take 252) : Int) := IntWalk.i64_in _ (by omega)
    have hcap : ¬ cap = 252 := by omega
    replace KG := hid KG
    replace KS := hid KS
    clear O hc O1 O2 cl
    go_enter Try.func53, Try.ntmps53
    go_wp2_with fail
    refine wp_region_late 13 (by kernel_rfl) (by kernel_rfl) ?_
    simp only [List.take_succ_cons, List.take_zero, List.drop_succ_cons, List.drop_zero]
    repeat (go_big_quiet_step (first | (go_at_call 76; (with_reducible exact late_same (KG.out _ (Later.h _)))) | (go_at_call 18; (with_reducible exact late_same (KS.out _ (Later.h _))))))
    refine wpQuiet_nil ?_
    intro w5 h5'
    have h5 := hid (late_out h5')
    clear h5'
    go_wp2_with fail
    go_ret
    exact ⟨by rw [hs.out]; rfl, h5.out⟩
  · have hne : ((l.length : Int) == 256) = false := by simp; omega
    have hs : Hid (soundB l = false) := hid (by unfold soundB; simp [hlen])
    have hl' : (l.length : Int) ≤ 9223372036854775807 := by unfold maxLen at h2; omega
    clear hlen h1 h2 O
    go_enter Try.func53, Try.ntmps53
    go_wp2_with fail
    go_quiet (fail)
    go_wp2
    go_ret
    exact ⟨by rw [hs.out]; rfl, ⟨rfl, rfl, rfl, Nat.le_refl _, fun _ _ => rfl⟩⟩
end Go.Proofs.Ytgnnikjpnmalmaa
