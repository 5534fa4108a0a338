/-
  Package plan: how many entries a part takes; which entries, and which places, may not be.
-/
import Derived.Test.YtibjccfillhfpaaPlanFns
namespace Go.Proofs.Ytibjccfillhfpaa
open Go.RowKit
set_option linter.unusedVariables false
set_option linter.unusedSimpArgs false

set_option maxRecDepth 100000 in
theorem fitc_any (B : Nat) (v : Int) (x : En) (h1 : -100000 ≤ v) (h2 : v ≤ 100000) (w : World) (HB : Blk w B #[.int .i64 v]) :
    Calls Try.prog 32 #[.agg #[.int .i64 x.k, .int .i64 x.i], .pointer (some ⟨B, 0, none⟩)] w fun e w' => e = .returned (.bool (decide (nxt x v < 0))) ∧ Blk w' B #[.int .i64 (nxt x v)] ∧ Sole (fun j => j = B) w w' := by
  have hlt := HB.lt
  have HB1 := HB.alloc (.cells #[.int .i64 x.k, .int .i64 x.i] 34)
  have S1 : Sole (fun j => j = B) w (w.alloc (.cells #[.int .i64 x.k, .int .i64 x.i] 34)) := Sole.alloc _ _
  rcases nxt_ways x v with ⟨g1, g2⟩ | ⟨g1, g2⟩
  · have hw : IntKind.i64.wrap (v - 1) = nxt x v := by rw [g2]; exact IntWalk.i64_in _ ⟨by omega, by omega⟩
    generalize nxt x v = u at *
    have B2 := HB.set 0 (.int .i64 u) (by simp)
    rw [show (#[Value.int .i64 v].setIfInBounds 0 (.int .i64 u)) = #[.int .i64 u] from rfl] at B2
    replace B2 := B2.alloc (.cells #[.int .i64 x.k, .int .i64 x.i] 34)
    have S2 : Sole (fun j => j = B) w ((w.setCell ⟨B, 0, none⟩ (.int .i64 u)).alloc (.cells #[.int .i64 x.k, .int .i64 x.i] 34)) := (Sole.setCell (S := fun j => j = B) (b := B) (o := 0) w (.int .i64 u) rfl).trans (Sole.alloc _ _)
    obtain ⟨l0, k0, f0⟩ := HB
    have E := hid (And.intro B2 S2)
    rw [g1] at E ⊢
    clear B2 S2 S1 HB1 g2 h1 h2
    go_enter Try.func32, Try.ntmps32
    go_wp2
    go_ret
    exact ⟨rfl, E.out.1, E.out.2⟩
  · have g1' : (x.k == 1) = false := by simpa using g1
    generalize nxt x v = u at *
    subst g2
    obtain ⟨l0, k0, f0⟩ := HB
    have E := hid (And.intro HB1 S1)
    clear S1 HB1 h1 h2 g1
    go_enter Try.func32, Try.ntmps32
    go_wp2
    go_ret
    exact ⟨rfl, E.out.1, E.out.2⟩

def ixI (F n : Nat) : Int := if F = n then -1 else F
set_option maxRecDepth 100000 in
set_option maxHeartbeats 2000000 in
theorem findex_any (B : Nat) (left : Int) (L : List En) (p : Option Addr) (cap : Nat) (h1 : L.length ≤ cap) (h2 : cap ≤ maxLen) (hl0 : 0 ≤ left) (hl1 : left ≤ 1000) (w : World) (HB : Blk w B #[.int .i64 left]) (HR : RowOf enT w p L) (hne : L.length ≠ 0 → ∀ b o, p = some ⟨b, o, none⟩ → b ≠ B) :
    Calls Try.prog 30 #[.slice p L.length cap, .func (.func 32) #[] #[.pointer (some ⟨B, 0, none⟩)]] w fun e w' => e = .returned (.int .i64 (ixI (fitN L left) L.length)) ∧ Sole (fun j => j = B) w w' := by
  have hR0 := hid (en_rowp HR)
  have hstep := hid (fun k h => fitN_step L left k h)
  have hwt := hid (fun k h => wrN_take L k h)
  have hnil : Hid (fitN (L.drop L.length) (left - wrN (L.take L.length)) = 0) := hid (by rw [List.drop_length]; rfl)
  obtain ⟨n, hn⟩ : ∃ n, L.length = n := ⟨_, rfl⟩
  rw [hn] at h1 hR0 hstep hwt hnil hne ⊢
  have h0 : Hid (fitN L left = 0 + fitN (L.drop 0) (left - wrN (L.take 0))) := hid (by simp [wrN])
  have hn63 : (n : Int) ≤ 9223372036854775807 := by unfold maxLen at h2; omega
  have HBh := hid HB
  have hw0 : Hid (wrN (L.take 0) = 0) := hid rfl
  generalize fitN L left = F at *
  clear HB HR hn
  go_enter Try.func30, Try.ntmps30
  go_wp2_with fail
  go_loopw [8] (fun i wr => ∃ k : Nat, k ≤ n ∧ i = .int .i64 (k : Int) ∧ F = k + fitN (L.drop k) (left - wrN (L.take k)) ∧ 0 ≤ left - (wrN (L.take k) : Int) ∧ Blk wr B #[.int .i64 (left - wrN (L.take k))] ∧ Sole (fun j => j = B) w wr) (fun i _ => n - (intOf i).toNat)
  case atStart => exact ⟨0, by omega, rfl, h0.out, by rw [hw0.out]; omega, by rw [hw0.out]; simpa using HBh.out, Sole.refl _ _⟩
  case round =>
    obtain ⟨k, hk, rfl, hF, hge, BB, SS⟩ := hrel
    have hFh := hid hF
    have SSh := hid SS
    by_cases hlt : k < n
    · have hst := hstep.out k hlt
      have hwk := hwt.out k hlt
      obtain ⟨b, o, rfl, R0⟩ := hR0.out.row (by omega)
      have R : Row wr b o 2 n (fun i => ecells (enAt L i)) := ⟨Nat.lt_of_lt_of_le R0.lt SS.size, fun i hi j v hv => (SS.cell R0.lt (hne (by omega) b o rfl)).trans (R0.cell i hi j v hv)⟩
      have z0 := R.at0 hlt (v := .int .i64 (enAt L k).k) rfl
      have z1 := R.at1 hlt (v := .int .i64 (enAt L k).i) rfl
      have hnx : nxt (enAt L k) (left - wrN (L.take k)) = left - (wrN (L.take (k + 1)) : Int) := by
        rw [hwk]
        rcases nxt_ways (enAt L k) (left - wrN (L.take k)) with ⟨g1, g2⟩ | ⟨g1, g2⟩
        · rw [g2, if_pos g1]; omega
        · rw [g2, if_neg g1]; omega
      have KC := hid (fitc_any B (left - wrN (L.take k)) (enAt L k) (by omega) (by omega) wr BB)
      rw [hnx] at KC
      have hlt1 : (k : Int) < (n : Int) := by omega
      have hk1 : IntKind.i64.wrap ((k : Int) + 1) = (k : Int) + 1 := IntWalk.i64_in _ ⟨by omega, by omega⟩
      clear R R0 BB SS hF hnx hwk
      by_cases hneg : left - (wrN (L.take (k + 1)) : Int) < 0
      · rw [decide_eq_true hneg] at KC
        have hFk : F = k := by have h := hFh.out; rw [hst, if_pos hneg] at h; omega
        have hFn : ¬ F = n := by omega
        have hres := hid (show ixI F n = (k : Int) by unfold ixI; rw [if_neg hFn, hFk])
        clear hst hFk hFn hneg
        replace hge := hid hge
        go_wp2_with fail
        refine KC.out.mono ?_
        rintro e w2 ⟨rfl, B2, S2⟩
        have S2h := hid (SSh.out.trans S2)
        clear B2 S2 KC z0 z1
        go_wp2_with fail
        go_ret
        exact ⟨by rw [hres.out]; rfl, S2h.out⟩
      · rw [decide_eq_false hneg] at KC
        have hF2 := hid (show F = (k + 1) + fitN (L.drop (k + 1)) (left - wrN (L.take (k + 1))) by have h := hFh.out; rw [hst, if_neg hneg] at h; omega)
        have hge2 := hid (show 0 ≤ left - (wrN (L.take (k + 1)) : Int) by omega)
        clear hst hneg
        replace hge := hid hge
        go_wp2_with fail
        refine KC.out.mono ?_
        rintro e w2 ⟨rfl, B2, S2⟩
        have S2h := hid (SSh.out.trans S2)
        have B2h := hid B2
        clear B2 S2 KC z0 z1
        go_wp2_with fail
        go_roundw
        case rel => exact ⟨k + 1, hlt, by go_num, hF2.out, hge2.out, B2h.out, S2h.out⟩
        case measure => simp [intOf]; omega
    · obtain rfl : k = n := by omega
      have hFk : F = k := by rw [hF, hnil.out]; rfl
      have hres := hid (show ixI F k = -1 by unfold ixI; rw [if_pos hFk])
      clear BB SS hF hge hFh hFk
      go_wp2_with fail
      go_ret
      exact ⟨by rw [hres.out]; rfl, SSh.out⟩

set_option maxRecDepth 100000 in
set_option maxHeartbeats 2000000 in
theorem fitting_any (left : Int) (L : List En) (p : Option Addr) (cap : Nat) (h1 : L.length ≤ cap) (h2 : cap ≤ maxLen) (hl0 : 0 ≤ left) (hl1 : left ≤ 1000) (w : World) (HR : RowOf enT w p L) :
    Calls Try.prog 20 #[.slice p L.length cap, .int .i64 left] w fun e w' => e = .returned (.int .i64 (fit L left : Int)) ∧ Below w.heap.size w w' := by
  have hmf : ∀ (fn : Fn) (first cap : Array Value) (w : World), (Instr.makeFunc fn first cap).run Try.prog w = .ok (.func fn first cap) w := fun _ _ _ _ => rfl
  have HB := Blk.new w #[.int .i64 left] 3
  have hb0 : Below w.heap.size w (w.alloc (.cells #[.int .i64 left] 3)) := (Below.refl _ _).alloc (Nat.le_refl _) _
  have hne : ∀ b o, p = some ⟨b, o, none⟩ → L.length ≠ 0 → b ≠ w.heap.size := fun b o e hn => by
    obtain ⟨b', o', e', r⟩ := (en_rowp HR).row hn
    rw [e] at e'; cases e'
    have := r.lt; omega
  have hfl := fitN_le L left
  have h64 := fit_64 L left
  have hfit : fit L left = min (fitN L left) 64 := rfl
  have KI := hid (findex_any w.heap.size left L p cap h1 h2 hl0 hl1 _ HB (RowOf.more HR hb0) (fun hn b o e => hne b o e hn))
  have hb0h := hid hb0
  obtain ⟨n, hnn⟩ : ∃ n, L.length = n := ⟨_, rfl⟩
  rw [hnn] at KI hfl h1 ⊢
  have hn63 : (n : Int) ≤ 9223372036854775807 := by unfold maxLen at h2; omega
  generalize fitN L left = F at *
  generalize fit L left = T at *
  clear HB hb0 hne HR hnn
  by_cases hF : F = n
  · rw [show ixI F n = -1 from if_pos hF] at KI
    have hmin : min (n : Int) 64 = (T : Int) := by omega
    clear hF hfl hfit
    go_enter Try.func20, Try.ntmps20
    go_wp2_with fail
    refine KI.out.mono ?_
    rintro e w2 ⟨rfl, S2⟩
    have D2 := hid (hb0h.out.trans (S2.below (by simp) (fun j hj => by omega)))
    clear S2 KI
    go_wp2_with fail
    go_ret
    exact ⟨rfl, D2.out⟩
  · rw [show ixI F n = (F : Int) from if_neg hF] at KI
    have hmin : min (F : Int) 64 = (T : Int) := by omega
    have hF0 : decide ((F : Int) < 0) = false := decide_eq_false (by omega)
    clear hF hfl hfit
    go_enter Try.func20, Try.ntmps20
    go_wp2_with fail
    refine KI.out.mono ?_
    rintro e w2 ⟨rfl, S2⟩
    have D2 := hid (hb0h.out.trans (S2.below (by simp) (fun j hj => by omega)))
    clear S2 KI
    go_wp2_with fail
    go_ret
    exact ⟨rfl, D2.out⟩
end Go.Proofs.Ytibjccfillhfpaa
