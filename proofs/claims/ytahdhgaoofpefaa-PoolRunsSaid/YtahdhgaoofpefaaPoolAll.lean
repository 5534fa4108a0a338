/-
  package pool: All, New, Clone.
-/
import Derived.Test.YtahdhgaoofpefaaPool
namespace Go.Proofs.Ytahdhgaoofpefaa
open Go.RowKit Go.Conc
set_option linter.unusedVariables false
set_option linter.unusedSimpArgs false

def slen : Value → Nat
  | .slice _ n _ => n
  | _ => 0

theorem take_snoc (l : List Int) (k : Nat) (hk : k < l.length) : l.take k ++ [l.getD k 0] = l.take (k + 1) := by
  rw [List.take_add_one, List.getElem?_eq_getElem hk]
  simp [List.getD, hk]

set_option maxRecDepth 100000 in
set_option maxHeartbeats 4000000 in
theorem all_any (p c : Nat) (l : List Int) (w : World) (H : PoolS w p c l) :
    Calls Try.prog 16 #[.pointer (some ⟨p, 0, none⟩)] w fun e w' => ∃ v, e = .returned v ∧ IntsOwn w' w.heap.size v l ∧ PoolS w' p c l ∧ Sole (fun k => k = c) w w' := by
  obtain ⟨i0, hi, hz0, hz1, hz2⟩ := info_parts intTab
  have hroom := H.room
  have hcw := H.chan.lt
  have hpw := H.box.lt
  have hne := H.apart
  have HH := hid H
  clear H
  go_enter Try.func16, Try.ntmps16
  go_wp2_with fail
  go_step3
  go_wp2_with fail
  go_step3
  go_wp2_with fail
  go_loopw [3] (fun v wr => ∃ done rest : List Int, l = done ++ rest ∧ IntsOwn wr w.heap.size v done ∧ PoolS wr p c rest ∧ Sole (fun k => k = c) w wr) (fun v _ => 33 - slen v)
  case atStart => exact ⟨[], l, rfl, IntsOwn.nil _ _, HH.out, Sole.refl _ _⟩
  case round =>
    obtain ⟨done, rest, hl, HO, HP, HS⟩ := hrel
    obtain ⟨lb, kb, fb⟩ := HP.box
    obtain ⟨s, r, hc⟩ := HP.chan
    have hlen : done.length + rest.length ≤ 32 := by have h := hroom; rw [hl, List.length_append] at h; exact h
    have hlh := hid hl
    clear hl
    cases rest with
    | nil =>
      go_upto_region 5 with (fail)
      refine wp_region_comm rfl rfl (cases := #[rcase c (.int .i64 0)]) (blocking := false) (shape := .select) (by simp [go_sem, execOp, rcase, Act.eval]) (select_none hc) ?_
      have HP' := hid HP
      have HS' := hid HS
      obtain ⟨q, cc, rfl, c1, c2, R⟩ := HO.open
      have HO' := hid HO
      have hR := hid R
      have hdl : done = l := by have h := hlh.out; simpa using h.symm
      subst hdl
      clear hc kb fb HP HS HO R hlh
      go_wp2_with fail
      go_loopw [23] (fun i wx => ∃ k : Nat, k ≤ done.length ∧ i = .int .i64 (k : Int) ∧ IntsOwn wx w.heap.size (.slice q done.length cc) done ∧ PoolS wx p c (done.take k) ∧ Sole (fun k => k = c) w wx) (fun i _ => done.length - (intOf i).toNat)
      case atStart => exact ⟨0, by omega, rfl, HO'.out, by rw [List.take_zero]; exact HP'.out, HS'.out⟩
      case round =>
        obtain ⟨k, hk, rfl, HO3, HP3, HS3⟩ := hrel
        have HO3h := hid HO3
        have HP3h := hid HP3
        have HS3h := hid HS3
        by_cases hlt : k < done.length
        · obtain ⟨q', cc', e', -, -, R3⟩ := HO3.open
          cases e'
          obtain ⟨b, o, rfl, R4⟩ := R3.row (by omega)
          have z0 := R4.at0 hlt (v := .int .i64 (done.getD k 0)) rfl
          simp only [Nat.mul_one] at z0
          have KP := hid (put_any p c (done.take k) (done.getD k 0) wr HP3)
          have htk : (done.take k).length = k := by rw [List.length_take]; omega
          rw [htk] at KP
          have h32 : k < 32 := by omega
          rw [if_pos h32, decide_eq_true h32, take_snoc done k hlt] at KP
          have hlt' : (k : Int) < (done.length : Int) := by omega
          generalize done.getD k 0 = x at *
          clear R3 R4 HO3 HP3 HS3 hR
          go_wp2_with fail
          refine KP.out.mono ?_
          rintro e w4 ⟨rfl, P4, S4⟩
          have P4h := hid P4
          have S4h := hid (HS3h.out.trans S4)
          have O4h := hid (show IntsOwn w4 w.heap.size _ done from own_sole HO3h.out S4 (fun k hk e => by have := (HO3h.out.lt k hk).1; omega))
          clear P4 S4 KP z0
          go_wp2_with fail
          go_roundw
          case rel => exact ⟨k + 1, hlt, by go_num, O4h.out, P4h.out, S4h.out⟩
          case measure => simp [intOf]; omega
        · obtain rfl : k = done.length := by omega
          rw [List.take_length] at HP3h
          clear HO3 HP3 HS3
          go_wp2_with fail
          try rw [Exit.noGoto_ret]
          go_ret
          exact ⟨_, rfl, HO3h.out, HP3h.out, HS3h.out⟩
    | cons x rest =>
      go_upto_region 5 with (fail)
      refine wp_region_comm rfl rfl (cases := #[rcase c (.int .i64 0)]) (blocking := false) (shape := .select) (by simp [go_sem, execOp, rcase, Act.eval]) (select_recv hc) ?_
      have HT := hid (HP.turn rest (by simp at hlen; omega) s (r + 1))
      have hsc := sole_chan (w := wr) (c := c) (cap := 32) (buf := (rest.map (Value.int .i64)).toArray) (cl := false) (s := s) (r := r + 1) (tm := false)
      have HS2 := hid (HS.trans hsc)
      have hown := own_sole HO hsc (fun k hk e => by have := (HO.lt k hk).1; omega)
      obtain ⟨q, cc, rfl, c1, c2, -⟩ := HO.open
      have HO2 := hid hown
      simp only [List.length_cons] at hlen
      clear hown hsc HO HS HP
      generalize wr.setChan c 32 (rest.map (Value.int .i64)).toArray false s (r + 1) false = W at *
      have hnews := hid (new_cells W #[.int .i64 x] 3)
      clear hc kb fb
      go_wp2_with (at_builtin; refine wpList_append_own _ rfl _ _ 22 rfl w.heap.size 3 i0 (.int .i64 0) 1 8 Try.underlying22 hi hz0 hz1 hz2 rfl (by decide) (.slice q done.length cc) done.length (done.map (Value.int .i64)) (by kernel_rfl) (HO2.out.alloc _) ⟨W.heap.size, 0, none⟩ 1 1 [.int .i64 x] (by kernel_rfl) rfl hnews.out (one_int x) (by unfold maxLen; omega) (by omega) (by first | omega | (simp; have := HS2.out.size; omega)) ?_)
      intro v9 w9 hown hgrow hne
      have hs9 : Sole (fun k => w.heap.size ≤ k) W w9 := (Sole.alloc W _).trans (Sole.grown hgrow (fun k hk => (HO2.out.lt k hk).1))
      have O9 : IntsOwn w9 w.heap.size v9 (done ++ [x]) := by
        unfold IntsOwn
        rw [List.length_append, List.map_append]
        exact hown
      have P9 := hid (HT.out.sole hs9 (by omega) (by omega))
      have S9 := hid (HS2.out.trans' hs9 (fun k hk h => absurd h (by omega)))
      obtain ⟨q9, cc9, rfl, -, -, -⟩ := O9.open
      have hl9 : (done ++ [x]).length = done.length + 1 := by simp
      rw [hl9] at O9
      have O9h := hid O9
      clear hown hgrow hne hs9 O9 HO2 HT HS2 hnews
      rw [hl9]
      go_wp2_with fail
      go_roundw
      case rel => exact ⟨done ++ [x], rest, by rw [hlh.out]; simp, O9h.out, P9.out, S9.out⟩
      case measure => simp [slen]; omega
end Go.Proofs.Ytahdhgaoofpefaa
