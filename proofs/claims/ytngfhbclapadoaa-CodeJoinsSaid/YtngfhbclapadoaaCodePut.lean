/-
  Package code: Put: all steps' octets, or the first error.
-/
import Derived.Test.YtngfhbclapadoaaCodePut1
import Derived.Test.YtngfhbclapadoaaRefPoint
namespace Go.Proofs.Ytngfhbclapadoaa
open Go.RowKit
set_option linter.unusedVariables false
set_option linter.unusedSimpArgs false

theorem spO_step {L : List Sp} (h : spE L = 0) (k : Nat) (hk : k < L.length) : spO (L.take (k + 1)) = spO (L.take k) ++ stepO (spAt L k) := by
  rw [spO_take L k hk, if_pos (spE_all h k hk)]
theorem spO_fits {L : List Sp} (h60 : L.length ≤ 60) (k : Nat) (hk : k < L.length) : (spO (L.take k)).length + 788 ≤ 65536 := by
  have := spO_length (L.take k)
  rw [List.length_take, Nat.min_eq_left (by omega)] at this
  omega

set_option maxRecDepth 100000 in
set_option maxHeartbeats 8000000 in
theorem codeput_any (L : List Sp) (p : Option Addr) (cap : Nat) (hall : ∀ s ∈ L, s.ok) (h60 : L.length ≤ 60) (h1 : L.length ≤ cap) (h2 : cap ≤ maxLen) (w : World) (HR : RowOf spT w p L) (HT : ∀ s ∈ L, s.there w) :
    Calls Try.prog 19 #[.slice p L.length cap] w fun e w' => ∃ v, e = .returned (.tuple #[v, .int .i64 (spE L)]) ∧ Fresh w w' v (if spE L = 0 then spO L else []) := by
  have hR0 : Hid (RowP w p 8 L.length (fun i => spcells (spAt L i))) := hid HR
  have hT0 := hid (fun k (hk : k < L.length) => HT _ (atR_mem (T := spT) L k hk))
  have hok := hid (fun k (hk : k < L.length) => hall _ (atR_mem (T := spT) L k hk))
  have hstop := hid (fun k (hk : k < L.length) => spE_stop L k hk)
  have htake := hid (fun k (hk : k < L.length) => spE_take L k hk)
  have hfull : Hid (spE (L.take L.length) = spE L) := hid (by rw [List.take_length])
  have hfullO : Hid (spO (L.take L.length) = spO L) := hid (by rw [List.take_length])
  have hOs := hid (fun (h : spE L = 0) k (hk : k < L.length) => spO_step h k hk)
  have hfit := hid (fun k (hk : k < L.length) => spO_fits h60 k hk)
  have hle := hid (spO_length L)
  have hckz := hid (fun (h : spE L = 0) k (hk : k < L.length) => spE_all h k hk)
  have hE0 : Hid (spE (L.take 0) = 0) := hid rfl
  have hO0 : Hid (spO (L.take 0) = []) := hid rfl
  obtain ⟨n, hn⟩ : ∃ n, L.length = n := ⟨_, rfl⟩
  rw [hn] at h1 h60 hR0 hT0 hok hstop htake hfull hfullO hOs hfit hle hckz ⊢
  unfold maxLen at h2
  generalize spE L = E at *
  generalize hX : (if E = 0 then spO L else []) = X
  replace hX := hid hX
  clear HR HT hall hn
  go_enter Try.func19, Try.ntmps19
  go_wp2_with fail
  go_loopw [15, 5, 6] (fun i zz ze wx => ∃ k : Nat, k ≤ n ∧ i = .int .i64 (k : Int) ∧ spE (L.take k) = 0 ∧ Below w.heap.size w wx) (fun i _ _ _ => n - (intOf i).toNat)
  case atStart => exact ⟨0, by omega, rfl, hE0.out, Below.refl _ _⟩
  case round =>
    obtain ⟨k, hk, rfl, he, hb⟩ := hrel
    have hbh := hid hb
    have heh := hid he
    by_cases hlt : k < n
    · obtain ⟨b, o, rfl, R0⟩ := hR0.out.row (by omega)
      have R := R0.more hb
      have hsT := (hT0.out k hlt).more hb
      have hsok := hok.out k hlt
      have hst := hid (htake.out k hlt)
      have hsp := hid (hstop.out k hlt he)
      have hcells := fun j v (h : (spcells (spAt L k))[j]? = some v) => R.cell k hlt j v h
      have hbA : Below wr.heap.size wr (wr.alloc (.cells (sparr (spAt L k)) 49)) := (Below.refl _ _).alloc (Nat.le_refl _) _
      have K := hid (codecheck_any (spAt L k) hsok _ (hsT.more hbA))
      have D := hid (hb.alloc hb.size (.cells (sparr (spAt L k)) 49))
      clear R R0 hsT hsok hb he hbA
      generalize spAt L k = s at *
      obtain ⟨sk, sa, sx, sy, sx1, sy1, sd, sq, sfc, sf⟩ := s
      have z0 := hcells 0 _ rfl
      have z1 := hcells 1 _ rfl
      have z2 := hcells 2 _ rfl
      have z3 := hcells 3 _ rfl
      have z4 := hcells 4 _ rfl
      have z5 := hcells 5 _ rfl
      have z6 := hcells 6 _ rfl
      have z7 := hcells 7 _ rfl
      clear hcells
      dsimp only [spval, sparr, Nat.add_zero] at *
      generalize spCk _ = C at *
      by_cases hC : C = 0
      · subst hC
        have hst2 := hid (hst.out.trans (if_pos heh.out))
        clear hst hsp
        go_wp2_with fail
        refine K.out.mono ?_
        rintro e w2 ⟨rfl, hb2⟩
        have D2 := hid (below2 D.out hb2 D.out.size)
        clear K hb2 z0 z1 z2 z3 z4 z5 z6 z7
        go_wp2_with fail
        go_roundw
        case rel => exact ⟨k + 1, hlt, by go_num, hst2.out, D2.out⟩
        case measure => simp [intOf]; omega
      · have hE := hid (hsp.out hC)
        have hCb : (C != 0) = true := by simpa using hC
        have hX0 : Hid (X = []) := hid (by rw [← hX.out, hE.out, if_neg hC])
        clear hst hsp
        go_wp2_with fail
        refine K.out.mono ?_
        rintro e w2 ⟨rfl, hb2⟩
        have D2 := hid (below2 D.out hb2 D.out.size)
        clear K hb2 z0 z1 z2 z3 z4 z5 z6 z7
        go_wp2_with fail
        go_ret2
        exact ⟨.slice none 0 0, by rw [hE.out]; rfl, by rw [hX0.out]; exact ⟨none, 0, rfl, World.ownsRow_nil _ _ _ _, D2.out⟩⟩
    · obtain rfl : k = n := by omega
      have hE : E = 0 := hfull.out.symm.trans he
      subst hE
      have hXe := hid (hX.out.symm.trans (if_pos rfl))
      have KN := hid (ws_new 65536 65536 rfl wr)
      have hR1 := hid (hR0.out.more hb)
      have hT1 := hid (fun k hk => (hT0.out k hk).more hb)
      clear hb he hstop htake
      go_wp2_with fail
      refine (KN.out).mono ?_
      rintro e w2 ⟨rfl, S2⟩
      clear KN
      replace S2 := hid S2
      go_wp2_with fail
      go_loopw [28, 9] (fun i zz wx => ∃ q : Nat, q ≤ k ∧ i = .int .i64 (q : Int) ∧ WS wr wr.heap.size 65536 wx (spO (L.take q))) (fun i _ _ => k - (intOf i).toNat)
      case atStart => exact ⟨0, by omega, rfl, by rw [hO0.out]; exact S2.out⟩
      case round =>
        clear S2
        obtain ⟨q, hq, rfl, S⟩ := hrel
        by_cases hlt : q < k
        · obtain ⟨b, o, rfl, R0⟩ := hR1.out.row (by omega)
          have R := R0.more S.below
          have hsT := hT1.out q hlt
          have hsok := hok.out q hlt
          have hcz := hckz.out (by first | rfl | trivial) q hlt
          have hst := hid (hOs.out (by first | rfl | trivial) q hlt)
          have hft := hfit.out q hlt
          have h788 : (stepO (spAt L q)).length ≤ 788 := by
            have := spCk_zero hcz
            rw [stepO_length]; omega
          have hcells := fun j v (h : (spcells (spAt L q))[j]? = some v) => R.cell q hlt j v h
          have K := hid (put1_any (spAt L q) hsok hcz _ _ _ (S.more ((Below.refl _ _).alloc (Nat.le_refl _) (.cells (sparr (spAt L q)) 49))) hsT (by omega))
          clear R R0 hsT hsok S hcz h788 hft
          generalize spAt L q = s at *
          obtain ⟨sk, sa, sx, sy, sx1, sy1, sd, sq, sfc, sf⟩ := s
          have z0 := hcells 0 _ rfl
          have z1 := hcells 1 _ rfl
          have z2 := hcells 2 _ rfl
          have z3 := hcells 3 _ rfl
          have z4 := hcells 4 _ rfl
          have z5 := hcells 5 _ rfl
          have z6 := hcells 6 _ rfl
          have z7 := hcells 7 _ rfl
          clear hcells
          dsimp only [spval, sparr, Nat.add_zero] at *
          go_wp2_with fail
          refine K.out.mono ?_
          rintro e w3 ⟨rfl, S3⟩
          rw [← hst.out] at S3
          replace S3 := hid S3
          clear K z0 z1 z2 z3 z4 z5 z6 z7
          go_wp2_with fail
          go_roundw
          case rel => exact ⟨q + 1, hlt, by go_num, S3.out⟩
          case measure => simp [intOf]; omega
        · obtain rfl : q = k := by omega
          rw [hfullO.out] at S
          have KD := hid (ws_done S (by have := hle.out; omega))
          have hW := hid (hbh.out.trans (S.below.mono hbh.out.size))
          clear S
          go_wp2_with fail
          refine KD.out.mono ?_
          rintro e w9 ⟨v, rfl, ⟨xa, xc, hv, OX, hb9⟩, _⟩
          have F : Hid (Fresh w w9 v X) := hid (by rw [hXe.out]; exact ⟨xa, xc, hv, own_base OX hW.out.size, below2 hW.out hb9 hW.out.size⟩)
          clear OX hb9 hv
          go_wp2_with fail
          go_ret2
          exact ⟨v, rfl, F.out⟩
end Go.Proofs.Ytngfhbclapadoaa
