/-
  Layer 30: CodeTells.
-/
import Derived.Test.YtngfhbclapadoaaCodeOct
namespace Go.Proofs.Ytngfhbclapadoaa
open Go.RowKit
set_option linter.unusedVariables false
set_option linter.unusedSimpArgs false

/-- What the law's walk decides of a step, one by one. -/
theorem spCk_law (s : Sp) : (spCk s = 12 ∧ decide (s.k < 1) = true) ∨ (spCk s = 12 ∧ decide (s.k < 1) = false ∧ decide (13 < s.k) = true) ∨
    ((decide (s.k < 1) = false ∧ decide (13 < s.k) = false) ∧ ((spCk s = 4 ∧ decide (s.a < 0) = true) ∨ (spCk s = 4 ∧ decide (s.a < 0) = false ∧ decide (4294967296 ≤ s.a) = true) ∨
      ((decide (s.a < 0) = false ∧ decide (4294967296 ≤ s.a) = false) ∧ ((spCk s = 4 ∧ (!fatesB s.f) = true) ∨
        ((!fatesB s.f) = false ∧ ((spCk s = 5 ∧ decide ((255 : Int) < s.d.size) = true) ∨ (spCk s = 5 ∧ decide ((255 : Int) < s.d.size) = false ∧ decide ((255 : Int) < s.f.length) = true) ∨ (spCk s = 0 ∧ decide ((255 : Int) < s.d.size) = false ∧ decide ((255 : Int) < s.f.length) = false))))))) := by
  have e : decide (4294967296 ≤ s.a) = decide (4294967295 < s.a) := by
    by_cases h : 4294967295 < s.a
    · rw [decide_eq_true h, decide_eq_true (by omega)]
    · rw [decide_eq_false h, decide_eq_false (by omega)]
  rw [e]
  exact spCk_parts s
/-- A row of octets, as a slice. -/
theorem own_octs {w : World} {base : Nat} {v : Value} {l : List UInt8} (h : w.ownsRow base 5 1 v l.length (Lib.byteCells l)) : ∃ a c, v = .slice a l.length c ∧ Octs w a l := by
  rcases h.2 with ⟨hv, hn⟩ | ⟨g, cap', cur, hv, _⟩
  · refine ⟨none, 0, by rw [hn]; exact hv, ?_⟩
    rw [List.eq_nil_of_length_eq_zero hn]
    exact Octs.nil _ _
  · exact ⟨some ⟨g, 0, none⟩, cap', hv, Octs.of_own (hv ▸ h)⟩
theorem spE_next {L : List Sp} {k : Nat} {C : Int} (hk : k < L.length) (hC : spCk (spAt L k) = C) : (spE (L.take k) = 0 → spE (L.take (k + 1)) = C) ∧ (spE (L.take k) ≠ 0 → spE (L.take (k + 1)) = spE (L.take k)) := by
  have h := spE_take L k hk
  rw [hC] at h
  exact ⟨fun e => by rw [h, if_pos e], fun e => by rw [h, if_neg e]⟩
theorem spO_next {L : List Sp} {k : Nat} (hk : k < L.length) : (spCk (spAt L k) = 0 → spO (L.take (k + 1)) = spO (L.take k) ++ stepO (spAt L k)) ∧ (spCk (spAt L k) ≠ 0 → spO (L.take (k + 1)) = spO (L.take k)) := by
  have h := spO_take L k hk
  exact ⟨fun e => by rw [h, if_pos e], fun e => by rw [h, if_neg e, List.append_nil]⟩

set_option maxRecDepth 100000 in
set_option maxHeartbeats 16000000 in
theorem codetells_any (L0 : List Sp) (p0 : Option Addr) (cap0 : Nat) (hall0 : ∀ s ∈ L0, s.ok) (h10 : L0.length ≤ cap0) (h20 : cap0 ≤ maxLen) (w : World) (HR0 : RowOf spT w p0 L0) (HT0 : ∀ s ∈ L0, s.there w) :
    Calls Try.prog 6 #[.slice p0 L0.length cap0] w fun e w' => e = .returned (.bool true) ∧ Below w.heap.size w w' := by
  have KA := hid (alive30 w)
  have hn0 : (L0.length : Int) ≤ 9223372036854775807 := by unfold maxLen at h20; omega
  go_enter Try.func6, Try.ntmps6
  go_wp2_with fail
  refine KA.out.mono ?_
  rintro e W ⟨rfl, hbA⟩
  have hbW := hid hbA
  clear KA
  go_upto_if 16 with (fail)
  go_cut [0] (fun v wx => wx = W ∧ ∃ (L : List Sp) (p : Option Addr) (cap : Nat), v = .slice p L.length cap ∧ L.length ≤ 60 ∧ (∀ s ∈ L, s.ok) ∧ L.length ≤ cap ∧ cap ≤ maxLen ∧ RowOf spT w p L ∧ (∀ s ∈ L, s.there w))
  case first =>
    by_cases h60 : 60 < L0.length
    · have h60' : decide ((60 : Int) < (L0.length : Int)) = true := decide_eq_true (by omega)
      have hcap : (60 : Int) ≤ (cap0 : Int) := by omega
      obtain ⟨b, o, rfl, R⟩ := RowP.row HR0 (by omega)
      have HR1 := hid (RowOf.take HR0 60 (by omega))
      have hlen : (L0.take 60).length = 60 := by rw [List.length_take]; omega
      have hE := hid (show ∀ s ∈ L0.take 60, s.ok from fun s hs => hall0 s (List.mem_of_mem_take hs))
      have hF := hid (show ∀ s ∈ L0.take 60, s.there w from fun s hs => HT0 s (List.mem_of_mem_take hs))
      clear R HR0 hall0 HT0
      replace hlen := hid hlen
      go_wp2_with fail
      go_meet
      case rel => exact ⟨rfl, L0.take 60, some ⟨b, o, none⟩, cap0, by rw [hlen.out], by rw [hlen.out]; omega, hE.out, by rw [hlen.out]; omega, h20, HR1.out, hF.out⟩
    · have h60' : decide ((60 : Int) < (L0.length : Int)) = false := decide_eq_false (by omega)
      have HRh := hid HR0
      have hE := hid hall0
      have hF := hid HT0
      clear HR0 hall0 HT0
      go_wp2_with fail
      go_meet
      case rel => exact ⟨rfl, L0, p0, cap0, rfl, by omega, hE.out, h10, h20, HRh.out, hF.out⟩
  case rest =>
    obtain ⟨rfl, L, p, cap, rfl, h60, hall, h1, h2, HR, HT⟩ := hcut
    have KP := hid (fun (wx : World) (hb : Below w.heap.size w wx) => codeput_any L p cap hall h60 h1 h2 wx (RowOf.more HR hb) (fun s hs => (HT s hs).more hb))
    have hR0 : Hid (RowP w p 8 L.length (fun i => spcells (spAt L i))) := hid HR
    have hT0 := hid (fun k (hk : k < L.length) => HT _ (atR_mem (T := spT) L k hk))
    have hok := hid (fun k (hk : k < L.length) => hall _ (atR_mem (T := spT) L k hk))
    have hEn := hid (fun k C (hk : k < L.length) => spE_next (C := C) hk)
    have hOn := hid (fun k (hk : k < L.length) => spO_next hk)
    have hfit := hid (fun k (hk : k < L.length) => spO_fits h60 k hk)
    have hfull : Hid (spE (L.take L.length) = spE L) := hid (by rw [List.take_length])
    have hfullO : Hid (spO (L.take L.length) = spO L) := hid (by rw [List.take_length])
    have hE0 : Hid (spE (L.take 0) = 0) := hid rfl
    have hO0 : Hid (spO (L.take 0) = []) := hid rfl
    have hle := hid (spO_length L)
    obtain ⟨n, hn⟩ : ∃ n, L.length = n := ⟨_, rfl⟩
    rw [hn] at h1 h60 hR0 hT0 hok hEn hOn hfit hfull hfullO hle ⊢
    rw [hn] at KP
    unfold maxLen at h2
    clear HR HT hall hn HR0 HT0 hall0 hbA
    go_wp2_with fail
    go_loopw [3, 4, 5] (fun v3 v4 v5 wr => ∃ k : Nat, k ≤ n ∧ v5 = .int .i64 (k : Int) ∧ v4 = .int .i64 (spE (L.take k)) ∧ wr.ownsRow w.heap.size 5 1 v3 (spO (L.take k)).length (Lib.byteCells (spO (L.take k))) ∧ Below w.heap.size w wr) (fun _ _ i _ => n - (intOf i).toNat)
    case atStart => exact ⟨0, by omega, rfl, by rw [hE0.out], by rw [hO0.out]; exact World.ownsRow_nil _ _ _ _, hbW.out⟩
    case round =>
      obtain ⟨k, hk, rfl, rfl, hown, hb⟩ := hrel
      have hbh := hid hb
      have hownh := hid hown
      by_cases hlt : k < n
      · obtain ⟨b, o, rfl, R0⟩ := hR0.out.row (by omega)
        have R := R0.more hb
        have hsT := hT0.out k hlt
        have hsok := hok.out k hlt
        have hE := hid (fun C => hEn.out k C hlt)
        have hO := hid (hOn.out k hlt)
        have hft := hid (hfit.out k hlt)
        have hcells := fun j v (h : (spcells (spAt L k))[j]? = some v) => R.cell k hlt j v h
        have hb1 := hid (hb.alloc hb.size (.cells (sparr (spAt L k)) 49))
        have BX := hid (Blk.new wr (sparr (spAt L k)) 49)
        have KC := hid (fun (wx : World) (hb : Below w.heap.size w wx) => codecheck_any (spAt L k) hsok wx (hsT.more hb))
        have KO := hid (fun (hz : spCk (spAt L k) = 0) => octets_any (spAt L k) hsok hz _ (hsT.more hb1.out))
        have hF0 : Hid (RowP w (spAt L k).q 1 (spAt L k).f.length (fun i => [.int .i64 (faAt (spAt L k).f i)])) := hid hsT
        have hft1 := hid (fun j (hj : j < (spAt L k).f.length) => fatesB_take (spAt L k).f j hj)
        have hft9 : Hid (fatesB ((spAt L k).f.take (spAt L k).f.length) = fatesB (spAt L k).f) := hid (by rw [List.take_length])
        have hft0 : Hid (fatesB ((spAt L k).f.take 0) = true) := hid (by simp [fatesB])
        have hsl := hid (stepO_length (spAt L k))
        have hways := hid (spCk_law (spAt L k))
        have hzero := hid (fun (h : spCk (spAt L k) = 0) => spCk_zero h)
        have f1 : (spAt L k).f.length ≤ 9223372036854775807 := Nat.le_trans hsok.f1 hsok.f2
        have d1 : (spAt L k).d.size ≤ 9223372036854775807 := hsok.d
        have hown1 := hid (own_sole hown (Sole.made (S := fun _ => False) (below_one wr (.cells (sparr (spAt L k)) 49))) (fun _ _ x => x))
        clear R R0 hsT hsok hb hown
        generalize hEk : spE (L.take k) = Ek at *
        generalize hOk : spO (L.take k) = Ok at *
        replace hEk := hid hEk
        replace hOk := hid hOk
        generalize spAt L k = s at *
        obtain ⟨sk, sa, sx, sy, sx1, sy1, sd, sq, sfc, sf⟩ := s
        have z0 := hcells 0 _ rfl
        have z1 := hcells 1 _ rfl
        have z2 := hcells 2 _ rfl
        have z3 := hcells 3 _ rfl
        have z4 := hcells 4 _ rfl
        have z5 := hcells 5 _ rfl
        have z6 := hcells 6 _ rfl
        have z7 := hcells 7 _ rfl
        clear hcells
        dsimp only [spval, sparr, Nat.add_zero] at *
        obtain ⟨lx, kx, fx⟩ := BX.out
        generalize hm : sf.length = m at *
        replace hm := hid hm
        go_wp2_with fail
        generalize hW1 : wr.alloc _ = W1 at *
        clear z0 z1 z2 z3 z4 z5 z6 z7
        go_loopw [8, 9] (fun v8 v9 wx => wx = W1 ∧ ∃ j : Nat, j ≤ m ∧ v9 = .int .i64 (j : Int) ∧ v8 = .bool (!fatesB (sf.take j))) (fun _ i _ => m - (intOf i).toNat)
        case atStart => exact ⟨rfl, 0, by omega, rfl, by rw [hft0.out]; rfl⟩
        case round =>
          obtain ⟨rfl, j, hj, rfl, rfl⟩ := hrel
          have hj63 : (j : Int) ≤ 9223372036854775807 := by omega
          by_cases hltj : j < m
          · have hj1 : IntKind.i64.wrap ((j : Int) + 1) = (j : Int) + 1 := IntWalk.i64_in _ ⟨by omega, by omega⟩
            obtain ⟨fb, fo, rfl, RF0⟩ := hF0.out.row (by omega)
            have RF := RF0.more hb1.out
            have zf := RF.at0 hltj (v := .int .i64 (faAt sf j)) rfl
            rw [Nat.mul_one] at zf
            have hst := hid (hft1.out j hltj)
            clear RF RF0
            generalize faAt sf j = z at *
            cases hfj : fatesB (sf.take j)
            · have hn : Hid (fatesB (sf.take (j + 1)) = false) := hid (by rw [hst.out, hfj]; rfl)
              clear hst
              go_wp2_with fail
              go_roundw
              case rel => exact ⟨by first | trivial | rfl, j + 1, by omega, by go_num, by rw [hn.out]; rfl⟩
              case measure => simp [intOf]; omega
            · by_cases q0 : z < 0
              · have hn : Hid (fatesB (sf.take (j + 1)) = false) := hid (by rw [hst.out, hfj]; simp [fateB]; omega)
                have q0' : decide (z < 0) = true := decide_eq_true q0
                clear hst q0
                go_wp2_with fail
                go_roundw
                case rel => exact ⟨by first | trivial | rfl, j + 1, by omega, by go_num, by rw [hn.out]; rfl⟩
                case measure => simp [intOf]; omega
              · have q0' : decide (z < 0) = false := decide_eq_false q0
                by_cases q1 : 65535 < z
                · have hn : Hid (fatesB (sf.take (j + 1)) = false) := hid (by rw [hst.out, hfj]; simp [fateB]; omega)
                  have q1' : decide (65535 < z) = true := decide_eq_true q1
                  clear hst q0 q1
                  go_wp2_with fail
                  go_roundw
                  case rel => exact ⟨by first | trivial | rfl, j + 1, by omega, by go_num, by rw [hn.out]; rfl⟩
                  case measure => simp [intOf]; omega
                · have hn : Hid (fatesB (sf.take (j + 1)) = true) := hid (by rw [hst.out, hfj]; simp [fateB]; omega)
                  have q1' : decide (65535 < z) = false := decide_eq_false q1
                  clear hst q0 q1
                  go_wp2_with fail
                  go_roundw
                  case rel => exact ⟨by first | trivial | rfl, j + 1, by omega, by go_num, by rw [hn.out]; rfl⟩
                  case measure => simp [intOf]; omega
          · obtain rfl : j = m := by omega
            rw [hft9.out]
            clear hft1 hft0 hft9 hF0
            have hownlt := hid hownh.out.lt
            have hPl := hways.out
            have hz0 := hid hzero.out
            generalize spCk _ = C at *
            generalize stepO _ = Z at *
            generalize (!fatesB sf) = F at *
            generalize hzd : sd.size = zd at *
            replace hzd := hid hzd
            have hzd' := hzd.out
            clear hways
            rcases hPl with ⟨hC, g1⟩ | ⟨hC, g1, g2⟩ | ⟨⟨g1, g2⟩, ⟨hC, g3⟩ | ⟨hC, g3, g4⟩ | ⟨⟨g3, g4⟩, ⟨hC, g5⟩ | ⟨g5, ⟨hC, g6⟩ | ⟨hC, g6, g7⟩ | ⟨hC, g6, g7⟩⟩⟩⟩
            all_goals subst hC
            all_goals try subst g5
            iterate 7
              · clear hzero hz0
                go_wp2_with fail
                refine (KC.out _ hb1.out).mono ?_
                rintro e w2 ⟨rfl, hb2⟩
                have D2 := hid (below2 hb1.out hb2 hb1.out.size)
                have own2 := hid (own_sole hown1.out (Sole.made (S := fun _ => False) hb2) (fun _ _ x => x))
                clear hb2 KC KO
                by_cases hE0 : Ek = 0
                · subst hE0
                  have hE' := hid ((hE.out _ rfl).1 rfl)
                  have hO' := hid (hO.out.2 (by omega))
                  clear hE hO
                  go_wp2_with fail
                  go_roundw
                  case rel => exact ⟨k + 1, by omega, by go_num, by rw [hE'.out], by rw [hO'.out]; exact own2.out, D2.out⟩
                  case measure => simp [intOf]; omega
                · have hE' := hid ((hE.out _ rfl).2 hE0)
                  have hO' := hid (hO.out.2 (by omega))
                  have hEb : (Ek == 0) = false := by simpa using hE0
                  clear hE hO
                  go_wp2_with fail
                  go_roundw
                  case rel => exact ⟨k + 1, by omega, by go_num, by rw [hE'.out], by rw [hO'.out]; exact own2.out, D2.out⟩
                  case measure => simp [intOf]; omega
            · obtain ⟨_, _, _, _, _, zd1, zm1⟩ := hz0.out (by first | trivial | rfl)
              have hft2 := hft.out
              have hsl2 := hsl.out
              clear hzero hz0
              go_wp2_with fail
              refine (KO.out (by first | trivial | rfl)).mono ?_
              rintro e w5 ⟨v5, rfl, a5, c5, rfl, O5, hb5⟩
              have OZ := Octs.of_own O5
              have own5 := own_sole hown1.out (Sole.made (S := fun _ => False) hb5) (fun _ _ x => x)
              have D5 := hid (below2 hb1.out hb5 hb1.out.size)
              obtain ⟨v6, w6, hr, R6, gr6, mv6⟩ := append_octs w.heap.size 33 w5 u3 Ok.length _ own5 a5 c5 Z OZ (by omega) D5.out.size
              have S6 : Sole (fun k => u3.ownBlock = some k) w5 w6 := Sole.grown gr6 fun k hk => hk
              have D6 := hid (D5.out.trans (S6.below (B := w.heap.size) D5.out.size fun k hk => (own5.lt k hk).1))
              have BX6 := (BX.out.more hb5).sole S6 (fun hk => by have := (hownlt.out _ hk).2; omega)
              rw [← Lib.byteCells_append, ← List.length_append] at R6
              replace R6 := hid R6
              clear O5 OZ own5 hb5 gr6 mv6 S6 KO hft2 hsl2 lx kx fx
              obtain ⟨lx, kx, fx⟩ := BX6
              go_wp2_with (at_builtin; refine Lib.wpList_append_run _ rfl _ _ _ _ rfl _ _ rfl rfl _ _ hr ?_)
              refine (KC.out _ D6.out).mono ?_
              rintro e w2 ⟨rfl, hb2⟩
              have D2 := hid (below2 D6.out hb2 D6.out.size)
              have own2 := hid (own_sole R6.out (Sole.made (S := fun _ => False) hb2) (fun _ _ x => x))
              have hO' := hid (hO.out.1 (by first | trivial | rfl))
              clear hb2 KC hr R6 hO
              by_cases hE0 : Ek = 0
              · subst hE0
                have hE' := hid ((hE.out _ (by first | trivial | rfl)).1 (by first | trivial | rfl))
                clear hE
                go_wp2_with fail
                go_roundw
                case rel => exact ⟨k + 1, by omega, by go_num, by rw [hE'.out], by rw [hO'.out]; exact own2.out, D2.out⟩
                case measure => simp [intOf]; omega
              · have hE' := hid ((hE.out _ (by first | trivial | rfl)).2 hE0)
                have hEb : (Ek == 0) = false := by simpa using hE0
                clear hE
                go_wp2_with fail
                go_roundw
                case rel => exact ⟨k + 1, by omega, by go_num, by rw [hE'.out], by rw [hO'.out]; exact own2.out, D2.out⟩
                case measure => simp [intOf]; omega
      · obtain rfl : k = n := by omega
        rw [hfull.out]
        rw [hfullO.out] at hown
        obtain ⟨a3, c3, rfl, O3⟩ := own_octs hown
        have K := hid (KP.out wr hb)
        have hlen : decide ((65536 : Int) < ((spO L).length : Int)) = false := decide_eq_false (by have := hle.out; omega)
        have O3h := hid O3
        generalize spE L = E at *
        generalize spO L = X at *
        clear hown hownh hfull hfullO hEn hOn hfit KP hb hle
        by_cases hE : E = 0
        · subst hE
          rw [if_pos rfl] at K
          go_wp2_with fail
          refine K.out.mono ?_
          rintro e w2 ⟨v, rfl, xa, xc, rfl, OX, hb2⟩
          have D2 := hid (below2 hbh.out hb2 hbh.out.size)
          have k1 := conv_octs (Octs.of_own OX) xc
          have k2 := conv_octs (O3h.out.more hb2) c3
          clear K OX hb2
          go_wp2
          go_ret
          exact ⟨rfl, D2.out⟩
        · rw [if_neg hE] at K
          have hEb : (E == 0) = false := by simpa using hE
          have hEb2 : (E != 0) = true := by simpa using hE
          go_wp2_with fail
          refine K.out.mono ?_
          rintro e w2 ⟨v, rfl, xa, xc, rfl, OX, hb2⟩
          have D2 := hid (below2 hbh.out hb2 hbh.out.size)
          clear K OX hb2
          go_wp2
          go_ret
          exact ⟨rfl, D2.out⟩
end Go.Proofs.Ytngfhbclapadoaa
