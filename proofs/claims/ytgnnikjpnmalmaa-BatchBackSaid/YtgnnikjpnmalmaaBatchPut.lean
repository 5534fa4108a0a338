/-
  Package batch: Written, Put.
-/
import Derived.Test.YtgnnikjpnmalmaaBatch
import Derived.Test.YtgnnikjpnmalmaaRefPoint
namespace Go.Proofs.Ytgnnikjpnmalmaa
open Go.RowKit
set_option linter.unusedVariables false
set_option linter.unusedSimpArgs false

def cntW (f : Nat → En) : Nat → Nat
  | 0 => 0
  | k + 1 => cntW f k + if (f k).k = 1 then 1 else 0
theorem cntW_le (f : Nat → En) : ∀ k, cntW f k ≤ k
  | 0 => Nat.le_refl _
  | k + 1 => by have := cntW_le f k; simp only [cntW]; split <;> omega

set_option maxRecDepth 100000 in
set_option maxHeartbeats 4000000 in
theorem bwritten_any (nx : Int) (la : Bool) (p : Option Addr) (n cap : Nat) (f : Nat → En) (h1 : n ≤ cap) (h2 : cap ≤ maxLen) (w : World) (HR : RowP w p 2 n (fun i => ecells (f i))) :
    Calls Try.prog 59 #[smval nx la p n cap] w fun e w' => e = .returned (.int .i64 (cntW f n : Int)) ∧ Below w.heap.size w w' := by
  have hb0 : Below w.heap.size w (w.alloc (.cells (smcells nx la p n cap) 90)) := (Below.refl _ _).alloc (Nat.le_refl _) _
  have hR0 := hid HR
  have D0 := hid hb0
  unfold maxLen at h2
  clear HR hb0
  go_enter Try.func59, Try.ntmps59
  go_wp2_with fail
  go_loopw [3, 9, 5] (fun c i zz wx => ∃ k : Nat, k ≤ n ∧ i = .int .i64 (k : Int) ∧ c = .int .i64 (cntW f k : Int) ∧ Below w.heap.size w wx) (fun _ i _ _ => n - (intOf i).toNat)
  case atStart => exact ⟨0, by omega, rfl, rfl, D0.out⟩
  case round =>
    obtain ⟨k, hk, rfl, rfl, hb⟩ := hrel
    by_cases hlt : k < n
    · obtain ⟨b, o, rfl, R0⟩ := hR0.out.row (by omega)
      have R := R0.more hb
      have z0 := R.at0 hlt (v := .int .i64 (f k).k) rfl
      have z1 := R.at1 hlt (v := .int .i64 (f k).i) rfl
      have hbG := hid (hb.alloc hb.size (.cells #[.int .i64 (f k).k, .int .i64 (f k).i] 93))
      have hle := cntW_le f k
      have hst : cntW f (k + 1) = cntW f k + if (f k).k = 1 then 1 else 0 := rfl
      clear R R0 hb
      by_cases hk1 : (f k).k = 1
      · rw [if_pos hk1] at hst
        replace hst := hid hst
        rw [hk1] at z0 hbG
        replace hk1 := hid hk1
        generalize cntW f k = c at *
        have uc : IntKind.i64.wrap ((c : Int) + 1) = (c : Int) + 1 := IntWalk.i64_in _ (by omega)
        go_wp2_with fail
        go_roundw
        case rel => exact ⟨k + 1, by omega, by go_num, by rw [hst.out]; go_num, hbG.out⟩
        case measure => simp [intOf]; omega
      · rw [if_neg hk1] at hst
        replace hst := hid hst
        have hk1' : ((f k).k == 1) = false := by simpa using hk1
        clear hk1
        go_wp2_with fail
        go_roundw
        case rel => exact ⟨k + 1, by omega, by go_num, by rw [hst.out]; rfl, hbG.out⟩
        case measure => simp [intOf]; omega
    · obtain rfl : k = n := by omega
      replace hb := hid hb
      go_wp2
      go_ret
      exact ⟨rfl, hb.out⟩

/-- Entries' octets. -/
def entB (f : Nat → En) : Nat → List UInt8
  | 0 => []
  | k + 1 => entB f k ++ leB (f k).k.toNat 1 ++ leB (f k).i.toNat 1
theorem entB_length (f : Nat → En) : ∀ k, (entB f k).length = 2 * k
  | 0 => rfl
  | k + 1 => by simp only [entB, List.length_append, entB_length f k, leB_length]; omega
def lastN (la : Bool) : Int := if la then 1 else 0
def sheadB (nx : Int) (la : Bool) (n : Nat) : List UInt8 := [] ++ leB nx.toNat 1 ++ leB (lastN la).toNat 1 ++ leB (n : Int).toNat 1
theorem sheadB_length (nx : Int) (la : Bool) (n : Nat) : (sheadB nx la n).length = 3 := by simp [sheadB, leB_length]
def smB (nx : Int) (la : Bool) (n : Nat) (f : Nat → En) : List UInt8 := sheadB nx la n ++ entB f n
def smL (nx : Int) (la : Bool) (n : Nat) (f : Nat → En) : List UInt8 := if bCk nx n f = 0 then smB nx la n f else []
theorem bCk_zero {nx : Int} {n : Nat} {f : Nat → En} (h : bCk nx n f = 0) : 0 ≤ nx ∧ nx ≤ 31 ∧ n ≤ 64 ∧ ∀ i, i < n → ((f i).k = 1 ∨ (f i).k = 2) ∧ 1 ≤ (f i).i ∧ (f i).i ≤ 255 := by
  unfold bCk at h
  split at h
  · cases h
  · split at h
    · cases h
    · split at h
      · rename_i h1 h2 h3
        refine ⟨by omega, by omega, by omega, fun i hi => ?_⟩
        have := (allG_iff f n).1 h3 i hi
        simpa [goodE] using this
      · cases h
theorem bCk_ways (nx : Int) (n : Nat) (f : Nat → En) : bCk nx n f = 0 ∨ bCk nx n f = 3 ∨ bCk nx n f = 4 ∨ bCk nx n f = 12 := by
  unfold bCk; split
  · exact .inr (.inr (.inl rfl))
  · split
    · exact .inr (.inl rfl)
    · split
      · exact .inl rfl
      · exact .inr (.inr (.inr rfl))

set_option maxRecDepth 100000 in
set_option maxHeartbeats 8000000 in
theorem bput_any (nx : Int) (la : Bool) (p : Option Addr) (n cap : Nat) (f : Nat → En) (h1 : n ≤ cap) (h2 : cap ≤ maxLen) (w : World) (HR : RowP w p 2 n (fun i => ecells (f i))) :
    Calls Try.prog 57 #[smval nx la p n cap] w fun e w' => ∃ v, e = .returned (.tuple #[v, .int .i64 (bCk nx n f)]) ∧ Fresh w w' v (smL nx la n f) := by
  obtain ⟨W0, hW0⟩ : ∃ W0, w.alloc (.cells (smcells nx la p n cap) 90) = W0 := ⟨_, rfl⟩
  have hb0 : Below w.heap.size w W0 := by rw [← hW0]; exact (Below.refl _ _).alloc (Nat.le_refl _) _
  have BX : Blk W0 w.heap.size (smcells nx la p n cap) := by rw [← hW0]; exact Blk.new w _ _
  have KC := hid (fun w HR => bcheck_any nx la p n cap f h1 h2 w HR)
  have HBX := hid BX
  have hR0 := hid HR
  have D0 := hid hb0
  unfold maxLen at h2
  have wy := bCk_ways nx n f
  have hz := fun h => bCk_zero (nx := nx) (n := n) (f := f) h
  have hL : smL nx la n f = if bCk nx n f = 0 then smB nx la n f else [] := rfl
  generalize bCk nx n f = C at *
  clear HR hb0 BX
  go_enter Try.func57, Try.ntmps57
  obtain ⟨lx, kx, fx⟩ := HBX.out
  go_wp2_with fail
  refine (KC.out _ (hR0.out.more D0.out)).mono ?_
  rintro e w1 ⟨rfl, hb1⟩
  have HB1 := hid (HBX.out.more hb1)
  have D1 := hid (below2 D0.out hb1 D0.out.size)
  clear hb1 lx kx fx HBX D0 hW0 KC
  obtain ⟨lx, kx, fx⟩ := HB1.out
  by_cases hC0 : C = 0
  · subst hC0
    rw [if_pos rfl] at hL
    replace hL := hid hL
    obtain ⟨nx0, nx1, n64, hE⟩ := hz rfl
    have KN := hid (fun w => ws_new 131 131 rfl w)
    have bl : 0 ≤ lastN la ∧ lastN la ≤ 1 := by unfold lastN; cases la <;> simp
    clear wy hz
    have HB := hid (fun (wx : World) (m : List UInt8) (S : WS w1 w1.heap.size 131 wx m) => HB1.out.below S.below HB1.out.lt)
    have HW := hid (fun (wx : World) (m : List UInt8) (S : WS w1 w1.heap.size 131 wx m) => D1.out.trans (S.below.mono D1.out.size))
    cases la with
    | true =>
      have hX : sheadB nx true n = [] ++ leB nx.toNat 1 ++ leB (1 : Int).toNat 1 ++ leB (n : Int).toNat 1 := rfl
      have hXl := hid (sheadB_length nx true n)
      have hS : Hid (smL nx true n f = sheadB nx true n ++ entB f n) := hL
      go_wp2_with fail
      refine (KN.out _).mono ?_
      rintro e w2 ⟨rfl, S2⟩
      clear lx kx fx
      obtain ⟨lx, kx, fx⟩ := HB.out _ _ S2
      have K := hid (ws_num S2 (by omega) (by omega) nx 1 1 rfl nx0 (by omega) (by simp))
      replace S2 := hid S2
      go_wp2_with fail
      refine K.out.mono ?_
      rintro e w3 ⟨rfl, S3⟩
      clear lx kx fx K S2
      obtain ⟨lx, kx, fx⟩ := HB.out _ _ S3
      have K := hid (ws_num S3 (by omega) (by omega) 1 1 1 rfl (by omega) (by omega) (by simp [leB_length]))
      replace S3 := hid S3
      go_wp2_with fail
      refine K.out.mono ?_
      rintro e w4 ⟨rfl, S4⟩
      clear lx kx fx K S3
      obtain ⟨lx, kx, fx⟩ := HB.out _ _ S4
      have K := hid (ws_num S4 (by omega) (by omega) n 1 1 rfl (by omega) (by omega) (by simp [leB_length]))
      replace S4 := hid S4
      go_wp2_with fail
      refine K.out.mono ?_
      rintro e w5 ⟨rfl, S5⟩
      clear lx kx fx K S4
      rw [← hX] at S5
      generalize sheadB nx true n = X at *
      replace hX := hid hX
      obtain ⟨lx, kx, fx⟩ := HB.out _ _ S5
      replace S5 := hid S5
      go_wp2_with fail
      clear lx kx fx
      go_loopw [32, 8] (fun i zz wx => ∃ k : Nat, k ≤ n ∧ i = .int .i64 (k : Int) ∧ WS w1 w1.heap.size 131 wx (X ++ entB f k)) (fun i _ _ => n - (intOf i).toNat)
      case atStart => exact ⟨0, by omega, rfl, by simpa [entB] using S5.out⟩
      case round =>
        clear S5
        obtain ⟨k, hk, rfl, S⟩ := hrel
        have hlen : (X ++ entB f k).length = 3 + 2 * k := by rw [List.length_append, hXl.out, entB_length]
        by_cases hlt : k < n
        · obtain ⟨b, o, rfl, R0⟩ := hR0.out.row (by omega)
          have R := R0.more (HW.out _ _ S)
          have z0 := R.at0 hlt (v := .int .i64 (f k).k) rfl
          have z1 := R.at1 hlt (v := .int .i64 (f k).i) rfl
          obtain ⟨hk12, i1, i2⟩ := hE k hlt
          have kb : 1 ≤ (f k).k ∧ (f k).k ≤ 2 := by omega
          have hst := hid (show X ++ entB f k ++ leB (f k).k.toNat 1 ++ leB (f k).i.toNat 1 = X ++ entB f (k + 1) by simp [entB, List.append_assoc])
          clear R R0
          generalize (f k).k = ek at *
          generalize (f k).i = ei at *
          have hbA : Below wr.heap.size wr (wr.alloc (.cells #[.int .i64 ek, .int .i64 ei] 93)) := (Below.refl _ _).alloc (Nat.le_refl _) _
          have BE := Blk.new wr #[.int .i64 ek, .int .i64 ei] 93
          obtain ⟨a9, O9, h9⟩ := S
          have hnm : ¬ Mine w1.heap.size a9 wr.heap.size := fun hm => by have := (O9.mine hm).2; omega
          have O9' := O9.more hbA
          have h9' := h9.trans (hbA.mono (Nat.le_of_lt O9.lt))
          have K1 := hid (ow_num ek 1 1 rfl w1.heap.size a9 131 (X ++ entB f k) (X ++ entB f k ++ leB ek.toNat 1) 0 0 _ O9' (by omega) (by omega) (by rw [hlen]; omega) (.inr (.inr (.inl ⟨rfl, by omega, by rw [hlen]; omega, rfl, rfl⟩))))
          have hlen2 : (X ++ entB f k ++ leB ek.toNat 1).length = 4 + 2 * k := by rw [List.length_append, hlen, leB_length]; omega
          replace O9 := hid O9
          replace O9' := hid O9'
          replace h9 := hid h9
          replace h9' := hid h9'
          have HBE := hid BE
          have HX0 := hid (HB1.out.below (h9'.out) HB1.out.lt)
          replace hlen := hid hlen
          obtain ⟨le, ke, fe⟩ := BE
          clear hbA
          go_wp2_with fail
          refine K1.out.mono ?_
          rintro e w10 ⟨rfl, a10, O10, G10⟩
          have S10 := WS.grew O9'.out h9'.out O10 G10
          have B10 := HBE.out.sole G10.sole hnm
          have K2 := hid (ws_num S10 (by omega) (by omega) ei 1 1 rfl (by omega) (by omega) (by rw [hlen2]; omega))
          replace S10 := hid S10
          clear O10 G10 K1 HBE hnm le ke fe
          obtain ⟨le, ke, fe⟩ := B10
          go_wp2_with fail
          refine K2.out.mono ?_
          rintro e w11 ⟨rfl, S11⟩
          rw [hst.out] at S11
          replace S11 := hid S11
          clear K2 le ke fe S10
          go_wp2_with fail
          go_roundw
          case rel => exact ⟨k + 1, by omega, by go_num, S11.out⟩
          case measure => simp [intOf]; omega
        · obtain rfl : k = n := by omega
          rw [← hS.out] at S hlen
          have KD := hid (ws_done S (by omega))
          have hW := hid (HW.out _ _ S)
          clear S
          go_wp2_with fail
          refine KD.out.mono ?_
          rintro e w9 ⟨v, rfl, ⟨xa, xc, hv, OX, hb9⟩, _⟩
          have E := hid (show Fresh w w9 v (smL nx true k f) from ⟨xa, xc, hv, own_base OX hW.out.size, below2 hW.out hb9 hW.out.size⟩)
          clear OX hb9 hv
          go_wp2_with fail
          go_ret2
          exact ⟨v, rfl, E.out⟩
    | false =>
      have hX : sheadB nx false n = [] ++ leB nx.toNat 1 ++ leB (0 : Int).toNat 1 ++ leB (n : Int).toNat 1 := rfl
      have hXl := hid (sheadB_length nx false n)
      have hS : Hid (smL nx false n f = sheadB nx false n ++ entB f n) := hL
      go_wp2_with fail
      refine (KN.out _).mono ?_
      rintro e w2 ⟨rfl, S2⟩
      clear lx kx fx
      obtain ⟨lx, kx, fx⟩ := HB.out _ _ S2
      have K := hid (ws_num S2 (by omega) (by omega) nx 1 1 rfl nx0 (by omega) (by simp))
      replace S2 := hid S2
      go_wp2_with fail
      refine K.out.mono ?_
      rintro e w3 ⟨rfl, S3⟩
      clear lx kx fx K S2
      obtain ⟨lx, kx, fx⟩ := HB.out _ _ S3
      have K := hid (ws_num S3 (by omega) (by omega) 0 1 1 rfl (by omega) (by omega) (by simp [leB_length]))
      replace S3 := hid S3
      go_wp2_with fail
      refine K.out.mono ?_
      rintro e w4 ⟨rfl, S4⟩
      clear lx kx fx K S3
      obtain ⟨lx, kx, fx⟩ := HB.out _ _ S4
      have K := hid (ws_num S4 (by omega) (by omega) n 1 1 rfl (by omega) (by omega) (by simp [leB_length]))
      replace S4 := hid S4
      go_wp2_with fail
      refine K.out.mono ?_
      rintro e w5 ⟨rfl, S5⟩
      clear lx kx fx K S4
      rw [← hX] at S5
      generalize sheadB nx false n = X at *
      replace hX := hid hX
      obtain ⟨lx, kx, fx⟩ := HB.out _ _ S5
      replace S5 := hid S5
      go_wp2_with fail
      clear lx kx fx
      go_loopw [32, 8] (fun i zz wx => ∃ k : Nat, k ≤ n ∧ i = .int .i64 (k : Int) ∧ WS w1 w1.heap.size 131 wx (X ++ entB f k)) (fun i _ _ => n - (intOf i).toNat)
      case atStart => exact ⟨0, by omega, rfl, by simpa [entB] using S5.out⟩
      case round =>
        clear S5
        obtain ⟨k, hk, rfl, S⟩ := hrel
        have hlen : (X ++ entB f k).length = 3 + 2 * k := by rw [List.length_append, hXl.out, entB_length]
        by_cases hlt : k < n
        · obtain ⟨b, o, rfl, R0⟩ := hR0.out.row (by omega)
          have R := R0.more (HW.out _ _ S)
          have z0 := R.at0 hlt (v := .int .i64 (f k).k) rfl
          have z1 := R.at1 hlt (v := .int .i64 (f k).i) rfl
          obtain ⟨hk12, i1, i2⟩ := hE k hlt
          have kb : 1 ≤ (f k).k ∧ (f k).k ≤ 2 := by omega
          have hst := hid (show X ++ entB f k ++ leB (f k).k.toNat 1 ++ leB (f k).i.toNat 1 = X ++ entB f (k + 1) by simp [entB, List.append_assoc])
          clear R R0
          generalize (f k).k = ek at *
          generalize (f k).i = ei at *
          have hbA : Below wr.heap.size wr (wr.alloc (.cells #[.int .i64 ek, .int .i64 ei] 93)) := (Below.refl _ _).alloc (Nat.le_refl _) _
          have BE := Blk.new wr #[.int .i64 ek, .int .i64 ei] 93
          obtain ⟨a9, O9, h9⟩ := S
          have hnm : ¬ Mine w1.heap.size a9 wr.heap.size := fun hm => by have := (O9.mine hm).2; omega
          have O9' := O9.more hbA
          have h9' := h9.trans (hbA.mono (Nat.le_of_lt O9.lt))
          have K1 := hid (ow_num ek 1 1 rfl w1.heap.size a9 131 (X ++ entB f k) (X ++ entB f k ++ leB ek.toNat 1) 0 0 _ O9' (by omega) (by omega) (by rw [hlen]; omega) (.inr (.inr (.inl ⟨rfl, by omega, by rw [hlen]; omega, rfl, rfl⟩))))
          have hlen2 : (X ++ entB f k ++ leB ek.toNat 1).length = 4 + 2 * k := by rw [List.length_append, hlen, leB_length]; omega
          replace O9 := hid O9
          replace O9' := hid O9'
          replace h9 := hid h9
          replace h9' := hid h9'
          have HBE := hid BE
          have HX0 := hid (HB1.out.below (h9'.out) HB1.out.lt)
          replace hlen := hid hlen
          obtain ⟨le, ke, fe⟩ := BE
          clear hbA
          go_wp2_with fail
          refine K1.out.mono ?_
          rintro e w10 ⟨rfl, a10, O10, G10⟩
          have S10 := WS.grew O9'.out h9'.out O10 G10
          have B10 := HBE.out.sole G10.sole hnm
          have K2 := hid (ws_num S10 (by omega) (by omega) ei 1 1 rfl (by omega) (by omega) (by rw [hlen2]; omega))
          replace S10 := hid S10
          clear O10 G10 K1 HBE hnm le ke fe
          obtain ⟨le, ke, fe⟩ := B10
          go_wp2_with fail
          refine K2.out.mono ?_
          rintro e w11 ⟨rfl, S11⟩
          rw [hst.out] at S11
          replace S11 := hid S11
          clear K2 le ke fe S10
          go_wp2_with fail
          go_roundw
          case rel => exact ⟨k + 1, by omega, by go_num, S11.out⟩
          case measure => simp [intOf]; omega
        · obtain rfl : k = n := by omega
          rw [← hS.out] at S hlen
          have KD := hid (ws_done S (by omega))
          have hW := hid (HW.out _ _ S)
          clear S
          go_wp2_with fail
          refine KD.out.mono ?_
          rintro e w9 ⟨v, rfl, ⟨xa, xc, hv, OX, hb9⟩, _⟩
          have E := hid (show Fresh w w9 v (smL nx false k f) from ⟨xa, xc, hv, own_base OX hW.out.size, below2 hW.out hb9 hW.out.size⟩)
          clear OX hb9 hv
          go_wp2_with fail
          go_ret2
          exact ⟨v, rfl, E.out⟩
  · rw [if_neg hC0] at hL
    replace hL := hid hL
    have hb : (C != 0) = true := by simpa using hC0
    clear wy hz
    go_wp2_with fail
    go_ret2
    exact ⟨.slice none 0 0, rfl, by rw [hL.out]; exact ⟨none, 0, rfl, World.ownsRow_nil _ _ _ _, D1.out⟩⟩
end Go.Proofs.Ytgnnikjpnmalmaa
