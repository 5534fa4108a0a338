/-
  Layer 10: summaries come back from their octets, and octets from their summaries; what is cut is none. The walk.
-/
import Derived.Test.YtcklmemnjchdcaaRsA
import Derived.Test.YtcklmemnjchdcaaRsN
import Derived.Test.YtcklmemnjchdcaaRsZ
import Derived.Test.YtcklmemnjchdcaaRsA2
import Derived.Deep.RegionHeld3
import Derived.Deep.RegionLaw
import Derived.Deep.AppendLies
import Derived.Deep.QuietTactic
import Derived.BigQuiet

/-
  Package batch: which summaries may be.
-/



namespace Go.Proofs.Ytcklmemnjchdcaa
open Go.RowKit
set_option linter.unusedVariables false
set_option linter.unusedSimpArgs false

end Go.Proofs.Ytcklmemnjchdcaa

/-
  Package batch: Written, Put.
-/


namespace Go.Proofs.Ytcklmemnjchdcaa
open Go.RowKit
set_option linter.unusedVariables false
set_option linter.unusedSimpArgs false

def cntW (f : Nat → En) : Nat → Nat
  | 0 => 0
  | k + 1 => cntW f k + if (f k).k = 1 then 1 else 0
theorem cntW_le (f : Nat → En) : ∀ k, cntW f k ≤ k
  | 0 => Nat.le_refl _
  | k + 1 => by have := cntW_le f k; simp only [cntW]; split <;> omega

set_option maxRecDepth 100000 in
set_option maxHeartbeats 4000000 in
theorem bwritten_any (nx : Int) (la : Bool) (p : Option Addr) (n cap : Nat) (f : Nat → En) (h1 : n ≤ cap) (h2 : cap ≤ maxLen) (w : World) (HR : RowP w p 2 n (fun i => ecells (f i))) :
    Calls Try.prog 28 #[smval nx la p n cap] w fun e w' => e = .returned (.int .i64 (cntW f n : Int)) ∧ Below w.heap.size w w' := by
  have hb0 : Below w.heap.size w (w.alloc (.cells (smcells nx la p n cap) 83)) := (Below.refl _ _).alloc (Nat.le_refl _) _
  have hR0 := hid HR
  have D0 := hid hb0
  unfold maxLen at h2
  clear HR hb0
  go_enter Try.func28, Try.ntmps28
  go_wp2_with fail
  go_loopw [3, 9, 5] (fun c i zz wx => ∃ k : Nat, k ≤ n ∧ i = .int .i64 (k : Int) ∧ c = .int .i64 (cntW f k : Int) ∧ Below w.heap.size w wx) (fun _ i _ _ => n - (intOf i).toNat)
  case atStart => exact ⟨0, by omega, rfl, rfl, D0.out⟩
  case round =>
    obtain ⟨k, hk, rfl, rfl, hb⟩ := hrel
    by_cases hlt : k < n
    · obtain ⟨b, o, rfl, R0⟩ := hR0.out.row (by omega)
      have R := R0.more hb
      have z0 := R.at0 hlt (v := .int .i64 (f k).k) rfl
      have z1 := R.at1 hlt (v := .int .i64 (f k).i) rfl
      have hbG := hid (hb.alloc hb.size (.cells #[.int .i64 (f k).k, .int .i64 (f k).i] 70))
      have hle := cntW_le f k
      have hst : cntW f (k + 1) = cntW f k + if (f k).k = 1 then 1 else 0 := rfl
      clear R R0 hb
      by_cases hk1 : (f k).k = 1
      · rw [if_pos hk1] at hst
        replace hst := hid hst
        rw [hk1] at z0 hbG
        replace hk1 := hid hk1
        generalize cntW f k = c at *
        have uc : IntKind.i64.wrap ((c : Int) + 1) = (c : Int) + 1 := IntWalk.i64_in _ (by omega)
        go_wp2_with fail
        go_roundw
        case rel => exact ⟨k + 1, by omega, by go_num, by rw [hst.out]; go_num, hbG.out⟩
        case measure => simp [intOf]; omega
      · rw [if_neg hk1] at hst
        replace hst := hid hst
        have hk1' : ((f k).k == 1) = false := by simpa using hk1
        clear hk1
        go_wp2_with fail
        go_roundw
        case rel => exact ⟨k + 1, by omega, by go_num, by rw [hst.out]; rfl, hbG.out⟩
        case measure => simp [intOf]; omega
    · obtain rfl : k = n := by omega
      replace hb := hid hb
      go_wp2
      go_ret
      exact ⟨rfl, hb.out⟩

/-- Entries' octets. -/
def entB (f : Nat → En) : Nat → List UInt8
  | 0 => []
  | k + 1 => entB f k ++ leB (f k).k.toNat 1 ++ leB (f k).i.toNat 1
theorem entB_length (f : Nat → En) : ∀ k, (entB f k).length = 2 * k
  | 0 => rfl
  | k + 1 => by simp only [entB, List.length_append, entB_length f k, leB_length]; omega
def lastN (la : Bool) : Int := if la then 1 else 0
def sheadB (nx : Int) (la : Bool) (n : Nat) : List UInt8 := [] ++ leB nx.toNat 1 ++ leB (lastN la).toNat 1 ++ leB (n : Int).toNat 1
theorem sheadB_length (nx : Int) (la : Bool) (n : Nat) : (sheadB nx la n).length = 3 := by simp [sheadB, leB_length]
def smB (nx : Int) (la : Bool) (n : Nat) (f : Nat → En) : List UInt8 := sheadB nx la n ++ entB f n
def smL (nx : Int) (la : Bool) (n : Nat) (f : Nat → En) : List UInt8 := if bCk nx n f = 0 then smB nx la n f else []
theorem bCk_zero {nx : Int} {n : Nat} {f : Nat → En} (h : bCk nx n f = 0) : 0 ≤ nx ∧ nx ≤ 31 ∧ n ≤ 64 ∧ ∀ i, i < n → ((f i).k = 1 ∨ (f i).k = 2) ∧ 1 ≤ (f i).i ∧ (f i).i ≤ 255 := by
  unfold bCk at h
  split at h
  · cases h
  · split at h
    · cases h
    · split at h
      · rename_i h1 h2 h3
        refine ⟨by omega, by omega, by omega, fun i hi => ?_⟩
        have := (allG_iff f n).1 h3 i hi
        simpa [goodE] using this
      · cases h
theorem bCk_ways (nx : Int) (n : Nat) (f : Nat → En) : bCk nx n f = 0 ∨ bCk nx n f = 3 ∨ bCk nx n f = 4 ∨ bCk nx n f = 12 := by
  unfold bCk; split
  · exact .inr (.inr (.inl rfl))
  · split
    · exact .inr (.inl rfl)
    · split
      · exact .inl rfl
      · exact .inr (.inr (.inr rfl))

set_option maxRecDepth 100000 in
set_option maxHeartbeats 8000000 in
theorem bput_any (nx : Int) (la : Bool) (p : Option Addr) (n cap : Nat) (f : Nat → En) (h1 : n ≤ cap) (h2 : cap ≤ maxLen) (w : World) (HR : RowP w p 2 n (fun i => ecells (f i))) :
    Calls Try.prog 44 #[smval nx la p n cap] w fun e w' => ∃ v, e = .returned (.tuple #[v, .int .i64 (bCk nx n f)]) ∧ Fresh w w' v (smL nx la n f) := by
  obtain ⟨W0, hW0⟩ : ∃ W0, w.alloc (.cells (smcells nx la p n cap) 83) = W0 := ⟨_, rfl⟩
  have hb0 : Below w.heap.size w W0 := by rw [← hW0]; exact (Below.refl _ _).alloc (Nat.le_refl _) _
  have BX : Blk W0 w.heap.size (smcells nx la p n cap) := by rw [← hW0]; exact Blk.new w _ _
  have KC := hid (fun w HR => bcheck_any nx la p n cap f h1 h2 w HR)
  have HBX := hid BX
  have hR0 := hid HR
  have D0 := hid hb0
  unfold maxLen at h2
  have wy := bCk_ways nx n f
  have hz := fun h => bCk_zero (nx := nx) (n := n) (f := f) h
  have hL : smL nx la n f = if bCk nx n f = 0 then smB nx la n f else [] := rfl
  generalize bCk nx n f = C at *
  clear HR hb0 BX
  go_enter Try.func44, Try.ntmps44
  obtain ⟨lx, kx, fx⟩ := HBX.out
  go_wp2_with fail
  refine (KC.out _ (hR0.out.more D0.out)).mono ?_
  rintro e w1 ⟨rfl, hb1⟩
  have HB1 := hid (HBX.out.more hb1)
  have D1 := hid (below2 D0.out hb1 D0.out.size)
  clear hb1 lx kx fx HBX D0 hW0 KC
  obtain ⟨lx, kx, fx⟩ := HB1.out
  by_cases hC0 : C = 0
  · subst hC0
    rw [if_pos rfl] at hL
    replace hL := hid hL
    obtain ⟨nx0, nx1, n64, hE⟩ := hz rfl
    have KN := hid (fun w => ws_new 131 131 rfl w)
    have bl : 0 ≤ lastN la ∧ lastN la ≤ 1 := by unfold lastN; cases la <;> simp
    clear wy hz
    have HB := hid (fun (wx : World) (m : List UInt8) (S : WS w1 w1.heap.size 131 wx m) => HB1.out.below S.below HB1.out.lt)
    have HW := hid (fun (wx : World) (m : List UInt8) (S : WS w1 w1.heap.size 131 wx m) => D1.out.trans (S.below.mono D1.out.size))
    cases la with
    | true =>
      have hX : sheadB nx true n = [] ++ leB nx.toNat 1 ++ leB (1 : Int).toNat 1 ++ leB (n : Int).toNat 1 := rfl
      have hXl := hid (sheadB_length nx true n)
      have hS : Hid (smL nx true n f = sheadB nx true n ++ entB f n) := hL
      go_wp2_with fail
      refine (KN.out _).mono ?_
      rintro e w2 ⟨rfl, S2⟩
      clear lx kx fx
      obtain ⟨lx, kx, fx⟩ := HB.out _ _ S2
      have K := hid (ws_num S2 (by omega) (by omega) nx 1 1 rfl nx0 (by omega) (by simp))
      replace S2 := hid S2
      go_wp2_with fail
      refine K.out.mono ?_
      rintro e w3 ⟨rfl, S3⟩
      clear lx kx fx K S2
      obtain ⟨lx, kx, fx⟩ := HB.out _ _ S3
      have K := hid (ws_num S3 (by omega) (by omega) 1 1 1 rfl (by omega) (by omega) (by simp [leB_length]))
      replace S3 := hid S3
      go_wp2_with fail
      refine K.out.mono ?_
      rintro e w4 ⟨rfl, S4⟩
      clear lx kx fx K S3
      obtain ⟨lx, kx, fx⟩ := HB.out _ _ S4
      have K := hid (ws_num S4 (by omega) (by omega) n 1 1 rfl (by omega) (by omega) (by simp [leB_length]))
      replace S4 := hid S4
      go_wp2_with fail
      refine K.out.mono ?_
      rintro e w5 ⟨rfl, S5⟩
      clear lx kx fx K S4
      rw [← hX] at S5
      generalize sheadB nx true n = X at *
      replace hX := hid hX
      obtain ⟨lx, kx, fx⟩ := HB.out _ _ S5
      replace S5 := hid S5
      go_wp2_with fail
      clear lx kx fx
      go_loopw [32, 8] (fun i zz wx => ∃ k : Nat, k ≤ n ∧ i = .int .i64 (k : Int) ∧ WS w1 w1.heap.size 131 wx (X ++ entB f k)) (fun i _ _ => n - (intOf i).toNat)
      case atStart => exact ⟨0, by omega, rfl, by simpa [entB] using S5.out⟩
      case round =>
        clear S5
        obtain ⟨k, hk, rfl, S⟩ := hrel
        have hlen : (X ++ entB f k).length = 3 + 2 * k := by rw [List.length_append, hXl.out, entB_length]
        by_cases hlt : k < n
        · obtain ⟨b, o, rfl, R0⟩ := hR0.out.row (by omega)
          have R := R0.more (HW.out _ _ S)
          have z0 := R.at0 hlt (v := .int .i64 (f k).k) rfl
          have z1 := R.at1 hlt (v := .int .i64 (f k).i) rfl
          obtain ⟨hk12, i1, i2⟩ := hE k hlt
          have kb : 1 ≤ (f k).k ∧ (f k).k ≤ 2 := by omega
          have hst := hid (show X ++ entB f k ++ leB (f k).k.toNat 1 ++ leB (f k).i.toNat 1 = X ++ entB f (k + 1) by simp [entB, List.append_assoc])
          clear R R0
          generalize (f k).k = ek at *
          generalize (f k).i = ei at *
          have hbA : Below wr.heap.size wr (wr.alloc (.cells #[.int .i64 ek, .int .i64 ei] 70)) := (Below.refl _ _).alloc (Nat.le_refl _) _
          have BE := Blk.new wr #[.int .i64 ek, .int .i64 ei] 70
          obtain ⟨a9, O9, h9⟩ := S
          have hnm : ¬ Mine w1.heap.size a9 wr.heap.size := fun hm => by have := (O9.mine hm).2; omega
          have O9' := O9.more hbA
          have h9' := h9.trans (hbA.mono (Nat.le_of_lt O9.lt))
          have K1 := hid (ow_num ek 1 1 rfl w1.heap.size a9 131 (X ++ entB f k) (X ++ entB f k ++ leB ek.toNat 1) 0 0 _ O9' (by omega) (by omega) (by rw [hlen]; omega) (.inr (.inr (.inl ⟨rfl, by omega, by rw [hlen]; omega, rfl, rfl⟩))))
          have hlen2 : (X ++ entB f k ++ leB ek.toNat 1).length = 4 + 2 * k := by rw [List.length_append, hlen, leB_length]; omega
          replace O9 := hid O9
          replace O9' := hid O9'
          replace h9 := hid h9
          replace h9' := hid h9'
          have HBE := hid BE
          have HX0 := hid (HB1.out.below (h9'.out) HB1.out.lt)
          replace hlen := hid hlen
          obtain ⟨le, ke, fe⟩ := BE
          clear hbA
          go_wp2_with fail
          refine K1.out.mono ?_
          rintro e w10 ⟨rfl, a10, O10, G10⟩
          have S10 := WS.grew O9'.out h9'.out O10 G10
          have B10 := HBE.out.sole G10.sole hnm
          have K2 := hid (ws_num S10 (by omega) (by omega) ei 1 1 rfl (by omega) (by omega) (by rw [hlen2]; omega))
          replace S10 := hid S10
          clear O10 G10 K1 HBE hnm le ke fe
          obtain ⟨le, ke, fe⟩ := B10
          go_wp2_with fail
          refine K2.out.mono ?_
          rintro e w11 ⟨rfl, S11⟩
          rw [hst.out] at S11
          replace S11 := hid S11
          clear K2 le ke fe S10
          go_wp2_with fail
          go_roundw
          case rel => exact ⟨k + 1, by omega, by go_num, S11.out⟩
          case measure => simp [intOf]; omega
        · obtain rfl : k = n := by omega
          rw [← hS.out] at S hlen
          have KD := hid (ws_done S (by omega))
          have hW := hid (HW.out _ _ S)
          clear S
          go_wp2_with fail
          refine KD.out.mono ?_
          rintro e w9 ⟨v, rfl, ⟨xa, xc, hv, OX, hb9⟩, _⟩
          have E := hid (show Fresh w w9 v (smL nx true k f) from ⟨xa, xc, hv, own_base OX hW.out.size, below2 hW.out hb9 hW.out.size⟩)
          clear OX hb9 hv
          go_wp2_with fail
          go_ret2
          exact ⟨v, rfl, E.out⟩
    | false =>
      have hX : sheadB nx false n = [] ++ leB nx.toNat 1 ++ leB (0 : Int).toNat 1 ++ leB (n : Int).toNat 1 := rfl
      have hXl := hid (sheadB_length nx false n)
      have hS : Hid (smL nx false n f = sheadB nx false n ++ entB f n) := hL
      go_wp2_with fail
      refine (KN.out _).mono ?_
      rintro e w2 ⟨rfl, S2⟩
      clear lx kx fx
      obtain ⟨lx, kx, fx⟩ := HB.out _ _ S2
      have K := hid (ws_num S2 (by omega) (by omega) nx 1 1 rfl nx0 (by omega) (by simp))
      replace S2 := hid S2
      go_wp2_with fail
      refine K.out.mono ?_
      rintro e w3 ⟨rfl, S3⟩
      clear lx kx fx K S2
      obtain ⟨lx, kx, fx⟩ := HB.out _ _ S3
      have K := hid (ws_num S3 (by omega) (by omega) 0 1 1 rfl (by omega) (by omega) (by simp [leB_length]))
      replace S3 := hid S3
      go_wp2_with fail
      refine K.out.mono ?_
      rintro e w4 ⟨rfl, S4⟩
      clear lx kx fx K S3
      obtain ⟨lx, kx, fx⟩ := HB.out _ _ S4
      have K := hid (ws_num S4 (by omega) (by omega) n 1 1 rfl (by omega) (by omega) (by simp [leB_length]))
      replace S4 := hid S4
      go_wp2_with fail
      refine K.out.mono ?_
      rintro e w5 ⟨rfl, S5⟩
      clear lx kx fx K S4
      rw [← hX] at S5
      generalize sheadB nx false n = X at *
      replace hX := hid hX
      obtain ⟨lx, kx, fx⟩ := HB.out _ _ S5
      replace S5 := hid S5
      go_wp2_with fail
      clear lx kx fx
      go_loopw [32, 8] (fun i zz wx => ∃ k : Nat, k ≤ n ∧ i = .int .i64 (k : Int) ∧ WS w1 w1.heap.size 131 wx (X ++ entB f k)) (fun i _ _ => n - (intOf i).toNat)
      case atStart => exact ⟨0, by omega, rfl, by simpa [entB] using S5.out⟩
      case round =>
        clear S5
        obtain ⟨k, hk, rfl, S⟩ := hrel
        have hlen : (X ++ entB f k).length = 3 + 2 * k := by rw [List.length_append, hXl.out, entB_length]
        by_cases hlt : k < n
        · obtain ⟨b, o, rfl, R0⟩ := hR0.out.row (by omega)
          have R := R0.more (HW.out _ _ S)
          have z0 := R.at0 hlt (v := .int .i64 (f k).k) rfl
          have z1 := R.at1 hlt (v := .int .i64 (f k).i) rfl
          obtain ⟨hk12, i1, i2⟩ := hE k hlt
          have kb : 1 ≤ (f k).k ∧ (f k).k ≤ 2 := by omega
          have hst := hid (show X ++ entB f k ++ leB (f k).k.toNat 1 ++ leB (f k).i.toNat 1 = X ++ entB f (k + 1) by simp [entB, List.append_assoc])
          clear R R0
          generalize (f k).k = ek at *
          generalize (f k).i = ei at *
          have hbA : Below wr.heap.size wr (wr.alloc (.cells #[.int .i64 ek, .int .i64 ei] 70)) := (Below.refl _ _).alloc (Nat.le_refl _) _
          have BE := Blk.new wr #[.int .i64 ek, .int .i64 ei] 70
          obtain ⟨a9, O9, h9⟩ := S
          have hnm : ¬ Mine w1.heap.size a9 wr.heap.size := fun hm => by have := (O9.mine hm).2; omega
          have O9' := O9.more hbA
          have h9' := h9.trans (hbA.mono (Nat.le_of_lt O9.lt))
          have K1 := hid (ow_num ek 1 1 rfl w1.heap.size a9 131 (X ++ entB f k) (X ++ entB f k ++ leB ek.toNat 1) 0 0 _ O9' (by omega) (by omega) (by rw [hlen]; omega) (.inr (.inr (.inl ⟨rfl, by omega, by rw [hlen]; omega, rfl, rfl⟩))))
          have hlen2 : (X ++ entB f k ++ leB ek.toNat 1).length = 4 + 2 * k := by rw [List.length_append, hlen, leB_length]; omega
          replace O9 := hid O9
          replace O9' := hid O9'
          replace h9 := hid h9
          replace h9' := hid h9'
          have HBE := hid BE
          have HX0 := hid (HB1.out.below (h9'.out) HB1.out.lt)
          replace hlen := hid hlen
          obtain ⟨le, ke, fe⟩ := BE
          clear hbA
          go_wp2_with fail
          refine K1.out.mono ?_
          rintro e w10 ⟨rfl, a10, O10, G10⟩
          have S10 := WS.grew O9'.out h9'.out O10 G10
          have B10 := HBE.out.sole G10.sole hnm
          have K2 := hid (ws_num S10 (by omega) (by omega) ei 1 1 rfl (by omega) (by omega) (by rw [hlen2]; omega))
          replace S10 := hid S10
          clear O10 G10 K1 HBE hnm le ke fe
          obtain ⟨le, ke, fe⟩ := B10
          go_wp2_with fail
          refine K2.out.mono ?_
          rintro e w11 ⟨rfl, S11⟩
          rw [hst.out] at S11
          replace S11 := hid S11
          clear K2 le ke fe S10
          go_wp2_with fail
          go_roundw
          case rel => exact ⟨k + 1, by omega, by go_num, S11.out⟩
          case measure => simp [intOf]; omega
        · obtain rfl : k = n := by omega
          rw [← hS.out] at S hlen
          have KD := hid (ws_done S (by omega))
          have hW := hid (HW.out _ _ S)
          clear S
          go_wp2_with fail
          refine KD.out.mono ?_
          rintro e w9 ⟨v, rfl, ⟨xa, xc, hv, OX, hb9⟩, _⟩
          have E := hid (show Fresh w w9 v (smL nx false k f) from ⟨xa, xc, hv, own_base OX hW.out.size, below2 hW.out hb9 hW.out.size⟩)
          clear OX hb9 hv
          go_wp2_with fail
          go_ret2
          exact ⟨v, rfl, E.out⟩
  · rw [if_neg hC0] at hL
    replace hL := hid hL
    have hb : (C != 0) = true := by simpa using hC0
    clear wy hz
    go_wp2_with fail
    go_ret2
    exact ⟨.slice none 0 0, rfl, by rw [hL.out]; exact ⟨none, 0, rfl, World.ownsRow_nil _ _ _ _, D1.out⟩⟩
end Go.Proofs.Ytcklmemnjchdcaa

/-
  Entries in a row of the call's own: a list of them, and the row that a walk reads.
-/


namespace Go.Proofs.Ytcklmemnjchdcaa
open Go.RowKit
set_option linter.unusedVariables false

theorem enTab : (Try.prog.info? 70).map (fun i => (i.zero, i.size, i.bytes)) = some (some (.agg #[.int .i64 0, .int .i64 0]), 2, 16) := by kernel_rfl
/-- The cells of entries, one behind the other. -/
def flatE (L : List En) : List Value := L.flatMap ecells
theorem flatE_append (L M : List En) : flatE (L ++ M) = flatE L ++ flatE M := by simp [flatE]
theorem flatE_one (q : En) : flatE [q] = ecells q := by simp [flatE]
theorem flatE_get : ∀ (L : List En) (i j : Nat) (hi : i < L.length) (v : Value), (ecells L[i])[j]? = some v → (flatE L)[i * 2 + j]? = some v
  | [], i, j, hi, v, h => absurd hi (Nat.not_lt_zero _)
  | q :: L, 0, j, hi, v, h => by
    have hj : j < (ecells q).length := (List.getElem?_eq_some_iff.1 h).1
    simp only [flatE, List.flatMap_cons, Nat.zero_mul, Nat.zero_add]
    rw [List.getElem?_append_left hj]
    exact h
  | q :: L, i + 1, j, hi, v, h => by
    have ih := flatE_get L i j (by simpa using hi) v (by simpa using h)
    simp only [flatE, List.flatMap_cons]
    rw [List.getElem?_append_right (by simp [ecells]; omega)]
    rw [show (i + 1) * 2 + j - (ecells q).length = i * 2 + j by simp [ecells]; omega]
    exact ih

/-- A row of the call's own holds these entries. -/
def EnsOwn (w : World) (base : Nat) (v : Value) (L : List En) : Prop := w.ownsRow base 70 2 v L.length (flatE L)
def enAt (L : List En) (i : Nat) : En := (L[i]?).getD ⟨0, 0⟩
theorem enAt_eq (L : List En) (i : Nat) (hi : i < L.length) : enAt L i = L[i] := by simp [enAt, hi]
theorem EnsOwn.nil (w : World) (base : Nat) : EnsOwn w base (.slice none 0 0) [] := World.ownsRow_nil _ _ _ _
theorem EnsOwn.sole {S : Nat → Prop} {w w' : World} {base : Nat} {v : Value} {L : List En} (h : EnsOwn w base v L) (hs : Sole S w w') (hn : ∀ k, v.ownBlock = some k → ¬ S k) : EnsOwn w' base v L := own_sole h hs hn
theorem EnsOwn.more {w w' : World} {base : Nat} {v : Value} {L : List En} (h : EnsOwn w base v L) (hb : Below w.heap.size w w') : EnsOwn w' base v L :=
  own_sole h (Sole.made (S := fun _ => False) hb) fun _ _ x => x
theorem EnsOwn.open {w : World} {base : Nat} {v : Value} {L : List En} (h : EnsOwn w base v L) :
    ∃ p cap, v = .slice p L.length cap ∧ L.length ≤ cap ∧ cap ≤ maxLen ∧ RowP w p 2 L.length (fun i => ecells (enAt L i)) := by
  rcases h.2 with ⟨rfl, h0⟩ | ⟨g, cap, cur, rfl, hb, hg, h1, h2, h3, h4⟩
  · exact ⟨none, 0, by rw [h0], by omega, Nat.zero_le _, .inl h0⟩
  · refine ⟨_, cap, rfl, h1, h2, .inr ⟨g, 0, rfl, (h.lt g rfl).2, fun i hi j u hu => ?_⟩⟩
    rw [enAt_eq L i hi] at hu
    have hf := flatE_get L i j hi u hu
    have := h.cells (g := g) rfl (i * 2 + j) u hf
    rw [Nat.zero_add]
    unfold Addr.add at this
    split at this
    · rename_i e
      simpa [e] using this
    · simpa using this
end Go.Proofs.Ytcklmemnjchdcaa

/-
  Package batch: Read, of octets.
-/






namespace Go.Proofs.Ytcklmemnjchdcaa
open Go.RowKit
set_option linter.unusedVariables false
set_option linter.unusedSimpArgs false

/-- The i-th entry that octets tell. -/
def rdE (l : List UInt8) (i : Nat) : En := ⟨byteAt l (3 + 2 * i), byteAt l (4 + 2 * i)⟩
def readG (l : List UInt8) : Bool := decide (3 ≤ l.length) && (decide (byteAt l 1 ≤ 1) && (decide (l.length = 3 + 2 * byteAt l 2) && (bCk (byteAt l 0) (byteAt l 2) (rdE l) == 0)))
def RdPost (l : List UInt8) (w : World) (e : Ending) (w' : World) : Prop :=
  (readG l = true ∧ ∃ q cap, e = .returned (.tuple #[smval (byteAt l 0) (((byteAt l 1 : Int)) == 1) q (byteAt l 2) cap, .int .i64 0]) ∧ byteAt l 2 ≤ cap ∧ cap ≤ maxLen ∧ RowP w' q 2 (byteAt l 2) (fun i => ecells (rdE l i)) ∧ Below w.heap.size w w' ∧ ∀ b o, q = some ⟨b, o, none⟩ → byteAt l 2 ≠ 0 → w.heap.size ≤ b) ∨
    (readG l = false ∧ e = .returned (.tuple #[smval 0 false none 0 0, .int .i64 16]) ∧ Below w.heap.size w w')
theorem one_of (l : List UInt8) (i : Nat) (h : i < l.length) : numOf ((l.drop i).take 1) = byteAt l i := by
  rw [List.drop_eq_getElem_cons h, byteAt_get l i h, List.take_succ_cons, List.take_zero]
  simp [numOf]
theorem newsE (w : World) (c : Array Value) (t : TypeId) : ∀ j u, c.toList[j]? = some u → (w.alloc (.cells c t)).cell? (Addr.add ⟨w.heap.size, 0, none⟩ j) = some u :=
  World.news_of_block (cs := c) (t := t) (fr := (0, 0)) (heap_alloc_new w _)
theorem rd_next (l : List UInt8) (L : List En) (k : Nat) (x1 x2 : Nat) (hL : L.length = k) (h : ∀ j, j < k → enAt L j = rdE l j) (h1 : (x1 : Int) = (rdE l k).k) (h2 : (x2 : Int) = (rdE l k).i) : ∀ j, j < k + 1 → enAt (L ++ [(⟨x1, x2⟩ : En)]) j = rdE l j := by
  intro j hj
  by_cases e : j = k
  · subst e
    unfold enAt
    rw [List.getElem?_append_right (by omega), hL, Nat.sub_self]
    show (⟨(x1 : Int), (x2 : Int)⟩ : En) = rdE l j
    rw [h1, h2]
  · rw [← h j (by omega)]
    unfold enAt
    rw [List.getElem?_append_left (by omega)]
theorem RowP.congr {w : World} {p : Option Addr} {sz n : Nat} {f g : Nat → List Value} (h : RowP w p sz n f) (e : ∀ i, i < n → f i = g i) : RowP w p sz n g :=
  h.imp id fun ⟨b, o, e', r⟩ => ⟨b, o, e', r.lt, fun i hi j v hv => r.cell i hi j v (by rw [e i hi]; exact hv)⟩
theorem RowP.apart {S : Nat → Prop} {w w' : World} {p : Option Addr} {sz n : Nat} {f : Nat → List Value} (h : RowP w p sz n f) (hs : Sole S w w') (hn : ∀ b o, p = some ⟨b, o, none⟩ → n ≠ 0 → ¬ S b) : RowP w' p sz n f := by
  by_cases h0 : n = 0
  · exact .inl h0
  · obtain ⟨b, o, e, r⟩ := h.resolve_left h0
    exact .inr ⟨b, o, e, Nat.lt_of_lt_of_le r.lt hs.size, fun i hi j v hv => (hs.cell r.lt (hn b o e h0)).trans (r.cell i hi j v hv)⟩
theorem allG_congr (f g : Nat → En) : ∀ n, (∀ j, j < n → f j = g j) → allG f n = allG g n
  | 0, _ => rfl
  | n + 1, h => by simp only [allG]; rw [allG_congr f g n fun j hj => h j (by omega), h n (by omega)]
theorem bCk_congr (nx : Int) (n : Nat) (f g : Nat → En) (h : ∀ j, j < n → f j = g j) : bCk nx n f = bCk nx n g := by
  unfold bCk; rw [allG_congr f g n h]
/-- Two octets more. -/
theorem rd_states (l rest : List UInt8) (bad : Bool) (k N : Nat) (hk : k < N) (h : (bad = false ∧ 3 + 2 * k ≤ l.length ∧ rest = l.drop (3 + 2 * k)) ∨ (bad = true ∧ l.length < 3 + 2 * N)) :
    ∃ (b1 b2 : Bool) (r1 r2 : List UInt8) (x1 x2 : Nat), (b1 = (bad || decide (rest.length < 1)) ∧ r1 = (if b1 then [] else rest.drop 1) ∧ x1 = numOf (if b1 then [] else rest.take 1)) ∧
      (b2 = (b1 || decide (r1.length < 1)) ∧ r2 = (if b2 then [] else r1.drop 1) ∧ x2 = numOf (if b2 then [] else r1.take 1)) ∧
      ((b2 = false ∧ 3 + 2 * (k + 1) ≤ l.length ∧ r2 = l.drop (3 + 2 * (k + 1)) ∧ (x1 : Int) = (rdE l k).k ∧ (x2 : Int) = (rdE l k).i) ∨ (b2 = true ∧ l.length < 3 + 2 * N)) := by
  refine ⟨_, _, _, _, _, _, ⟨rfl, rfl, rfl⟩, ⟨rfl, rfl, rfl⟩, ?_⟩
  rcases h with ⟨rfl, hl, rfl⟩ | ⟨rfl, hl⟩
  · have len : (l.drop (3 + 2 * k)).length = l.length - (3 + 2 * k) := List.length_drop
    by_cases h1 : l.length < 3 + 2 * k + 1
    · have : (l.drop (3 + 2 * k)).length < 1 := by omega
      right
      simp [this]
      omega
    · by_cases h2 : l.length < 3 + 2 * k + 2
      · have q1 : ¬ (l.drop (3 + 2 * k)).length < 1 := by omega
        right
        simp only [q1, decide_false, Bool.or_false, Bool.false_eq_true, if_false, Bool.false_or]
        rw [List.drop_drop]
        refine ⟨?_, by omega⟩
        rw [List.length_drop]
        simp; omega
      · have q1 : ¬ (l.drop (3 + 2 * k)).length < 1 := by omega
        have q2 : ¬ (l.drop (3 + 2 * k + 1)).length < 1 := by rw [List.length_drop]; omega
        left
        simp only [q1, decide_false, Bool.or_false, Bool.false_eq_true, if_false, Bool.false_or, List.drop_drop]
        simp only [q2, decide_false, Bool.false_eq_true, if_false]
        refine ⟨trivial, by omega, by rw [show 3 + 2 * k + 1 + 1 = 3 + 2 * (k + 1) by omega], ?_, ?_⟩
        · rw [one_of l _ (by omega)]; rfl
        · rw [one_of l _ (by omega)]
          show ((byteAt l (3 + 2 * k + 1) : Nat) : Int) = ((byteAt l (4 + 2 * k) : Nat) : Int)
          rw [show 3 + 2 * k + 1 = 4 + 2 * k by omega]
  · right
    simp
    exact hl
set_option maxRecDepth 100000 in
set_option maxHeartbeats 16000000 in
theorem bread_long (l : List UInt8) (a : Option Addr) (cap : Nat) (hl : l.length ≤ 140737488355328) (h3 : 3 ≤ l.length) (w : World) (O : Octs w a l) :
    Calls Try.prog 80 #[.slice a l.length cap] w (RdPost l w) := by
  obtain ⟨i0, hi, hz0, hz1, hz2⟩ := info_parts enTab
  obtain ⟨W0, hW0⟩ : ∃ W0, w.alloc (.cells #[.int .i64 0, .bool false, .slice none 0 0] 83) = W0 := ⟨_, rfl⟩
  have hb0 : Below w.heap.size w W0 := by rw [← hW0]; exact (Below.refl _ _).alloc (Nat.le_refl _) _
  have BX : Blk W0 w.heap.size #[.int .i64 0, .bool false, .slice none 0 0] := by rw [← hW0]; exact Blk.new w _ _
  have KO := hid (rs_open l a cap W0 (O.more hb0) hl)
  have EB : Hid (∀ w', readG l = false → Below w.heap.size w w' → RdPost l w (.returned (.tuple #[smval 0 false none 0 0, .int .i64 16])) w') := hid (fun w' hg hb => .inr ⟨hg, rfl, hb⟩)
  have n0 : numOf (l.take 1) = byteAt l 0 := one_of l 0 (by omega)
  have n1 : numOf ((l.drop 1).take 1) = byteAt l 1 := one_of l 1 (by omega)
  have n2 : numOf ((l.drop 2).take 1) = byteAt l 2 := one_of l 2 (by omega)
  have b0 := byteAt_lt l 0
  have b1 := byteAt_lt l 1
  have b2 := byteAt_lt l 2
  have hG : readG l = (decide (3 ≤ l.length) && (decide (byteAt l 1 ≤ 1) && (decide (l.length = 3 + 2 * byteAt l 2) && (bCk (byteAt l 0) (byteAt l 2) (rdE l) == 0)))) := rfl
  have EG : Hid (∀ q c w', readG l = true → byteAt l 2 ≤ c → c ≤ maxLen → RowP w' q 2 (byteAt l 2) (fun i => ecells (rdE l i)) → Below w.heap.size w w' → (∀ b o, q = some ⟨b, o, none⟩ → byteAt l 2 ≠ 0 → w.heap.size ≤ b) → RdPost l w (.returned (.tuple #[smval (byteAt l 0) (((byteAt l 1 : Int)) == 1) q (byteAt l 2) c, .int .i64 0])) w') := hid (fun q c w' hg h1 h2 hr hb hq => .inl ⟨hg, q, c, rfl, h1, h2, hr, hb, hq⟩)
  generalize byteAt l 0 = v0 at *
  generalize byteAt l 1 = v1 at *
  generalize byteAt l 2 = N at *
  have HBX := hid BX
  have D0 := hid hb0
  replace hG := hid hG
  clear BX O hb0
  go_enter Try.func80, Try.ntmps80
  go_wp2_with fail
  refine KO.out.mono ?_
  rintro e w1 ⟨q, rfl, hq, R1, hb1⟩
  have hs0 : W0.heap.size = w.heap.size + 1 := by rw [← hW0]; simp
  have hgq : w.heap.size < q := by omega
  have HB1 := HBX.out.more hb1
  have D1 := below2 D0.out hb1 D0.out.size
  have K := rs_nums 1 1 rfl q l w1 R1 (by omega)
  rw [n0] at K
  replace K := hid K
  replace R1 := hid R1
  replace HB1 := hid HB1
  replace D1 := hid D1
  clear hb1 KO hq hW0 HBX D0
  go_wp2_with fail
  refine K.out.mono ?_
  rintro e w2 ⟨rfl, R2, S2⟩
  have HB2 := HB1.out.sole S2 (fun h => by have h' : w.heap.size = q := h; omega)
  have D2 := D1.out.trans (S2.below (B := w.heap.size) D1.out.size fun j hj => by omega)
  have hbA : Below w2.heap.size w2 (w2.alloc (.cells #[.int .i64 v0, .bool false, .slice none 0 0] 83)) := (Below.refl _ _).alloc (Nat.le_refl _) _
  have BS := Blk.new w2 #[.int .i64 v0, .bool false, .slice none 0 0] 83
  have R2' := R2.more hbA
  have hq2 : q < w2.heap.size := R2.1.lt
  have HB3 := hid (HB2.more hbA)
  have D3 := hid (D2.trans (hbA.mono D2.size))
  have hg2 : w.heap.size < w2.heap.size := HB2.lt
  have K2 := rs_nums 1 1 rfl q (l.drop 1) _ R2' (by rw [List.length_drop]; omega)
  rw [n1, List.drop_drop] at K2
  replace K2 := hid K2
  replace BS := hid BS
  obtain ⟨g5, hg5⟩ : ∃ g5, w2.heap.size = g5 := ⟨_, rfl⟩
  clear K R1 HB1 D1 S2 HB2 D2 R2 R2' hbA
  go_wp2_with fail
  refine K2.out.mono ?_
  rintro e w3 ⟨rfl, R3, S3⟩
  have HB4 := hid (HB3.out.sole S3 (fun h => by have h' : w.heap.size = q := h; omega))
  have D4 := hid (D3.out.trans (S3.below (B := w.heap.size) D3.out.size fun j hj => by omega))
  have BS4 := BS.out.sole S3 (fun h => by have h' : w2.heap.size = q := h; omega)
  rw [hg5] at BS4 hq2 hg2
  simp only [hg5]
  have HBS4 := hid BS4
  have S5 : Sole (fun j => j = g5) w3 (w3.setCell ⟨g5, 1, none⟩ (.bool ((v1 : Int) == 1))) := Sole.setCell _ _ rfl
  have R5 : RS (w3.setCell ⟨g5, 1, none⟩ (.bool ((v1 : Int) == 1))) q (l.drop 2) false := ⟨R3.1.kept S5 (fun j hj h => by have h' : j = g5 := h; omega), R3.2⟩
  have BS5 := hid (BS4.set 1 (.bool ((v1 : Int) == 1)) (by simp))
  have HB5 := hid (HB4.out.sole S5 (fun h => by have h' : w.heap.size = g5 := h; omega))
  have D5 := hid (D4.out.trans (S5.below (B := w.heap.size) D4.out.size fun j hj => by omega))
  have K3 := rs_nums 1 1 rfl q (l.drop 2) _ R5 (by rw [List.length_drop]; omega)
  rw [n2, List.drop_drop] at K3
  replace K3 := hid K3
  clear K2 HB3 D3 S3 HB4 D4 R3 S5 R5 BS
  obtain ⟨ls, ks, fs⟩ := BS4
  go_wp2_with fail
  refine K3.out.mono ?_
  rintro e w6 ⟨rfl, R6, S6⟩
  have HB6 := hid (HB5.out.sole S6 (fun h => by have h' : w.heap.size = q := h; omega))
  have D6 := hid (D5.out.trans (S6.below (B := w.heap.size) D5.out.size fun j hj => by omega))
  have BS6 := hid (BS5.out.sole S6 (fun h => by have h' : g5 = q := h; omega))
  clear K3 HB5 D5 S6 BS5 ls ks fs HBS4
  have B6 := hid (show Blk w6 g5 #[.int .i64 v0, .bool ((v1 : Int) == 1), .slice none 0 0] from BS6.out)
  have hg56 : g5 < w6.heap.size := B6.out.lt
  have hq6 : q < w6.heap.size := R6.1.lt
  replace R6 := hid R6
  clear BS6
  go_wp2_with fail
  go_loopw [19] (fun i wx => ∃ (k : Nat) (L : List En) (v : Value) (bad : Bool) (rest : List UInt8), k ≤ N ∧ i = .int .i64 (k : Int) ∧ L.length = k ∧ Blk wx g5 #[.int .i64 v0, .bool ((v1 : Int) == 1), v] ∧ EnsOwn wx w6.heap.size v L ∧ RS wx q rest bad ∧
      ((bad = false ∧ 3 + 2 * k ≤ l.length ∧ rest = l.drop (3 + 2 * k) ∧ ∀ j, j < k → enAt L j = rdE l j) ∨ (bad = true ∧ l.length < 3 + 2 * N)) ∧ Blk wx w.heap.size #[.int .i64 0, .bool false, .slice none 0 0] ∧ Below w.heap.size w wx ∧ w6.heap.size ≤ wx.heap.size) (fun i _ => N - (intOf i).toNat)
  case atStart => exact ⟨0, [], .slice none 0 0, false, _, by omega, rfl, rfl, B6.out, EnsOwn.nil _ _, R6.out, .inl ⟨rfl, by omega, rfl, fun j hj => by omega⟩, HB6.out, D6, Nat.le_refl _⟩
  case round =>
    clear R6 HB6 D6 B6
    obtain ⟨k, L, v, bad, rest, hk, rfl, hL, BE, OE, R, fin, BZ, D, hz⟩ := hrel
    by_cases hlt : k < N
    · obtain ⟨b1', b2', r1, r2, x1, x2, ⟨e1, e2, e3⟩, ⟨e4, e5, e6⟩, fin2⟩ := rd_states l rest bad k N hlt (fin.imp (fun h => ⟨h.1, h.2.1, h.2.2.1⟩) id)
      have K1 := fun w R => rs_num 1 1 rfl q rest bad b1' e1 w R
      have K2 := fun w R => rs_num 1 1 rfl q r1 b1' b2' e4 w R
      simp only [← e2, ← e3] at K1
      simp only [← e5, ← e6] at K2
      obtain ⟨pv, cv, rfl, c1, c2, _⟩ := OE.open
      unfold EnsOwn at OE
      rw [hL] at c1 OE BE
      have xe : wr.cell? ⟨g5, 2, none⟩ = some (.slice pv k cv) := BE.cell 2
      have dr : Below wr.heap.size wr wr.drew := ⟨rfl, rfl, rfl, Nat.le_refl _, fun _ _ => rfl⟩
      have Rd : RS wr.drew q rest bad := R.more dr
      have BEd := BE.drew
      have ownge := fun j (hj : (Value.slice pv k cv).ownBlock = some j) => (OE.lt j hj).1
      have OEd := OE.drew
      have hN : N < 256 := b2
      have c2' : cv ≤ 9223372036854775807 := by unfold maxLen at c2; exact c2
      have ng5 : g5 ≠ q := by omega
      have hbb := hid (fun (h : bad = true) => (show b2' = true by rw [e4, e1, h]; rfl))
      replace fin := hid fin
      replace fin2 := hid fin2
      replace D := hid D
      have HBZ := hid BZ
      replace K1 := hid K1
      replace K2 := hid K2
      clear e1 e2 e3 e4 e5 e6 OE BE BZ R c2
      go_wp2_with fail
      go_region_law (first
        | (go_simp; (with_reducible refine (K1.out _ Rd).mono ?_); rintro e w7 ⟨rfl, R7, S7⟩; have B7 := BEd.sole S7 (fun h => ng5 h); have O7 := own_sole OEd S7 (fun j hj h => by have h' : j = q := h; have := ownge j hj; omega); have x7 : w7.cell? ⟨g5, 2, none⟩ = some (.slice pv k cv) := B7.cell 2)
        | (go_simp; (with_reducible refine (K2.out _ R7).mono ?_); rintro e w8 ⟨rfl, R8, S8⟩; have B8 := B7.sole S8 (fun h => ng5 h); have O8 := own_sole O7 S8 (fun j hj h => by have h' : j = q := h; have := ownge j hj; omega); have x8 : w8.cell? ⟨g5, 2, none⟩ = some (.slice pv k cv) := B8.cell 2; have l8 := B8.lt)
        | (refine step_append_lies _ (by rfl) _ _ _ (by rfl) w6.heap.size 70 i0 _ 2 16 Try.underlying36 hi hz0 hz1 hz2 rfl (by omega) (.slice pv k cv) k (flatE L) (by rfl) (O8.alloc _) _ 1 1 (#[.int .i64 x1, .int .i64 x2] : Array Value).toList (by rfl) (by rfl) (newsE _ _ _) (by simp [Value.oneCell']) (by omega) (by unfold maxLen; omega) (by omega) (by have q7 := S7.size; have q8 := S8.size; simp at q7 q8 ⊢; omega) _ rfl ?_; intro g9 cap9 w9 hown9 hgrow9 hat9 hlt9; have S9 := Sole.grown (S := fun j => (Value.slice pv k cv).ownBlock = some j) hgrow9 (fun j hj => hj); have B9 := (B8.alloc _).sole S9 (fun hj => by have := ownge _ hj; omega); have HB9 := hid B9; obtain ⟨l9, k9, f9⟩ := B9))
      all_goals
        have S10 : Sole (fun j => j = g5) w9 (w9.setCell ⟨g5, 2, none⟩ (.slice (some ⟨g9, 0, none⟩) (k + 1) cap9)) := Sole.setCell _ _ rfl
        have hg9 := (hown9.lt g9 rfl).1
        have hL9 : (L ++ [(⟨x1, x2⟩ : En)]).length = k + 1 := by rw [List.length_append, hL]; rfl
        have E1 := hid (show EnsOwn (w9.setCell ⟨g5, 2, none⟩ (.slice (some ⟨g9, 0, none⟩) (k + 1) cap9)) w6.heap.size (.slice (some ⟨g9, 0, none⟩) (k + 1) cap9) (L ++ [(⟨x1, x2⟩ : En)]) by
          unfold EnsOwn
          rw [hL9, flatE_append, flatE_one]
          exact own_sole hown9 S10 (fun j hj h => by have h' : j = g5 := h; simp [Value.ownBlock] at hj; omega))
        have E2 := hid (((R8.more ((Below.refl _ _).alloc (Nat.le_refl _) (.cells #[.int .i64 x1, .int .i64 x2] 70))).kept S9 (fun j hj h => by have := ownge j h; omega)).kept S10 (fun j hj h => by have h' : j = g5 := h; omega))
        have E3 := hid (HB9.out.set 2 (.slice (some ⟨g9, 0, none⟩) (k + 1) cap9) (by simp))
        have E4 := hid (((((HBZ.out.drew.sole S7 (fun h => by have h' : w.heap.size = q := h; omega)).sole S8 (fun h => by have h' : w.heap.size = q := h; omega)).alloc (.cells #[.int .i64 x1, .int .i64 x2] 70)).sole S9 (fun h => by have := ownge _ h; omega)).sole S10 (fun h => by have h' : w.heap.size = g5 := h; omega))
        have d1 := (D.out.trans (dr.mono D.out.size)).trans (S7.below (B := w.heap.size) (by have h := D.out.size; exact h) fun j hj => by have h' : j = q := hj; omega)
        have d2 := d1.trans (S8.below (B := w.heap.size) d1.size fun j hj => by have h' : j = q := hj; omega)
        have d3 := (d2.alloc d2.size (.cells #[.int .i64 x1, .int .i64 x2] 70))
        have d4 := d3.trans (S9.below (B := w.heap.size) d3.size fun j hj => by have := ownge j hj; omega)
        have E5 := hid (d4.trans (S10.below (B := w.heap.size) d4.size fun j hj => by have h' : j = g5 := hj; omega))
        have E6 := hid (show w6.heap.size ≤ (w9.setCell ⟨g5, 2, none⟩ (.slice (some ⟨g9, 0, none⟩) (k + 1) cap9)).heap.size by
          have q1 := S7.size
          have q2 := S8.size
          have q3 := S9.size
          have q4 := S10.size
          simp only [World.size_drew, World.size_alloc] at q1 q2 q3 q4
          omega)
        have E7 := hid (show (b2' = false ∧ 3 + 2 * (k + 1) ≤ l.length ∧ r2 = l.drop (3 + 2 * (k + 1)) ∧ ∀ j, j < k + 1 → enAt (L ++ [(⟨x1, x2⟩ : En)]) j = rdE l j) ∨ (b2' = true ∧ l.length < 3 + 2 * N) by
          rcases fin2.out with ⟨f1, f2, f3, f4, f5⟩ | ⟨f1, f2⟩
          · rcases fin.out with ⟨_, _, _, g4⟩ | ⟨g1, g2⟩
            · exact .inl ⟨f1, f2, f3, rd_next l L k x1 x2 hL g4 f4 f5⟩
            · exfalso; have hbt := hbb.out g1; rw [f1] at hbt; cases hbt
          · exact .inr ⟨f1, f2⟩)
        clear d1 d2 d3 d4 S7 S8 S9 S10 hown9 hgrow9 R7 R8
        go_wp2_with fail
        go_roundw
        case rel => exact ⟨k + 1, _, _, _, _, by omega, by go_num, hL9, E3.out, E1.out, E2.out, E7.out, E4.out, E5.out, E6.out⟩
        case measure => simp [intOf]; omega
    · obtain rfl : k = N := by omega
      obtain ⟨pv, cv, rfl, c1, c2, RV⟩ := OE.open
      rw [hL] at c1 RV BE
      have HBZ := hid BZ
      have HBE := hid BE
      have KE := hid (err_any q rest _ wr R.1)
      have KL := hid (left_any q rest _ wr R.1)
      have KC := hid (bcheck_any v0 ((v1 : Int) == 1) pv k cv (enAt L) c1 c2 wr RV)
      replace D := hid D
      replace RV := hid RV
      replace fin := hid fin
      have v1b : (v1 : Int) ≤ 255 := by omega
      obtain ⟨lz, kz, fz⟩ := BZ
      by_cases g1 : 1 < (v1 : Int)
      · have hbad := hid (show readG l = false by rw [hG.out, show decide (v1 ≤ 1) = false from decide_eq_false (by omega)]; simp)
        go_wp2_with fail
        have B2 := Blk.fill [.int .i64 0, .bool false, .slice none 0 0] 0 HBZ.out (by simp)
        have hb2 := hid (below_fill (b := w.heap.size) (Nat.le_refl _) [.int .i64 0, .bool false, .slice none 0 0] 0 D.out)
        show bodyPost _ _ _ _ _ (setAll wr w.heap.size 0 [.int .i64 0, .bool false, .slice none 0 0])
        obtain ⟨w7x, hw7x⟩ : ∃ x, setAll wr w.heap.size 0 [.int .i64 0, .bool false, .slice none 0 0] = x := ⟨_, rfl⟩
        rw [hw7x] at B2 hb2
        rw [hw7x]
        obtain ⟨l7, k7, f7⟩ := B2
        refine bodyPost_ret (v := .tuple #[smval 0 false none 0 0, .int .i64 16]) (by simp [results, Try.results80, go_sem, k7, fillC]) rfl ?_
        exact EB.out w7x hbad.out hb2.out
      · have hv1 : v1 ≤ 1 := by omega
        replace g1 := decide_eq_false g1
        rcases fin.out with ⟨rfl, hl3, hrest, hen⟩ | ⟨rfl, hl3⟩
        · simp only [Bool.false_eq_true, if_false] at KE
          have hlen : (rest.length : Int) = l.length - (3 + 2 * k) := by rw [hrest, List.length_drop]; omega
          by_cases g2 : 0 < (rest.length : Int)
          · have hbad := hid (show readG l = false by rw [hG.out, show decide (l.length = 3 + 2 * k) = false from decide_eq_false (by omega)]; simp)
            have hlI : (rest.length : Int) ≤ 9223372036854775807 := by omega
            have g3 : 0 < rest.length := by omega
            clear hrest hlen
            generalize rest.length = m at *
            go_wp2_with fail
            refine KE.out.mono ?_
            rintro e w7 ⟨rfl, hw7⟩
            rw [hw7]
            clear hw7 w7
            go_wp2_with fail
            refine KL.out.mono ?_
            rintro e w7 ⟨rfl, hw7⟩
            rw [hw7]
            clear hw7 w7
            go_wp2_with fail
            have B2 := Blk.fill [.int .i64 0, .bool false, .slice none 0 0] 0 HBZ.out (by simp)
            have hb2 := hid (below_fill (b := w.heap.size) (Nat.le_refl _) [.int .i64 0, .bool false, .slice none 0 0] 0 D.out)
            show bodyPost _ _ _ _ _ (setAll wr w.heap.size 0 [.int .i64 0, .bool false, .slice none 0 0])
            obtain ⟨w7x, hw7x⟩ : ∃ x, setAll wr w.heap.size 0 [.int .i64 0, .bool false, .slice none 0 0] = x := ⟨_, rfl⟩
            rw [hw7x] at B2 hb2
            rw [hw7x]
            obtain ⟨l7, k7, f7⟩ := B2
            refine bodyPost_ret (v := .tuple #[smval 0 false none 0 0, .int .i64 16]) (by simp [results, Try.results80, go_sem, k7, fillC]) rfl ?_
            exact EB.out w7x hbad.out hb2.out
          · have hr0 : (rest.length : Int) = 0 := by omega
            have hr0' : rest.length = 0 := by omega
            rw [hr0'] at KL
            have hcg := bCk_congr v0 k (enAt L) (rdE l) hen
            obtain ⟨le, ke, fe⟩ := HBE.out
            have hGC : Hid (readG l = (bCk v0 k (rdE l) == 0)) := hid (by
              rw [hG.out, show decide (3 ≤ l.length) = true from decide_eq_true h3, show decide (v1 ≤ 1) = true from decide_eq_true hv1, show decide (l.length = 3 + 2 * k) = true from decide_eq_true (by omega)]
              simp)
            have RV2 := RV.out.congr (g := fun i => ecells (rdE l i)) (fun i hi => by rw [hen i hi])
            rw [hcg] at KC
            generalize bCk v0 k (rdE l) = C at *
            replace RV2 := hid RV2
            clear hrest hlen hr0 g2 hcg
            go_wp2_with fail
            refine KE.out.mono ?_
            rintro e w7 ⟨rfl, hw7⟩
            rw [hw7]
            clear hw7 w7
            go_wp2_with fail
            refine KL.out.mono ?_
            rintro e w7 ⟨rfl, hw7⟩
            rw [hw7]
            clear hw7 w7
            go_wp2_with fail
            refine KC.out.mono ?_
            rintro e w8 ⟨rfl, hb8⟩
            have HBZx := hid (HBZ.out.more hb8)
            have HBEx := hid (HBE.out.more hb8)
            have Dx := hid (below2 D.out hb8 D.out.size)
            have RVx := hid (RV2.out.more hb8)
            clear hb8 lz kz fz le ke fe
            obtain ⟨lz, kz, fz⟩ := HBZx.out
            by_cases hC : C = 0
            · have hgood := hid (show readG l = true by rw [hGC.out, hC]; rfl)
              subst hC
              obtain ⟨le, ke, fe⟩ := HBEx.out
              go_wp2_with fail
              have B2 := Blk.fill [.int .i64 v0, .bool ((v1 : Int) == 1), .slice pv k cv] 0 HBZx.out (by simp)
              have hb2 := hid (below_fill (b := w.heap.size) (Nat.le_refl _) [.int .i64 v0, .bool ((v1 : Int) == 1), .slice pv k cv] 0 Dx.out)
              have S12 := sole_fill (b := w.heap.size) [.int .i64 v0, .bool ((v1 : Int) == 1), .slice pv k cv] 0 w8
              have RVy := hid (RVx.out.apart S12 (fun b o e hn => by
                obtain ⟨b', o', e', r⟩ := RVx.out.row hn
                have := OE.lt b (by rw [e]; rfl)
                intro h
                have h' : b = w.heap.size := h
                omega))
              show bodyPost _ _ _ _ _ (setAll w8 w.heap.size 0 [.int .i64 v0, .bool ((v1 : Int) == 1), .slice pv k cv])
              obtain ⟨w7x, hw7x⟩ : ∃ x, setAll w8 w.heap.size 0 [.int .i64 v0, .bool ((v1 : Int) == 1), .slice pv k cv] = x := ⟨_, rfl⟩
              rw [hw7x] at B2 hb2 RVy
              rw [hw7x]
              obtain ⟨l7, k7, f7⟩ := B2
              refine bodyPost_ret (v := .tuple #[smval v0 ((v1 : Int) == 1) pv k cv, .int .i64 0]) (by simp [results, Try.results80, go_sem, k7, fillC]) rfl ?_
              exact EG.out pv cv w7x hgood.out c1 c2 RVy.out hb2.out (fun b o e hn => by have := OE.lt b (by rw [e]; rfl); omega)
            · have hbad := hid (show readG l = false by rw [hGC.out]; simpa using hC)
              have hC1 : (C != 0) = true := by simpa using hC
              clear hC
              go_wp2_with fail
              have B2 := Blk.fill [.int .i64 0, .bool false, .slice none 0 0] 0 HBZx.out (by simp)
              have hb2 := hid (below_fill (b := w.heap.size) (Nat.le_refl _) [.int .i64 0, .bool false, .slice none 0 0] 0 Dx.out)
              show bodyPost _ _ _ _ _ (setAll w8 w.heap.size 0 [.int .i64 0, .bool false, .slice none 0 0])
              obtain ⟨w7x, hw7x⟩ : ∃ x, setAll w8 w.heap.size 0 [.int .i64 0, .bool false, .slice none 0 0] = x := ⟨_, rfl⟩
              rw [hw7x] at B2 hb2
              rw [hw7x]
              obtain ⟨l7, k7, f7⟩ := B2
              refine bodyPost_ret (v := .tuple #[smval 0 false none 0 0, .int .i64 16]) (by simp [results, Try.results80, go_sem, k7, fillC]) rfl ?_
              exact EB.out w7x hbad.out hb2.out
        · simp only [if_true] at KE
          have hbad := hid (show readG l = false by rw [hG.out, show decide (l.length = 3 + 2 * k) = false from decide_eq_false (by omega)]; simp)
          go_wp2_with fail
          refine KE.out.mono ?_
          rintro e w7 ⟨rfl, hw7⟩
          rw [hw7]
          clear hw7 w7
          go_wp2_with fail
          have B2 := Blk.fill [.int .i64 0, .bool false, .slice none 0 0] 0 HBZ.out (by simp)
          have hb2 := hid (below_fill (b := w.heap.size) (Nat.le_refl _) [.int .i64 0, .bool false, .slice none 0 0] 0 D.out)
          show bodyPost _ _ _ _ _ (setAll wr w.heap.size 0 [.int .i64 0, .bool false, .slice none 0 0])
          obtain ⟨w7x, hw7x⟩ : ∃ x, setAll wr w.heap.size 0 [.int .i64 0, .bool false, .slice none 0 0] = x := ⟨_, rfl⟩
          rw [hw7x] at B2 hb2
          rw [hw7x]
          obtain ⟨l7, k7, f7⟩ := B2
          refine bodyPost_ret (v := .tuple #[smval 0 false none 0 0, .int .i64 16]) (by simp [results, Try.results80, go_sem, k7, fillC]) rfl ?_
          exact EB.out w7x hbad.out hb2.out
end Go.Proofs.Ytcklmemnjchdcaa

/-
  Package batch: Same; the law's own.
-/



namespace Go.Proofs.Ytcklmemnjchdcaa
open Go.RowKit
set_option linter.unusedVariables false
set_option linter.unusedSimpArgs false

def enEq (a b a' b' : Int) : Bool := decide (a = a') && decide (b = b')
@[go_sem high] theorem eql_en (a b a' b' : Int) (w : World) : (binOp .eql 70 (.agg #[.int .i64 a, .int .i64 b]) (.agg #[.int .i64 a', .int .i64 b'])).run Try.prog w = .ok (.bool (enEq a b a' b')) w := by
  rw [run_eql_struct]
  by_cases h1 : a = a' <;> by_cases h2 : b = b' <;> simp [go_sem, enEq, h1, h2]
@[go_sem high] theorem neq_en (a b a' b' : Int) (w : World) : (binOp .neq 70 (.agg #[.int .i64 a, .int .i64 b]) (.agg #[.int .i64 a', .int .i64 b'])).run Try.prog w = .ok (.bool (!enEq a b a' b')) w := by
  rw [run_neq_struct]
  by_cases h1 : a = a' <;> by_cases h2 : b = b' <;> simp [go_sem, enEq, h1, h2]
def allE (f g : Nat → En) : Nat → Bool
  | 0 => true
  | k + 1 => allE f g k && enEq (f k).k (f k).i (g k).k (g k).i
def bSame (nx nx' : Int) (la la' : Bool) (n n' : Nat) (f g : Nat → En) : Bool := (nx == nx') && ((la == la') && ((decide (n = n')) && allE f g n))

end Go.Proofs.Ytcklmemnjchdcaa

/-
  Layer 10: which summaries may be, any one's octets, and how many sectors stand behind, are as the page says. The walk.
-/




namespace Go.Proofs.Ytcklmemnjchdcaa
open Go.RowKit
set_option linter.unusedVariables false
set_option linter.unusedSimpArgs false

/-- The octet of any number. -/
def oc (z : Int) : UInt8 := UInt8.ofNat (z % 256).toNat
theorem oc_int (z : Int) : ((oc z).toNat : Int) = z % 256 := by
  unfold oc
  rw [byte_ofNat]; omega
theorem oc_one (z : Int) (h0 : 0 ≤ z) (h1 : z ≤ 255) : leB z.toNat 1 = [oc z] := by
  have : (z % 256).toNat = z.toNat := by omega
  simp [leB, oc, this]
def entO (f : Nat → En) : Nat → List UInt8
  | 0 => []
  | k + 1 => entO f k ++ [oc (f k).k, oc (f k).i]
theorem entO_length (f : Nat → En) : ∀ k, (entO f k).length = 2 * k
  | 0 => rfl
  | k + 1 => by simp only [entO, List.length_append, entO_length f k, List.length_cons, List.length_nil]; omega
theorem entO_eq (f : Nat → En) : ∀ n, (∀ i, i < n → ((f i).k = 1 ∨ (f i).k = 2) ∧ 1 ≤ (f i).i ∧ (f i).i ≤ 255) → entB f n = entO f n
  | 0, _ => rfl
  | n + 1, h => by
    obtain ⟨h1, h2, h3⟩ := h n (by omega)
    simp only [entB, entO]
    rw [entO_eq f n fun i hi => h i (by omega), oc_one (f n).k (by omega) (by omega), oc_one (f n).i (by omega) (by omega), List.append_assoc]
    rfl
end Go.Proofs.Ytcklmemnjchdcaa

/-
  Package batch: Read, of fewer than three octets.
-/

namespace Go.Proofs.Ytcklmemnjchdcaa
open Go.RowKit
set_option linter.unusedVariables false
set_option linter.unusedSimpArgs false

/-- Three numbers of too few octets. -/
theorem short_states (l : List UInt8) (h : l.length < 3) : ∃ (b1 b2 : Bool) (r1 r2 : List UInt8) (x0 x1 : Nat), (b1 = (false || decide (l.length < 1)) ∧ r1 = (if b1 then [] else l.drop 1) ∧ x0 = numOf (if b1 then [] else l.take 1)) ∧
    (b2 = (b1 || decide (r1.length < 1)) ∧ r2 = (if b2 then [] else r1.drop 1) ∧ x1 = numOf (if b2 then [] else r1.take 1)) ∧ true = (b2 || decide (r2.length < 1)) ∧ x0 < 256 ^ 1 ∧ x1 < 256 ^ 1 := by
  have bd : ∀ (b : Bool) (m : List UInt8) (k : Nat), numOf (if b then [] else m.take k) < 256 ^ k := by
    intro b m k
    cases b with
    | true => exact Nat.pos_of_ne_zero (by simp [numOf])
    | false =>
      have := numOf_lt (m.take k)
      have hp : (256 : Nat) ^ (m.take k).length ≤ 256 ^ k := Nat.pow_le_pow_right (by omega) (by rw [List.length_take]; omega)
      simp only [Bool.false_eq_true, if_false]
      omega
  refine ⟨_, _, _, _, _, _, ⟨rfl, rfl, rfl⟩, ⟨rfl, rfl, rfl⟩, ?_, bd _ _ _, bd _ _ _⟩
  match l, h with
  | [], _ => simp
  | [x], _ => simp
  | [x, y], _ => simp

set_option maxRecDepth 100000 in
set_option maxHeartbeats 8000000 in
theorem bread_short (l : List UInt8) (a : Option Addr) (cap : Nat) (h3 : l.length < 3) (w : World) (O : Octs w a l) :
    Calls Try.prog 80 #[.slice a l.length cap] w (RdPost l w) := by
  obtain ⟨W0, hW0⟩ : ∃ W0, w.alloc (.cells #[.int .i64 0, .bool false, .slice none 0 0] 83) = W0 := ⟨_, rfl⟩
  have hb0 : Below w.heap.size w W0 := by rw [← hW0]; exact (Below.refl _ _).alloc (Nat.le_refl _) _
  have BX : Blk W0 w.heap.size #[.int .i64 0, .bool false, .slice none 0 0] := by rw [← hW0]; exact Blk.new w _ _
  have KO := hid (rs_open l a cap W0 (O.more hb0) (by omega))
  have hg : readG l = false := by unfold readG; rw [show decide (3 ≤ l.length) = false from decide_eq_false (by omega)]; rfl
  have EB : Hid (∀ w', Below w.heap.size w w' → RdPost l w (.returned (.tuple #[smval 0 false none 0 0, .int .i64 16])) w') := hid (fun w' hb => .inr ⟨hg, rfl, hb⟩)
  obtain ⟨b1, b2, r1, r2, x0, x1, ⟨e1, e2, e3⟩, ⟨e4, e5, e6⟩, e7, x0b, x1b⟩ := short_states l h3
  have K1 := fun w R => rs_num 1 1 rfl 0 l false b1 e1 w R
  have KK1 := fun q w R => rs_num 1 1 rfl q l false b1 e1 w R
  have KK2 := fun q w R => rs_num 1 1 rfl q r1 b1 b2 e4 w R
  have KK3 := fun q w R => rs_num 1 1 rfl q r2 b2 true e7 w R
  simp only [← e2, ← e3] at KK1
  simp only [← e5, ← e6] at KK2
  simp only [if_true, show numOf [] = 0 from rfl] at KK3
  replace KK1 := hid KK1
  replace KK2 := hid KK2
  replace KK3 := hid KK3
  have HBX := hid BX
  have D0 := hid hb0
  clear K1 BX O hb0 e1 e2 e3 e4 e5 e6 e7 hg
  go_enter Try.func80, Try.ntmps80
  go_wp2_with fail
  refine KO.out.mono ?_
  rintro e w1 ⟨q, rfl, hq, R1, hb1⟩
  have hs0 : W0.heap.size = w.heap.size + 1 := by rw [← hW0]; simp
  have hgq : w.heap.size < q := by omega
  have HB1 := hid (HBX.out.more hb1)
  have D1 := hid (below2 D0.out hb1 D0.out.size)
  have K := hid (KK1.out q w1 R1)
  clear hb1 KO hq hW0 HBX D0 R1
  go_wp2_with fail
  refine K.out.mono ?_
  rintro e w2 ⟨rfl, R2, S2⟩
  have HB2 := HB1.out.sole S2 (fun h => by have h' : w.heap.size = q := h; omega)
  have D2 := D1.out.trans (S2.below (B := w.heap.size) D1.out.size fun j hj => by have h' : j = q := hj; omega)
  have hbA : Below w2.heap.size w2 (w2.alloc (.cells #[.int .i64 x0, .bool false, .slice none 0 0] 83)) := (Below.refl _ _).alloc (Nat.le_refl _) _
  have BS := Blk.new w2 #[.int .i64 x0, .bool false, .slice none 0 0] 83
  have hq2 : q < w2.heap.size := R2.1.lt
  have HB3 := hid (HB2.more hbA)
  have D3 := hid (D2.trans (hbA.mono D2.size))
  have hg2 : w.heap.size < w2.heap.size := HB2.lt
  have K2 := hid (KK2.out q _ (R2.more hbA))
  replace BS := hid BS
  obtain ⟨g5, hg5⟩ : ∃ g5, w2.heap.size = g5 := ⟨_, rfl⟩
  clear K HB1 D1 S2 HB2 D2 R2 hbA
  go_wp2_with fail
  refine K2.out.mono ?_
  rintro e w3 ⟨rfl, R3, S3⟩
  have HB4 := HB3.out.sole S3 (fun h => by have h' : w.heap.size = q := h; omega)
  have D4 := D3.out.trans (S3.below (B := w.heap.size) D3.out.size fun j hj => by have h' : j = q := hj; omega)
  have BS4 := BS.out.sole S3 (fun h => by have h' : w2.heap.size = q := h; omega)
  rw [hg5] at BS4 hq2 hg2
  simp only [hg5]
  have S5 : Sole (fun j => j = g5) w3 (w3.setCell ⟨g5, 1, none⟩ (.bool ((x1 : Int) == 1))) := Sole.setCell _ _ rfl
  have R5 : RS (w3.setCell ⟨g5, 1, none⟩ (.bool ((x1 : Int) == 1))) q r2 b2 := ⟨R3.1.kept S5 (fun j hj h => by have h' : j = g5 := h; omega), R3.2⟩
  have HB5 := hid (HB4.sole S5 (fun h => by have h' : w.heap.size = g5 := h; omega))
  have D5 := hid (D4.trans (S5.below (B := w.heap.size) D4.size fun j hj => by have h' : j = g5 := hj; omega))
  have K3 := hid (KK3.out q _ R5)
  clear K2 HB3 D3 S3 HB4 D4 R3 S5 R5 BS
  obtain ⟨ls, ks, fs⟩ := BS4
  go_wp2_with fail
  refine K3.out.mono ?_
  rintro e wr ⟨rfl, R6, S6⟩
  have HBZ := hid (HB5.out.sole S6 (fun h => by have h' : w.heap.size = q := h; omega))
  have D := hid (D5.out.trans (S6.below (B := w.heap.size) D5.out.size fun j hj => by have h' : j = q := hj; omega))
  have KE := err_any q [] _ wr R6.1
  simp only [if_true] at KE
  replace KE := hid KE
  clear K3 HB5 D5 S6 R6 ls ks fs
  obtain ⟨lz, kz, fz⟩ := HBZ.out
  have xI : (x1 : Int) ≤ 255 := by omega
  go_wp2_with fail
  refine wp_loop_rounds 1 ?_
  rw [rounds_succ]
  by_cases g1 : 1 < (x1 : Int)
  · go_wp2_with fail
    have B2 := Blk.fill [.int .i64 0, .bool false, .slice none 0 0] 0 HBZ.out (by simp)
    have hb2 := hid (below_fill (b := w.heap.size) (Nat.le_refl _) [.int .i64 0, .bool false, .slice none 0 0] 0 D.out)
    show bodyPost _ _ _ _ _ (setAll wr w.heap.size 0 [.int .i64 0, .bool false, .slice none 0 0])
    obtain ⟨w7x, hw7x⟩ : ∃ x, setAll wr w.heap.size 0 [.int .i64 0, .bool false, .slice none 0 0] = x := ⟨_, rfl⟩
    rw [hw7x] at B2 hb2
    rw [hw7x]
    obtain ⟨l7, k7, f7⟩ := B2
    refine bodyPost_ret (v := .tuple #[smval 0 false none 0 0, .int .i64 16]) (by simp [results, Try.results80, go_sem, k7, fillC]) rfl ?_
    exact EB.out w7x hb2.out
  · replace g1 := decide_eq_false g1
    go_wp2_with fail
    refine KE.out.mono ?_
    rintro e w7 ⟨rfl, hw7⟩
    rw [hw7]
    clear hw7 w7
    go_wp2_with fail
    have B2 := Blk.fill [.int .i64 0, .bool false, .slice none 0 0] 0 HBZ.out (by simp)
    have hb2 := hid (below_fill (b := w.heap.size) (Nat.le_refl _) [.int .i64 0, .bool false, .slice none 0 0] 0 D.out)
    show bodyPost _ _ _ _ _ (setAll wr w.heap.size 0 [.int .i64 0, .bool false, .slice none 0 0])
    obtain ⟨w7x, hw7x⟩ : ∃ x, setAll wr w.heap.size 0 [.int .i64 0, .bool false, .slice none 0 0] = x := ⟨_, rfl⟩
    rw [hw7x] at B2 hb2
    rw [hw7x]
    obtain ⟨l7, k7, f7⟩ := B2
    refine bodyPost_ret (v := .tuple #[smval 0 false none 0 0, .int .i64 16]) (by simp [results, Try.results80, go_sem, k7, fillC]) rfl ?_
    exact EB.out w7x hb2.out
/-- Read, of any octets. -/
theorem bread_any (l : List UInt8) (a : Option Addr) (cap : Nat) (hl : l.length ≤ 140737488355328) (w : World) (O : Octs w a l) :
    Calls Try.prog 80 #[.slice a l.length cap] w (RdPost l w) := by
  by_cases h : 3 ≤ l.length
  · exact bread_long l a cap hl h w O
  · exact bread_short l a cap (by omega) w O
end Go.Proofs.Ytcklmemnjchdcaa

/-
  Package batch: there and back.
-/


namespace Go.Proofs.Ytcklmemnjchdcaa
open Go.RowKit
set_option linter.unusedVariables false
set_option linter.unusedSimpArgs false

theorem list_of_bytes : ∀ (l m : List UInt8), l.length = m.length → (∀ i, i < l.length → byteAt l i = byteAt m i) → l = m := by
  intro l m hl h
  apply List.ext_getElem hl
  intro i h1 h2
  have := h i h1
  rw [byteAt_get l i h1, byteAt_get m i h2] at this
  exact UInt8.toNat_inj.1 this
theorem oc_nat (z : Int) (h0 : 0 ≤ z) (h1 : z ≤ 255) : (oc z).toNat = z.toNat := by
  have := oc_int z
  omega
theorem entO_bytes (f : Nat → En) : ∀ n i, i < n → byteAt (entO f n) (2 * i) = (oc (f i).k).toNat ∧ byteAt (entO f n) (2 * i + 1) = (oc (f i).i).toNat
  | 0, i, h => absurd h (Nat.not_lt_zero _)
  | n + 1, i, h => by
    simp only [entO]
    rw [byteAt_app, byteAt_app, entO_length]
    by_cases e : i = n
    · subst e
      rw [if_neg (by omega), if_neg (by omega), Nat.sub_self, show 2 * i + 1 - 2 * i = 1 by omega]
      exact ⟨rfl, rfl⟩
    · rw [if_pos (by omega), if_pos (by omega)]
      exact entO_bytes f n i (by omega)
theorem last_le (la : Bool) : 0 ≤ lastN la ∧ lastN la ≤ 1 := by cases la <;> decide
/-- A summary that may be, as its octets one by one. -/
theorem smB_eq (nx : Int) (la : Bool) (n : Nat) (f : Nat → En) (h : bCk nx n f = 0) : smB nx la n f = [oc nx, oc (lastN la), oc n] ++ entO f n := by
  obtain ⟨q1, q2, q3, q4⟩ := bCk_zero h
  unfold smB sheadB
  rw [entO_eq f n q4, oc_one nx q1 (by omega), oc_one (lastN la) (last_le la).1 (by have := (last_le la).2; omega), oc_one (n : Int) (by omega) (by omega)]
  rfl
theorem smB_length (nx : Int) (la : Bool) (n : Nat) (f : Nat → En) : (smB nx la n f).length = 3 + 2 * n := by
  unfold smB
  rw [List.length_append, sheadB_length, entB_length]
theorem sm_back (nx : Int) (la : Bool) (n : Nat) (f : Nat → En) (h : bCk nx n f = 0) :
    (byteAt (smB nx la n f) 0 : Int) = nx ∧ (((byteAt (smB nx la n f) 1 : Nat) : Int) == 1) = la ∧ byteAt (smB nx la n f) 1 ≤ 1 ∧ byteAt (smB nx la n f) 2 = n ∧ ∀ i, i < n → rdE (smB nx la n f) i = f i := by
  obtain ⟨q1, q2, q3, q4⟩ := bCk_zero h
  rw [smB_eq nx la n f h]
  have e0 : byteAt ([oc nx, oc (lastN la), oc n] ++ entO f n) 0 = (oc nx).toNat := rfl
  have e1 : byteAt ([oc nx, oc (lastN la), oc n] ++ entO f n) 1 = (oc (lastN la)).toNat := rfl
  have e2 : byteAt ([oc nx, oc (lastN la), oc n] ++ entO f n) 2 = (oc n).toNat := rfl
  rw [e0, e1, e2, oc_nat nx q1 (by omega), oc_nat n (by omega) (by omega)]
  refine ⟨by omega, by cases la <;> decide, by cases la <;> decide, by omega, fun i hi => ?_⟩
  obtain ⟨k1, k2, k3⟩ := q4 i hi
  obtain ⟨b1, b2⟩ := entO_bytes f n i hi
  unfold rdE
  rw [byteAt_app, byteAt_app, if_neg (by show ¬ _ < 3; omega), if_neg (by show ¬ _ < 3; omega)]
  rw [show 3 + 2 * i - [oc nx, oc (lastN la), oc n].length = 2 * i by show 3 + 2 * i - 3 = _; omega, show 4 + 2 * i - [oc nx, oc (lastN la), oc n].length = 2 * i + 1 by show 4 + 2 * i - 3 = _; omega, b1, b2, oc_nat _ (by omega) (by omega), oc_nat _ (by omega) (by omega)]
  have z1 : (((f i).k.toNat : Nat) : Int) = (f i).k := by omega
  have z2 : (((f i).i.toNat : Nat) : Int) = (f i).i := by omega
  rw [z1, z2]
theorem sm_readG (nx : Int) (la : Bool) (n : Nat) (f : Nat → En) (h : bCk nx n f = 0) : readG (smB nx la n f) = true := by
  obtain ⟨h0, h1, h2, h3, h4⟩ := sm_back nx la n f h
  unfold readG
  rw [h0, h3, bCk_congr nx n _ f h4, h, smB_length, decide_eq_true (show 3 ≤ 3 + 2 * n by omega), decide_eq_true h2]
  simp
/-- What was read is put as it stood. -/
theorem read_back (b : List UInt8) (h : readG b = true) : bCk (byteAt b 0) (byteAt b 2) (rdE b) = 0 ∧ b.length = 3 + 2 * byteAt b 2 ∧ smB (byteAt b 0) ((byteAt b 1 : Int) == 1) (byteAt b 2) (rdE b) = b := by
  unfold readG at h
  simp only [Bool.and_eq_true, decide_eq_true_eq, beq_iff_eq] at h
  obtain ⟨h3, h1, hl, hc⟩ := h
  refine ⟨hc, hl, ?_⟩
  have hla : lastN ((byteAt b 1 : Int) == 1) = byteAt b 1 := by
    have : byteAt b 1 = 0 ∨ byteAt b 1 = 1 := by omega
    rcases this with e | e <;> rw [e] <;> decide
  obtain ⟨c1, c2, c3, c4⟩ := bCk_zero hc
  have b0 := byteAt_lt b 0
  have b1 := byteAt_lt b 1
  have b2 := byteAt_lt b 2
  rw [smB_eq _ _ _ _ hc, hla]
  apply list_of_bytes
  · rw [List.length_append, entO_length, hl]; simp
  · intro i hi
    rw [byteAt_app]
    by_cases h3i : i < 3
    · rw [if_pos (by simpa using h3i)]
      match i, h3i with
      | 0, _ => show (oc _).toNat = _; rw [oc_nat _ (by omega) (by omega)]; omega
      | 1, _ => show (oc _).toNat = _; rw [oc_nat _ (by omega) (by omega)]; omega
      | 2, _ => show (oc _).toNat = _; rw [oc_nat _ (by omega) (by omega)]; omega
    · rw [if_neg (by simpa using h3i)]
      rw [List.length_append, entO_length] at hi
      have hi' : i < 3 + 2 * byteAt b 2 := by simpa using hi
      show byteAt (entO (rdE b) (byteAt b 2)) (i - 3) = _
      obtain ⟨j, hj⟩ : ∃ j, i = 3 + 2 * j ∨ i = 4 + 2 * j := ⟨(i - 3) / 2, by omega⟩
      obtain ⟨d1, d2⟩ := entO_bytes (rdE b) (byteAt b 2) j (by omega)
      rcases hj with rfl | rfl
      · rw [show 3 + 2 * j - 3 = 2 * j by omega, d1]
        have := byteAt_lt b (3 + 2 * j)
        show (oc ((byteAt b (3 + 2 * j) : Nat) : Int)).toNat = _
        rw [oc_nat _ (by omega) (by omega)]; omega
      · rw [show 4 + 2 * j - 3 = 2 * j + 1 by omega, d2]
        have := byteAt_lt b (4 + 2 * j)
        show (oc ((byteAt b (4 + 2 * j) : Nat) : Int)).toNat = _
        rw [oc_nat _ (by omega) (by omega)]; omega
/-- A place of a length, whatever the number. -/
theorem place_of (c : Int) (m : Nat) (h0 : 0 < m) (hm : m ≤ 1000) : ∃ k : Nat, k < m ∧ IntKind.i64.wrap ((c.tmod m) + m) = c.tmod m + m ∧ ((c.tmod m) + m) % (m : Int) = (k : Int) ∧ ((c.tmod m) + m).tmod m = (k : Int) ∧ 0 ≤ c.tmod m + m := by
  have h1 : -(m : Int) < c.tmod m := by have := Int.tmod_lt_of_pos (-c) (show (0 : Int) < m by omega); rw [Int.neg_tmod] at this; omega
  have h2 : c.tmod m < m := Int.tmod_lt_of_pos c (by omega)
  have e : (c.tmod m + m).tmod m = (c.tmod m + m) % (m : Int) := Int.tmod_eq_emod_of_nonneg (by omega)
  have e1 := Int.emod_nonneg (c.tmod m + m) (show (m : Int) ≠ 0 by omega)
  have e2 := Int.emod_lt_of_pos (c.tmod m + m) (show (0 : Int) < m by omega)
  rw [e]
  exact ⟨((c.tmod m + m) % (m : Int)).toNat, by omega, IntWalk.i64_in _ (by omega), by omega, by omega, by omega⟩
end Go.Proofs.Ytcklmemnjchdcaa

namespace Go.Proofs.Ytcklmemnjchdcaa
open Go.RowKit
set_option linter.unusedVariables false
set_option linter.unusedSimpArgs false

end Go.Proofs.Ytcklmemnjchdcaa
