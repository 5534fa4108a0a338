/-
  Layer 34: the law's cut of any points: the first sixteen's small places, in a row of its own.
-/
import Derived.Test.YtahdhgaoofpefaaPolyLaw
import Derived.Test.YtahdhgaoofpefaaPtRow
import Derived.Test.YtahdhgaoofpefaaTrackThin
import Derived.WalkKit
namespace Go.Proofs.Ytahdhgaoofpefaa
open Go.RowKit
set_option linter.unusedVariables false
set_option linter.unusedSimpArgs false

def cutP (p : Pt) : Pt := ⟨p.id, sm p.x, sm p.y, ByteArray.empty⟩
def cutL (f : Nat → Pt) : Nat → List Pt
  | 0 => []
  | k + 1 => cutL f k ++ [cutP (f k)]
theorem cutL_length (f : Nat → Pt) : ∀ k, (cutL f k).length = k
  | 0 => rfl
  | k + 1 => by simp [cutL, cutL_length f k]
theorem cutL_at (f : Nat → Pt) : ∀ k i, i < k → ptAt (cutL f k) i = cutP (f i)
  | 0, i, h => absurd h (Nat.not_lt_zero _)
  | k + 1, i, h => by
    have hl := cutL_length f k
    show ptAt (cutL f k ++ [cutP (f k)]) i = _
    unfold ptAt
    by_cases hi : i < k
    · rw [List.getElem?_append_left (by omega)]
      exact cutL_at f k i hi
    · obtain rfl : i = k := by omega
      rw [List.getElem?_append_right (by omega), hl, Nat.sub_self]
      rfl

set_option maxRecDepth 100000 in
set_option maxHeartbeats 4000000 in
theorem cutN_any (p : Option Addr) (n cap : Nat) (f : Nat → Pt) (hf : ∀ i, (f i).ok) (h1 : n ≤ cap) (h2 : cap ≤ maxLen) (w : World) (HA : RowP w p 4 n (fun i => pcells (f i))) :
    Calls Try.prog 27 #[.slice p n cap] w fun e w' => ∃ v, e = .returned v ∧ PtsOwn w' w.heap.size v (cutL f (min n 16)) ∧ Below w.heap.size w w' := by
  obtain ⟨i0, hi, hz0, hz1, hz2⟩ := info_parts ptTab
  obtain ⟨m, hm⟩ : ∃ m, min n 16 = m := ⟨_, rfl⟩
  rw [hm]
  have hm1 : m ≤ n := by omega
  have hm2 : m ≤ 16 := by omega
  have hm3 : m = n ∨ m = 16 := by omega
  clear hm
  have HAh := hid HA
  have hfh := hid hf
  clear HA hf
  have h1' := hid h1
  have h2' := hid h2
  have hm3' := hid hm3
  clear h1 h2 hm3
  go_enter Try.func27, Try.ntmps27
  go_wp2_with fail
  go_loopw [3, 4] (fun v i wr => ∃ k : Nat, k ≤ m ∧ i = .int .i64 (k : Int) ∧ PtsOwn wr w.heap.size v (cutL f k) ∧ Below w.heap.size w wr) (fun _ i _ => m - (intOf i).toNat)
  case atStart => exact ⟨0, by omega, rfl, PtsOwn.nil _ _, Below.refl _ _⟩
  case round =>
    obtain ⟨k, hk, rfl, HK, hb⟩ := hrel
    by_cases hlt : k < m
    · obtain ⟨b, o, rfl, R0⟩ := HAh.out.row (by omega)
      have R := R0.more hb
      have z0 := R.at0 (by omega) (v := .int .i64 (f k).id) rfl
      have z1 := R.at1 (by omega) (v := .int .u32 (f k).x) rfl
      have z2 := R.at2 (by omega) (v := .int .u32 (f k).y) rfl
      have z3 := R.at3 (by omega) (v := .string (f k).d) rfl
      have hok := hfh.out k
      unfold Pt.ok at hok
      have KS := hid (fun w => small_any (f k).id (f k).x (f k).y (.string (f k).d) (by omega) (by omega) (by omega) (by omega) w)
      have bx := sm_bd (f k).x
      have by1 := sm_bd (f k).y
      have hcut : cutP (f k) = ⟨(f k).id, sm (f k).x, sm (f k).y, ByteArray.empty⟩ := rfl
      replace hcut := hid hcut
      have Rh := hid R
      have hbs := hb.size
      have hbh := hid hb
      obtain ⟨q, c, rfl, c1, c2, -⟩ := HK.open
      have hL := cutL_length f k
      rw [hL] at c1
      have HKh : Hid (wr.ownsRow w.heap.size 63 4 (.slice q k c) k (flatP (cutL f k))) := hid (by have h := HK; unfold PtsOwn at h; rw [hL] at h; exact h)
      rw [hL]
      have hltn : (k : Int) < (n : Int) := by omega
      have hlt16 : (k : Int) < 16 := by omega
      replace hlt := hid hlt
      replace hL := hid hL
      replace hm1 := hid hm1
      replace hm2 := hid hm2
      clear R HK hb hok R0
      generalize hX : sm (f k).x = X at *
      generalize hY : sm (f k).y = Y at *
      generalize (f k).id = I at *
      generalize (f k).x = fx at *
      generalize (f k).y = fy at *
      generalize (f k).d = fd at *
      go_wp2_with fail
      refine (KS.out _).mono ?_
      rintro e w3 ⟨rfl, hb3⟩
      have z0' := (hb3.cell (cell_lt z0)).trans z0
      have P3 := hid (own_sole HKh.out (Sole.made (S := fun _ => False) hb3) fun _ _ x => x)
      have G3 := hid (hbh.out.trans (hb3.mono hbs))
      have g3s := G3.out.size
      have hnews := hid (four_new w3 #[.int .i64 I, .int .u32 X, .int .u32 Y, .string ByteArray.empty] 63)
      have hone := hid (pt_one ⟨I, X, Y, ByteArray.empty⟩)
      clear z0 z1 z2 z3 hb3 KS
      go_wp2_with (at_builtin; refine wpList_append_own _ rfl _ _ 60 rfl w.heap.size 63 i0 (.agg #[.int .i64 0, .int .u32 0, .int .u32 0, .string ByteArray.empty]) 4 32 Try.underlying60 hi hz0 hz1 hz2 rfl (by decide) (.slice q k c) k (flatP (cutL f k)) (by kernel_rfl) (P3.out.alloc _) ⟨w3.heap.size, 0, none⟩ 1 1 [.int .i64 I, .int .u32 X, .int .u32 Y, .string ByteArray.empty] (by kernel_rfl) rfl hnews.out hone.out (by unfold maxLen; have := hm2.out; have := hlt.out; omega) (by omega) (by first | omega | (simp; omega)) ?_)
      intro v9 w9 hown hgrow hne
      have hO9 : Hid (PtsOwn w9 w.heap.size v9 (cutL f (k + 1))) := hid (by
        show PtsOwn w9 w.heap.size v9 (cutL f k ++ [cutP (f k)])
        unfold PtsOwn
        rw [flatP_append, flatP_one, List.length_append, hL.out, hcut.out]
        exact hown)
      have hbel9 : Hid (Below w.heap.size w w9) := hid ((G3.out.alloc g3s _).grown hgrow (by simp; omega) (fun k hk => (P3.out.lt k hk).1))
      clear hown hgrow hne P3 G3 hnews hone z0'
      go_wp2_with fail
      go_roundw
      case rel => exact ⟨k + 1, hlt.out, by go_num, hO9.out, hbel9.out⟩
      case measure => have := hlt.out; simp [intOf]; omega
    · obtain rfl : k = m := by omega
      have HKh := hid HK
      have hbh := hid hb
      have h3 := hm3'.out
      clear HK hb
      rcases h3 with rfl | rfl
      · go_wp2_with fail
        go_ret
        exact ⟨_, rfl, HKh.out, hbh.out⟩
      · rcases Nat.lt_or_ge 16 n with hn | hn
        · have hn' : (16 : Int) < (n : Int) := by omega
          go_wp2_with fail
          go_ret
          exact ⟨_, rfl, HKh.out, hbh.out⟩
        · obtain rfl : n = 16 := by omega
          go_wp2_with fail
          go_ret
          exact ⟨_, rfl, HKh.out, hbh.out⟩
end Go.Proofs.Ytahdhgaoofpefaa
