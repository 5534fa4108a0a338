/-
  Package usage: how much of each segment is needed. An array of 256 numbers comes in by value; one of 32 is told.
-/
import Derived.Test.YtjmacojlneldaaaLayoutWhere
import Derived.Test.YtjmacojlneldaaaBig
import Derived.Test.YtjmacojlneldaaaIntRow
import Derived.Great.Walk
import Derived.OwnWalk
namespace Go.Proofs.Ytjmacojlneldaaa
open Go.RowKit
set_option linter.unusedVariables false
set_option linter.unusedSimpArgs false

theorem index_any (t : TypeId) (m : Nat) (h : Try.prog.underlying t = some (.array m 3)) {c : Array Value} {k : IntKind} {F : Nat → Int} (hc : ∀ j, j < m → c[j]? = some (.int k (F j))) (i : Nat) (hi : i < m) (w : World) :
    (Instr.index t (.agg c) (.int .i64 (i : Int))).run Try.prog w = .ok (.int k (F i)) w := by
  have hi' : (0 : Int) ≤ (i : Int) ∧ (i : Int) < (m : Int) := by omega
  have e1 : ∀ w, (isAgg 3).run Try.prog w = .ok false w := fun w => by kernel_rfl
  have e2 : ∀ w, (sizeOf 3).run Try.prog w = .ok 1 w := fun w => by kernel_rfl
  simp [Instr.index, asIntOf, run_underlying h, hi', hi, part, e1, e2, hc i hi]

theorem alloc32 (ρ : Operand → Value) (dst : Option Tmp) (ty : TypeId) (pos : String) (af : Array Edge) (w : World) : (execOp ρ { dst := dst, op := .alloc 47, type := ty, pos := pos, after := af, guard := none }).run Try.prog w =
    .ok (.value (.pointer (some ⟨w.heap.size, 0, none⟩))) (w.alloc (.cells (Array.replicate 32 (.int .i64 0)) 47)) := by kernel_rfl

/-- Does Id i tell this segment? -/
def hitB (n z : Int) (F : Nat → Int) (i : Nat) (s : Int) : Bool := whB n z (F i) && (whQ n z (F i) == s)
def cntI (n z : Int) (F : Nat → Int) : Nat → Int → Int
  | 0, _ => 0
  | k + 1, s => cntI n z F k s + if hitB n z F (k + 1) s then 1 else 0

theorem tab32 : (Try.prog.info? 47).map (·.size) = some 32 := by kernel_rfl
theorem tab256 : (Try.prog.info? 44).map (·.size) = some 256 := by kernel_rfl
theorem cnt_bd (n z : Int) (F : Nat → Int) (k : Nat) (j : Int) : 0 ≤ cntI n z F k j ∧ cntI n z F k j ≤ k := by
  induction k with
  | zero => exact ⟨Int.le_refl _, Int.le_refl _⟩
  | succ k ih => unfold cntI; split <;> omega
theorem wh_in (n z s : Int) : whB n z s = true → 0 ≤ whQ n z s ∧ whQ n z s < 32 := by
  intro h
  have h' := h
  unfold whB at h'
  simp only [Bool.and_eq_true, decide_eq_true_eq] at h'
  obtain ⟨⟨ho, h1⟩, h2⟩ := h'
  have o := ok_true ho
  unfold whQ
  rw [if_pos h]
  refine ⟨Int.ediv_nonneg (by omega) (by omega), ?_⟩
  have : (s - 9) / z < n := Int.ediv_lt_of_lt_mul (by omega) (by omega)
  omega

set_option maxRecDepth 100000 in
set_option maxHeartbeats 4000000 in
theorem live_any (n z : Int) (c : Array Value) (F : Nat → Int) (hc : Nums c .i64 256 F) (w : World) :
    Calls Try.prog 23 #[geo n z, .agg c] w fun e w' => ∃ d, e = .returned (.agg d) ∧ Nums d .i64 32 (fun j => cntI n z F 255 j) ∧ Below w.heap.size w w' := by
  have hch := hid hc
  have KW := hid (fun s w => where_any n z s w)
  unfold geo at *
  clear hc
  go_enter Try.func23, Try.ntmps23
  go_wp2_with (refine Go.Great.wpList_runTo rfl (some 4) rfl _ _ (alloc32 _ _ _ _ _ _) ?_)
  obtain ⟨B0, B1, B2, B3, H⟩ := @boxed4 w _ #[.int .i64 n, .int .i64 z] c (Array.replicate 32 (.int .i64 0)) (Array.replicate 32 (.int .i64 0)) 43 44 47 47 (Below.refl _ _)
  replace B0 := hid B0
  replace B1 := hid B1
  replace B2 := hid B2
  replace B3 := hid (show ∃ d, Blk _ _ d ∧ Nums d .i64 32 (fun j => cntI n z F 0 j) from ⟨_, B3, nums_rep .i64 32⟩)
  have HH := hid H
  clear H
  rw [show (#[.int .i64 0, .int .i64 0, .int .i64 0, .int .i64 0, .int .i64 0, .int .i64 0, .int .i64 0, .int .i64 0, .int .i64 0, .int .i64 0, .int .i64 0, .int .i64 0, .int .i64 0, .int .i64 0, .int .i64 0, .int .i64 0, .int .i64 0, .int .i64 0, .int .i64 0, .int .i64 0, .int .i64 0, .int .i64 0, .int .i64 0, .int .i64 0, .int .i64 0, .int .i64 0, .int .i64 0, .int .i64 0, .int .i64 0, .int .i64 0, .int .i64 0, .int .i64 0] : Array Value) = Array.replicate 32 (.int .i64 0) from rfl]
  generalize (((w.alloc (.cells #[.int .i64 n, .int .i64 z] 43)).alloc (.cells c 44)).alloc (.cells (Array.replicate 32 (.int .i64 0)) 47)).alloc (.cells (Array.replicate 32 (.int .i64 0)) 47) = W at *
  go_loopw [13] (fun i wx => ∃ k : Nat, k ≤ 255 ∧ i = .int .i64 (k : Int) ∧ Blk wx w.heap.size #[.int .i64 n, .int .i64 z] ∧ Blk wx (w.heap.size + 1) c ∧ Blk wx (w.heap.size + 1 + 1) (Array.replicate 32 (.int .i64 0)) ∧ (∃ d, Blk wx (w.heap.size + 1 + 1 + 1) d ∧ Nums d .i64 32 (fun j => cntI n z F k j)) ∧ Below w.heap.size w wx) (fun i _ => 255 - (intOf i).toNat)
  case atStart => exact ⟨0, by omega, rfl, B0.out, B1.out, B2.out, B3.out, HH.out⟩
  case round =>
    obtain ⟨k, hk, rfl, C0, C1, C2, ⟨d, C3, N3⟩, Hb⟩ := hrel
    clear B0 B1 B2 B3 HH
    by_cases hlt : k < 255
    · have hlt1 : (k : Int) < 255 := by omega
      have hk0 : (0 : Int) ≤ (k : Int) := by omega
      have z1 := (C1.cell (1 + k)).trans (hch.out.get (1 + k) (by omega))
      have hcnt : ∀ j : Int, cntI n z F (k + 1) j = cntI n z F k j + if whB n z (F (1 + k)) && (whQ n z (F (1 + k)) == j) then 1 else 0 := fun j => by show cntI n z F k j + (if hitB n z F (k + 1) j then 1 else 0) = _; rw [Nat.add_comm k 1]; rfl
      have hq := wh_in n z (F (1 + k))
      have KW1 := hid (KW.out (F (1 + k)))
      generalize F (1 + k) = s at *
      generalize whB n z s = wb at *
      generalize whQ n z s = wq at *
      generalize whR n z s = wo at *
      have hcnt := hid hcnt
      have D0 := hid C0
      have D1 := hid C1
      have D2 := hid C2
      have D3 := hid C3
      have M3 := hid N3
      have Hbh := hid Hb
      obtain ⟨l0, k0, f0⟩ := C0
      clear C1 C2 C3 N3 Hb
      go_wp2_with fail
      refine (KW1.out _).mono ?_
      rintro e w3 ⟨rfl, hb3⟩
      have E0 := hid (D0.out.more hb3)
      have E1 := hid (D1.out.more hb3)
      have E2 := hid (D2.out.more hb3)
      have E3 := hid (D3.out.more hb3)
      have Hb3 := hid (below2 Hbh.out hb3 Hbh.out.size)
      clear hb3 KW1 l0 k0 f0 z1
      cases wb with
      | false =>
        go_wp2_with fail
        go_roundw
        case rel => exact ⟨k + 1, by omega, by go_num, E0.out, E1.out, E2.out, ⟨d, E3.out, M3.out.congr fun j hj => by rw [hcnt.out]; simp⟩, Hb3.out⟩
        case measure => simp [intOf]; omega
      | true =>
        obtain ⟨q0, q1⟩ := hq rfl
        obtain ⟨q, rfl⟩ : ∃ q : Nat, wq = (q : Int) := ⟨wq.toNat, by omega⟩
        have hq32 : q < 32 := by omega
        have hbd := cnt_bd n z F k q
        obtain ⟨l3, k3, f3⟩ := E3.out
        have z3 := (k3 q).trans (M3.out.get q hq32)
        have hset : Hid (∀ j : Nat, j < 32 → cntI n z F (k + 1) j = if j = q then cntI n z F k q + 1 else cntI n z F k j) := hid (fun j hj => by
          rw [hcnt.out]
          by_cases e : j = q
          · subst e; simp
          · rw [if_neg e]; simp; omega)
        obtain ⟨v, hv⟩ : ∃ v, cntI n z F k q = v := ⟨_, rfl⟩
        rw [hv] at z3 hbd
        replace hv := hid hv
        have hk254 : (k : Int) ≤ 254 := by omega
        clear k3 hq
        go_wp2_with fail
        go_roundw
        case rel =>
          refine ⟨k + 1, by omega, by go_num, E0.out.other _ (by show _ + 1 + 1 + 1 ≠ _; omega) _, E1.out.other _ (by show _ + 1 + 1 + 1 ≠ _; omega) _, E2.out.other _ (by show _ + 1 + 1 + 1 ≠ _; omega) _, ⟨_, E3.out.set q _ (by rw [M3.out.size]; exact hq32), M3.out.set hq32 fun j hj => ?_⟩, Below.setCell (p := ⟨w.heap.size + 1 + 1 + 1, _, none⟩) Hb3.out (by simp; omega) _⟩
          rw [hset.out j hj, hv.out]
        case measure => simp [intOf]; omega
    · obtain rfl : k = 255 := by omega
      have sz := N3.size
      have one := N3.one
      have D2 := hid C2
      have D3 := hid C3
      have M3 := hid N3
      have Hbh := hid Hb
      have hth := C2.there (n := d.size) (by rw [sz]; rfl)
      clear C0 C1 C2 N3 Hb KW hch
      go_wp2_with (first
        | (refine wpList_load_mid rfl 47 _ rfl (w.heap.size + 1 + 1 + 1) 0 rfl d.toList _ D3.out.range Try.underlying47 rfl (by rw [tab32]; simp [sz]) ?_)
        | (refine wpList_store_mid rfl 47 _ _ rfl (w.heap.size + 1 + 1) 0 d rfl rfl hth (by rw [tab32, sz]) one ?_))
      refine bodyPost_ret (v := .agg d) (results_blk rfl _ _ (w.heap.size + 1 + 1) d _ rfl (D2.out.whole (by rw [sz]; simp)) Try.underlying47 rfl (by rw [tab32, sz])) rfl ⟨d, rfl, M3.out, below_cells Hbh.out (by omega) _ _⟩
end Go.Proofs.Ytjmacojlneldaaa
