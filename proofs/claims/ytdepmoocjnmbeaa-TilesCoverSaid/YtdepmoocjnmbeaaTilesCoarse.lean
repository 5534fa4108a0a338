/-
  Package tiles: coarsest of one cell; slices.Replace of one by one.
-/
import Derived.Test.YtdepmoocjnmbeaaTilesClo
namespace Go.Proofs.Ytdepmoocjnmbeaa
open Go.RowKit
set_option linter.unusedVariables false
set_option linter.unusedSimpArgs false

set_option maxRecDepth 100000 in
set_option maxHeartbeats 4000000 in
theorem clo_false (x y n : Int) (x0 : 0 ≤ x) (x1 : x ≤ 4294967295) (y0 : 0 ≤ y) (y1 : y ≤ 4294967295) (n0 : 0 ≤ n) (hn : n ≤ 32) (br bl bm : Nat) (p : Option Addr) (c : Nat) (most : Int) (w : World)
    (B1 : Blk w br #[.int .u32 (floorI x n), .int .u32 (floorI y n), .int .u32 (floorI x n + (pw n - 1)), .int .u32 (floorI y n + (pw n - 1))]) (B2 : Blk w bl #[.slice p 1 c]) (B3 : Blk w bm #[.int .i64 most]) :
    Calls Try.prog 21 #[cl (floorI x n) (floorI y n) n, .pointer (some ⟨br, 0, none⟩), .pointer (some ⟨bl, 0, none⟩), .pointer (some ⟨bm, 0, none⟩)] w fun e w' => e = .returned (.bool false) ∧ Below w.heap.size w w' := by
  have hlk : lvl n = n := by unfold lvl; omega
  have tx := tfloor_top x0 x1 n0 hn
  have ty := tfloor_top y0 y1 n0 hn
  have hpn := pw_bd n0 hn
  have KR := fun w => rectc_any (floorI x n) (floorI y n) n tx.1 (by omega) ty.1 (by omega) w
  rw [hlk, floor_self n0 hn, floor_self n0 hn] at KR
  have KW := fun w => within_any (floorI x n) (floorI y n) (floorI x n + (pw n - 1)) (floorI y n + (pw n - 1)) (floorI x n) (floorI y n) (floorI x n + (pw n - 1)) (floorI y n + (pw n - 1)) w
  rw [within_self _ _ _ _ (by omega) (by omega)] at KW
  have b0 := tbelow_one w (.cells #[.int .u32 (floorI x n), .int .u32 (floorI y n), .int .i64 n] 32)
  have P0h := hid (Blk.new w #[.int .u32 (floorI x n), .int .u32 (floorI y n), .int .i64 n] 32)
  have P1h := hid (B1.more b0)
  have P2h := hid (B2.more b0)
  have P3h := hid (B3.more b0)
  have D0 := hid b0
  clear B1 B2 B3 b0 hpn tx ty hlk x0 x1 y0 y1
  generalize floorI x n + (pw n - 1) = F1 at *
  generalize floorI y n + (pw n - 1) = G1 at *
  generalize floorI x n = F at *
  generalize floorI y n = G at *
  replace KR := hid KR
  replace KW := hid KW
  go_enter Try.func21, Try.ntmps21
  go_wp2_with fail
  generalize w.alloc (.cells #[.int .u32 F, .int .u32 G, .int .i64 n] 32) = W4 at *
  have q0 := fun u : Later W4 => u.blk P0h.out
  have q1 := fun u : Later W4 => u.blk P1h.out
  have q2 := fun u : Later W4 => u.blk P2h.out
  have q3 := fun u : Later W4 => u.blk P3h.out
  by_cases h32 : n < 32
  · have hd : decide (n < 32) = true := decide_eq_true h32
    refine wp_region_late 22 (by kernel_rfl) (by kernel_rfl) ?_
    simp only [List.take_succ_cons, List.take_zero, List.drop_succ_cons, List.drop_zero]
    iterate 22 (go_big_quiet_step ((first | (go_at_call 13; (with_reducible exact late_call (KR.out _))) | (go_at_call 14; (with_reducible exact late_call (KW.out _))))))
    refine wpQuiet_nil ?_
    intro w5 h5'
    have h5 := late_out h5'
    have E := hid (below2 D0.out h5 D0.out.size)
    clear h5 h5'
    go_wp2_with fail
    go_ret
    exact ⟨rfl, E.out⟩
  · have hd : decide (n < 32) = false := decide_eq_false h32
    refine wp_region_late 22 (by kernel_rfl) (by kernel_rfl) ?_
    simp only [List.take_succ_cons, List.take_zero, List.drop_succ_cons, List.drop_zero]
    iterate 22 (go_big_quiet_step (fail))
    refine wpQuiet_nil ?_
    intro w5 h5'
    have h5 := late_out h5'
    have E := hid (below2 D0.out h5 D0.out.size)
    clear h5 h5'
    go_wp2_with fail
    go_ret
    exact ⟨rfl, E.out⟩
set_option maxRecDepth 100000 in
set_option maxHeartbeats 4000000 in
theorem coarsest_one (X Y k : Int) (p : Option Addr) (c : Nat) (br bl bm : Nat) (b : Bool) (w : World) (R : RowOf clT w p [⟨X, Y, k⟩])
    (KC : ∀ W', Below w.heap.size w W' → Calls Try.prog 21 #[cl X Y k, .pointer (some ⟨br, 0, none⟩), .pointer (some ⟨bl, 0, none⟩), .pointer (some ⟨bm, 0, none⟩)] W' fun e w' => e = .returned (.bool b) ∧ Below W'.heap.size W' w') :
    Calls Try.prog 20 #[.slice p 1 c, .func (.func 21) #[] #[.pointer (some ⟨br, 0, none⟩), .pointer (some ⟨bl, 0, none⟩), .pointer (some ⟨bm, 0, none⟩)]] w fun e w' => e = .returned (.tuple #[.int .i64 0, .bool b]) ∧ Below w.heap.size w w' := by
  obtain ⟨b8, o8, rfl, R8⟩ := R.row (by simp)
  have c0 := R8.at0 (i := 0) (by simp) (v := .int .u32 X) rfl
  have c1 := R8.at1 (i := 0) (by simp) (v := .int .u32 Y) rfl
  have c2 := R8.at2 (i := 0) (by simp) (v := .int .i64 k) rfl
  simp only [Nat.zero_mul, Nat.add_zero] at c0 c1 c2
  have b0 := tbelow_one w (.cells #[.int .u32 X, .int .u32 Y, .int .i64 k] 32)
  have P0 := hid (Blk.new w #[.int .u32 X, .int .u32 Y, .int .i64 k] 32)
  have D0 := hid b0
  have KCh := hid KC
  clear R R8 b0 KC
  go_enter Try.func20, Try.ntmps20
  go_wp2_with fail
  refine wp_loop_rounds 2 ?_
  rw [rounds_succ]
  go_wp2_with fail
  have KC4 := hid (fun u : Later (w.alloc (.cells #[.int .u32 X, .int .u32 Y, .int .i64 k] 32)) => KCh.out u.val (below2 D0.out u.h D0.out.size))
  generalize w.alloc (.cells #[.int .u32 X, .int .u32 Y, .int .i64 k] 32) = W4 at *
  have q0 := fun u : Later W4 => u.blk P0.out
  clear c0 c1 c2
  refine wp_region_late 16 (by kernel_rfl) (by kernel_rfl) ?_
  simp only [List.take_succ_cons, List.take_zero, List.drop_succ_cons, List.drop_zero]
  iterate 16 (go_big_quiet_step ((go_at_call 21; (with_reducible exact late_call (KC4.out _)))))
  refine wpQuiet_nil ?_
  intro w5 h5'
  have h5 := late_out h5'
  have E := hid (below2 D0.out h5 D0.out.size)
  clear h5 h5' q0 KC4 KCh P0
  cases b with
  | true =>
    go_wp2_with fail
    rw [rounds_succ]
    go_wp2_with fail
    go_ret2
    exact ⟨rfl, E.out⟩
  | false =>
    go_wp2_with fail
    rw [rounds_succ]
    go_wp2_with fail
    go_ret2
    exact ⟨rfl, E.out⟩

theorem ob_len (p : Option Addr) (n m c : Nat) : (Value.slice p n c).ownBlock = (Value.slice p m c).ownBlock := by
  cases p <;> rfl
theorem own_head {w : World} {base : Nat} {p : Option Addr} {c : Nat} {P : Cl} (h : RowOwn clT w base (.slice p 1 c) [P]) : RowOwn clT w base (.slice p 0 c) [] := by
  rcases h.2 with ⟨_, h0⟩ | ⟨g, cap, cur, e, hb, hg, h1, h2, h3, h4⟩
  · cases h0
  · simp only [Value.slice.injEq] at e
    obtain ⟨rfl, _, rfl⟩ := e
    exact ⟨rfl, .inr ⟨g, c, cur, rfl, hb, hg, Nat.zero_le _, h2, h3, by simp [flatR]⟩⟩
set_option maxRecDepth 100000 in
set_option maxHeartbeats 4000000 in
theorem replace_one (p : Option Addr) (c : Nat) (pv : Option Addr) (cv : Nat) (P Q : Cl) (base : Nat) (w : World) (hbase : base ≤ w.heap.size) (O : RowOwn clT w base (.slice p 1 c) [P]) (R : RowOf clT w pv [Q]) :
    Calls Try.prog 23 #[.slice p 1 c, .int .i64 0, .int .i64 1, .slice pv 1 cv] w fun e w' => ∃ q d, e = .returned (.slice q 1 d) ∧ RowOwn clT w' base (.slice q 1 d) [Q] ∧ Sole (fun k => (Value.slice p 1 c).ownBlock = some k) w w' ∧ (∀ g, (Value.slice q 1 d).ownBlock = some g → (Value.slice p 1 c).ownBlock = some g ∨ g = w.heap.size) := by
  have hc1 : (1 : Int) ≤ (c : Int) := by
    obtain ⟨p', c', e, h1, _, _⟩ := RowOwn.open clOk O
    simp only [Value.slice.injEq] at e
    have : ([P] : List Cl).length = 1 := rfl
    omega
  obtain ⟨v', w2, hr, O2, gr, mv⟩ := append_row clOk base 27 w (.slice p 0 c) [] (own_head O) pv cv [Q] R (by show (0 + 1) * 16 ≤ _; omega) (by unfold maxLen; simp) hbase
  have hown := (own_head O).within
  obtain ⟨q, d, hv, _, _, _⟩ := RowOwn.open clOk O2
  rw [List.nil_append] at hv O2
  subst hv
  have E := hid (show RowOwn clT w2 base (.slice q 1 d) [Q] ∧ Sole (fun k => (Value.slice p 1 c).ownBlock = some k) w w2 ∧ (∀ g, (Value.slice q 1 d).ownBlock = some g → (Value.slice p 1 c).ownBlock = some g ∨ g = w.heap.size) from ⟨O2, Sole.grown gr fun k e => (ob_len p 1 0 c).trans e, fun g e => mv.elim (fun h => .inl ((ob_len p 1 0 c).trans (h.symm.trans ((ob_len q 1 1 d).symm ▸ e)))) (fun h => .inr (by have h2 : some w.heap.size = some g := h.symm.trans e; cases h2; rfl))⟩)
  have hl : ([Q] : List Cl).length = 1 := rfl
  rw [hl] at hr
  replace hr : (Builtin.append_ #[27, 27] 27 #[.slice p 0 c, .slice pv 1 cv]).run Try.prog w = .ok (.slice q 1 d) w2 := hr
  obtain ⟨g, rfl⟩ : ∃ a, p = some a := by
    rcases O.2 with ⟨_, h0⟩ | ⟨g, cap, cur, e, _⟩
    · cases h0
    · simp only [Value.slice.injEq] at e; exact ⟨_, e.1⟩
  clear O R O2 gr mv hown hl
  go_enter Try.func23, Try.ntmps23
  go_wp2_with (at_builtin; refine Lib.wpList_append_run _ rfl _ _ _ _ rfl _ _ rfl rfl _ _ hr ?_)
  go_ret
  exact ⟨q, d, rfl, E.out⟩
end Go.Proofs.Ytdepmoocjnmbeaa
