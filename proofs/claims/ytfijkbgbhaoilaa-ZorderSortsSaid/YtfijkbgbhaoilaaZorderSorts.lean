/-
  Layer 5: sorted, points rise by place in one row, then Id, then Data; none is lost. The walk. (Written by wip/tools/genzsorts.py.)
-/
import Derived.Test.YtfijkbgbhaoilaaZorderCmp
import Derived.Test.YtfijkbgbhaoilaaStMore
import Derived.Test.YtfijkbgbhaoilaaFlowRow
import Derived.Test.YtfijkbgbhaoilaaPlainPoints
import Derived.Deep.CutBlock
import Derived.Deep.DeepCutAuto
namespace Go.Proofs.Ytfijkbgbhaoilaa
open Go.RowKit
set_option linter.unusedVariables false
set_option linter.unusedSimpArgs false

/-- What has been sorted of the first i. -/
def wantP (lt : Pt → Pt → Bool) (f : Nat → Pt) (i : Nat) : List Pt := stS lt (ptL i f)
theorem wantP_len (lt : Pt → Pt → Bool) (f : Nat → Pt) (i : Nat) : (wantP lt f i).length = i := by unfold wantP; rw [stS_length, ptL_len]
theorem ptL_snoc (i : Nat) (f : Nat → Pt) : ptL (i + 1) f = ptL i f ++ [f i] := by unfold ptL; rw [List.range_succ, List.map_append]; rfl
theorem wantP_step {lt : Pt → Pt → Bool} (K : Weak lt) (f : Nat → Pt) (i k : Nat) (hk : k ≤ i) (h1 : k < i → lt (f i) (atR gpT (wantP lt f i) k) = true) (h2 : 0 < k → lt (f i) (atR gpT (wantP lt f i) (k - 1)) = false) :
    wantP lt f (i + 1) = (wantP lt f i).take k ++ [f i] ++ (wantP lt f i).drop k := by
  have hl := wantP_len lt f i
  have e : wantP lt f (i + 1) = ins lt (f i) (wantP lt f i) := by unfold wantP; rw [ptL_snoc, stS_snoc]
  rw [e, ins_take K (f i) (wantP lt f i) k (by omega) (stS_sorted K _) (fun h => by have := h1 (by omega); rwa [atR_eq _ _ h] at this) (fun h h0 => by have := h2 h0; rwa [atR_eq _ _ h] at this)]
  simp

set_option maxRecDepth 100000 in
set_option maxHeartbeats 4000000 in
theorem lless_any (x y : Pt) (hx : x.ok) (hy : y.ok) (w : World) : Calls Try.prog 6 #[.agg #[.int .i64 x.id, .int .u32 x.x, .int .u32 x.y, .string x.d], .agg #[.int .i64 y.id, .int .u32 y.x, .int .u32 y.y, .string y.d]] w fun e w' => e = .returned (.bool (ltZ x y)) ∧ Below w.heap.size w w' := by
  have K0 := hid (fun w => join_pt x hx w)
  have K1 := hid (fun w => join_pt y hy w)
  have ways : (jZ x < jZ y ∧ ltZ x y = true) ∨ (jZ y < jZ x ∧ ltZ x y = false) ∨ (jZ x = jZ y ∧ ((x.id < y.id ∧ ltZ x y = true) ∨ (y.id < x.id ∧ ltZ x y = false) ∨ (x.id = y.id ∧ ltZ x y = Op.bytesLess x.d.toList y.d.toList))) := by
    by_cases h1 : jZ x < jZ y
    · exact .inl ⟨h1, (ltZ_iff x y).2 (.inl h1)⟩
    · by_cases h2 : jZ y < jZ x
      · exact .inr (.inl ⟨h2, (ltZ_no x y).2 (.inl h2)⟩)
      · have h3 : jZ x = jZ y := by omega
        refine .inr (.inr ⟨h3, ?_⟩)
        by_cases k1 : x.id < y.id
        · exact .inl ⟨k1, (ltZ_iff x y).2 (.inr ⟨h3, .inl k1⟩)⟩
        · by_cases k2 : y.id < x.id
          · exact .inr (.inl ⟨k2, (ltZ_no x y).2 (.inr ⟨h3, .inl k2⟩)⟩)
          · have k3 : x.id = y.id := by omega
            refine .inr (.inr ⟨k3, ?_⟩)
            unfold ltZ
            simp [h3, k3, slB]
  generalize ltZ x y = d at *
  generalize jZ x = j0 at *
  generalize jZ y = j1 at *
  obtain ⟨xi, xx, xy, xd⟩ := x
  obtain ⟨yi, yx, yy, yd⟩ := y
  obtain ⟨B0, B1, H⟩ := @boxed2 w _ #[.int .i64 xi, .int .u32 xx, .int .u32 xy, .string xd] #[.int .i64 yi, .int .u32 yx, .int .u32 yy, .string yd] 27 27 (Below.refl _ _)
  have hH := hid H
  simp only at K0 K1 ways ⊢
  clear hx hy
  have W2 := hid ways
  clear ways
  go_enter Try.func6, Try.ntmps6
  go_wp2_with fail
  generalize (w.alloc (.cells #[.int .i64 xi, .int .u32 xx, .int .u32 xy, .string xd] 27)).alloc (.cells #[.int .i64 yi, .int .u32 yx, .int .u32 yy, .string yd] 27) = W at *
  have q0 := fun u : Later W => u.blk B0
  have q1 := fun u : Later W => u.blk B1
  have B0h := hid B0
  have B1h := hid B1
  clear B0 B1 H
  refine wp_region_late 10 (by kernel_rfl) (by kernel_rfl) ?_
  simp only [List.take_succ_cons, List.take_zero, List.drop_succ_cons, List.drop_zero]
  iterate 10 (go_big_quiet_step ((go_at_call 14; first | (with_reducible exact late_call (K0.out _)) | (with_reducible exact late_call (K1.out _)))))
  refine wpQuiet_nil ?_
  intro w3 h3'
  have h3 := late_out h3'
  have D := hid (below2 hH.out h3 hH.out.size)
  obtain ⟨l0, k0, f0⟩ := B0h.out.more h3
  obtain ⟨l1, k1, f1⟩ := B1h.out.more h3
  clear h3' h3 q0 q1 K0 K1
  rcases W2.out with ⟨h1, rfl⟩ | ⟨h1, rfl⟩ | ⟨h1, ⟨h2, rfl⟩ | ⟨h2, rfl⟩ | ⟨h2, rfl⟩⟩
  · have g1 : (decide (j0 < j1)) = true := decide_eq_true h1
    have g2 : (j0 : Int) < (j1 : Int) := by omega
    clear W2
    go_wp2
    go_ret
    exact ⟨rfl, D.out⟩
  · have g1 : (decide (j0 < j1)) = false := decide_eq_false (by omega)
    have g2 : (decide ((j0 : Int) < (j1 : Int))) = false := decide_eq_false (by omega)
    have g3 : ((j0 : Int) == (j1 : Int)) = false := by rw [beq_eq_false_iff_ne]; omega
    have g4 : (j0 == j1) = false := by rw [beq_eq_false_iff_ne]; omega
    clear W2 h1
    go_wp2
    go_ret
    exact ⟨rfl, D.out⟩
  · subst h1
    have g1 : (decide (xi < yi)) = true := decide_eq_true h2
    clear W2
    go_wp2
    go_ret
    exact ⟨rfl, D.out⟩
  · subst h1
    have g1 : (decide (xi < yi)) = false := decide_eq_false (by omega)
    have g3 : (xi == yi) = false := by rw [beq_eq_false_iff_ne]; omega
    clear W2 h2
    go_wp2
    go_ret
    exact ⟨rfl, D.out⟩
  · subst h1
    subst h2
    clear W2
    generalize Op.bytesLess xd.toList yd.toList = bb at *
    go_wp2
    go_ret
    exact ⟨rfl, D.out⟩

set_option maxRecDepth 100000 in
set_option maxHeartbeats 8000000 in
theorem zorderSorts0 (p : Option Addr) (n cap : Nat) (f : Nat → Pt) (hok : ∀ i, (f i).ok) (hn : n ≤ 4398046511104) (h1 : n ≤ cap) (h2 : cap ≤ maxLen) (pm : Option Addr) (nm capm : Nat) (fm : Nat → Pt) (hokm : ∀ i, i < nm → (fm i).ok) (hm1 : nm ≤ capm) (hm2 : capm ≤ maxLen) (w : World) (R : RowP w p 4 n (fun i => pcells (f i))) (RM : RowP w pm 4 nm (fun i => pcells (fm i))) :
    Calls Try.prog 3 #[.slice p n cap, .slice pm nm capm] w fun e w' => e = .returned (.bool true) ∧ Below w.heap.size w w' := by
  have KA := hid (fun w => alive5 w)
  have KL := hid (fun x y hx hy w => lless_any x y hx hy w)
  have KZ := hid (fun x y hx hy w => zless_any x y hx hy w)
  have hokh := hid hok
  have hokmh := hid hokm
  have KS := hid (fun w R => zsort_any p n cap f hok hn w R)
  have KP := hid (fun q c q' c' g h1 h2 h3 h4 w R R' => plainPoints_same q q' n c c' g h1 h2 h3 h4 w R R')
  have HR := hid R
  have hn42 : (n : Int) ≤ 4398046511104 := by omega
  have hwl := hid (fun i => wantP_len ltZ f i)
  have hws := hid (fun i k h1 h2 h3 => wantP_step weak_z f i k h1 h2 h3)
  have hcp := hid (show n ≤ cap ∧ cap ≤ maxLen from ⟨h1, h2⟩)
  have hcap : (n : Int) ≤ (cap : Int) := by omega
  have HM := hid RM
  have hm63 : (nm : Int) ≤ 9223372036854775807 := by unfold maxLen at hm2; omega
  clear R RM hn h1 h2 hok hokm hm1 hm2
  go_enter Try.func3, Try.ntmps3
  go_wp2_with fail
  refine (KA.out _).mono ?_
  rintro e w0 ⟨rfl, hb0⟩
  have B0 := hid hb0
  clear hb0 KA
  go_wp2_with fail
  go_loopw [5, 6] (fun v i wr => ∃ (k : Nat) (q : Option Addr) (c : Nat), v = .slice q k c ∧ i = .int .i64 (k : Int) ∧ k ≤ n ∧ k ≤ c ∧ c ≤ maxLen ∧ RowOwn gpT wr w0.heap.size (.slice q k c) (wantP ltZ f k) ∧ Below w0.heap.size w0 wr) (fun _ i _ => n - (intOf i).toNat)
  case atStart => exact ⟨0, none, 0, rfl, rfl, Nat.zero_le _, Nat.le_refl _, Nat.zero_le _, RowOwn.nil _ _, Below.refl _ _⟩
  case round =>
    obtain ⟨i, q, c, rfl, rfl, hin, hic, hcm, O, hb⟩ := hrel
    have Oh := hid O
    have Bh := hid hb
    by_cases hlt : i < n
    · have hlt1 : (i : Int) < (n : Int) := by omega
      obtain ⟨b, o, rfl, R0⟩ := HR.out.row (by omega)
      have hblt := R0.lt
      have R1 := R0.below (B0.out.trans (hb.mono B0.out.size)) hblt
      have y0 := R1.at0 hlt (v := .int .i64 (f i).id) rfl
      have y1 := R1.at1 hlt (v := .int .u32 (f i).x) rfl
      have y2 := R1.at2 hlt (v := .int .u32 (f i).y) rfl
      have y3 := R1.at3 hlt (v := .string (f i).d) rfl
      have hc63 : (c : Int) ≤ 9223372036854775807 := by unfold maxLen at hcm; omega
      have hic1 : (i : Int) ≤ (c : Int) := by omega
      have RW := hid (show RowP wr q 4 i (fun k => pcells (atR gpT (wantP ltZ f i) k)) by
        obtain ⟨q', c', hv, _, _, RO⟩ := RowOwn.open gpOk O
        rw [hwl.out] at hv
        cases hv
        have RO2 : RowP wr q 4 (wantP ltZ f i).length (fun k => pcells (atR gpT (wantP ltZ f i) k)) := RO
        rw [hwl.out] at RO2
        exact RO2)
      obtain ⟨WY, rfl⟩ : ∃ WY, WY = wr := ⟨_, rfl⟩
      have hbb : b < WY.heap.size := R1.lt
      have hii := hid (show i < n ∧ i ≤ c ∧ c ≤ maxLen from ⟨hlt, hic, hcm⟩)
      clear O hb R0 R1 hblt hlt hic hcm hin
      go_upto_block 2 with fail
      go_cut [7] (fun v wx => ∃ k : Nat, v = .int .i64 (k : Int) ∧ k ≤ i ∧ (k < i → ltZ (f i) (atR gpT (wantP ltZ f i) k) = true) ∧ (0 < k → ltZ (f i) (atR gpT (wantP ltZ f i) (k - 1)) = false) ∧ Below WY.heap.size WY wx)
      case first =>
        go_wp2_with fail
        go_loopw [7] (fun v wx => ∃ k : Nat, v = .int .i64 (k : Int) ∧ k ≤ i ∧ (k < i → ltZ (f i) (atR gpT (wantP ltZ f i) k) = true) ∧ Below WY.heap.size WY wx) (fun v _ => (intOf v).toNat)
        case atStart => exact ⟨i, rfl, Nat.le_refl _, fun h => by omega, Below.refl _ _⟩
        case round =>
          obtain ⟨k, rfl, hki, hk1, hb⟩ := hrel
          have hk1h := hid hk1
          have hbh := hid hb
          have hkih := hid hki
          by_cases h0 : 0 < k
          · obtain ⟨m, rfl⟩ : ∃ m, k = m + 1 := ⟨k - 1, by omega⟩
            have g0 : (0 : Int) < ((m + 1 : Nat) : Int) := by omega
            have g1 : (0 : Int) < (m : Int) + 1 := by omega
            obtain ⟨bq, oq, rfl, RQ⟩ := RW.out.row (by omega)
            have RQ2 := RQ.more hb
            have x0 := RQ2.at0 (i := m) (by omega) (v := .int .i64 (atR gpT (wantP ltZ f i) m).id) rfl
            have x1 := RQ2.at1 (i := m) (by omega) (v := .int .u32 (atR gpT (wantP ltZ f i) m).x) rfl
            have x2 := RQ2.at2 (i := m) (by omega) (v := .int .u32 (atR gpT (wantP ltZ f i) m).y) rfl
            have x3 := RQ2.at3 (i := m) (by omega) (v := .string (atR gpT (wantP ltZ f i) m).d) rfl
            have v0 := (hb.cell (p := ⟨b, _, none⟩) hbb).trans y0
            have v1 := (hb.cell (p := ⟨b, _, none⟩) hbb).trans y1
            have v2 := (hb.cell (p := ⟨b, _, none⟩) hbb).trans y2
            have v3 := (hb.cell (p := ⟨b, _, none⟩) hbb).trans y3
            have cc : ∀ (c oo : Nat) (v : Value), wr.cell? ⟨c, oo, none⟩ = some v → ∀ u : Later wr, u.val.cell? ⟨c, oo, none⟩ = some v := fun c oo v hv u => (u.cell c oo (cell_lt hv)).trans hv
            have a0 := cc _ _ _ x0
            have a1 := cc _ _ _ x1
            have a2 := cc _ _ _ x2
            have a3 := cc _ _ _ x3
            have b0 := cc _ _ _ v0
            have b1 := cc _ _ _ v1
            have b2 := cc _ _ _ v2
            have b3 := cc _ _ _ v3
            have hokW : (atR gpT (wantP ltZ f i) m).ok := by
              have hm := (stS_perm (lt := ltZ) (ptL i f)).subset (atR_mem (T := gpT) (wantP ltZ f i) m (by rw [hwl.out]; omega))
              unfold ptL at hm
              obtain ⟨k, _, e⟩ := List.mem_map.1 hm
              rw [← e]
              exact hokh.out k
            have KLL := hid (fun w => KL.out (f i) (atR gpT (wantP ltZ f i) m) (hokh.out i) hokW w)
            clear hokW
            have hwp : IntKind.i64.wrap ((((m + 1 : Nat)) : Int) - 1) = (m : Int) := by rw [IntKind.wrap_i64]; omega
            have hwp2 : IntKind.i64.wrap ((m : Int) + 1 - 1) = (m : Int) := by rw [IntKind.wrap_i64]; omega
            have hwp3 : IntKind.i64.wrap (m : Int) = (m : Int) := by rw [IntKind.wrap_i64]; omega
            have hm0 : (0 : Int) ≤ (m : Int) := by omega
            have hmi : (m : Int) < (i : Int) := by omega
            have hi0 : (0 : Int) ≤ (i : Int) := by omega
            have hlt1' : (i : Int) < (n : Int) := hlt1
            have hmm := hid (show m ≤ i ∧ m + 1 ≤ i from ⟨by omega, hki⟩)
            obtain ⟨dl, hdl⟩ : ∃ dl, dl = ltZ (f i) (atR gpT (wantP ltZ f i) m) := ⟨_, rfl⟩
            rw [← hdl] at KLL
            have hL := hid hdl.symm
            clear hdl
            clear cc x0 x1 x2 x3 v0 v1 v2 v3 RQ RQ2 hb hk1 hki h0
            obtain ⟨X, hX⟩ : ∃ X, X = f i := ⟨_, rfl⟩
            obtain ⟨Y, hY⟩ : ∃ Y, Y = atR gpT (wantP ltZ f i) m := ⟨_, rfl⟩
            rw [← hX] at b0 b1 b2 b3
            rw [← hY] at a0 a1 a2 a3
            rw [← hX, ← hY] at KLL
            clear hX hY
            cases dl with
            | true =>
              have hL2 := hL
              go_wp2_with fail
              refine wp_region_late 13 (by kernel_rfl) (by kernel_rfl) ?_
              simp only [List.take_succ_cons, List.take_zero, List.drop_succ_cons, List.drop_zero]
              iterate 13 (go_big_quiet_step ((with_reducible exact late_call (KLL.out _))))
              refine wpQuiet_nil ?_
              intro w3 h3'
              have h3 := late_out h3'
              have D := hid (hbh.out.trans (h3.mono hbh.out.size))
              clear h3' h3 a0 a1 a2 a3 b0 b1 b2 b3 hbh
              go_wp2_with fail
              go_roundw
              case rel => exact ⟨m, by go_num, hmm.out.1, fun _ => hL2.out, D.out⟩
              case measure => simp [intOf]
            | false =>
              have hL2 := hL
              go_wp2_with fail
              refine wp_region_late 13 (by kernel_rfl) (by kernel_rfl) ?_
              simp only [List.take_succ_cons, List.take_zero, List.drop_succ_cons, List.drop_zero]
              iterate 13 (go_big_quiet_step ((with_reducible exact late_call (KLL.out _))))
              refine wpQuiet_nil ?_
              intro w3 h3'
              have h3 := late_out h3'
              have D := hid (hbh.out.trans (h3.mono hbh.out.size))
              clear h3' h3 a0 a1 a2 a3 b0 b1 b2 b3 hbh
              go_wp2_with fail
              go_meet
              exact ⟨m + 1, by go_num, hkih.out, hk1h.out, fun _ => by rw [Nat.add_sub_cancel]; exact hL2.out, D.out⟩
          · have g0 : ¬ (0 : Int) < (k : Int) := by omega
            obtain rfl : k = 0 := by omega
            clear hb hk1 hki h0
            go_wp2_with fail
            refine wp_region_late 13 (by kernel_rfl) (by kernel_rfl) ?_
            simp only [List.take_succ_cons, List.take_zero, List.drop_succ_cons, List.drop_zero]
            iterate 13 (go_big_quiet_step (fail))
            refine wpQuiet_nil ?_
            intro w3 h3'
            have h3 := late_out h3'
            have D := hid (hbh.out.trans (h3.mono hbh.out.size))
            clear h3' h3 hbh
            go_wp2_with fail
            go_meet
            exact ⟨0, rfl, Nat.zero_le _, hk1h.out, fun h => by omega, D.out⟩
      case rest =>
        obtain ⟨k, rfl, hki, hk1, hk2, hb⟩ := hcut
        have hst := hid (hws.out i k hki hk1 hk2)
        clear hk1 hk2
        have z0 := (hb.cell (p := ⟨b, _, none⟩) hbb).trans y0
        have z1 := (hb.cell (p := ⟨b, _, none⟩) hbb).trans y1
        have z2 := (hb.cell (p := ⟨b, _, none⟩) hbb).trans y2
        have z3 := (hb.cell (p := ⟨b, _, none⟩) hbb).trans y3
        have hb2 := hid hb
        have RW2 := hid (RowP.more RW.out hb)
        have hki1 : (k : Int) ≤ (i : Int) := by omega
        have hkc1 : (k : Int) ≤ (c : Int) := by omega
        have hkih := hid hki
        have hbw : b < wc.heap.size := Nat.lt_of_lt_of_le hbb hb.size
        clear hb y0 y1 y2 y3 hki
        go_wp2_with fail
        have hqq : (q = none ∧ c = 0) ∨ ∃ b o, q = some ⟨b, o, none⟩ := by
          rcases RowOwn.form Oh.out with ⟨hv, _⟩ | ⟨g, c', hv, _⟩
          · cases hv; exact .inl ⟨rfl, rfl⟩
          · rw [hwl.out] at hv; cases hv; exact .inr ⟨g, 0, rfl⟩
        have hl := hwl.out i
        have sl1 := hid (fun w => row_upto gpOk q i c k hkih.out hii.out.2.1 hqq w)
        obtain ⟨qb, sl2', slR'⟩ := row_behind gpOk q i c k hkih.out hii.out.2.1 hqq (wantP ltZ f i) hl
        have sl2 := hid sl2'
        have slR := hid slR'
        have RL := hid (show RowOf gpT wc q (wantP ltZ f i) by
          have h := RW2.out
          unfold RowOf
          rw [hl]
          exact h)
        clear sl2' slR' hqq hl
        refine wp_region_flow [1, 2, 3, 5, 6, 7, 8, 11, 12, 13] [0, 4, 9, 10, 14] 15 (fun k => if k = 4 then [0] else if k = 10 then [4, 9] else if k = 14 then [10] else []) (RowG gpT wc.heap.size fun j => if j = 4 then (wantP ltZ f i).take k else if j = 9 then [f i] else if j = 10 then (wantP ltZ f i).take k ++ [f i] else if j = 14 then (wantP ltZ f i).take k ++ [f i] ++ (wantP ltZ f i).drop k else []) ?A (by kernel_rfl) (by kernel_rfl) (by kernel_rfl) (rowG_sole _ _) (rowG_own _ _) ?hq ?hmake ?hend
        case hq =>
          intro S hN
          have cc : ∀ (c oo : Nat) (v : Value), wc.cell? ⟨c, oo, none⟩ = some v → ∀ u : LaterC wc S, u.val.cell? ⟨c, oo, none⟩ = some v := fun c oo v hv u => (u.h.cell (p := ⟨c, oo, none⟩) (cell_lt hv)).trans hv
          have a0 := cc _ _ _ z0
          have a1 := cc _ _ _ z1
          have a2 := cc _ _ _ z2
          have a3 := cc _ _ _ z3
          simp only [List.filterMap_cons, List.filterMap_nil, List.getElem?_toArray, List.getElem?_cons_succ, List.getElem?_cons_zero]
          change wpQuiet _ _ _ _ [_, _, _, _, _, _, _, _, _, _] _
          iterate 2 (go_big_quiet_step (fail))
          refine quiet_sl rfl rfl _ sl1.out ?_
          simp only [Act.put, List.setIfInBounds_toArray, List.set_cons_zero, List.set_cons_succ]
          iterate 4 (go_big_quiet_step (fail))
          iterate 2 (go_big_quiet_step (fail))
          refine quiet_sl rfl rfl _ sl2.out ?_
          simp only [Act.put, List.setIfInBounds_toArray, List.set_cons_zero, List.set_cons_succ]
          refine wpQuiet_nil ?_
          rfl
        case hmake =>
          intro k' o' hk' ho' vs wx hbx hG hd
          simp only [List.mem_cons, List.not_mem_nil, or_false] at hk'
          rcases hk' with rfl | rfl | rfl | rfl | rfl
          all_goals
            simp only [List.getElem?_cons_zero, List.getElem?_cons_succ, Option.some.injEq] at ho'
            subst ho'
          · refine MakeOf.value (.slice (some ⟨wx.heap.size, 0, none⟩) 0 0) (wx.alloc (.cells #[] 27)) (by simp [execOp, Act.eval, go_sem]) ⟨?_, ?_, ?_⟩
            · exact made_nil gpOk _ wx hbx.size
            · intro b hb; cases hb; exact .inl (Nat.le_refl _)
            · exact Sole.alloc _ _
          · have h0 : RowOwn gpT wx wc.heap.size (vs 0) [] := hG 0 (by simp)
            have hlt := hwl.out i
            have ht : ((wantP ltZ f i).take k).length = k := by rw [List.length_take]; have := hkih.out; omega
            obtain ⟨v', w', hr, O', f1, f2⟩ := flow_append gpOk wc.heap.size 22 wx (vs 0) [] h0 q c ((wantP ltZ f i).take k) (RowOf.take (RowP.more RL.out hbx) k (by rw [hlt]; exact hkih.out)) (by rw [ht]; show (0 + k) * 32 ≤ _; have := hkih.out; have := hii.out; omega) (by rw [ht]; unfold maxLen; have := hkih.out; have := hii.out; simp; omega) hbx.size
            rw [ht] at hr
            refine MakeOf.value v' w' (exec_append rfl (by simp [puts, Act.put, Act.eval]) (by simp [puts, Act.put, Act.eval]) hr) ⟨?_, ?_, ?_⟩
            · exact O'
            · intro b hb
              exact (f1 b hb).imp (fun h => h) fun h => ⟨0, by simp, h⟩
            · exact f2 _ fun b hb => ⟨0, by simp, hb⟩
          · refine MakeOf.value (.slice (some ⟨wx.heap.size, 0, none⟩) 1 1) (wx.alloc (.cells #[.int .i64 (f i).id, .int .u32 (f i).x, .int .u32 (f i).y, .string (f i).d] 27)) (by simp [execOp, Act.eval, puts, Act.put, go_sem]) ⟨?_, ?_, ?_⟩
            · exact made_one gpOk _ wx hbx.size (f i)
            · intro b hb; cases hb; exact .inl (Nat.le_refl _)
            · exact Sole.alloc _ _
          · have h4 : RowOwn gpT wx wc.heap.size (vs 4) ((wantP ltZ f i).take k) := hG 4 (by simp)
            have h9 : RowOwn gpT wx wc.heap.size (vs 9) [f i] := hG 9 (by simp)
            have hlt := hwl.out i
            have ht : ((wantP ltZ f i).take k).length = k := by rw [List.length_take]; have := hkih.out; omega
            obtain ⟨q9, c9, e9, k9, m9, R9⟩ := RowOwn.open gpOk h9
            obtain ⟨v', w', hr, O', f1, f2⟩ := flow_append gpOk wc.heap.size 22 wx (vs 4) _ h4 q9 c9 [f i] R9 (by rw [ht]; show (k + 1) * 32 ≤ _; have := hkih.out; have := hii.out; omega) (by rw [ht]; unfold maxLen; have := hkih.out; have := hii.out; simp; omega) hbx.size
            refine MakeOf.value v' w' (exec_append rfl (by simp [puts, Act.put, Act.eval]) (by simp [puts, Act.put, Act.eval]; exact e9) hr) ⟨?_, ?_, ?_⟩
            · exact O'
            · intro b hb
              exact (f1 b hb).imp (fun h => h) fun h => ⟨4, by simp, h⟩
            · exact f2 _ fun b hb => ⟨4, by simp, hb⟩
          · have h10 : RowOwn gpT wx wc.heap.size (vs 10) ((wantP ltZ f i).take k ++ [f i]) := hG 10 (by simp)
            have hlt := hwl.out i
            have ht : ((wantP ltZ f i).take k ++ [f i]).length = k + 1 := by rw [List.length_append, List.length_take]; have := hkih.out; simp; omega
            have hd2 : ((wantP ltZ f i).drop k).length = i - k := by rw [List.length_drop, hlt]
            obtain ⟨v', w', hr, O', f1, f2⟩ := flow_append gpOk wc.heap.size 22 wx (vs 10) _ h10 qb (c - k) ((wantP ltZ f i).drop k) (slR.out wx (RowP.more RL.out hbx)) (by rw [ht, hd2]; show (k + 1 + (i - k)) * 32 ≤ _; have := hkih.out; have := hii.out; omega) (by rw [ht, hd2]; unfold maxLen; have := hkih.out; have := hii.out; omega) hbx.size
            rw [hd2] at hr
            refine MakeOf.value v' w' (exec_append rfl (by simp [puts, Act.put, Act.eval]) (by simp [puts, Act.put, Act.eval]) hr) ⟨?_, ?_, ?_⟩
            · exact O'
            · intro b hb
              exact (f1 b hb).imp (fun h => h) fun h => ⟨10, by simp, h⟩
            · exact f2 _ fun b hb => ⟨10, by simp, hb⟩
        case hend =>
          intro vs w5 hb5 hG
          have h14 : RowOwn gpT w5 wc.heap.size (vs 14) ((wantP ltZ f i).take k ++ [f i] ++ (wantP ltZ f i).drop k) := hG 14 (by simp) (by simp)
          rw [← hst.out] at h14
          obtain ⟨q', c', e', k1, k2, _⟩ := RowOwn.open gpOk h14
          rw [hwl.out] at e'
          have hw0 : w0.heap.size ≤ wc.heap.size := Nat.le_trans Bh.out.size hb2.out.size
          have HR2 := hid (show ∃ (q' : Option Addr) (c' : Nat), vs 14 = .slice q' (i + 1) c' ∧ RowOwn gpT w5 w0.heap.size (.slice q' (i + 1) c') (wantP ltZ f (i + 1)) ∧ Below wc.heap.size wc w5 from ⟨q', c', e', RowOwn.mono (by rw [← e']; exact h14) hw0, hb5⟩)
          clear h14 e' k1 k2 hb5 hG hw0
          have hc2 := hid (show i + 1 ≤ n ∧ ∃ (q' : Option Addr) (c' : Nat), vs 14 = .slice q' (i + 1) c' ∧ i + 1 ≤ c' ∧ c' ≤ maxLen ∧ RowOwn gpT w5 w0.heap.size (.slice q' (i + 1) c') (wantP ltZ f (i + 1)) ∧ Below w0.heap.size w0 w5 by
            obtain ⟨q', c', e, O2, hb5⟩ := HR2.out
            refine ⟨hii.out.1, q', c', e, ?_, ?_, O2, below2 (below2 Bh.out hb2.out Bh.out.size) hb5 (Nat.le_trans Bh.out.size hb2.out.size)⟩
            all_goals
              obtain ⟨q2, c2, hv, h1, h2, _⟩ := RowOwn.open gpOk O2
              rw [hwl.out] at hv h1
              cases hv
              assumption)
          have hi57 : (i : Int) ≤ 4398046511104 := by omega
          simp only [puts, List.foldl_cons, List.foldl_nil, List.getElem?_toArray, List.getElem?_cons_succ, List.getElem?_cons_zero, Option.bind_some, Act.put, List.setIfInBounds_toArray, List.set_cons_succ, List.set_cons_zero, List.drop_succ_cons, List.drop_zero]
          generalize vs 14 = v14 at *
          go_wp2_with fail
          go_roundw
          case rel =>
            obtain ⟨hn1, q', c', rfl, h1, h2, O2, hb5⟩ := hc2.out
            exact ⟨i + 1, q', c', rfl, by go_num, hn1, h1, h2, O2, hb5⟩
          case measure => have := hii.out; simp [intOf]; omega
    · have hlt1 : ¬ (i : Int) < (n : Int) := by omega
      obtain rfl : i = n := by omega
      have hcm2 := hid (show i ≤ c ∧ c ≤ maxLen from ⟨hic, hcm⟩)
      obtain ⟨WY, rfl⟩ : ∃ WY, WY = wr := ⟨_, rfl⟩
      have hBW := hid (below2 B0.out hb B0.out.size)
      clear O hb hin hic hcm hlt B0
      go_wp2_with fail
      go_loopw [8] (fun v wx => ∃ k : Nat, v = .int .i64 (k : Int) ∧ k ≤ i ∧ Below WY.heap.size WY wx) (fun v _ => i - (intOf v).toNat)
      case atStart => exact ⟨0, by go_num, Nat.zero_le _, Below.refl _ _⟩
      case round =>
        obtain ⟨k, rfl, hk2, hb⟩ := hrel
        by_cases hlt : k < i ∧ k < nm
        · have hlt1 : (k : Int) < (i : Int) := by omega
          have hlt2 : (k : Int) < (nm : Int) := by omega
          have hlt3 : k < i := hlt.1
          have hlt4 : k < nm := hlt.2
          obtain ⟨b, o, rfl, R0⟩ := HR.out.row (by omega)
          obtain ⟨bm, om, rfl, M0⟩ := HM.out.row (by omega)
          have R1 := (R0.below hBW.out R0.lt).more hb
          have M1 := (M0.below hBW.out M0.lt).more hb
          have x0 := R1.at0 (i := k) (by omega) (v := .int .i64 (f k).id) rfl
          have x1 := R1.at1 (i := k) (by omega) (v := .int .u32 (f k).x) rfl
          have x2 := R1.at2 (i := k) (by omega) (v := .int .u32 (f k).y) rfl
          have x3 := R1.at3 (i := k) (by omega) (v := .string (f k).d) rfl
          have y0 := M1.at0 hlt.2 (v := .int .i64 (fm k).id) rfl
          have y1 := M1.at1 hlt.2 (v := .int .u32 (fm k).x) rfl
          have y2 := M1.at2 hlt.2 (v := .int .u32 (fm k).y) rfl
          have y3 := M1.at3 hlt.2 (v := .string (fm k).d) rfl
          have cc : ∀ (c oo : Nat) (v : Value), wr.cell? ⟨c, oo, none⟩ = some v → ∀ u : Later wr, u.val.cell? ⟨c, oo, none⟩ = some v := fun c oo v hv u => (u.cell c oo (cell_lt hv)).trans hv
          have a0 := cc _ _ _ x0
          have a1 := cc _ _ _ x1
          have a2 := cc _ _ _ x2
          have a3 := cc _ _ _ x3
          have b0 := cc _ _ _ y0
          have b1 := cc _ _ _ y1
          have b2 := cc _ _ _ y2
          have b3 := cc _ _ _ y3
          have hk0 : (0 : Int) ≤ (k : Int) := by omega
          have hm57 : (k : Int) ≤ 4398046511104 := by omega
          have hmm := hid (show k + 1 ≤ i from hlt.1)
          have hbh := hid hb
          have KLL := hid (fun w => KL.out (f k) (fm k) (hokh.out k) (hokmh.out k hlt.2) w)
          have KZZ := hid (fun w => KZ.out (f k) (fm k) (hokh.out k) (hokmh.out k hlt.2) w)
          generalize ltZ (f k) (fm k) = d at *
          have hdd : (d != d) = false := by simp
          clear cc x0 x1 x2 x3 y0 y1 y2 y3 R0 R1 M0 M1 hb hk2 hlt
          generalize f k = X at *
          generalize fm k = Y at *
          go_wp2_with fail
          refine wp_region_late 18 (by kernel_rfl) (by kernel_rfl) ?_
          simp only [List.take_succ_cons, List.take_zero, List.drop_succ_cons, List.drop_zero]
          iterate 18 (go_big_quiet_step (first | (go_at_call 7; (with_reducible exact late_call (KZZ.out _))) | (go_at_call 6; (with_reducible exact late_call (KLL.out _)))))
          refine wpQuiet_nil ?_
          intro w3 h3'
          have h3 := late_out h3'
          have D := hid (hbh.out.trans (h3.mono hbh.out.size))
          clear h3' h3 a0 a1 a2 a3 b0 b1 b2 b3 hbh
          go_wp2_with fail
          go_roundw
          case rel => exact ⟨k + 1, by go_num, hmm.out, D.out⟩
          case measure => have := hmm.out; simp [intOf]; omega
        · have hgo : ((decide (k < i)) = false ∧ (decide ((k : Int) < (i : Int))) = false) ∨ ((decide (k < i)) = true ∧ (decide (k < nm)) = false ∧ (k : Int) < (i : Int)) := by
            by_cases h : k < i
            · exact .inr ⟨decide_eq_true h, decide_eq_false (by omega), by omega⟩
            · exact .inl ⟨decide_eq_false h, decide_eq_false (by omega)⟩
          have D := hid (below2 hBW.out hb hBW.out.size)
          have R1 := RowP.more HR.out D.out
          have KS1 := hid (KS.out wr R1)
          have O1 := hid (Oh.out.more hb)
          clear hb R1 hlt
          rcases hgo with ⟨hg, hg2⟩ | ⟨hg, hg2, hg3⟩
          all_goals
            go_wp2_with fail
            refine KS1.out.mono ?_
            rintro e w5 ⟨q5, c5, rfl, O5, hb5⟩
            have O2 := O1.out.more hb5
            obtain ⟨q6, c6, e6, k6, m6, R6⟩ := RowOwn.open gpOk O5
            obtain ⟨q7, c7, e7, k7, m7, R7⟩ := RowOwn.open gpOk O2
            have hl5 : (stS ltZ (ptL i f)).length = i := hwl.out i
            rw [hl5] at e6 k6
            rw [hwl.out] at e7 k7
            cases e6
            cases e7
            have R6' : RowP w5 q5 4 (stS ltZ (ptL i f)).length (fun k => pcells (atR gpT (wantP ltZ f i) k)) := R6
            have R7' : RowP w5 q 4 (wantP ltZ f i).length (fun k => pcells (atR gpT (wantP ltZ f i) k)) := R7
            rw [hl5] at R6'
            rw [hwl.out] at R7'
            have KP1 := hid (KP.out q5 c5 q c _ k6 m6 k7 m7 w5 R6' R7')
            have D5 := hid (below2 D.out hb5 D.out.size)
            clear O5 O2 R6 R7 R6' R7' hb5 KS1 O1
            go_wp2_with fail
            refine KP1.out.mono ?_
            rintro e w6 ⟨rfl, hb6⟩
            have D6 := hid (below2 D5.out hb6 D5.out.size)
            clear hb6 KP1
            go_wp2
            go_ret
            exact ⟨rfl, D6.out⟩

theorem zorderSorts (p : Option Addr) (n cap : Nat) (f : Nat → Pt) (hok : ∀ i, i < n → (f i).ok) (hn : n ≤ 4398046511104) (h1 : n ≤ cap) (h2 : cap ≤ maxLen) (pm : Option Addr) (nm capm : Nat) (fm : Nat → Pt) (hokm : ∀ i, i < nm → (fm i).ok) (hm1 : nm ≤ capm) (hm2 : capm ≤ maxLen) (w : World) (R : RowP w p 4 n (fun i => pcells (f i))) (RM : RowP w pm 4 nm (fun i => pcells (fm i))) :
    Calls Try.prog 3 #[.slice p n cap, .slice pm nm capm] w fun e w' => e = .returned (.bool true) ∧ Below w.heap.size w w' := by
  refine zorderSorts0 p n cap (fun i => if i < n then f i else ⟨0, 0, 0, ByteArray.empty⟩) (fun i => ?_) hn h1 h2 pm nm capm fm hokm hm1 hm2 w ?_ RM
  · by_cases h : i < n
    · simp only [h, if_true]; exact hok i h
    · simp only [h, if_false]; exact ⟨by decide, by decide, by decide, by decide, by decide, by decide, Nat.zero_le _⟩
  · rcases R with h | ⟨b, o, e, R⟩
    · exact .inl h
    · exact .inr ⟨b, o, e, R.lt, fun i hi j v hv => R.cell i hi j v (by simp only [hi, if_true] at hv; exact hv)⟩
end Go.Proofs.Ytfijkbgbhaoilaa
