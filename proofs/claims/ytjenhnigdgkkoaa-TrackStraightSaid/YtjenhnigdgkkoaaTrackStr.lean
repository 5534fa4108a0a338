/-
  track.Thin; poly.On of any points; one step of track.Straight.
-/
import Derived.Test.YtjenhnigdgkkoaaTrackThin
import Derived.Deep.RegionHeld3
namespace Go.Proofs.Ytjenhnigdgkkoaa
open Go.RowKit
set_option linter.unusedVariables false
set_option linter.unusedSimpArgs false

set_option maxRecDepth 100000 in
theorem thin_any (h l : Int) (p : Option Addr) (n cap : Nat) (f : Nat → Pt) (hf : ∀ i, (f i).ok) (h1 : n ≤ cap) (h2 : cap ≤ maxLen) (hn : n ≤ 60) (w : World) (HA : RowP w p 4 n (fun i => pcells (f i))) :
    Calls Try.prog 26 #[.slice p n cap, dval h l] w fun e w' => ∃ v, e = .returned v ∧ PtsAt w' v (keepL (thinStep h l) f n) ∧ Below w.heap.size w w' := by
  unfold dval
  have hb1 : Below w.heap.size w (w.alloc (.cells #[.int .u64 h, .int .u64 l] 34)) := (Below.refl _ _).alloc (Nat.le_refl _) _
  have KK := hid (keepThin_any h l w.heap.size p n cap f hf h1 h2 hn _ (HA.more hb1) (Blk.new w #[.int .u64 h, .int .u64 l] 34))
  replace hb1 := hid hb1
  clear HA h1 h2 hn hf
  go_enter Try.func26, Try.ntmps26
  go_wp2_with fail
  refine KK.out.mono ?_
  rintro e w3 ⟨v, rfl, O, hb⟩
  have hO := hid O
  have hbb := hid (below2 hb1.out hb hb1.out.size)
  clear O hb KK
  go_wp2_with fail
  go_ret
  exact ⟨_, rfl, hO.out, hbb.out⟩

/-- On one of the sides that these points make. -/
def onAny (f : Nat → Pt) (n : Nat) (q : P2) : Bool := anyAt n fun i => onB (p2 (f i)) (p2 (f ((i + 1) % n))) q

set_option maxRecDepth 100000 in
theorem polyOn_any (p : Option Addr) (n cap : Nat) (f : Nat → Pt) (hf : ∀ i, (f i).ok) (h1 : n ≤ cap) (h2 : cap ≤ maxLen) (q : P2) (hq : q.ok) (w : World) (HA : RowP w p 4 n (fun i => pcells (f i))) :
    Calls Try.prog 13 #[.slice p n cap, .int .u32 q.x, .int .u32 q.y] w fun e w' => e = .returned (.bool (onAny f n q)) ∧ Below w.heap.size w w' := by
  obtain ⟨B0, B1, H⟩ := @boxed2 w _ #[.int .u32 q.x] #[.int .u32 q.y] 23 23 (Below.refl _ _)
  have KK := hid (callsIn_wide.1 (anySide_in 4 (Nat.le_refl _) n cap p f h1 h2 w.heap.size (w.heap.size + 1) (fun i => onB (p2 (f i)) (p2 (f ((i + 1) % n))) q) _ (HA.more H)
    (fun i W hb => on1_any _ _ q (p2_ok (hf _)) (p2_ok (hf _)) hq _ _ W ((hb.cell (p := ⟨w.heap.size, 0, none⟩) B0.lt).trans (B0.cell 0)) ((hb.cell (p := ⟨w.heap.size + 1, 0, none⟩) B1.lt).trans (B1.cell 0)))))
  have hbh := hid H
  unfold onAny
  generalize anyAt n (fun i => onB (p2 (f i)) (p2 (f ((i + 1) % n))) q) = r at *
  clear HA h1 h2 hf hq B0 B1 H
  obtain ⟨qx, qy⟩ := q
  simp only at *
  go_enter Try.func13, Try.ntmps13
  go_wp2_with fail
  refine KK.out.mono ?_
  rintro e w3 ⟨rfl, hb⟩
  have hbb := hid (below2 hbh.out hb hbh.out.size)
  clear hb KK
  go_wp2_with fail
  go_ret
  exact ⟨rfl, hbb.out⟩

theorem flatP_drop (K : List Pt) (m : Nat) (hL : K.length = m + 1) : flatP K.dropLast = (flatP K).take (m * 4) := by
  have hne : K ≠ [] := by intro h; rw [h] at hL; cases hL
  have e : K = K.dropLast ++ [K.getLast hne] := (List.dropLast_concat_getLast hne).symm
  have hl : (flatP K.dropLast).length = m * 4 := by rw [flatP_length, List.length_dropLast, hL]; rfl
  conv => rhs; rw [e, flatP_append]
  rw [List.take_append_of_le_length (by omega), List.take_of_length_le (by omega)]

/-- All but the last, in the same row. -/
theorem own_drop {w : World} {base : Nat} {p : Option Addr} {cap m : Nat} {K : List Pt} (hL : K.length = m + 1) (h : PtsOwn w base (.slice p (m + 1) cap) K) : PtsOwn w base (.slice p m cap) K.dropLast := by
  unfold PtsOwn at *
  obtain ⟨hx, h2⟩ := h
  rw [hL] at hx h2
  rcases h2 with ⟨e, h0⟩ | ⟨g, cap', cur, e, hb, hg, h3, h4, h5, h6⟩
  · omega
  · cases e
    have hl : K.dropLast.length = m := by rw [List.length_dropLast, hL]; rfl
    rw [hl]
    refine ⟨by rw [flatP_length, hl], .inr ⟨g, cap, cur, rfl, hb, hg, by omega, h4, h5, ?_⟩⟩
    rw [flatP_drop K m hL, ← h6, List.take_take]
    congr 1
    omega

/-- The step, by cases. -/
theorem str_cases (K : List Pt) (P : Pt) (m : Nat) (hL : K.length = m + 1) :
    (samB (lastP K) P = true ∧ strStep K P = K) ∨ (samB (lastP K) P = false ∧ m = 0 ∧ strStep K P = K ++ [P]) ∨
    (samB (lastP K) P = false ∧ 1 ≤ m ∧ ∃ r, onB2 (p2 (lastP2 K)) (p2 P) (p2 (lastP K)) = r ∧ strStep K P = if r then K.dropLast ++ [P] else K ++ [P]) := by
  unfold strStep
  rw [hL]
  cases samB (lastP K) P with
  | true => exact .inl ⟨rfl, by simp⟩
  | false =>
    by_cases h : m = 0
    · exact .inr (.inl ⟨rfl, h, by simp [h]⟩)
    · have h1 : 1 < m + 1 := by omega
      refine .inr (.inr ⟨rfl, by omega, _, rfl, ?_⟩)
      rw [decide_eq_true h1]
      simp

theorem row_two (w : World) (A B : Pt) : RowP (w.alloc (.cells #[.int .i64 A.id, .int .u32 A.x, .int .u32 A.y, .string A.d, .int .i64 B.id, .int .u32 B.x, .int .u32 B.y, .string B.d] 25)) (some ⟨w.heap.size, 0, none⟩) 4 2 (fun i => pcells (if i = 0 then A else B)) := by
  have h := Blk.new w #[.int .i64 A.id, .int .u32 A.x, .int .u32 A.y, .string A.d, .int .i64 B.id, .int .u32 B.x, .int .u32 B.y, .string B.d] 25
  refine .inr ⟨_, _, rfl, h.lt, fun i hi j v hv => ?_⟩
  have hij : (#[.int .i64 A.id, .int .u32 A.x, .int .u32 A.y, .string A.d, .int .i64 B.id, .int .u32 B.x, .int .u32 B.y, .string B.d] : Array Value)[i * 4 + j]? = some v := by
    have hj : j < 4 := by
      have := (List.getElem?_eq_some_iff.1 hv).1
      simpa [pcells] using this
    have h01 : i = 0 ∨ i = 1 := by omega
    have h0123 : j = 0 ∨ j = 1 ∨ j = 2 ∨ j = 3 := by omega
    rcases h01 with rfl | rfl <;> rcases h0123 with rfl | rfl | rfl | rfl <;> simpa [pcells] using hv
  have := (h.cell (i * 4 + j)).trans hij
  rw [Nat.zero_add]
  exact this
theorem onAny_two (A B : Pt) (q : P2) : onAny (fun i => if i = 0 then A else B) 2 q = onB2 (p2 A) (p2 B) q := by
  simp [onAny, anyAt, onB2, List.range, List.range.loop]

set_option maxRecDepth 100000 in
set_option maxHeartbeats 2000000 in
theorem str1_any (base : Nat) (K : List Pt) (v : Value) (P : Pt) (hP : P.ok) (hK : ∀ q ∈ K, q.ok) (hn : K.length ≤ 100000) (w : World) (HK : PtsOwn w base v K) (hbase : base ≤ w.heap.size) :
    Calls Try.prog 44 #[v, ptv P] w fun e w' => ∃ v', e = .returned v' ∧ PtsOwn w' base v' (strStep K P) ∧ Below base w w' := by
  obtain ⟨i0, hi, hz0, hz1, hz2⟩ := info_parts ptTab
  obtain ⟨p, cap, rfl, h1, h2, RV⟩ := HK.open
  have HB := Blk.new w #[.int .i64 P.id, .int .u32 P.x, .int .u32 P.y, .string P.d] 25
  have hb1 : Below w.heap.size w (w.alloc (.cells #[.int .i64 P.id, .int .u32 P.x, .int .u32 P.y, .string P.d] 25)) := (Below.refl _ _).alloc (Nat.le_refl _) _
  have RV1 := RV.more hb1
  have HK1 := HK.more hb1
  have hbs := hb1.size
  obtain ⟨W1, hW1⟩ : ∃ W1, w.alloc (.cells #[.int .i64 P.id, .int .u32 P.x, .int .u32 P.y, .string P.d] 25) = W1 := ⟨_, rfl⟩
  rw [hW1] at HB hb1 RV1 HK1 hbs
  unfold ptv
  cases hL : K.length with
  | zero =>
    obtain rfl : K = [] := List.eq_nil_of_length_eq_zero hL
    have hst : strStep [] P = [] ++ [P] := rfl
    rw [hst]
    simp only [List.length_nil] at *
    go_enter Try.func44, Try.ntmps44
    go_wp2_with fail
    refine wp_region_late 23 (by kernel_rfl) (by kernel_rfl) ?_
    simp only [List.take_succ_cons, List.take_zero, List.drop_succ_cons, List.drop_zero]
    iterate 23 (go_big_quiet_step (fail))
    refine wpQuiet_nil ?_
    intro w3 h3'
    have h3 := late_out h3'
    clear h3'
    have HB3 := HB.more h3
    have HK3 := HK1.more h3
    have hbel := (hb1.mono hbase).trans (h3.mono (Nat.le_trans hbase hbs))
    have hb3s := h3.size
    clear HB HK1 RV RV1 HK
    go_wp2_with fail
    refine wp_region_late 23 (by kernel_rfl) (by kernel_rfl) ?_
    simp only [List.take_succ_cons, List.take_zero, List.drop_succ_cons, List.drop_zero]
    iterate 23 (go_big_quiet_step (fail))
    refine wpQuiet_nil ?_
    intro w4 h4'
    have h4 := late_out h4'
    clear h4'
    have HB4 := HB3.more h4
    have HK4 := HK3.more h4
    have hbel4 := hbel.trans (h4.mono (Nat.le_trans (Nat.le_trans hbase hbs) hb3s))
    have hb4s := h4.size
    clear HB3 HK3 hbel
    have hnews := hid (four_new w4 #[.int .i64 P.id, .int .u32 P.x, .int .u32 P.y, .string P.d] 25)
    obtain ⟨l4, k4, f4⟩ := HB4
    unfold PtsOwn at HK4
    simp only [List.length_nil] at HK4
    go_wp2_with (at_builtin; refine wpList_append_own _ rfl _ _ 22 rfl base 25 i0 (.agg #[.int .i64 0, .int .u32 0, .int .u32 0, .string ByteArray.empty]) 4 32 Try.underlying22 hi hz0 hz1 hz2 rfl (by decide) (.slice p 0 cap) 0 (flatP []) rfl (HK4.alloc _) ⟨w4.heap.size, 0, none⟩ 1 1 [.int .i64 P.id, .int .u32 P.x, .int .u32 P.y, .string P.d] rfl rfl hnews.out (pt_one P) (by unfold maxLen; omega) (by omega) (by first | omega | (simp; omega)) ?_)
    intro v9 w9 hown hgrow hne
    have hO9 : PtsOwn w9 base v9 ([] ++ [P]) := hown
    have hbel9 : Below base w w9 := (hbel4.alloc (by omega) _).grown hgrow (by simp; omega) (fun k hk => (HK4.lt k hk).1)
    clear hown hgrow hne HK4
    go_wp2_with fail
    go_ret
    exact ⟨_, rfl, hO9, hbel9⟩
  | succ m =>
    have hmem : lastP K ∈ K := ptAt_mem K _ (by omega)
    have hlast : ptAt K m = lastP K := by unfold lastP; rw [hL]; rfl
    rw [hL] at RV1 h1 HK1
    obtain ⟨b, o, rfl, R⟩ := RV1.row (by omega)
    have z1 := R.at1 (i := m) (by omega) (v := .int .u32 (lastP K).x) (by show (pcells (ptAt K m))[1]? = _; rw [hlast]; rfl)
    have z2 := R.at2 (i := m) (by omega) (v := .int .u32 (lastP K).y) (by show (pcells (ptAt K m))[2]? = _; rw [hlast]; rfl)
    have hL0 := hid (hK _ hmem)
    have ways := str_cases K P m hL
    have hsam : samB (lastP K) P = (((lastP K).x == P.x) && ((lastP K).y == P.y)) := rfl
    rw [hsam] at ways
    have HK1h := hid HK1
    have HBh := hid HB
    have RVh := hid RV1
    have hLh := hid hL
    have hKh := hid hK
    have hPh := hid hP
    have hnh := hid hn
    have HBW := hid hb1
    have hbsh := hid hbs
    have hW1h := hid hW1
    have hbaseh := hid hbase
    have q0 := fun u : Later W1 => u.blk HB
    have cc : ∀ (c oo : Nat) (v : Value), W1.cell? ⟨c, oo, none⟩ = some v → ∀ u : Later W1, u.val.cell? ⟨c, oo, none⟩ = some v := fun c oo v hv u => (u.cell c oo (cell_lt hv)).trans hv
    have a1 := cc _ _ _ z1
    have a2 := cc _ _ _ z2
    have hm1 : (m : Int) + 1 ≤ 100001 := by omega
    have hlt : (m : Int) < ((m + 1 : Nat) : Int) := by omega
    clear cc z1 z2 R RV1 RV HK HK1 HB hb1 hmem hlast hsam hL hK hP hn hbs
    rcases ways with ⟨g, e⟩ | ⟨g, rfl, e⟩ | ⟨g, hm, r, hr, e⟩
    · rw [e]
      clear e
      rw [Bool.and_eq_true] at g
      obtain ⟨g1, g2⟩ := g
      go_enter Try.func44, Try.ntmps44
      go_wp2_with fail
      refine wp_region_late 23 (by kernel_rfl) (by kernel_rfl) ?_
      simp only [List.take_succ_cons, List.take_zero, List.drop_succ_cons, List.drop_zero]
      iterate 23 (go_big_quiet_step (fail))
      refine wpQuiet_nil ?_
      intro w3 h3'
      have h3 := late_out h3'
      clear h3' q0 a1 a2
      have HK3 := HK1h.out.more h3
      have hbel := (HBW.out.mono hbaseh.out).trans (h3.mono (Nat.le_trans hbaseh.out hbsh.out))
      have HK3h := hid HK3
      have hbelh := hid hbel
      clear HK3 hbel h3
      go_wp2_with fail
      go_ret
      exact ⟨_, rfl, HK3h.out, hbelh.out⟩
    · rw [e]
      clear e
      cases hx : (lastP K).x == P.x with
      | false =>
        clear g
        go_enter Try.func44, Try.ntmps44
        go_wp2_with fail
        refine wp_region_late 23 (by kernel_rfl) (by kernel_rfl) ?_
        simp only [List.take_succ_cons, List.take_zero, List.drop_succ_cons, List.drop_zero]
        iterate 23 (go_big_quiet_step (fail))
        refine wpQuiet_nil ?_
        intro w3 h3'
        have h3 := late_out h3'
        clear h3' q0 a1 a2
        have HK3 := hid (HK1h.out.more h3)
        have HB3 := hid (HBh.out.more h3)
        have RV3 := hid (RVh.out.more h3)
        have hbel := hid ((HBW.out.mono hbaseh.out).trans (h3.mono (Nat.le_trans hbaseh.out hbsh.out)))
        have hb3s := hid (Nat.le_trans (Nat.le_trans hbaseh.out hbsh.out) h3.size)
        clear h3
        obtain ⟨l3, k3, f3⟩ := HB3.out
        go_wp2_with fail
        refine wp_region_late 23 (by kernel_rfl) (by kernel_rfl) ?_
        simp only [List.take_succ_cons, List.take_zero, List.drop_succ_cons, List.drop_zero]
        iterate 23 (go_big_quiet_step (fail))
        refine wpQuiet_nil ?_
        intro w4 h4'
        have h4 := late_out h4'
        clear h4' l3 k3 f3
        have HK4 := hid (HK3.out.more h4)
        have HB4 := hid (HB3.out.more h4)
        have hbel4 := hid (hbel.out.trans (h4.mono hb3s.out))
        have hb4s := hid (Nat.le_trans hb3s.out h4.size)
        clear h4
        have HBx := HB4.out
        have HKx := HK4.out
        unfold PtsOwn at HKx
        rw [hLh.out] at HKx
        replace HKx := hid HKx
        have hnews := hid (four_new w4 #[.int .i64 P.id, .int .u32 P.x, .int .u32 P.y, .string P.d] 25)
        have hbs9 := hb4s.out
        obtain ⟨l9, k9, f9⟩ := HBx
        go_wp2_with (at_builtin; refine wpList_append_own _ rfl _ _ 22 rfl base 25 i0 (.agg #[.int .i64 0, .int .u32 0, .int .u32 0, .string ByteArray.empty]) 4 32 Try.underlying22 hi hz0 hz1 hz2 rfl (by decide) (.slice (some ⟨b, o, none⟩) (0 + 1) cap) (0 + 1) (flatP K) (by kernel_rfl) (HKx.out.alloc _) ⟨w4.heap.size, 0, none⟩ 1 1 [.int .i64 P.id, .int .u32 P.x, .int .u32 P.y, .string P.d] (by kernel_rfl) rfl hnews.out (pt_one P) (by unfold maxLen; omega) (by omega) (by first | omega | (simp; omega)) ?_)
        intro v9 w9 hown hgrow hne
        have hO9 : PtsOwn w9 base v9 (K ++ [P]) := by unfold PtsOwn; rw [flatP_append, flatP_one, List.length_append, hLh.out]; exact hown
        have hbel9 : Below base w w9 := (hbel4.out.alloc (by first | omega | (simp; omega)) _).grown hgrow (by simp; omega) (fun k hk => (HKx.out.lt k hk).1)
        replace hO9 := hid hO9
        replace hbel9 := hid hbel9
        clear hown hgrow hne HKx hlt hm1 h1 h2 l9 k9 f9 hnews hi hz0 hz1 hz2
        go_wp2_with fail
        go_ret
        exact ⟨_, rfl, by simpa using hO9.out, hbel9.out⟩
      | true =>
        have hy : ((lastP K).y == P.y) = false := by rw [hx] at g; simpa using g
        clear g
        go_enter Try.func44, Try.ntmps44
        go_wp2_with fail
        refine wp_region_late 23 (by kernel_rfl) (by kernel_rfl) ?_
        simp only [List.take_succ_cons, List.take_zero, List.drop_succ_cons, List.drop_zero]
        iterate 23 (go_big_quiet_step (fail))
        refine wpQuiet_nil ?_
        intro w3 h3'
        have h3 := late_out h3'
        clear h3' q0 a1 a2
        have HK3 := hid (HK1h.out.more h3)
        have HB3 := hid (HBh.out.more h3)
        have RV3 := hid (RVh.out.more h3)
        have hbel := hid ((HBW.out.mono hbaseh.out).trans (h3.mono (Nat.le_trans hbaseh.out hbsh.out)))
        have hb3s := hid (Nat.le_trans (Nat.le_trans hbaseh.out hbsh.out) h3.size)
        clear h3
        obtain ⟨l3, k3, f3⟩ := HB3.out
        go_wp2_with fail
        refine wp_region_late 23 (by kernel_rfl) (by kernel_rfl) ?_
        simp only [List.take_succ_cons, List.take_zero, List.drop_succ_cons, List.drop_zero]
        iterate 23 (go_big_quiet_step (fail))
        refine wpQuiet_nil ?_
        intro w4 h4'
        have h4 := late_out h4'
        clear h4' l3 k3 f3
        have HK4 := hid (HK3.out.more h4)
        have HB4 := hid (HB3.out.more h4)
        have hbel4 := hid (hbel.out.trans (h4.mono hb3s.out))
        have hb4s := hid (Nat.le_trans hb3s.out h4.size)
        clear h4
        have HBx := HB4.out
        have HKx := HK4.out
        unfold PtsOwn at HKx
        rw [hLh.out] at HKx
        replace HKx := hid HKx
        have hnews := hid (four_new w4 #[.int .i64 P.id, .int .u32 P.x, .int .u32 P.y, .string P.d] 25)
        have hbs9 := hb4s.out
        obtain ⟨l9, k9, f9⟩ := HBx
        go_wp2_with (at_builtin; refine wpList_append_own _ rfl _ _ 22 rfl base 25 i0 (.agg #[.int .i64 0, .int .u32 0, .int .u32 0, .string ByteArray.empty]) 4 32 Try.underlying22 hi hz0 hz1 hz2 rfl (by decide) (.slice (some ⟨b, o, none⟩) (0 + 1) cap) (0 + 1) (flatP K) (by kernel_rfl) (HKx.out.alloc _) ⟨w4.heap.size, 0, none⟩ 1 1 [.int .i64 P.id, .int .u32 P.x, .int .u32 P.y, .string P.d] (by kernel_rfl) rfl hnews.out (pt_one P) (by unfold maxLen; omega) (by omega) (by first | omega | (simp; omega)) ?_)
        intro v9 w9 hown hgrow hne
        have hO9 : PtsOwn w9 base v9 (K ++ [P]) := by unfold PtsOwn; rw [flatP_append, flatP_one, List.length_append, hLh.out]; exact hown
        have hbel9 : Below base w w9 := (hbel4.out.alloc (by first | omega | (simp; omega)) _).grown hgrow (by simp; omega) (fun k hk => (HKx.out.lt k hk).1)
        replace hO9 := hid hO9
        replace hbel9 := hid hbel9
        clear hown hgrow hne HKx hlt hm1 h1 h2 l9 k9 f9 hnews hi hz0 hz1 hz2
        go_wp2_with fail
        go_ret
        exact ⟨_, rfl, by simpa using hO9.out, hbel9.out⟩
    · rw [e]
      clear e
      obtain ⟨k, rfl⟩ : ∃ k, m = k + 1 := ⟨m - 1, by omega⟩
      clear hm
      have hp0 : (0 : Int) < (k : Int) + 1 + 1 := by omega
      have hp1 : (1 : Int) < (k : Int) + 1 + 1 := by omega
      cases hx : (lastP K).x == P.x with
      | false =>
        clear g
        go_enter Try.func44, Try.ntmps44
        go_wp2_with fail
        refine wp_region_late 23 (by kernel_rfl) (by kernel_rfl) ?_
        simp only [List.take_succ_cons, List.take_zero, List.drop_succ_cons, List.drop_zero]
        iterate 23 (go_big_quiet_step (fail))
        refine wpQuiet_nil ?_
        intro w3 h3'
        have h3 := late_out h3'
        clear h3' q0 a1 a2
        have HK3 := hid (HK1h.out.more h3)
        have HB3 := hid (HBh.out.more h3)
        have RV3 := hid (RVh.out.more h3)
        have hbel := hid ((HBW.out.mono hbaseh.out).trans (h3.mono (Nat.le_trans hbaseh.out hbsh.out)))
        have hb3s := hid (Nat.le_trans (Nat.le_trans hbaseh.out hbsh.out) h3.size)
        clear h3
        obtain ⟨l3, k3, f3⟩ := HB3.out
        go_wp2_with fail
        obtain ⟨b', o', e', R3⟩ := RV3.out.row (by omega)
        cases e'
        have l0 : ptAt K (k + 1) = lastP K := by unfold lastP; rw [hLh.out]; rfl
        have l1 : ptAt K k = lastP2 K := by unfold lastP2; rw [hLh.out]; rfl
        have d0 := R3.at0 (i := k) (by omega) (v := .int .i64 (lastP2 K).id) (by show (pcells (ptAt K k))[0]? = _; rw [l1]; rfl)
        have d1 := R3.at1 (i := k) (by omega) (v := .int .u32 (lastP2 K).x) (by show (pcells (ptAt K k))[1]? = _; rw [l1]; rfl)
        have d2 := R3.at2 (i := k) (by omega) (v := .int .u32 (lastP2 K).y) (by show (pcells (ptAt K k))[2]? = _; rw [l1]; rfl)
        have d3 := R3.at3 (i := k) (by omega) (v := .string (lastP2 K).d) (by show (pcells (ptAt K k))[3]? = _; rw [l1]; rfl)
        have e1 := R3.at1 (i := k + 1) (by omega) (v := .int .u32 (lastP K).x) (by show (pcells (ptAt K (k + 1)))[1]? = _; rw [l0]; rfl)
        have e2 := R3.at2 (i := k + 1) (by omega) (v := .int .u32 (lastP K).y) (by show (pcells (ptAt K (k + 1)))[2]? = _; rw [l0]; rfl)
        have hk3 : w3.cell? ⟨w.heap.size, 0, none⟩ = some (.int .i64 P.id) ∧ w3.cell? ⟨w.heap.size, 1, none⟩ = some (.int .u32 P.x) ∧ w3.cell? ⟨w.heap.size, 2, none⟩ = some (.int .u32 P.y) ∧ w3.cell? ⟨w.heap.size, 3, none⟩ = some (.string P.d) ∧ w3.cell? ⟨b, o + k * 4, none⟩ = some (.int .i64 (lastP2 K).id) ∧ w3.cell? ⟨b, o + k * 4 + 1, none⟩ = some (.int .u32 (lastP2 K).x) ∧ w3.cell? ⟨b, o + k * 4 + 2, none⟩ = some (.int .u32 (lastP2 K).y) ∧ w3.cell? ⟨b, o + k * 4 + 3, none⟩ = some (.string (lastP2 K).d) ∧ w3.cell? ⟨b, o + (k + 1) * 4 + 1, none⟩ = some (.int .u32 (lastP K).x) ∧ w3.cell? ⟨b, o + (k + 1) * 4 + 2, none⟩ = some (.int .u32 (lastP K).y) := ⟨k3 0, k3 1, k3 2, k3 3, d0, d1, d2, d3, e1, e2⟩
        have hm2 : lastP2 K ∈ K := ptAt_mem K _ (by rw [hLh.out]; omega)
        have KO0 := polyOn_any (some ⟨w3.heap.size, 0, none⟩) 2 2 (fun i => if i = 0 then lastP2 K else P) (fun i => by split; exact hKh.out _ hm2; exact hPh.out) (Nat.le_refl _) (by decide) (p2 (lastP K)) (p2_ok hL0.out) _ ((row_two w3 (lastP2 K) P).more ((Below.refl _ _).drew))
        rw [onAny_two, hr] at KO0
        have KO : Hid (Calls Try.prog 13 #[.slice (some ⟨w3.heap.size, 0, none⟩) 2 2, .int .u32 (lastP K).x, .int .u32 (lastP K).y] ((w3.alloc (.cells #[.int .i64 (lastP2 K).id, .int .u32 (lastP2 K).x, .int .u32 (lastP2 K).y, .string (lastP2 K).d, .int .i64 P.id, .int .u32 P.x, .int .u32 P.y, .string P.d] 25)).drew) fun e w' => e = .returned (.bool r) ∧ Below ((w3.alloc (.cells #[.int .i64 (lastP2 K).id, .int .u32 (lastP2 K).x, .int .u32 (lastP2 K).y, .string (lastP2 K).d, .int .i64 P.id, .int .u32 P.x, .int .u32 P.y, .string P.d] 25)).drew).heap.size ((w3.alloc (.cells #[.int .i64 (lastP2 K).id, .int .u32 (lastP2 K).x, .int .u32 (lastP2 K).y, .string (lastP2 K).d, .int .i64 P.id, .int .u32 P.x, .int .u32 P.y, .string P.d] 25)).drew) w') := hid KO0
        have hbA := hid (((Below.refl w3.heap.size w3).alloc (Nat.le_refl _) (.cells #[.int .i64 (lastP2 K).id, .int .u32 (lastP2 K).x, .int .u32 (lastP2 K).y, .string (lastP2 K).d, .int .i64 P.id, .int .u32 P.x, .int .u32 P.y, .string P.d] 25)).drew)
        replace hr := hid hr
        have hk2 : (k : Int) + 2 ≤ 100001 := by omega
        have hltk : (k : Int) < ((k + 1 + 1 : Nat) : Int) := by omega
        have hk3' := hid hk3
        clear KO0 d0 d1 d2 d3 e1 e2 R3 l0 l1 hm2 l3 k3 f3 hk3
        have hk3 := hk3'.out
        have hq0 : (0 : Int) ≤ (k : Int) := by omega
        have hq1 : (0 : Int) ≤ (k : Int) + 1 := by omega
        have hq2 : (k : Int) < (k : Int) + 1 + 1 := by omega
        have hq3 : (k : Int) + 1 < (k : Int) + 1 + 1 := by omega
        have hq4 : (k : Int) + 1 < ((k + 1 + 1 : Nat) : Int) := by omega
        have hq5 : (k : Int) + 1 + 1 - 2 = (k : Int) := by omega
        have hq6 : ((k : Int) + 1).toNat = k + 1 := by omega
        have hw0 : IntKind.i64.wrap (k : Int) = (k : Int) := IntWalk.i64_in _ ⟨by omega, by omega⟩
        have hw1 : IntKind.i64.wrap ((k : Int) + 1) = (k : Int) + 1 := IntWalk.i64_in _ ⟨by omega, by omega⟩
        have hw2 : IntKind.i64.wrap ((k : Int) + 1 + 1 - 2) = (k : Int) := by rw [hq5]; exact hw0
        have hw3 : IntKind.i64.wrap ((k : Int) + 1 + 1 - 1) = (k : Int) + 1 := by rw [show (k : Int) + 1 + 1 - 1 = (k : Int) + 1 by omega]; exact hw1
        go_region_held3 (fun w' => w'.cell? ⟨w.heap.size, 0, none⟩ = some (.int .i64 P.id) ∧ w'.cell? ⟨w.heap.size, 1, none⟩ = some (.int .u32 P.x) ∧ w'.cell? ⟨w.heap.size, 2, none⟩ = some (.int .u32 P.y) ∧ w'.cell? ⟨w.heap.size, 3, none⟩ = some (.string P.d) ∧ w'.cell? ⟨b, o + k * 4, none⟩ = some (.int .i64 (lastP2 K).id) ∧ w'.cell? ⟨b, o + k * 4 + 1, none⟩ = some (.int .u32 (lastP2 K).x) ∧ w'.cell? ⟨b, o + k * 4 + 2, none⟩ = some (.int .u32 (lastP2 K).y) ∧ w'.cell? ⟨b, o + k * 4 + 3, none⟩ = some (.string (lastP2 K).d) ∧ w'.cell? ⟨b, o + (k + 1) * 4 + 1, none⟩ = some (.int .u32 (lastP K).x) ∧ w'.cell? ⟨b, o + (k + 1) * 4 + 2, none⟩ = some (.int .u32 (lastP K).y))
          (first | exact hk3'.out | exact hk5.out | go_keep)
          (((with_reducible refine (KO.out).mono ?_); rintro e w5 ⟨rfl, hb5⟩; have hb35 := hid (below2 hbA.out hb5 hbA.out.size); have hk5 := hid (show w5.cell? ⟨w.heap.size, 0, none⟩ = some (.int .i64 P.id) ∧ w5.cell? ⟨w.heap.size, 1, none⟩ = some (.int .u32 P.x) ∧ w5.cell? ⟨w.heap.size, 2, none⟩ = some (.int .u32 P.y) ∧ w5.cell? ⟨w.heap.size, 3, none⟩ = some (.string P.d) ∧ w5.cell? ⟨b, o + k * 4, none⟩ = some (.int .i64 (lastP2 K).id) ∧ w5.cell? ⟨b, o + k * 4 + 1, none⟩ = some (.int .u32 (lastP2 K).x) ∧ w5.cell? ⟨b, o + k * 4 + 2, none⟩ = some (.int .u32 (lastP2 K).y) ∧ w5.cell? ⟨b, o + k * 4 + 3, none⟩ = some (.string (lastP2 K).d) ∧ w5.cell? ⟨b, o + (k + 1) * 4 + 1, none⟩ = some (.int .u32 (lastP K).x) ∧ w5.cell? ⟨b, o + (k + 1) * 4 + 2, none⟩ = some (.int .u32 (lastP K).y) from by
              have t := hk3'.out
              have up : ∀ (c oo : Nat) (v : Value), w3.cell? ⟨c, oo, none⟩ = some v → w5.cell? ⟨c, oo, none⟩ = some v := fun c oo v h => (hb35.out.cell (p := ⟨c, oo, none⟩) (cell_lt h)).trans h
              exact ⟨up _ _ _ t.1, up _ _ _ t.2.1, up _ _ _ t.2.2.1, up _ _ _ t.2.2.2.1, up _ _ _ t.2.2.2.2.1, up _ _ _ t.2.2.2.2.2.1, up _ _ _ t.2.2.2.2.2.2.1, up _ _ _ t.2.2.2.2.2.2.2.1, up _ _ _ t.2.2.2.2.2.2.2.2.1, up _ _ _ t.2.2.2.2.2.2.2.2.2⟩)))
        have HK5 := hid (HK3.out.more hb35.out)
        have HB5 := hid (HB3.out.more hb35.out)
        have hbel5 := hid (hbel.out.trans (hb35.out.mono hb3s.out))
        have hb5s := hid (Nat.le_trans hb3s.out hb35.out.size)
        clear hb5 hk3 KO hbA hr hk5 hk3'
        cases r with
        | false =>
          have HBx := HB5.out
          have HKx := HK5.out
          unfold PtsOwn at HKx
          rw [hLh.out] at HKx
          replace HKx := hid HKx
          have hnews := hid (four_new w5 #[.int .i64 P.id, .int .u32 P.x, .int .u32 P.y, .string P.d] 25)
          have hbs9 := hb5s.out
          have hcp : (k : Int) + 1 + 1 ≤ (cap : Int) := by omega
          have hcp1 : (k : Int) + 1 ≤ (cap : Int) := by omega
          obtain ⟨l9, k9, f9⟩ := HBx
          go_wp2_with (at_builtin; refine wpList_append_own _ rfl _ _ 22 rfl base 25 i0 (.agg #[.int .i64 0, .int .u32 0, .int .u32 0, .string ByteArray.empty]) 4 32 Try.underlying22 hi hz0 hz1 hz2 rfl (by decide) (.slice (some ⟨b, o, none⟩) (k + 1 + 1) cap) (k + 1 + 1) (flatP K) (by kernel_rfl) (HKx.out.alloc _) ⟨w5.heap.size, 0, none⟩ 1 1 [.int .i64 P.id, .int .u32 P.x, .int .u32 P.y, .string P.d] (by kernel_rfl) rfl hnews.out (pt_one P) (by unfold maxLen; omega) (by omega) (by first | omega | (simp; omega)) ?_)
          intro v9 w9 hown hgrow hne
          have hO9 : PtsOwn w9 base v9 (K ++ [P]) := by unfold PtsOwn; rw [flatP_append, flatP_one, List.length_append, hLh.out]; exact hown
          have hbel9 : Below base w w9 := (hbel5.out.alloc (by first | omega | (simp; omega)) _).grown hgrow (by simp; omega) (fun k hk => (HKx.out.lt k hk).1)
          replace hO9 := hid hO9
          replace hbel9 := hid hbel9
          clear hown hgrow hne HKx hlt hm1 h1 h2 l9 k9 f9 hnews hi hz0 hz1 hz2 hq0 hq1 hq2 hq3 hq4 hq5 hq6 hw0 hw1 hw2 hw3 hp0 hp1 hltk hk2 hcp hcp1
          go_wp2_with fail
          go_ret
          exact ⟨_, rfl, by simpa using hO9.out, hbel9.out⟩
        | true =>
          have hdl : K.dropLast.length = k + 1 := by rw [List.length_dropLast, hLh.out]; rfl
          replace hdl := hid hdl
          have HD5 := hid (own_drop hLh.out HK5.out)
          have HBx := HB5.out
          have HKx := HD5.out
          unfold PtsOwn at HKx
          rw [hdl.out] at HKx
          replace HKx := hid HKx
          have hnews := hid (four_new w5 #[.int .i64 P.id, .int .u32 P.x, .int .u32 P.y, .string P.d] 25)
          have hbs9 := hb5s.out
          have hcp : (k : Int) + 1 + 1 ≤ (cap : Int) := by omega
          have hcp1 : (k : Int) + 1 ≤ (cap : Int) := by omega
          obtain ⟨l9, k9, f9⟩ := HBx
          go_wp2_with (at_builtin; refine wpList_append_own _ rfl _ _ 22 rfl base 25 i0 (.agg #[.int .i64 0, .int .u32 0, .int .u32 0, .string ByteArray.empty]) 4 32 Try.underlying22 hi hz0 hz1 hz2 rfl (by decide) (.slice (some ⟨b, o, none⟩) (k + 1) cap) (k + 1) (flatP K.dropLast) (by kernel_rfl) (HKx.out.alloc _) ⟨w5.heap.size, 0, none⟩ 1 1 [.int .i64 P.id, .int .u32 P.x, .int .u32 P.y, .string P.d] (by kernel_rfl) rfl hnews.out (pt_one P) (by unfold maxLen; omega) (by omega) (by first | omega | (simp; omega)) ?_)
          intro v9 w9 hown hgrow hne
          have hO9 : PtsOwn w9 base v9 (K.dropLast ++ [P]) := by unfold PtsOwn; rw [flatP_append, flatP_one, List.length_append, hdl.out]; exact hown
          have hbel9 : Below base w w9 := (hbel5.out.alloc (by first | omega | (simp; omega)) _).grown hgrow (by simp; omega) (fun k hk => (HKx.out.lt k hk).1)
          replace hO9 := hid hO9
          replace hbel9 := hid hbel9
          clear hown hgrow hne HKx hlt hm1 h1 h2 l9 k9 f9 hnews hi hz0 hz1 hz2 hq0 hq1 hq2 hq3 hq4 hq5 hq6 hw0 hw1 hw2 hw3 hp0 hp1 hltk hk2 hcp hcp1
          go_wp2_with fail
          go_ret
          exact ⟨_, rfl, by simpa using hO9.out, hbel9.out⟩
      | true =>
        have hy : ((lastP K).y == P.y) = false := by rw [hx] at g; simpa using g
        clear g
        go_enter Try.func44, Try.ntmps44
        go_wp2_with fail
        refine wp_region_late 23 (by kernel_rfl) (by kernel_rfl) ?_
        simp only [List.take_succ_cons, List.take_zero, List.drop_succ_cons, List.drop_zero]
        iterate 23 (go_big_quiet_step (fail))
        refine wpQuiet_nil ?_
        intro w3 h3'
        have h3 := late_out h3'
        clear h3' q0 a1 a2
        have HK3 := hid (HK1h.out.more h3)
        have HB3 := hid (HBh.out.more h3)
        have RV3 := hid (RVh.out.more h3)
        have hbel := hid ((HBW.out.mono hbaseh.out).trans (h3.mono (Nat.le_trans hbaseh.out hbsh.out)))
        have hb3s := hid (Nat.le_trans (Nat.le_trans hbaseh.out hbsh.out) h3.size)
        clear h3
        obtain ⟨l3, k3, f3⟩ := HB3.out
        go_wp2_with fail
        obtain ⟨b', o', e', R3⟩ := RV3.out.row (by omega)
        cases e'
        have l0 : ptAt K (k + 1) = lastP K := by unfold lastP; rw [hLh.out]; rfl
        have l1 : ptAt K k = lastP2 K := by unfold lastP2; rw [hLh.out]; rfl
        have d0 := R3.at0 (i := k) (by omega) (v := .int .i64 (lastP2 K).id) (by show (pcells (ptAt K k))[0]? = _; rw [l1]; rfl)
        have d1 := R3.at1 (i := k) (by omega) (v := .int .u32 (lastP2 K).x) (by show (pcells (ptAt K k))[1]? = _; rw [l1]; rfl)
        have d2 := R3.at2 (i := k) (by omega) (v := .int .u32 (lastP2 K).y) (by show (pcells (ptAt K k))[2]? = _; rw [l1]; rfl)
        have d3 := R3.at3 (i := k) (by omega) (v := .string (lastP2 K).d) (by show (pcells (ptAt K k))[3]? = _; rw [l1]; rfl)
        have e1 := R3.at1 (i := k + 1) (by omega) (v := .int .u32 (lastP K).x) (by show (pcells (ptAt K (k + 1)))[1]? = _; rw [l0]; rfl)
        have e2 := R3.at2 (i := k + 1) (by omega) (v := .int .u32 (lastP K).y) (by show (pcells (ptAt K (k + 1)))[2]? = _; rw [l0]; rfl)
        have hk3 : w3.cell? ⟨w.heap.size, 0, none⟩ = some (.int .i64 P.id) ∧ w3.cell? ⟨w.heap.size, 1, none⟩ = some (.int .u32 P.x) ∧ w3.cell? ⟨w.heap.size, 2, none⟩ = some (.int .u32 P.y) ∧ w3.cell? ⟨w.heap.size, 3, none⟩ = some (.string P.d) ∧ w3.cell? ⟨b, o + k * 4, none⟩ = some (.int .i64 (lastP2 K).id) ∧ w3.cell? ⟨b, o + k * 4 + 1, none⟩ = some (.int .u32 (lastP2 K).x) ∧ w3.cell? ⟨b, o + k * 4 + 2, none⟩ = some (.int .u32 (lastP2 K).y) ∧ w3.cell? ⟨b, o + k * 4 + 3, none⟩ = some (.string (lastP2 K).d) ∧ w3.cell? ⟨b, o + (k + 1) * 4 + 1, none⟩ = some (.int .u32 (lastP K).x) ∧ w3.cell? ⟨b, o + (k + 1) * 4 + 2, none⟩ = some (.int .u32 (lastP K).y) := ⟨k3 0, k3 1, k3 2, k3 3, d0, d1, d2, d3, e1, e2⟩
        have hm2 : lastP2 K ∈ K := ptAt_mem K _ (by rw [hLh.out]; omega)
        have KO0 := polyOn_any (some ⟨w3.heap.size, 0, none⟩) 2 2 (fun i => if i = 0 then lastP2 K else P) (fun i => by split; exact hKh.out _ hm2; exact hPh.out) (Nat.le_refl _) (by decide) (p2 (lastP K)) (p2_ok hL0.out) _ ((row_two w3 (lastP2 K) P).more ((Below.refl _ _).drew))
        rw [onAny_two, hr] at KO0
        have KO : Hid (Calls Try.prog 13 #[.slice (some ⟨w3.heap.size, 0, none⟩) 2 2, .int .u32 (lastP K).x, .int .u32 (lastP K).y] ((w3.alloc (.cells #[.int .i64 (lastP2 K).id, .int .u32 (lastP2 K).x, .int .u32 (lastP2 K).y, .string (lastP2 K).d, .int .i64 P.id, .int .u32 P.x, .int .u32 P.y, .string P.d] 25)).drew) fun e w' => e = .returned (.bool r) ∧ Below ((w3.alloc (.cells #[.int .i64 (lastP2 K).id, .int .u32 (lastP2 K).x, .int .u32 (lastP2 K).y, .string (lastP2 K).d, .int .i64 P.id, .int .u32 P.x, .int .u32 P.y, .string P.d] 25)).drew).heap.size ((w3.alloc (.cells #[.int .i64 (lastP2 K).id, .int .u32 (lastP2 K).x, .int .u32 (lastP2 K).y, .string (lastP2 K).d, .int .i64 P.id, .int .u32 P.x, .int .u32 P.y, .string P.d] 25)).drew) w') := hid KO0
        have hbA := hid (((Below.refl w3.heap.size w3).alloc (Nat.le_refl _) (.cells #[.int .i64 (lastP2 K).id, .int .u32 (lastP2 K).x, .int .u32 (lastP2 K).y, .string (lastP2 K).d, .int .i64 P.id, .int .u32 P.x, .int .u32 P.y, .string P.d] 25)).drew)
        replace hr := hid hr
        have hk2 : (k : Int) + 2 ≤ 100001 := by omega
        have hltk : (k : Int) < ((k + 1 + 1 : Nat) : Int) := by omega
        have hk3' := hid hk3
        clear KO0 d0 d1 d2 d3 e1 e2 R3 l0 l1 hm2 l3 k3 f3 hk3
        have hk3 := hk3'.out
        have hq0 : (0 : Int) ≤ (k : Int) := by omega
        have hq1 : (0 : Int) ≤ (k : Int) + 1 := by omega
        have hq2 : (k : Int) < (k : Int) + 1 + 1 := by omega
        have hq3 : (k : Int) + 1 < (k : Int) + 1 + 1 := by omega
        have hq4 : (k : Int) + 1 < ((k + 1 + 1 : Nat) : Int) := by omega
        have hq5 : (k : Int) + 1 + 1 - 2 = (k : Int) := by omega
        have hq6 : ((k : Int) + 1).toNat = k + 1 := by omega
        have hw0 : IntKind.i64.wrap (k : Int) = (k : Int) := IntWalk.i64_in _ ⟨by omega, by omega⟩
        have hw1 : IntKind.i64.wrap ((k : Int) + 1) = (k : Int) + 1 := IntWalk.i64_in _ ⟨by omega, by omega⟩
        have hw2 : IntKind.i64.wrap ((k : Int) + 1 + 1 - 2) = (k : Int) := by rw [hq5]; exact hw0
        have hw3 : IntKind.i64.wrap ((k : Int) + 1 + 1 - 1) = (k : Int) + 1 := by rw [show (k : Int) + 1 + 1 - 1 = (k : Int) + 1 by omega]; exact hw1
        go_region_held3 (fun w' => w'.cell? ⟨w.heap.size, 0, none⟩ = some (.int .i64 P.id) ∧ w'.cell? ⟨w.heap.size, 1, none⟩ = some (.int .u32 P.x) ∧ w'.cell? ⟨w.heap.size, 2, none⟩ = some (.int .u32 P.y) ∧ w'.cell? ⟨w.heap.size, 3, none⟩ = some (.string P.d) ∧ w'.cell? ⟨b, o + k * 4, none⟩ = some (.int .i64 (lastP2 K).id) ∧ w'.cell? ⟨b, o + k * 4 + 1, none⟩ = some (.int .u32 (lastP2 K).x) ∧ w'.cell? ⟨b, o + k * 4 + 2, none⟩ = some (.int .u32 (lastP2 K).y) ∧ w'.cell? ⟨b, o + k * 4 + 3, none⟩ = some (.string (lastP2 K).d) ∧ w'.cell? ⟨b, o + (k + 1) * 4 + 1, none⟩ = some (.int .u32 (lastP K).x) ∧ w'.cell? ⟨b, o + (k + 1) * 4 + 2, none⟩ = some (.int .u32 (lastP K).y))
          (first | exact hk3'.out | exact hk5.out | go_keep)
          (((with_reducible refine (KO.out).mono ?_); rintro e w5 ⟨rfl, hb5⟩; have hb35 := hid (below2 hbA.out hb5 hbA.out.size); have hk5 := hid (show w5.cell? ⟨w.heap.size, 0, none⟩ = some (.int .i64 P.id) ∧ w5.cell? ⟨w.heap.size, 1, none⟩ = some (.int .u32 P.x) ∧ w5.cell? ⟨w.heap.size, 2, none⟩ = some (.int .u32 P.y) ∧ w5.cell? ⟨w.heap.size, 3, none⟩ = some (.string P.d) ∧ w5.cell? ⟨b, o + k * 4, none⟩ = some (.int .i64 (lastP2 K).id) ∧ w5.cell? ⟨b, o + k * 4 + 1, none⟩ = some (.int .u32 (lastP2 K).x) ∧ w5.cell? ⟨b, o + k * 4 + 2, none⟩ = some (.int .u32 (lastP2 K).y) ∧ w5.cell? ⟨b, o + k * 4 + 3, none⟩ = some (.string (lastP2 K).d) ∧ w5.cell? ⟨b, o + (k + 1) * 4 + 1, none⟩ = some (.int .u32 (lastP K).x) ∧ w5.cell? ⟨b, o + (k + 1) * 4 + 2, none⟩ = some (.int .u32 (lastP K).y) from by
              have t := hk3'.out
              have up : ∀ (c oo : Nat) (v : Value), w3.cell? ⟨c, oo, none⟩ = some v → w5.cell? ⟨c, oo, none⟩ = some v := fun c oo v h => (hb35.out.cell (p := ⟨c, oo, none⟩) (cell_lt h)).trans h
              exact ⟨up _ _ _ t.1, up _ _ _ t.2.1, up _ _ _ t.2.2.1, up _ _ _ t.2.2.2.1, up _ _ _ t.2.2.2.2.1, up _ _ _ t.2.2.2.2.2.1, up _ _ _ t.2.2.2.2.2.2.1, up _ _ _ t.2.2.2.2.2.2.2.1, up _ _ _ t.2.2.2.2.2.2.2.2.1, up _ _ _ t.2.2.2.2.2.2.2.2.2⟩)))
        have HK5 := hid (HK3.out.more hb35.out)
        have HB5 := hid (HB3.out.more hb35.out)
        have hbel5 := hid (hbel.out.trans (hb35.out.mono hb3s.out))
        have hb5s := hid (Nat.le_trans hb3s.out hb35.out.size)
        clear hb5 hk3 KO hbA hr hk5 hk3'
        cases r with
        | false =>
          have HBx := HB5.out
          have HKx := HK5.out
          unfold PtsOwn at HKx
          rw [hLh.out] at HKx
          replace HKx := hid HKx
          have hnews := hid (four_new w5 #[.int .i64 P.id, .int .u32 P.x, .int .u32 P.y, .string P.d] 25)
          have hbs9 := hb5s.out
          have hcp : (k : Int) + 1 + 1 ≤ (cap : Int) := by omega
          have hcp1 : (k : Int) + 1 ≤ (cap : Int) := by omega
          obtain ⟨l9, k9, f9⟩ := HBx
          go_wp2_with (at_builtin; refine wpList_append_own _ rfl _ _ 22 rfl base 25 i0 (.agg #[.int .i64 0, .int .u32 0, .int .u32 0, .string ByteArray.empty]) 4 32 Try.underlying22 hi hz0 hz1 hz2 rfl (by decide) (.slice (some ⟨b, o, none⟩) (k + 1 + 1) cap) (k + 1 + 1) (flatP K) (by kernel_rfl) (HKx.out.alloc _) ⟨w5.heap.size, 0, none⟩ 1 1 [.int .i64 P.id, .int .u32 P.x, .int .u32 P.y, .string P.d] (by kernel_rfl) rfl hnews.out (pt_one P) (by unfold maxLen; omega) (by omega) (by first | omega | (simp; omega)) ?_)
          intro v9 w9 hown hgrow hne
          have hO9 : PtsOwn w9 base v9 (K ++ [P]) := by unfold PtsOwn; rw [flatP_append, flatP_one, List.length_append, hLh.out]; exact hown
          have hbel9 : Below base w w9 := (hbel5.out.alloc (by first | omega | (simp; omega)) _).grown hgrow (by simp; omega) (fun k hk => (HKx.out.lt k hk).1)
          replace hO9 := hid hO9
          replace hbel9 := hid hbel9
          clear hown hgrow hne HKx hlt hm1 h1 h2 l9 k9 f9 hnews hi hz0 hz1 hz2 hq0 hq1 hq2 hq3 hq4 hq5 hq6 hw0 hw1 hw2 hw3 hp0 hp1 hltk hk2 hcp hcp1
          go_wp2_with fail
          go_ret
          exact ⟨_, rfl, by simpa using hO9.out, hbel9.out⟩
        | true =>
          have hdl : K.dropLast.length = k + 1 := by rw [List.length_dropLast, hLh.out]; rfl
          replace hdl := hid hdl
          have HD5 := hid (own_drop hLh.out HK5.out)
          have HBx := HB5.out
          have HKx := HD5.out
          unfold PtsOwn at HKx
          rw [hdl.out] at HKx
          replace HKx := hid HKx
          have hnews := hid (four_new w5 #[.int .i64 P.id, .int .u32 P.x, .int .u32 P.y, .string P.d] 25)
          have hbs9 := hb5s.out
          have hcp : (k : Int) + 1 + 1 ≤ (cap : Int) := by omega
          have hcp1 : (k : Int) + 1 ≤ (cap : Int) := by omega
          obtain ⟨l9, k9, f9⟩ := HBx
          go_wp2_with (at_builtin; refine wpList_append_own _ rfl _ _ 22 rfl base 25 i0 (.agg #[.int .i64 0, .int .u32 0, .int .u32 0, .string ByteArray.empty]) 4 32 Try.underlying22 hi hz0 hz1 hz2 rfl (by decide) (.slice (some ⟨b, o, none⟩) (k + 1) cap) (k + 1) (flatP K.dropLast) (by kernel_rfl) (HKx.out.alloc _) ⟨w5.heap.size, 0, none⟩ 1 1 [.int .i64 P.id, .int .u32 P.x, .int .u32 P.y, .string P.d] (by kernel_rfl) rfl hnews.out (pt_one P) (by unfold maxLen; omega) (by omega) (by first | omega | (simp; omega)) ?_)
          intro v9 w9 hown hgrow hne
          have hO9 : PtsOwn w9 base v9 (K.dropLast ++ [P]) := by unfold PtsOwn; rw [flatP_append, flatP_one, List.length_append, hdl.out]; exact hown
          have hbel9 : Below base w w9 := (hbel5.out.alloc (by first | omega | (simp; omega)) _).grown hgrow (by simp; omega) (fun k hk => (HKx.out.lt k hk).1)
          replace hO9 := hid hO9
          replace hbel9 := hid hbel9
          clear hown hgrow hne HKx hlt hm1 h1 h2 l9 k9 f9 hnews hi hz0 hz1 hz2 hq0 hq1 hq2 hq3 hq4 hq5 hq6 hw0 hw1 hw2 hw3 hp0 hp1 hltk hk2 hcp hcp1
          go_wp2_with fail
          go_ret
          exact ⟨_, rfl, by simpa using hO9.out, hbel9.out⟩
set_option maxRecDepth 100000 in
set_option maxHeartbeats 4000000 in
theorem keepStr_any (p : Option Addr) (n cap : Nat) (f : Nat → Pt) (hf : ∀ i, (f i).ok) (h1 : n ≤ cap) (h2 : cap ≤ maxLen) (hn : n ≤ 60) (w : World) (HA : RowP w p 4 n (fun i => pcells (f i))) :
    Calls Try.prog 42 #[.slice p n cap, .func (.func 44) #[] #[]] w fun e w' => ∃ v, e = .returned v ∧ PtsAt w' v (keepL strStep f n) ∧ Below w.heap.size w w' := by
  have KT := hid (fun K v P hP hK hn wx HK hb => str1_any w.heap.size K v P hP hK hn wx HK hb)
  have HAh := hid HA
  have hfh := hid hf
  clear HA hf
  have h1' := hid h1
  have h2' := hid h2
  clear h1 h2
  go_enter Try.func42, Try.ntmps42
  go_wp2_with fail
  go_loopw [5, 10] (fun v i wr => ∃ k : Nat, k ≤ n ∧ i = .int .i64 (k : Int) ∧ PtsOwn wr w.heap.size v (keepL strStep f k) ∧ Below w.heap.size w wr) (fun _ i _ => n - (intOf i).toNat)
  case atStart => exact ⟨0, by omega, rfl, PtsOwn.nil _ _, Below.refl _ _⟩
  case round =>
    obtain ⟨k, hk, rfl, HK, hb⟩ := hrel
    have hlen : (keepL strStep f k).length ≤ 100000 := Nat.le_trans (keep_len str_len f k) (by omega)
    have hmem : ∀ q ∈ keepL strStep f k, q.ok := fun q hq => by
      obtain ⟨j, _, e⟩ := keep_mem str_mem f k q hq
      rw [e]; exact hfh.out j
    by_cases hlt : k < n
    · obtain ⟨b, o, rfl, R0⟩ := HAh.out.row (by omega)
      have R := R0.more hb
      have z0 := R.at0 hlt (v := .int .i64 (f k).id) rfl
      have z1 := R.at1 hlt (v := .int .u32 (f k).x) rfl
      have z2 := R.at2 hlt (v := .int .u32 (f k).y) rfl
      have z3 := R.at3 hlt (v := .string (f k).d) rfl
      have hb1 : Below wr.heap.size wr (wr.alloc (.cells #[.int .i64 (f k).id, .int .u32 (f k).x, .int .u32 (f k).y, .string (f k).d] 25)) := (Below.refl _ _).alloc (Nat.le_refl _) _
      have hbs := hb.size
      have hk1 := hid (KT.out _ _ (f k) (hfh.out k) hmem hlen _ (HK.more hb1) (Nat.le_trans hbs hb1.size))
      unfold ptv at hk1
      have hbb := hid (hb.trans (hb1.mono hbs))
      have hlt' : (k : Int) < (n : Int) := by omega
      clear R R0 HK hb1 hmem hlen hb
      go_wp2_with fail
      refine hk1.out.mono ?_
      rintro e w3 ⟨v3, rfl, O3, hb3⟩
      have O4 := hid O3
      have hb4 := hid (hbb.out.trans hb3)
      clear O3 hb3 z0 z1 z2 z3 hk1 hbb
      go_wp2_with fail
      go_roundw
      case rel => exact ⟨k + 1, by omega, by go_num, O4.out, hb4.out⟩
      case measure => simp [intOf]; omega
    · obtain rfl : k = n := by omega
      obtain ⟨L, hL⟩ : ∃ L, keepL strStep f k = L := ⟨_, rfl⟩
      rw [hL] at HK
      replace hL := hid hL
      obtain ⟨q, c, rfl, c1, c2, RV⟩ := HK.open
      have KC := hid (clip_any q L.length c c1 c2 wr)
      have hbh := hid hb
      have RVh := hid RV
      have c3 := hid (And.intro c1 c2)
      clear HK hb RV c1 c2 hmem hlen
      go_wp2_with fail
      refine KC.out.mono ?_
      rintro e w3 ⟨rfl, rfl⟩
      go_wp2_with fail
      go_ret
      exact ⟨_, rfl, by rw [hL.out]; exact ⟨q, L.length, rfl, Nat.le_refl _, Nat.le_trans c3.out.1 c3.out.2, RVh.out⟩, hbh.out⟩

set_option maxRecDepth 100000 in
theorem straight_any (p : Option Addr) (n cap : Nat) (f : Nat → Pt) (hf : ∀ i, (f i).ok) (h1 : n ≤ cap) (h2 : cap ≤ maxLen) (hn : n ≤ 60) (w : World) (HA : RowP w p 4 n (fun i => pcells (f i))) :
    Calls Try.prog 28 #[.slice p n cap] w fun e w' => ∃ v, e = .returned v ∧ PtsAt w' v (keepL strStep f n) ∧ Below w.heap.size w w' := by
  have KK := hid (keepStr_any p n cap f hf h1 h2 hn w HA)
  clear HA h1 h2 hn hf
  go_enter Try.func28, Try.ntmps28
  go_wp2_with fail
  refine KK.out.mono ?_
  rintro e w3 ⟨v, rfl, O, hb⟩
  have hO := hid O
  have hbb := hid hb
  clear O hb KK
  go_wp2_with fail
  go_ret
  exact ⟨_, rfl, hO.out, hbb.out⟩
end Go.Proofs.Ytjenhnigdgkkoaa
