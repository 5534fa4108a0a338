/-
  Package node: Read, of any octets.
-/
import Derived.Test.YtgnnikjpnmalmaaNodeReadOther
import Derived.Test.YtgnnikjpnmalmaaBig
namespace Go.Proofs.Ytgnnikjpnmalmaa
open Go.RowKit
set_option linter.unusedVariables false
set_option linter.unusedSimpArgs false

theorem Blk.full {w : World} {b : Nat} {c d : Array Value} (h : Blk w b c) (hs : d.size = c.size) : Blk (setAll w b 0 d.toList) b d := by
  have := Blk.fill d.toList 0 h (by simp; omega)
  rwa [fillC_whole hs] at this
theorem row_apart8 {S : Nat → Prop} {w w' : World} {p : Option Addr} {sz n : Nat} {f : Nat → List Value} (h : RowP w p sz n f) (hs : Sole S w w') (hn : ∀ b o, p = some ⟨b, o, none⟩ → n ≠ 0 → ¬ S b) : RowP w' p sz n f := by
  by_cases h0 : n = 0
  · exact .inl h0
  · obtain ⟨b, o, e, r⟩ := h.resolve_left h0
    exact .inr ⟨b, o, e, Nat.lt_of_lt_of_le r.lt hs.size, fun i hi j v hv => (hs.cell r.lt (hn b o e h0)).trans (r.cell i hi j v hv)⟩
def NdPost (l : List UInt8) (w : World) (e : Ending) (w' : World) : Prop :=
  (∃ L v, leafR l = some L ∧ e = .returned (.tuple #[lfval true v (byteAt l 1), .int .i64 0]) ∧ PtsOwn w' w.heap.size v L ∧ Below w.heap.size w w') ∨
    (leafR l = none ∧ otherR l = true ∧ e = .returned (.tuple #[otval (kidsR l 0) (kidsR l 1) (kidsR l 2) (kidsR l 3) (cntsR l 0) (cntsR l 1) (cntsR l 2) (cntsR l 3), .int .i64 0]) ∧ Below w.heap.size w w') ∨
    (leafR l = none ∧ otherR l = false ∧ e = .returned (.tuple #[lfval false (.slice none 0 0) 0, .int .i64 16]) ∧ Below w.heap.size w w')
theorem byteAt_drop (l : List UInt8) (a i : Nat) : byteAt (l.drop a) i = byteAt l (a + i) := by
  unfold byteAt; simp [List.getD]
theorem byte_of (l : List UInt8) (i : Nat) (h : i < l.length) : numOf ((l.drop i).take 1) = byteAt l i := by
  rw [List.drop_eq_getElem_cons h, byteAt_get l i h, List.take_succ_cons, List.take_zero]
  simp [numOf]
theorem allQ_congr (k c k' c' : Nat → Int) : ∀ n, (∀ i, i < n → k i = k' i ∧ c i = c' i) → allQ k c n = allQ k' c' n
  | 0, _ => rfl
  | n + 1, h => by
    simp only [allQ]
    rw [allQ_congr k c k' c' n fun i hi => h i (by omega), (h n (by omega)).1, (h n (by omega)).2]
theorem otherB_congr (n : Nat) (nx : Int) (k c k' c' : Nat → Int) (h : ∀ i, i < 4 → k i = k' i ∧ c i = c' i) : otherB n nx k c = otherB n nx k' c' := by
  unfold otherB; rw [allQ_congr k c k' c' 4 h]
def li4 (a b c d : Int) : Nat → Int := fun i => if i = 0 then a else if i = 1 then b else if i = 2 then c else d
theorem otherR_not {l : List UInt8} (h : byteAt l 0 ≠ 0 ∨ l.length ≠ 13 ∨ otherB 0 0 (kidsR l) (cntsR l) = false) : otherR l = false := by
  unfold otherR
  rcases h with h | h | h
  · rw [decide_eq_false h]; simp
  · rw [decide_eq_false h]; rfl
  · rw [h]; simp
theorem leafR_not {l : List UInt8} (h : byteAt l 0 ≠ 1 ∨ l.length < 3) : leafR l = none :=
  leafR_bad fun L h1 h2 _ _ => by rcases h with h | h <;> omega

set_option maxRecDepth 100000 in
set_option maxHeartbeats 16000000 in
theorem nread_any (l : List UInt8) (a : Option Addr) (cap : Nat) (hl : l.length ≤ 140737488355328) (w : World) (O : Octs w a l) :
    Calls Try.prog 42 #[.slice a l.length cap] w (NdPost l w) := by
  obtain ⟨W0, hW0⟩ : ∃ W0, w.alloc (.cells (lfcells false (.slice none 0 0) 0) 61) = W0 := ⟨_, rfl⟩
  have hb0 : Below w.heap.size w W0 := by rw [← hW0]; exact (Below.refl _ _).alloc (Nat.le_refl _) _
  have BZ : Blk W0 w.heap.size (lfcells false (.slice none 0 0) 0) := by rw [← hW0]; exact Blk.new w _ _
  have KO := hid (rs_open l a cap W0 (O.more hb0) hl)
  have EB : Hid (∀ w', leafR l = none ∧ otherR l = false → Below w.heap.size w w' → NdPost l w (.returned (.tuple #[lfval false (.slice none 0 0) 0, .int .i64 16])) w') := hid (fun w' h hb => .inr (.inr ⟨h.1, h.2, rfl, hb⟩))
  have hs0 : w.heap.size < W0.heap.size := BZ.lt
  have HBZ := hid BZ
  have D0 := hid hb0
  clear BZ hb0 O
  go_enter Try.func42, Try.ntmps42
  go_wp2_with fail
  refine KO.out.mono ?_
  rintro e w1 ⟨q, rfl, hq, R1, hb1⟩
  have hqz : w.heap.size < q := by omega
  have Z1 := HBZ.out.more hb1
  have D1 := below2 D0.out hb1 D0.out.size
  have hbA : Below w1.heap.size w1 (w1.alloc (.cells (lfcells false (.slice none 0 0) 0) 61)) := (Below.refl _ _).alloc (Nat.le_refl _) _
  have BN := Blk.new w1 (lfcells false (.slice none 0 0) 0) 61
  have hqg : q < w1.heap.size := R1.1.lt
  obtain ⟨g, hg⟩ : ∃ g, w1.heap.size = g := ⟨_, rfl⟩
  rw [hg] at BN hqg
  have Z2 := hid (Z1.more hbA)
  have D2 := hid (below2 D1 hbA D1.size)
  have K1 := hid (rs_st 1 1 rfl q false l _ (R1.more hbA) (StI.begin l false))
  replace BN := hid BN
  clear KO HBZ D0 R1 hb1 Z1 D1 hbA hW0
  go_wp2_with fail
  refine K1.out.mono ?_
  rintro e w3 ⟨b1, l1, x, rfl, R3, S3, T3, hxb, hx⟩
  have Z3 := hid (Z2.out.sole S3 (fun h => by have h' : w.heap.size = q := h; omega))
  have N3 := hid (BN.out.sole S3 (fun h => by have h' : g = q := h; omega))
  have D3 := hid (D2.out.trans (S3.below (B := w.heap.size) D2.out.size fun k hk => by have h' : k = q := hk; omega))
  clear K1 Z2 BN D2 S3 hg
  have hmath : (b1 = false ∧ 1 ≤ l.length ∧ l1 = l.drop 1 ∧ x = byteAt l 0) ∨ (b1 = true ∧ l.length < 1) := by
    rcases T3 with ⟨h1, _, h2, h3⟩ | ⟨h1, h2⟩
    · refine .inl ⟨h1, h2, h3, ?_⟩
      rw [hx h1]
      exact byte_of l 0 (by omega)
    · rcases h2 with h2 | h2
      · cases h2
      · exact .inr ⟨h1, by omega⟩
  have l1l : l1.length ≤ 140737488355328 := by
    rcases T3 with ⟨_, _, _, h3⟩ | ⟨h1, _⟩
    · rw [h3, List.length_drop]; omega
    · rw [R3.2 h1]; simp
  replace hmath := hid hmath
  have RR3 := hid R3
  clear T3 hx
  by_cases h1 : x = 1
  · subst h1
    have KL := hid (readLeaf_any q l1 b1 w3 R3)
    clear R3
    go_wp2_with fail
    refine KL.out.mono ?_
    rintro e w4 ⟨v, L, nx, ok, rest, bad', rfl, R4, O4, S4, fin⟩
    have Z4 := hid (Z3.out.sole S4 (fun h => by have h' : w.heap.size = q := h; omega))
    have N4 := hid (N3.out.sole S4 (fun h => by have h' : g = q := h; omega))
    have D4 := hid (D3.out.trans (S4.below (B := w.heap.size) D3.out.size fun k hk => by have h' : k = q := hk; omega))
    have hw34 := S4.size
    have hw3g := N3.out.lt
    have hw3z := Z3.out.lt
    have hoth := hid (show otherR l = false from otherR_not (by
      rcases hmath.out with ⟨_, _, _, h⟩ | ⟨_, h⟩
      · exact .inl (by omega)
      · exact .inr (.inl (by omega))))
    clear KL S4 RR3 Z3 N3 D3
    obtain ⟨ln, kn, fn⟩ := N4.out
    obtain ⟨pv, cv, hv, c1, c2, RV⟩ := O4.open
    obtain ⟨m, hm⟩ : ∃ m, L.length = m := ⟨_, rfl⟩
    rw [hm] at hv c1 RV
    subst hv
    have SF := sole_fill (b := g) (lfcells ok (.slice pv m cv) nx).toList 0 w4
    have HZ5 := hid (Z4.out.sole SF (fun h => by have h' : w.heap.size = g := h; omega))
    have R5 := R4.kept SF (fun k hk h => by have h' : k = g := h; omega)
    have O5 := hid (O4.sole SF (fun k hk h => by have h' : k = g := h; have := (O4.lt k hk).1; omega))
    have HN5 := hid (show Blk (setAll w4 g 0 (lfcells ok (.slice pv m cv) nx).toList) g (lfcells ok (.slice pv m cv) nx) from Blk.full N4.out rfl)
    have D5 := hid (below_fill (b := g) (B := w.heap.size) (by omega) (lfcells ok (.slice pv m cv) nx).toList 0 D4.out)
    have hRV := hid (row_apart8 RV SF (fun b o e hn h => by
      have h' : b = g := h
      rcases O4.2 with ⟨he, _⟩ | ⟨g', cp', cur, he, q1, _⟩
      · cases he; cases e
      · cases he; cases e; omega))
    have KE := err_any q rest _ (setAll w4 g 0 (lfcells ok (.slice pv m cv) nx).toList) R5.1
    have KF := hid (left_any q rest _ (setAll w4 g 0 (lfcells ok (.slice pv m cv) nx).toList) R5.1)
    have hrl : bad' = true → rest = [] := R4.2
    have N4K := hid N4.out
    clear R4 O4 SF R5 Z4 D4 RV N4
    rcases fin with ⟨rfl, rfl, hf⟩ | ⟨rfl, rfl, hb1, hl2, hnx, hk⟩ | ⟨rfl, rfl, hv, hb1, hl2, hk⟩
    · have hbad := hid (show leafR l = none ∧ otherR l = false from ⟨leafR_not (by
        rcases hmath.out with ⟨h1, h2, h3, _⟩ | ⟨_, h⟩
        · rcases hf with hf | hf
          · rw [h1] at hf; cases hf
          · rw [h3, List.length_drop] at hf; exact .inr (by omega)
        · exact .inr (by omega)), hoth.out⟩)
      simp only [if_true] at KE
      replace KE := hid KE
      clear hf hrl
      go_wp2_with fail
      refine KE.out.mono ?_
      rintro e w6 ⟨rfl, hw6⟩
      rw [hw6]
      clear hw6 w6
      clear ln kn fn
      generalize (setAll w4 g 0 (lfcells true (.slice pv m cv) nx).toList) = w5 at *
      have B2 := Blk.full (d := lfcells false (.slice none 0 0) 0) HZ5.out rfl
      have hb2 := hid (below_fill (b := w.heap.size) (Nat.le_refl _) (lfcells false (.slice none 0 0) 0).toList 0 D5.out)
      obtain ⟨lz, kz, fz⟩ := HZ5.out
      go_wp2_with fail
      show bodyPost _ _ _ _ _ (setAll w5 w.heap.size 0 (lfcells false (.slice none 0 0) 0).toList)
      generalize setAll w5 w.heap.size 0 (lfcells false (.slice none 0 0) 0).toList = w9 at *
      obtain ⟨l7, k7, f7⟩ := B2
      refine bodyPost_ret (v := .tuple #[lfval false (.slice none 0 0) 0, .int .i64 16]) (by simp [results, Try.results42, go_sem, k7]) rfl ?_
      exact EB.out w9 hbad.out hb2.out
    · obtain ⟨h1', h2', h3', h4'⟩ : b1 = false ∧ 1 ≤ l.length ∧ l1 = l.drop 1 ∧ byteAt l 0 = 1 := by
        rcases hmath.out with ⟨h1, h2, h3, h4⟩ | ⟨h, _⟩
        · exact ⟨h1, h2, h3, h4.symm⟩
        · rw [hb1] at h; cases h
      have hl3 : 3 ≤ l.length := by rw [h3', List.length_drop] at hl2; omega
      have e0 : byteAt l1 0 = byteAt l 1 := by rw [h3', byteAt_drop]
      have e1 : byteAt l1 1 = byteAt l 2 := by rw [h3', byteAt_drop]
      rw [e1, h3', List.drop_drop] at hk
      rw [e0] at hnx
      subst hnx
      obtain ⟨k1, k2, k3⟩ := rdK_back _ _ _ _ hk
      have hfo : ∀ i, i < m → (ptAt L i).ok := fun i hi => (k3 i (by omega)).1
      have KC := ncheck_any true pv m cv (ptAt L) hfo (byteAt l 1) zf zf c1 c2 (setAll w4 g 0 (lfcells true (.slice pv m cv) (byteAt l 1)).toList) hRV.out
      have nBe : nodeB true m (ptAt L) (byteAt l 1) zf zf = leafB L.length (ptAt L) (byteAt l 1) zf zf := by rw [hm]; rfl
      rw [nBe] at KC
      simp only [Bool.false_eq_true, if_false] at KE
      replace KE := hid KE
      have hE : Hid (leafB L.length (ptAt L) (byteAt l 1) zf zf = true → rest = [] → leafR l = some L) := hid (fun h hr => leafR_ok hl3 h4' (by rw [hk, hr]) h)
      have hE2 : Hid (leafB L.length (ptAt L) (byteAt l 1) zf zf = false ∨ rest ≠ [] → leafR l = none) := hid (fun h => leafR_bad fun L' _ _ q3 q4 => by
        rw [hk] at q3
        simp only [Option.some.injEq, Prod.mk.injEq] at q3
        obtain ⟨rfl, q3⟩ := q3
        rcases h with h | h
        · rw [h] at q4; cases q4
        · exact h q3)
      have hEG : Hid (∀ w', leafR l = some L → PtsOwn w' w.heap.size (.slice pv m cv) L → Below w.heap.size w w' → NdPost l w (.returned (.tuple #[lfval true (.slice pv m cv) (byteAt l 1), .int .i64 0])) w') := hid (fun w' h1 h2 h3 => .inl ⟨L, _, h1, rfl, h2, h3⟩)
      have nxb := byteAt_lt l 1
      generalize leafB L.length (ptAt L) (byteAt l 1) zf zf = BB at *
      generalize byteAt l 1 = nx at *
      have hr0 : rest = [] ↔ rest.length = 0 := List.length_eq_zero_iff.symm
      have hrL : rest.length ≤ 140737488355328 := by
        have h9 := congrArg List.length k2
        rw [List.length_append, List.length_drop] at h9
        omega
      generalize hrl' : rest.length = rl at *
      replace hr0 := hid hr0
      replace hrl' := hid hrl'
      replace KC := hid KC
      clear k1 k2 k3 hk e0 e1 hl2 hfo nBe hrl hl3 h4' h2' h1' h3' hb1
      generalize hmx : m = mm at *
      replace hmx := hid hmx
      clear hm
      by_cases hz : 0 < (rl : Int)
      · have hz2 : 0 < rl := by omega
        have hbad := hid (show leafR l = none ∧ otherR l = false from ⟨hE2.out (.inr (fun h => by have := hr0.out.1 h; omega)), hoth.out⟩)
        clear KC
        go_wp2_with fail
        refine KE.out.mono ?_
        rintro e w6 ⟨rfl, hw6⟩
        rw [hw6]
        clear hw6 w6
        go_wp2_with fail
        refine KF.out.mono ?_
        rintro e w6 ⟨rfl, hw6⟩
        rw [hw6]
        clear hw6 w6
        clear ln kn fn
        generalize (setAll w4 g 0 (lfcells true (.slice pv mm cv) nx).toList) = w5 at *
        have B2 := Blk.full (d := lfcells false (.slice none 0 0) 0) HZ5.out rfl
        have hb2 := hid (below_fill (b := w.heap.size) (Nat.le_refl _) (lfcells false (.slice none 0 0) 0).toList 0 D5.out)
        obtain ⟨lz, kz, fz⟩ := HZ5.out
        go_wp2_with fail
        show bodyPost _ _ _ _ _ (setAll w5 w.heap.size 0 (lfcells false (.slice none 0 0) 0).toList)
        generalize setAll w5 w.heap.size 0 (lfcells false (.slice none 0 0) 0).toList = w9 at *
        obtain ⟨l7, k7, f7⟩ := B2
        refine bodyPost_ret (v := .tuple #[lfval false (.slice none 0 0) 0, .int .i64 16]) (by simp [results, Try.results42, go_sem, k7]) rfl ?_
        exact EB.out w9 hbad.out hb2.out
      · have hz2 : rl = 0 := by omega
        subst hz2
        have hre := hr0.out.2 rfl
        clear hz
        cases BB with
        | false =>
          have hbad := hid (show leafR l = none ∧ otherR l = false from ⟨hE2.out (.inl rfl), hoth.out⟩)
          rw [show nodeC false = 9 from rfl] at KC
          go_wp2_with fail
          refine KE.out.mono ?_
          rintro e w6 ⟨rfl, hw6⟩
          rw [hw6]
          clear hw6 w6
          go_wp2_with fail
          refine KF.out.mono ?_
          rintro e w6 ⟨rfl, hw6⟩
          rw [hw6]
          clear hw6 w6
          clear ln kn fn
          generalize (setAll w4 g 0 (lfcells true (.slice pv mm cv) nx).toList) = w5 at *
          obtain ⟨ln, kn, fn⟩ := HN5.out
          go_wp2_with fail
          refine KC.out.mono ?_
          rintro e w6 ⟨rfl, hb6⟩
          have HZ6 := hid (HZ5.out.more hb6)
          have D6 := hid (below2 D5.out hb6 D5.out.size)
          clear hb6 ln kn fn
          have B2 := Blk.full (d := lfcells false (.slice none 0 0) 0) HZ6.out rfl
          have hb2 := hid (below_fill (b := w.heap.size) (Nat.le_refl _) (lfcells false (.slice none 0 0) 0).toList 0 D6.out)
          obtain ⟨lz, kz, fz⟩ := HZ6.out
          go_wp2_with fail
          show bodyPost _ _ _ _ _ (setAll w6 w.heap.size 0 (lfcells false (.slice none 0 0) 0).toList)
          generalize setAll w6 w.heap.size 0 (lfcells false (.slice none 0 0) 0).toList = w9 at *
          obtain ⟨l7, k7, f7⟩ := B2
          refine bodyPost_ret (v := .tuple #[lfval false (.slice none 0 0) 0, .int .i64 16]) (by simp [results, Try.results42, go_sem, k7]) rfl ?_
          exact EB.out w9 hbad.out hb2.out
        | true =>
          have hfin := hid (hE.out rfl hre)
          rw [show nodeC true = 0 from rfl] at KC
          go_wp2_with fail
          refine KE.out.mono ?_
          rintro e w6 ⟨rfl, hw6⟩
          rw [hw6]
          clear hw6 w6
          go_wp2_with fail
          refine KF.out.mono ?_
          rintro e w6 ⟨rfl, hw6⟩
          rw [hw6]
          clear hw6 w6
          clear ln kn fn
          generalize (setAll w4 g 0 (lfcells true (.slice pv mm cv) nx).toList) = w5 at *
          obtain ⟨ln, kn, fn⟩ := HN5.out
          go_wp2_with fail
          refine KC.out.mono ?_
          rintro e w6 ⟨rfl, hb6⟩
          have HZ6 := hid (HZ5.out.more hb6)
          have D6 := hid (below2 D5.out hb6 D5.out.size)
          replace HN5 := hid (HN5.out.more hb6)
          have O6 := hid (O5.out.more hb6)
          clear hb6 ln kn fn
          have B2 := Blk.full (d := (lfcells true (.slice pv mm cv) nx)) HZ6.out rfl
          have hb2 := hid (below_fill (b := w.heap.size) (Nat.le_refl _) (lfcells true (.slice pv mm cv) nx).toList 0 D6.out)
          have SG := hid (sole_fill (b := w.heap.size) (lfcells true (.slice pv mm cv) nx).toList 0 w6)
          obtain ⟨lz, kz, fz⟩ := HZ6.out
          obtain ⟨ln, kn, fn⟩ := HN5.out
          go_wp2_with fail
          show bodyPost _ _ _ _ _ (setAll w6 w.heap.size 0 (lfcells true (.slice pv mm cv) nx).toList)
          generalize setAll w6 w.heap.size 0 (lfcells true (.slice pv mm cv) nx).toList = w9 at *
          obtain ⟨l7, k7, f7⟩ := B2
          refine bodyPost_ret (v := .tuple #[lfval true (.slice pv mm cv) nx, .int .i64 0]) (by simp [results, Try.results42, go_sem, k7]) rfl ?_
          exact hEG.out w9 hfin.out (own_base (O6.out.sole SG.out (fun k hk h => by have h' : k = w.heap.size := h; have := (O6.out.lt k hk).1; omega)) (by omega)) hb2.out
    · have hbad := hid (show leafR l = none ∧ otherR l = false from ⟨leafR_bad (fun L' q1 q2 q3 q4 => by
        rcases hmath.out with ⟨h1, h2, h3, _⟩ | ⟨_, h⟩
        · rw [h3, List.drop_drop, byteAt_drop] at hk
          rw [hk] at q3; cases q3
        · omega), hoth.out⟩)
      simp only [Value.slice.injEq] at hv
      obtain ⟨rfl, rfl, rfl⟩ := hv
      clear KE hk hl2 hrl KF hRV O5 c1 c2 hm ln kn fn
      obtain ⟨ln, kn, fn⟩ := N4K.out
      go_upto_region 10 with (fail)
      go_cut [38] (fun s wx => s = .bool true ∧ Blk wx w.heap.size (lfcells false (.slice none 0 0) 0) ∧ Below w.heap.size w wx)
      case first =>
        go_wp2_with fail
        go_meet
        case rel => exact ⟨rfl, HZ5.out, D5.out⟩
      case rest =>
        obtain ⟨rfl, BZ5, DD5⟩ := hcut
        clear ln kn fn HZ5 HN5 D5
        have B2 := Blk.full (d := lfcells false (.slice none 0 0) 0) BZ5 rfl
        have hb2 := hid (below_fill (b := w.heap.size) (Nat.le_refl _) (lfcells false (.slice none 0 0) 0).toList 0 DD5)
        obtain ⟨lz, kz, fz⟩ := BZ5
        go_wp2_with fail
        show bodyPost _ _ _ _ _ (setAll _ w.heap.size 0 (lfcells false (.slice none 0 0) 0).toList)
        generalize setAll _ w.heap.size 0 (lfcells false (.slice none 0 0) 0).toList = w9 at *
        obtain ⟨l7, k7, f7⟩ := B2
        refine bodyPost_ret (v := .tuple #[lfval false (.slice none 0 0) 0, .int .i64 16]) (by simp [results, Try.results42, go_sem, k7]) rfl ?_
        exact EB.out w9 hbad.out hb2.out
  · by_cases h0 : x = 0
    · subst h0
      have KL := hid (readOther_any q l1 b1 w3 R3)
      have hlf := hid (show leafR l = none from leafR_not (by
        rcases hmath.out with ⟨_, _, _, h⟩ | ⟨_, h⟩
        · exact .inl (by omega)
        · exact .inr (by omega)))
      clear R3 h1
      go_wp2_with fail
      refine KL.out.mono ?_
      rintro e w4 ⟨x0, x1, x2, x3, y0, y1, y2, y3, bad', rest, rfl, R4, S4, T4, fin⟩
      have Z4 := hid (Z3.out.sole S4 (fun h => by have h' : w.heap.size = q := h; omega))
      have N4 := hid (N3.out.sole S4 (fun h => by have h' : g = q := h; omega))
      have D4 := hid (D3.out.trans (S4.below (B := w.heap.size) D3.out.size fun k hk => by have h' : k = q := hk; omega))
      have hw34 := S4.size
      have hw3g := N3.out.lt
      clear KL S4 RR3 Z3 N3 D3
      obtain ⟨ln, kn, fn⟩ := N4.out
      have SF := sole_fill (b := g) (otcells x0 x1 x2 x3 y0 y1 y2 y3).toList 0 w4
      have HZ5 := hid (Z4.out.sole SF (fun h => by have h' : w.heap.size = g := h; omega))
      have R5 := R4.kept SF (fun k hk h => by have h' : k = g := h; omega)
      have HN5 := hid (show Blk (setAll w4 g 0 (otcells x0 x1 x2 x3 y0 y1 y2 y3).toList) g (otcells x0 x1 x2 x3 y0 y1 y2 y3) from Blk.full N4.out rfl)
      have D5 := hid (below_fill (b := g) (B := w.heap.size) (by omega) (otcells x0 x1 x2 x3 y0 y1 y2 y3).toList 0 D4.out)
      have KE := err_any q rest _ (setAll w4 g 0 (otcells x0 x1 x2 x3 y0 y1 y2 y3).toList) R5.1
      have KF := hid (left_any q rest _ (setAll w4 g 0 (otcells x0 x1 x2 x3 y0 y1 y2 y3).toList) R5.1)
      have KC : Calls Try.prog 40 #[otval x0 x1 x2 x3 y0 y1 y2 y3] (setAll w4 g 0 (otcells x0 x1 x2 x3 y0 y1 y2 y3).toList) fun e w' => e = .returned (.int .i64 (nodeC (otherB 0 0 (li4 x0 x1 x2 x3) (li4 y0 y1 y2 y3)))) ∧ Below (setAll w4 g 0 (otcells x0 x1 x2 x3 y0 y1 y2 y3).toList).heap.size (setAll w4 g 0 (otcells x0 x1 x2 x3 y0 y1 y2 y3).toList) w' :=
        ncheck_any false none 0 0 (fun _ => pt0) (fun i hi => absurd hi (Nat.not_lt_zero _)) 0 (li4 x0 x1 x2 x3) (li4 y0 y1 y2 y3) (Nat.le_refl _) (Nat.zero_le _) _ (.inl rfl)
      clear R4 SF R5 Z4 D4 N4
      cases bad' with
      | true =>
        have hbad := hid (show leafR l = none ∧ otherR l = false from ⟨hlf.out, otherR_not (by
          rcases T4 with ⟨h, _⟩ | ⟨_, h⟩
          · cases h
          · rcases hmath.out with ⟨h1, h2, h3, _⟩ | ⟨_, h4⟩
            · rcases h with h | h
              · rw [h1] at h; cases h
              · rw [h3, List.length_drop] at h; exact .inr (.inl (by omega))
            · exact .inr (.inl (by omega)))⟩)
        simp only [if_true] at KE
        replace KE := hid KE
        clear T4 fin KC
        go_wp2_with fail
        refine KE.out.mono ?_
        rintro e w6 ⟨rfl, hw6⟩
        rw [hw6]
        clear hw6 w6
        clear ln kn fn
        generalize (setAll w4 g 0 (otcells x0 x1 x2 x3 y0 y1 y2 y3).toList) = w5 at *
        have B2 := Blk.full (d := lfcells false (.slice none 0 0) 0) HZ5.out rfl
        have hb2 := hid (below_fill (b := w.heap.size) (Nat.le_refl _) (lfcells false (.slice none 0 0) 0).toList 0 D5.out)
        obtain ⟨lz, kz, fz⟩ := HZ5.out
        go_wp2_with fail
        show bodyPost _ _ _ _ _ (setAll w5 w.heap.size 0 (lfcells false (.slice none 0 0) 0).toList)
        generalize setAll w5 w.heap.size 0 (lfcells false (.slice none 0 0) 0).toList = w9 at *
        obtain ⟨l7, k7, f7⟩ := B2
        refine bodyPost_ret (v := .tuple #[lfval false (.slice none 0 0) 0, .int .i64 16]) (by simp [results, Try.results42, go_sem, k7]) rfl ?_
        exact EB.out w9 hbad.out hb2.out
      | false =>
        simp only [Bool.false_eq_true, if_false] at KE
        replace KE := hid KE
        obtain ⟨t1, t2, t3⟩ : b1 = false ∧ 12 ≤ l1.length ∧ rest = l1.drop 12 := by
          rcases T4 with ⟨_, h1, h2, h3⟩ | ⟨h, _⟩
          · exact ⟨h1, h2, h3⟩
          · cases h
        obtain ⟨t4, t5, t6⟩ : 1 ≤ l.length ∧ l1 = l.drop 1 ∧ byteAt l 0 = 0 := by
          rcases hmath.out with ⟨_, h2, h3, h4⟩ | ⟨h, _⟩
          · exact ⟨h2, h3, h4.symm⟩
          · rw [t1] at h; cases h
        have t7 : 13 ≤ l.length := by rw [t5, List.length_drop] at t2; omega
        obtain ⟨f0, f1, f2, f3, f4, f5, f6, f7⟩ := fin rfl
        simp only [t5, List.drop_drop] at f0 f1 f2 f3 f4 f5 f6 f7
        rw [byte_of l _ (by omega)] at f0 f1 f2 f3
        have hB : otherB 0 0 (li4 x0 x1 x2 x3) (li4 y0 y1 y2 y3) = otherB 0 0 (kidsR l) (cntsR l) := otherB_congr 0 0 _ _ _ _ (fun i hi => by
          match i, hi with
          | 0, _ => exact ⟨by show (x0 : Int) = _; rw [f0]; rfl, by show (y0 : Int) = _; rw [f4]; rfl⟩
          | 1, _ => exact ⟨by show (x1 : Int) = _; rw [f1]; rfl, by show (y1 : Int) = _; rw [f5]; rfl⟩
          | 2, _ => exact ⟨by show (x2 : Int) = _; rw [f2]; rfl, by show (y2 : Int) = _; rw [f6]; rfl⟩
          | 3, _ => exact ⟨by show (x3 : Int) = _; rw [f3]; rfl, by show (y3 : Int) = _; rw [f7]; rfl⟩)
        rw [hB] at KC
        have hEG : Hid (∀ w', l.length = 13 → otherB 0 0 (kidsR l) (cntsR l) = true → Below w.heap.size w w' → NdPost l w (.returned (.tuple #[otval x0 x1 x2 x3 y0 y1 y2 y3, .int .i64 0])) w') := hid (fun w' q1 q2 q3 => .inr (.inl ⟨hlf.out, by unfold otherR; rw [q1, t6, q2]; rfl, by rw [f0, f1, f2, f3, f4, f5, f6, f7]; rfl, q3⟩))
        have hE2 : Hid (l.length ≠ 13 ∨ otherB 0 0 (kidsR l) (cntsR l) = false → otherR l = false) := hid (fun h => otherR_not (.inr h))
        generalize otherB 0 0 (kidsR l) (cntsR l) = BB at *
        have hrl : rest.length + 13 = l.length := by rw [t3, t5, List.length_drop, List.length_drop]; omega
        generalize rest.length = rl at *
        replace KC := hid KC
        replace hrl := hid hrl
        have hrL : rl ≤ 140737488355328 := by have := hrl.out; omega
        clear f0 f1 f2 f3 f4 f5 f6 f7 hB fin T4 t1 t2 t3 t4 t5 t6 t7
        by_cases hz : 0 < (rl : Int)
        · have hz2 : 0 < rl := by omega
          have hbad := hid (show leafR l = none ∧ otherR l = false from ⟨hlf.out, hE2.out (.inl (by have := hrl.out; omega))⟩)
          clear KC
          go_wp2_with fail
          refine KE.out.mono ?_
          rintro e w6 ⟨rfl, hw6⟩
          rw [hw6]
          clear hw6 w6
          go_wp2_with fail
          refine KF.out.mono ?_
          rintro e w6 ⟨rfl, hw6⟩
          rw [hw6]
          clear hw6 w6
          clear ln kn fn
          generalize (setAll w4 g 0 (otcells x0 x1 x2 x3 y0 y1 y2 y3).toList) = w5 at *
          have B2 := Blk.full (d := lfcells false (.slice none 0 0) 0) HZ5.out rfl
          have hb2 := hid (below_fill (b := w.heap.size) (Nat.le_refl _) (lfcells false (.slice none 0 0) 0).toList 0 D5.out)
          obtain ⟨lz, kz, fz⟩ := HZ5.out
          go_wp2_with fail
          show bodyPost _ _ _ _ _ (setAll w5 w.heap.size 0 (lfcells false (.slice none 0 0) 0).toList)
          generalize setAll w5 w.heap.size 0 (lfcells false (.slice none 0 0) 0).toList = w9 at *
          obtain ⟨l7, k7, f7⟩ := B2
          refine bodyPost_ret (v := .tuple #[lfval false (.slice none 0 0) 0, .int .i64 16]) (by simp [results, Try.results42, go_sem, k7]) rfl ?_
          exact EB.out w9 hbad.out hb2.out
        · have hz2 : rl = 0 := by omega
          subst hz2
          clear hz
          cases BB with
          | false =>
            have hbad := hid (show leafR l = none ∧ otherR l = false from ⟨hlf.out, hE2.out (.inr rfl)⟩)
            rw [show nodeC false = 9 from rfl] at KC
            go_wp2_with fail
            refine KE.out.mono ?_
            rintro e w6 ⟨rfl, hw6⟩
            rw [hw6]
            clear hw6 w6
            go_wp2_with fail
            refine KF.out.mono ?_
            rintro e w6 ⟨rfl, hw6⟩
            rw [hw6]
            clear hw6 w6
            clear ln kn fn
            generalize (setAll w4 g 0 (otcells x0 x1 x2 x3 y0 y1 y2 y3).toList) = w5 at *
            obtain ⟨ln, kn, fn⟩ := HN5.out
            go_wp2_with fail
            refine KC.out.mono ?_
            rintro e w6 ⟨rfl, hb6⟩
            have HZ6 := hid (HZ5.out.more hb6)
            have D6 := hid (below2 D5.out hb6 D5.out.size)
            replace HN5 := hid (HN5.out.more hb6)
            clear hb6 ln kn fn
            have B2 := Blk.full (d := lfcells false (.slice none 0 0) 0) HZ6.out rfl
            have hb2 := hid (below_fill (b := w.heap.size) (Nat.le_refl _) (lfcells false (.slice none 0 0) 0).toList 0 D6.out)
            obtain ⟨lz, kz, fz⟩ := HZ6.out
            go_wp2_with fail
            show bodyPost _ _ _ _ _ (setAll w6 w.heap.size 0 (lfcells false (.slice none 0 0) 0).toList)
            generalize setAll w6 w.heap.size 0 (lfcells false (.slice none 0 0) 0).toList = w9 at *
            obtain ⟨l7, k7, f7⟩ := B2
            refine bodyPost_ret (v := .tuple #[lfval false (.slice none 0 0) 0, .int .i64 16]) (by simp [results, Try.results42, go_sem, k7]) rfl ?_
            exact EB.out w9 hbad.out hb2.out
          | true =>
            rw [show nodeC true = 0 from rfl] at KC
            go_wp2_with fail
            refine KE.out.mono ?_
            rintro e w6 ⟨rfl, hw6⟩
            rw [hw6]
            clear hw6 w6
            go_wp2_with fail
            refine KF.out.mono ?_
            rintro e w6 ⟨rfl, hw6⟩
            rw [hw6]
            clear hw6 w6
            clear ln kn fn
            generalize (setAll w4 g 0 (otcells x0 x1 x2 x3 y0 y1 y2 y3).toList) = w5 at *
            obtain ⟨ln, kn, fn⟩ := HN5.out
            go_wp2_with fail
            refine KC.out.mono ?_
            rintro e w6 ⟨rfl, hb6⟩
            have HZ6 := hid (HZ5.out.more hb6)
            have D6 := hid (below2 D5.out hb6 D5.out.size)
            replace HN5 := hid (HN5.out.more hb6)
            clear hb6 ln kn fn
            have B2 := Blk.full (d := (otcells x0 x1 x2 x3 y0 y1 y2 y3)) HZ6.out rfl
            have hb2 := hid (below_fill (b := w.heap.size) (Nat.le_refl _) (otcells x0 x1 x2 x3 y0 y1 y2 y3).toList 0 D6.out)
            have SG := hid (sole_fill (b := w.heap.size) (otcells x0 x1 x2 x3 y0 y1 y2 y3).toList 0 w6)
            obtain ⟨lz, kz, fz⟩ := HZ6.out
            obtain ⟨ln, kn, fn⟩ := HN5.out
            go_wp2_with fail
            show bodyPost _ _ _ _ _ (setAll w6 w.heap.size 0 (otcells x0 x1 x2 x3 y0 y1 y2 y3).toList)
            generalize setAll w6 w.heap.size 0 (otcells x0 x1 x2 x3 y0 y1 y2 y3).toList = w9 at *
            obtain ⟨l7, k7, f7⟩ := B2
            refine bodyPost_ret (v := .tuple #[otval x0 x1 x2 x3 y0 y1 y2 y3, .int .i64 0]) (by simp [results, Try.results42, go_sem, k7]) rfl ?_
            exact hEG.out w9 (by have := hrl.out; omega) (by first | trivial | rfl) hb2.out
    · have hx1 : ((x : Int) == 1) = false := by simp; omega
      have hx0 : ((x : Int) == 0) = false := by simp; omega
      have hbad := hid (show leafR l = none ∧ otherR l = false from ⟨leafR_not (by
        rcases hmath.out with ⟨_, _, _, h⟩ | ⟨_, h⟩
        · exact .inl (by omega)
        · exact .inr (by omega)), otherR_not (by
        rcases hmath.out with ⟨_, _, _, h⟩ | ⟨_, h⟩
        · exact .inl (by omega)
        · exact .inr (.inl (by omega)))⟩)
      clear R3 h1 h0
      have B2 := Blk.full (d := lfcells false (.slice none 0 0) 0) Z3.out rfl
      have hb2 := hid (below_fill (b := w.heap.size) (Nat.le_refl _) (lfcells false (.slice none 0 0) 0).toList 0 D3.out)
      obtain ⟨lz, kz, fz⟩ := Z3.out
      go_wp2_with fail
      show bodyPost _ _ _ _ _ (setAll w3 w.heap.size 0 (lfcells false (.slice none 0 0) 0).toList)
      generalize setAll w3 w.heap.size 0 (lfcells false (.slice none 0 0) 0).toList = w9 at *
      obtain ⟨l7, k7, f7⟩ := B2
      refine bodyPost_ret (v := .tuple #[lfval false (.slice none 0 0) 0, .int .i64 16]) (by simp [results, Try.results42, go_sem, k7]) rfl ?_
      exact EB.out w9 hbad.out hb2.out
end Go.Proofs.Ytgnnikjpnmalmaa
