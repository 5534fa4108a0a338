/-
  Package tiles: Spans.
-/
import Derived.Test.YtdepmoocjnmbeaaTilesOrd
namespace Go.Proofs.Ytdepmoocjnmbeaa
open Go.RowKit
set_option linter.unusedVariables false
set_option linter.unusedSimpArgs false

def spT : RowT (Nat × Nat) := { ty := 44, sl := 40, sz := 2, bytes := 16, zero := .agg #[.int .u64 0, .int .u64 0], cells := fun s => [.int .u64 (s.1 : Int), .int .u64 (s.2 : Int)], dflt := (0, 0) }
theorem spOk : spT.Ok := ⟨Try.underlying40, by kernel_rfl, rfl, by decide, fun _ => rfl, fun x u hu => by
  simp [spT] at hu
  rcases hu with rfl | rfl <;> rfl⟩
theorem own_setT {w : World} {base g cap size : Nat} {e : TypeId} {n : Nat} {xs : List Value} (h : w.ownsRow base e size (.slice (some ⟨g, 0, none⟩) n cap) n xs) (j : Nat) (v : Value) : (w.setCell ⟨g, j, none⟩ v).ownsRow base e size (.slice (some ⟨g, 0, none⟩) n cap) n (xs.set j v) := by
  refine ⟨by rw [List.length_set]; exact h.1, .inr ?_⟩
  rcases h.2 with ⟨hv, _⟩ | ⟨g', cap', cur, hv, hb, hg, h1, h2, h3, h4⟩
  · cases hv
  · cases hv
    refine ⟨g, cap, cur.setIfInBounds j v, rfl, hb, Lib.heap_setCell_same hg v, h1, h2, by simpa using h3, ?_⟩
    rw [Array.toList_setIfInBounds, ← h4, List.take_set]
theorem frz_own {w : World} {base g cap size : Nat} {e : TypeId} {n : Nat} {xs : List Value} (h : w.ownsRow base e size (.slice (some ⟨g, 0, none⟩) n cap) n xs) (o : Nat) : w.frozen? ⟨g, o, none⟩ = false := by
  rcases h.2 with ⟨hv, _⟩ | ⟨g', cap', cur, hv, hb, hg, h1, h2, h3, h4⟩
  · cases hv
  · cases hv
    simp [World.frozen?, hg]
/-- The last span ends elsewhere. -/
theorem span_end {w : World} {base g cap : Nat} {S' : List (Nat × Nat)} {s : Nat × Nat} (h : RowOwn spT w base (.slice (some ⟨g, 0, none⟩) (S'.length + 1) cap) (S' ++ [s])) (m : Nat) :
    RowOwn spT (w.setCell ⟨g, S'.length * 2 + 1, none⟩ (.int .u64 (m : Int))) base (.slice (some ⟨g, 0, none⟩) (S'.length + 1) cap) (S' ++ [(s.1, m)]) := by
  unfold RowOwn at *
  have hl : (S' ++ [s]).length = S'.length + 1 := by simp
  have hl2 : (S' ++ [(s.1, m)]).length = S'.length + 1 := by simp
  rw [hl] at h
  rw [hl2]
  have h2 := own_setT h (S'.length * 2 + 1) (.int .u64 (m : Int))
  have e : (flatR spT (S' ++ [s])).set (S'.length * 2 + 1) (.int .u64 (m : Int)) = flatR spT (S' ++ [(s.1, m)]) := by
    have hf : (flatR spT S').length = S'.length * 2 := flatR_length spOk S'
    rw [flatR_append, flatR_append, flatR_one, flatR_one, List.set_append_right _ _ (by omega), hf, show S'.length * 2 + 1 - S'.length * 2 = 1 by omega]
    rfl
  rw [e] at h2
  exact h2
/-- Where the places of a cell stand. -/
def ivC (b : CB) : Nat × Nat := (jC b, jC b + (sizZ b.l - 1))
theorem iv_take (c : Cl) (hc : c.may) : ivC (takeC c hc) = (fstZ c.x c.y (lvl c.l), fstZ c.x c.y (lvl c.l) + (sizZ (lvl c.l) - 1)) := rfl

set_option maxRecDepth 100000 in
theorem touches_any (a b f : Nat) (ha : a < 2 ^ 64) (hb : b < 2 ^ 64) (hf : f < 2 ^ 64) (w : World) : Calls Try.prog 29 #[.agg #[.int .u64 (a : Int), .int .u64 (b : Int)], .int .u64 (f : Int)] w fun e w' => e = .returned (.bool (decide (f ≤ b + 1))) ∧ Below w.heap.size w w' := by
  have hb0 := hid (tbelow_one w (.cells #[.int .u64 (a : Int), .int .u64 (b : Int)] 44))
  obtain ⟨l0, k0, f0⟩ := Blk.new w #[.int .u64 (a : Int), .int .u64 (b : Int)] 44
  by_cases h : f ≤ b
  · have h1 : (decide (f ≤ b)) = true := decide_eq_true h
    have h2 : decide (f ≤ b + 1) = true := decide_eq_true (by omega)
    rw [h2]
    clear h2
    replace h := hid h
    go_enter Try.func29, Try.ntmps29
    go_wp2
    go_ret
    exact ⟨rfl, hb0.out⟩
  · have h1 : (decide (f ≤ b)) = false := decide_eq_false h
    have h1' : (decide ((f : Int) ≤ (b : Int))) = false := decide_eq_false (by omega)
    obtain ⟨m, rfl⟩ : ∃ m, f = m + 1 := ⟨f - 1, by omega⟩
    have hw : IntKind.u64.wrap (((m + 1 : Nat) : Int) - 1) = (m : Int) := by rw [IntKind.wrap_u64]; omega
    have hw2 : IntKind.u64.wrap ((m : Int) + 1 - 1) = (m : Int) := by rw [IntKind.wrap_u64]; omega
    have hw3 : IntKind.u64.wrap (m : Int) = (m : Int) := by rw [IntKind.wrap_u64]; omega
    have h1'' : (decide ((m : Int) + 1 ≤ (b : Int))) = false := decide_eq_false (by omega)
    have e : decide (m + 1 ≤ b + 1) = (m == b) := by
      by_cases hmb : m = b
      · simp [hmb]
      · have : ¬ m + 1 ≤ b + 1 := by omega
        simp [this, hmb]
    rw [e]
    clear e
    replace h := hid h
    have hmb : ((m : Int) == (b : Int)) = (m == b) := by
      by_cases hh : m = b
      · rw [hh]; simp
      · have h2 : ¬ (m : Int) = (b : Int) := by omega
        rw [beq_eq_false_iff_ne.2 h2, beq_eq_false_iff_ne.2 hh]
    go_enter Try.func29, Try.ntmps29
    go_wp2
    go_ret
    exact ⟨rfl, hb0.out⟩

set_option maxRecDepth 100000 in
set_option maxHeartbeats 8000000 in
theorem tspans_any (p : Option Addr) (n cap : Nat) (T : Nat → CB) (f : Nat → Cl) (hf : ∀ i, i < n → ∃ h : (f i).may, T i = takeC (f i) h) (hn : n ≤ 100) (h1 : n ≤ cap) (h2 : cap ≤ maxLen) (w : World) (R : RowP w p 3 n (fun i => clT.cells (f i))) :
    Calls Try.prog 16 #[.slice p n cap] w fun e w' => ∃ (q : Option Addr) (c : Nat) (S : List (Nat × Nat)) (L : List CB), e = .returned (.slice q S.length c) ∧ S.length ≤ n ∧ S.length ≤ c ∧ c ≤ maxLen ∧ L.Perm ((List.range n).map T) ∧ SpOk S (L.map ivC) ∧ RowOf spT w' q S ∧ Below w.heap.size w w' := by
  have KO := hid (torder_any p n cap T f hf hn h1 h2 w R)
  have hfh := hid hf
  have hn1 : (n : Int) ≤ 100 := by omega
  have hnh := hid hn
  clear R hf h1 h2 hn
  go_enter Try.func16, Try.ntmps16
  go_wp2_with fail
  refine KO.out.mono ?_
  rintro e w1 ⟨qo, co, L, rfl, c1, c2, hP, hS, RL, hb1⟩
  have D1 := hid hb1
  have hPh := hid hP
  have hLl : L.length = n := by rw [hP.length_eq]; simp
  have RLh := hid (show RowP w1 qo 3 n (fun i => cbT.cells (atR cbT L i)) by
    have h := RL
    unfold RowOf at h
    rw [hLl] at h
    exact h)
  have hSh := hid hS
  have hLlh := hid hLl
  clear hP hS RL hb1 hLl KO c1 c2
  go_wp2_with fail
  go_loopw [3, 12] (fun v i wr => ∃ (k : Nat) (q : Option Addr) (c : Nat) (S : List (Nat × Nat)), v = .slice q S.length c ∧ i = .int .i64 (k : Int) ∧ k ≤ n ∧ S.length ≤ k ∧ Hid (S = spansL ((L.take k).map ivC)) ∧ RowOwn spT wr w1.heap.size (.slice q S.length c) S ∧ Below w1.heap.size w1 wr) (fun _ i _ => n - (intOf i).toNat)
  case atStart => exact ⟨0, none, 0, [], rfl, rfl, Nat.zero_le _, Nat.le_refl _, hid rfl, RowOwn.nil _ _, Below.refl _ _⟩
  case round =>
    obtain ⟨k, q, c, S, rfl, rfl, hk, hSk, hSe, O, hb⟩ := hrel
    have Oh := hid O
    have Bh := hid hb
    by_cases hlt : k < n
    · have hlt1 : (k : Int) < (n : Int) := by omega
      have hkL : k < L.length := by rw [hLlh.out]; exact hlt
      have hbm : ∃ (c : Cl) (hc : c.may), atR cbT L k = takeC c hc := by
        have hm := hPh.out.subset (atR_mem (T := cbT) L k hkL)
        obtain ⟨i, hi, e⟩ := List.mem_map.1 hm
        obtain ⟨hc, hT⟩ := hfh.out i (by simpa using hi)
        exact ⟨f i, hc, by rw [← e, hT]⟩
      obtain ⟨C, hC, hbe⟩ := hbm
      have b0 := lvl_bd C.l
      obtain ⟨b, o, rfl, R0⟩ := RLh.out.row (by omega)
      have R1 := R0.below hb R0.lt
      have y0 := R1.at0 hlt (v := .int .u32 ((atR cbT L k).x : Int)) rfl
      have y1 := R1.at1 hlt (v := .int .u32 ((atR cbT L k).y : Int)) rfl
      have y2 := R1.at2 hlt (v := .int .i64 (atR cbT L k).l) rfl
      have KJ := hid (fun w => (joing_nat (atR cbT L k).x (atR cbT L k).y (atR cbT L k).hx (atR cbT L k).hy w).mono fun e w' ⟨h1, h2⟩ => And.intro h1 h2.low)
      have hlv : (atR cbT L k).l = lvl C.l := by rw [hbe]; rfl
      obtain ⟨K, hK⟩ : ∃ K : Nat, K = kOf (lvl C.l) := ⟨_, rfl⟩
      have hK32 : K ≤ 32 := by rw [hK]; unfold kOf; omega
      have hs1 : IntKind.i64.wrap (32 - (atR cbT L k).l) = (K : Int) := by rw [hlv, hK]; unfold kOf; rw [IntKind.wrap_i64]; omega
      obtain ⟨m, hm⟩ : ∃ m : Nat, m = 2 * K := ⟨_, rfl⟩
      have hs2 : IntKind.i64.wrap (2 * (K : Int)) = (m : Int) := by rw [hm, IntKind.wrap_i64]; omega
      have hm64 : (m : Int) ≤ 64 := by omega
      have hm0 : (0 : Int) ≤ (m : Int) := by omega
      obtain ⟨F, hF⟩ : ∃ F : Nat, F = jC (atR cbT L k) := ⟨_, rfl⟩
      have hF0 : joinN (atR cbT L k).x (atR cbT L k).y = F := hF.symm
      rw [hF0] at KJ
      obtain ⟨G, hG⟩ : ∃ G : Nat, G = F + (sizZ (lvl C.l) - 1) := ⟨_, rfl⟩
      have hG64 : G < 2 ^ 64 := by rw [hG, hF, hbe]; exact fst_top (x := C.x) (y := C.y) hC.1 hC.2.1 hC.2.2.1 hC.2.2.2 b0.1
      have hF64 : F < 2 ^ 64 := by omega
      have eG : bits .or .u64 (F : Int) (IntKind.u64.wrap (IntKind.u64.wrap ((2 : Int) ^ m) - 1)) = (G : Int) := by
        have hz : ((2 : Int) ^ m) = ((sizZ (lvl C.l) : Nat) : Int) := by rw [hm, hK]; unfold sizZ; simp
        have hz2 := siz_le (L := lvl C.l) b0.1
        have hz1 := sizZ_pos (lvl C.l)
        have e1 : IntKind.u64.wrap (IntKind.u64.wrap ((2 : Int) ^ m) - 1) = ((sizZ (lvl C.l) - 1 : Nat) : Int) := by
          rw [hz, IntKind.wrap_u64, IntKind.wrap_u64]
          omega
        rw [e1, u64_or_nat _ _ (by omega) (by omega), hG]
        have := fst_or (x := C.x) (y := C.y) (L := lvl C.l) hC.1 hC.2.1 hC.2.2.1 hC.2.2.2
        have hFe : F = fstZ C.x C.y (lvl C.l) := by rw [hF, hbe]; rfl
        rw [hFe, this]
      have hiv : ivC (atR cbT L k) = (F, G) := by rw [hG]; unfold ivC; rw [← hF, hlv]
      have hnx := hid (show spansL ((L.take (k + 1)).map ivC) = stepS (spansL ((L.take k).map ivC)) F G by
        have e : L.take (k + 1) = L.take k ++ [atR cbT L k] := by
          rw [atR_eq L k hkL, List.take_succ_eq_append_getElem hkL]
        rw [e, List.map_append]
        unfold spansL
        rw [List.foldl_append]
        show stepS _ (ivC (atR cbT L k)).1 (ivC (atR cbT L k)).2 = _
        rw [hiv])
      replace hlv := hid hlv
      replace hK := hid hK
      replace hK32 := hid hK32
      replace hm := hid hm
      replace hF := hid hF
      replace hbe := hid hbe
      replace hG := hid hG
      replace hiv := hid hiv
      clear hF0 R0 R1 O hb b0 hkL
      generalize ((atR cbT L k).x : Int) = X at *
      generalize ((atR cbT L k).y : Int) = Y at *
      generalize (atR cbT L k).l = lv at *
      have D0 := hid (tbelow_one wr (.cells #[.int .u32 X, .int .u32 Y, .int .i64 lv] 32))
      have BX := hid (Blk.new wr #[.int .u32 X, .int .u32 Y, .int .i64 lv] 32)
      go_wp2_with fail
      refine (KJ.out _).mono ?_
      rintro e w2 ⟨rfl, hb2⟩
      have D2 := hid (below2 D0.out hb2 D0.out.size)
      obtain ⟨l9, k9, f9⟩ := BX.out.more hb2
      clear hb2 KJ y0 y1 y2 D0 BX
      have hkn := hid hlt
      rcases List.eq_nil_or_concat S with rfl | ⟨S', s, rfl⟩
      · have hS2 := hid (show spansL ((L.take (k + 1)).map ivC) = [(F, G)] by rw [hnx.out, ← hSe.out]; rfl)
        have O2 := Oh.out.more D2.out
        have b3 := tbelow_one w2 (.cells #[.int .u64 (F : Int), .int .u64 (G : Int)] 44)
        have RI : RowOf spT (w2.alloc (.cells #[.int .u64 (F : Int), .int .u64 (G : Int)] 44)) (some ⟨w2.heap.size, 0, none⟩) [(F, G)] := rowOf_one spOk (Blk.new w2 #[.int .u64 (F : Int), .int .u64 (G : Int)] 44) (x := (F, G)) rfl
        obtain ⟨v', w3, hr, O3, G3, N3⟩ := append_row spOk w1.heap.size 40 (w2.alloc (.cells #[.int .u64 (F : Int), .int .u64 (G : Int)] 44)) _ _ (O2.more b3) (some ⟨w2.heap.size, 0, none⟩) 1 [(F, G)] RI (by show (0 + 1) * 16 ≤ _; omega) (by unfold maxLen; simp) (by have := Bh.out.size; have := D2.out.size; simp; omega)
        obtain ⟨q', c', hv', _⟩ := RowOwn.open spOk O3
        subst hv'
        have E := hid (show RowOwn spT w3 w1.heap.size (.slice q' 1 c') [(F, G)] ∧ Below w1.heap.size w1 w3 from ⟨O3, Below.grown (below2 Bh.out (below2 D2.out b3 D2.out.size) Bh.out.size) G3 (by have := Bh.out.size; have := D2.out.size; simp; omega) fun z hz => (RowOwn.within Oh.out z hz).1⟩)
        have hr1 : (Builtin.append_ #[40, 40] 40 #[.slice q 0 c, .slice (some ⟨w2.heap.size, 0, none⟩) 1 1]).run Try.prog (w2.alloc (.cells #[.int .u64 (F : Int), .int .u64 (G : Int)] 44)) = .ok (.slice q' 1 c') w3 := hr
        clear O2 b3 RI O3 G3 N3 hr Oh Bh D2 hSe hSk
        replace hF64 := hid hF64
        replace hG64 := hid hG64
        go_wp2_with (at_builtin; refine Lib.wpList_append_run _ rfl _ _ _ _ rfl _ _ rfl rfl _ _ hr1 ?_)
        go_roundw
        case rel => exact ⟨k + 1, q', c', [(F, G)], rfl, by go_num, hkn.out, by simp, hid hS2.out.symm, E.out.1, E.out.2⟩
        case measure => have := hkn.out; simp [intOf]; omega
      · rw [List.concat_eq_append] at *
        have hn' : (S' ++ [s]).length = S'.length + 1 := by simp
        have hOk := hid (show SpOk (S' ++ [s]) ((L.take k).map ivC) by
          rw [hSe.out]
          have := spans_ok ((L.take k).map ivC) [] [] SpOk.nil (fun c hc => ?_) ?_ (by simp)
          · simpa [spansL] using this
          · obtain ⟨b', hb', rfl⟩ := List.mem_map.1 hc
            have hm' := hPh.out.subset (List.mem_of_mem_take hb')
            obtain ⟨i, hi, e⟩ := List.mem_map.1 hm'
            obtain ⟨hc', hT⟩ := hfh.out i (by simpa using hi)
            rw [← e, hT]
            exact ⟨Nat.le_add_right _ _, fst_top (x := (f i).x) (y := (f i).y) hc'.1 hc'.2.1 hc'.2.2.1 hc'.2.2.2 (lvl_bd _).1⟩
          · rw [List.pairwise_map]
            refine (hSh.out.sublist (List.take_sublist _ _)).imp (fun {a b} h => ?_)
            show jC a ≤ jC b
            omega)
        have hs2 : s.2 < 2 ^ 64 := hOk.out.top s (by simp)
        have hs1' : s.1 < 2 ^ 64 := by have := hOk.out.ord s (by simp); omega
        have KT := hid (fun w => touches_any s.1 s.2 F hs1' hs2 hF64 w)
        have O2 := Oh.out.more D2.out
        obtain ⟨q9, c9, hv9, k9, m9, R9⟩ := RowOwn.open spOk O2
        cases hv9
        have R9' : RowP w2 q 2 (S' ++ [s]).length (fun i => spT.cells (atR spT (S' ++ [s]) i)) := R9
        rw [hn'] at R9' k9 O2
        obtain ⟨g, hq, hgw⟩ : ∃ g, q = some ⟨g, 0, none⟩ ∧ w1.heap.size ≤ g := by
          rcases RowOwn.form Oh.out with ⟨hv, hl⟩ | ⟨g, c', hv, hg, _⟩
          · simp at hl
          · cases hv; exact ⟨g, rfl, hg⟩
        subst hq
        obtain ⟨b8, o8, e8, R8⟩ := R9'.row (by omega)
        cases e8
        have hat : atR spT (S' ++ [s]) S'.length = s := by rw [atR_eq _ _ (by simp)]; simp
        have x0 := R8.at0 (i := S'.length) (by omega) (v := .int .u64 (s.1 : Int)) (by rw [hat]; rfl)
        have x1 := R8.at1 (i := S'.length) (by omega) (v := .int .u64 (s.2 : Int)) (by rw [hat]; rfl)
        rw [Nat.zero_add] at x0 x1
        have O2h := hid O2
        have hnew := hid (fun h => stepS_new S' s F G h)
        have hon := hid (fun h => stepS_on S' s F G h)
        have hSk' := hid hSk
        rw [hn'] at hSk
        obtain ⟨z, hz⟩ : ∃ z, z = S'.length := ⟨_, rfl⟩
        rw [← hz] at x0 x1 hn'
        have hz0 : (0 : Int) < ((z + 1 : Nat) : Int) := by omega
        have hz1 : (0 : Int) < (z : Int) + 1 := by omega
        have hzw : IntKind.i64.wrap (((z + 1 : Nat) : Int) - 1) = (z : Int) := by rw [IntKind.wrap_i64]; omega
        have hzw2 : IntKind.i64.wrap ((z : Int) + 1 - 1) = (z : Int) := by rw [IntKind.wrap_i64]; omega
        have hzw3 : IntKind.i64.wrap (z : Int) = (z : Int) := by rw [IntKind.wrap_i64]; omega
        have hz3 : (0 : Int) ≤ (z : Int) := by omega
        have hz4 : (z : Int) < (z : Int) + 1 := by omega
        have hc63 : (c : Int) ≤ 9223372036854775807 := by unfold maxLen at m9; omega
        have hzc : (z : Int) + 1 ≤ (c : Int) := by omega
        rw [hn']
        by_cases hto : F ≤ s.2 + 1
        · rw [decide_eq_true hto] at KT
          obtain ⟨M, hM⟩ : ∃ M : Nat, M = max s.2 G := ⟨_, rfl⟩
          have hmx : max (s.2 : Int) (G : Int) = (M : Int) := by omega
          have hS2 := hid (show spansL ((L.take (k + 1)).map ivC) = S' ++ [(s.1, M)] by rw [hnx.out, ← hSe.out, hon.out hto, hM])
          have hst := hid (fun (w : World) (O : RowOwn spT w w1.heap.size (.slice (some ⟨g, 0, none⟩) (S'.length + 1) c) (S' ++ [s])) => And.intro (frz_own (by unfold RowOwn at O; rw [show (S' ++ [s]).length = S'.length + 1 by simp] at O; exact O)) (span_end O M))
          have hz' := hid hz
          have hgs := hid (show g < w2.heap.size from (RowOwn.within O2h.out g rfl).2)
          clear hz hM O2 R8 R9 R9' k9 hSk hs2 hs1' hF64 hG64 hto hn'
          generalize hs1n : (s.1 : Int) = s1 at *
          generalize hs2n : (s.2 : Int) = s2 at *
          clear hs1n hs2n
          go_wp2_with fail
          refine (KT.out _).mono ?_
          rintro e w3 ⟨rfl, hb3⟩
          have O3 := O2h.out.more hb3
          have D3 := hid (below2 D2.out hb3 D2.out.size)
          have v1 := (hb3.cell (p := ⟨g, z * 2 + 1, none⟩) hgs.out).trans x1
          have v0 := (hb3.cell (p := ⟨g, z * 2, none⟩) hgs.out).trans x0
          obtain ⟨fz, O4⟩ := hst.out w3 O3
          rw [← hz'.out] at O4
          have S4 := Sole.setCell (S := fun j => w1.heap.size ≤ j) w3 (b := g) (o := z * 2 + 1) (.int .u64 (M : Int)) hgw
          have E := hid (show RowOwn spT (w3.setCell ⟨g, z * 2 + 1, none⟩ (.int .u64 (M : Int))).drew w1.heap.size (.slice (some ⟨g, 0, none⟩) (z + 1) c) (S' ++ [(s.1, M)]) ∧ Below w1.heap.size w1 (w3.setCell ⟨g, z * 2 + 1, none⟩ (.int .u64 (M : Int))).drew from ⟨O4.drew, ((below2 Bh.out D3.out Bh.out.size).trans (S4.below (by have := Bh.out.size; have := D3.out.size; omega) fun j h => h)).drew⟩)
          clear hb3 O3 O4 S4 KT x0 x1 hst D2 O2h Oh
          go_wp2_with fail
          go_region
          go_wp2_with fail
          go_roundw
          case rel =>
            have hl2 : (S' ++ [(s.1, M)]).length = z + 1 := by rw [hz'.out]; simp
            refine ⟨k + 1, _, c, S' ++ [(s.1, M)], by rw [hl2], by go_num, hkn.out, ?_, hid hS2.out.symm, by rw [hl2]; exact E.out.1, E.out.2⟩
            have := hSk'.out
            simp at this ⊢
            omega
          case measure => have := hkn.out; simp [intOf]; omega
        · rw [decide_eq_false hto] at KT
          have hS2 := hid (show spansL ((L.take (k + 1)).map ivC) = S' ++ [s] ++ [(F, G)] by rw [hnx.out, ← hSe.out, hnew.out hto])
          have hz' := hid hz
          clear hz R8 R9 R9' k9 hSk hs2 hs1' hto hn'
          go_wp2_with fail
          refine (KT.out _).mono ?_
          rintro e w3 ⟨rfl, hb3⟩
          have D3 := hid (below2 D2.out hb3 D2.out.size)
          have O3 := O2.more hb3
          have b3 := tbelow_one w3 (.cells #[.int .u64 (F : Int), .int .u64 (G : Int)] 44)
          have RI : RowOf spT (w3.alloc (.cells #[.int .u64 (F : Int), .int .u64 (G : Int)] 44)) (some ⟨w3.heap.size, 0, none⟩) [(F, G)] := rowOf_one spOk (Blk.new w3 #[.int .u64 (F : Int), .int .u64 (G : Int)] 44) (x := (F, G)) rfl
          have hl9 : (S' ++ [s]).length = z + 1 := by rw [hz'.out]; simp
          obtain ⟨v', w4, hr, O4, G4, N4⟩ := append_row spOk w1.heap.size 40 (w3.alloc (.cells #[.int .u64 (F : Int), .int .u64 (G : Int)] 44)) _ _ (O3.more b3) (some ⟨w3.heap.size, 0, none⟩) 1 [(F, G)] RI (by rw [hl9]; show (z + 1 + 1) * 16 ≤ _; have := hSk'.out; rw [hl9] at this; have := hkn.out; have := hnh.out; omega) (by rw [hl9]; unfold maxLen; have := hSk'.out; rw [hl9] at this; have := hkn.out; have := hnh.out; simp; omega) (by have := Bh.out.size; have := D3.out.size; simp; omega)
          obtain ⟨q', c', hv', _⟩ := RowOwn.open spOk O4
          have hl8 : (S' ++ [s] ++ [(F, G)]).length = z + 1 + 1 := by rw [List.length_append, hl9]; rfl
          rw [hl8] at hv'
          subst hv'
          have E := hid (show RowOwn spT w4 w1.heap.size (.slice q' (z + 1 + 1) c') (S' ++ [s] ++ [(F, G)]) ∧ Below w1.heap.size w1 w4 from ⟨O4, Below.grown (below2 Bh.out (below2 D3.out b3 D3.out.size) Bh.out.size) G4 (by have := Bh.out.size; have := D3.out.size; simp; omega) fun y hy => (RowOwn.within Oh.out y hy).1⟩)
          have hr1 : (Builtin.append_ #[40, 40] 40 #[.slice (some ⟨g, 0, none⟩) (z + 1) c, .slice (some ⟨w3.heap.size, 0, none⟩) 1 1]).run Try.prog (w3.alloc (.cells #[.int .u64 (F : Int), .int .u64 (G : Int)] 44)) = .ok (.slice q' (z + 1 + 1) c') w4 := by rw [← hz'.out] at hr; exact hr
          clear O2 O3 b3 RI O4 G4 N4 hr Oh Bh D2 D3 hb3 KT x0 x1 O2h
          replace hF64 := hid hF64
          replace hG64 := hid hG64
          replace hl8 := hid hl8
          replace hl9 := hid hl9
          go_wp2_with (at_builtin; refine Lib.wpList_append_run _ rfl _ _ _ _ rfl _ _ rfl rfl _ _ hr1 ?_)
          go_roundw
          case rel =>
            refine ⟨k + 1, q', c', S' ++ [s] ++ [(F, G)], by rw [hl8.out], by go_num, hkn.out, ?_, hid hS2.out.symm, by rw [hl8.out]; exact E.out.1, E.out.2⟩
            have := hSk'.out
            rw [hl9.out] at this
            rw [hl8.out]
            omega
          case measure => have := hkn.out; simp [intOf]; omega
    · have hlt1 : ¬ (k : Int) < (n : Int) := by omega
      obtain rfl : k = n := by omega
      obtain ⟨q9, c9, hv9, k9, m9, R9⟩ := RowOwn.open spOk O
      cases hv9
      have hfin := hid (show SpOk S (L.map ivC) by
        rw [hSe.out, List.take_of_length_le (by rw [hLlh.out]; exact Nat.le_refl _)]
        have := spans_ok (L.map ivC) [] [] SpOk.nil (fun c hc => ?_) ?_ (by simp)
        · simpa [spansL] using this
        · obtain ⟨b', hb', rfl⟩ := List.mem_map.1 hc
          have hm' := hPh.out.subset hb'
          obtain ⟨i, hi, e⟩ := List.mem_map.1 hm'
          obtain ⟨hc', hT⟩ := hfh.out i (by simpa using hi)
          rw [← e, hT]
          exact ⟨Nat.le_add_right _ _, fst_top (x := (f i).x) (y := (f i).y) hc'.1 hc'.2.1 hc'.2.2.1 hc'.2.2.2 (lvl_bd _).1⟩
        · rw [List.pairwise_map]
          refine hSh.out.imp (fun {a b} h => ?_)
          show jC a ≤ jC b
          omega)
      have E := hid (show S.length ≤ k ∧ S.length ≤ c ∧ c ≤ maxLen ∧ RowOf spT wr q S ∧ Below w.heap.size w wr from ⟨hSk, k9, m9, R9, below2 D1.out hb D1.out.size⟩)
      clear O hb R9 k9 m9 hSk hk
      go_wp2
      go_ret
      exact ⟨q, c, S, rfl, E.out.1, E.out.2.1, E.out.2.2.1, L, hPh.out, hfin.out, E.out.2.2.2.1, E.out.2.2.2.2⟩
end Go.Proofs.Ytdepmoocjnmbeaa
