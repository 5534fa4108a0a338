/-
  Package tiles: Order.
-/
import Derived.Test.YtdepmoocjnmbeaaTilesZ
import Derived.Test.YtdepmoocjnmbeaaTilesMet
import Derived.Test.YtdepmoocjnmbeaaTilesSort
import Derived.Test.YtdepmoocjnmbeaaZorderGrw
import Derived.Test.YtdepmoocjnmbeaaSortRow
import Derived.Test.YtdepmoocjnmbeaaCmpInt
import Derived.Test.YtdepmoocjnmbeaaWide
import Derived.Test.YtdepmoocjnmbeaaLay
import Derived.Shelf.Abstract
namespace Go.Proofs.Ytdepmoocjnmbeaa
open Go.RowKit
set_option linter.unusedVariables false
set_option linter.unusedSimpArgs false

/-- A cell that may stand in the row. -/
structure CB where
  x : Nat
  y : Nat
  l : Int
  hx : x < 2 ^ 32
  hy : y < 2 ^ 32
instance : Inhabited CB := ⟨⟨0, 0, 0, by decide, by decide⟩⟩
def cbT : RowT CB := { ty := 32, sl := 27, sz := 3, bytes := 16, zero := cl 0 0 0, cells := fun c => [.int .u32 (c.x : Int), .int .u32 (c.y : Int), .int .i64 c.l], dflt := default }
theorem cbOk : cbT.Ok := ⟨Try.underlying27, by kernel_rfl, rfl, by decide, fun _ => rfl, fun x u hu => by
  simp [cbT] at hu
  rcases hu with rfl | rfl | rfl <;> rfl⟩
def CB.c (b : CB) : Cl := ⟨b.x, b.y, b.l⟩
def jC (b : CB) : Nat := joinN b.x b.y
def cfC (a b : CB) : Int := orI (cmpI (jC a : Int) (jC b : Int)) (cmpI a.l b.l)
theorem tcmpI_cases (a b : Int) : (a < b ∧ cmpI a b = -1) ∨ (b < a ∧ cmpI a b = 1) ∨ (a = b ∧ cmpI a b = 0) := by unfold cmpI; split <;> (try split) <;> omega
theorem cfC_lt (a b : CB) : Go.Proofs.ltOf cfC a b = decide (jC a < jC b ∨ jC a = jC b ∧ a.l < b.l) := by
  unfold Go.Proofs.ltOf cfC orI
  rcases tcmpI_cases (jC a : Int) (jC b : Int) with ⟨h, e⟩ | ⟨h, e⟩ | ⟨h, e⟩
  · have h' : jC a < jC b := by omega
    rw [e]; simp [h']
  · have h1 : ¬ jC a < jC b := by omega
    have h2 : ¬ jC a = jC b := by omega
    rw [e]; simp [h1, h2]
  · have h2 : jC a = jC b := by omega
    rw [e]
    rcases tcmpI_cases a.l b.l with ⟨k, e'⟩ | ⟨k, e'⟩ | ⟨k, e'⟩
    · rw [e']; simp [h2, k]
    · have k1 : ¬ a.l < b.l := by omega
      rw [e']; simp [h2, k1]
    · have k1 : ¬ a.l < b.l := by omega
      rw [e']; simp [h2, k1]
theorem swo_c : Go.Sort.SWO (Go.Proofs.ltOf cfC) :=
  ⟨fun x => by rw [cfC_lt]; simp, fun x y z h k => by rw [cfC_lt] at *; simp only [decide_eq_true_eq] at *; omega, fun x y z h k => by rw [cfC_lt] at *; simp only [decide_eq_false_iff_not] at *; omega⟩

set_option maxRecDepth 100000 in
set_option maxHeartbeats 4000000 in
theorem ordc_any (a b : CB) (w : World) : Calls Try.prog 32 #[.agg (cbT.cells a).toArray, .agg (cbT.cells b).toArray] w fun e w' => e = .returned (.int .i64 (cfC a b)) ∧ ∃ q os', w' = Go.Sort.grow (w.drewN q) os' := by
  have K0 := hid (fun w => joing_nat a.x a.y a.hx a.hy w)
  have K1 := hid (fun w => joing_nat b.x b.y b.hx b.hy w)
  have K2 := hid (fun w => compare_u64 (jC a : Int) (jC b : Int) w)
  have K3 := hid (fun w => cmpi_any a.l b.l w)
  have K5 := hid (fun x o w c0 c1 => or2 (cmpI (jC a : Int) (jC b : Int)) (cmpI a.l b.l) x o w c0 c1)
  unfold cfC
  generalize cmpI (jC a : Int) (jC b : Int) = d0 at *
  generalize cmpI a.l b.l = d1 at *
  generalize orI d0 d1 = d at *
  unfold jC at K2
  generalize ((joinN a.x a.y : Nat) : Int) = j0 at *
  generalize ((joinN b.x b.y : Nat) : Int) = j1 at *
  obtain ⟨ax, ay, al, ahx, ahy⟩ := a
  obtain ⟨bx, by', bl, bhx, bhy⟩ := b
  obtain ⟨B0, B1, H⟩ := @boxed2 w _ #[.int .u32 (ax : Int), .int .u32 (ay : Int), .int .i64 al] #[.int .u32 (bx : Int), .int .u32 (by' : Int), .int .i64 bl] 32 32 (Below.refl _ _)
  have hH := hid (show Grw w _ from ((Grw.refl w).alloc (.cells #[.int .u32 (ax : Int), .int .u32 (ay : Int), .int .i64 al] 32)).alloc (.cells #[.int .u32 (bx : Int), .int .u32 (by' : Int), .int .i64 bl] 32))
  simp only at K0 K1 K2 K3 ⊢
  show Calls Try.prog 32 #[.agg #[.int .u32 (ax : Int), .int .u32 (ay : Int), .int .i64 al], .agg #[.int .u32 (bx : Int), .int .u32 (by' : Int), .int .i64 bl]] w _
  clear H ahx ahy bhx bhy
  go_enter Try.func32, Try.ntmps32
  go_wp2_with fail
  generalize (w.alloc (.cells #[.int .u32 (ax : Int), .int .u32 (ay : Int), .int .i64 al] 32)).alloc (.cells #[.int .u32 (bx : Int), .int .u32 (by' : Int), .int .i64 bl] 32) = W at *
  have q0 := fun u : LaterG W => u.blk B0
  have q1 := fun u : LaterG W => u.blk B1
  clear B0 B1
  refine wp_region_lateg 16 (by kernel_rfl) (by kernel_rfl) ?_
  simp only [List.take_succ_cons, List.take_zero, List.drop_succ_cons, List.drop_zero]
  iterate 16 (go_big_quiet_step (first | (go_at_call 17; first | (with_reducible exact lateg_call (K0.out _)) | (with_reducible exact lateg_call (K1.out _))) | (go_at_call 34; (with_reducible exact lateg_same (K2.out _))) | (go_at_call 35; (with_reducible exact lateg_same (K3.out _)))))
  refine wpQuiet_nil ?_
  intro w3 h3'
  have h3 := hid (lateg_out h3')
  clear h3' q0 q1
  go_wp2_with (go_at_call 33; refine (K5.out _ _ _ (by go_simp) (by go_simp)).mono ?_; rintro e w' ⟨rfl, rfl⟩)
  go_ret
  exact ⟨rfl, (hH.out.trans (h3.out.alloc _)).form⟩

set_option maxRecDepth 100000 in
theorem tkpdq0 (p : Option Addr) (c : Nat) (l : Int) (f : Value) (w : World) : Calls Try.prog 41 #[.slice p 0 c, .int .i64 0, .int .i64 0, .int .i64 l, f] w fun e w' => e = .returned (.tuple #[]) ∧ w' = w := by
  have K := hid (tkins p c 0 (by omega) f w)
  go_enter Try.func41, Try.ntmps41
  go_wp2_with fail
  refine wp_loop_rounds 1 ?_
  rw [rounds_succ]
  go_wp2_with fail
  refine K.out.mono ?_
  rintro e w1 ⟨rfl, hw⟩
  rw [hw]
  clear hw w1 K
  go_wp2_with fail
  (try simp only [Exit.inBlock, Exit.then]); refine bodyPost_ret (results_none rfl _ _ _) rfl ?_
  exact ⟨rfl, rfl⟩
set_option maxRecDepth 100000 in
theorem tkbits640 (w : World) : Calls Try.prog 55 #[.int .u64 0] w fun e w' => (∃ n : Int, e = .returned (.int .i64 n)) ∧ w' = w := by
  go_enter Try.func55, Try.ntmps55
  go_wp2
  go_ret
  exact ⟨⟨_, rfl⟩, rfl⟩
set_option maxRecDepth 100000 in
theorem tkbits0 (w : World) : Calls Try.prog 42 #[.int .u64 0] w fun e w' => (∃ n : Int, e = .returned (.int .i64 n)) ∧ w' = w := by
  have K := hid (tkbits640 w)
  go_enter Try.func42, Try.ntmps42
  go_wp2_with fail
  refine K.out.mono ?_
  rintro e w1 ⟨⟨n, rfl⟩, hw⟩
  rw [hw]
  clear hw w1 K
  go_wp2
  go_ret
  exact ⟨⟨n, rfl⟩, rfl⟩
set_option maxRecDepth 100000 in
theorem tksort0 (p : Option Addr) (c : Nat) (f : Value) (w : World) : Calls Try.prog 31 #[.slice p 0 c, f] w fun e w' => e = .returned (.tuple #[]) ∧ w' = w := by
  have K := hid (tkbits0 w)
  have K2 := hid (fun l => tkpdq0 p c l f w)
  go_enter Try.func31, Try.ntmps31
  go_wp2_with fail
  refine K.out.mono ?_
  rintro e w1 ⟨⟨n, rfl⟩, hw⟩
  rw [hw]
  clear hw w1 K
  go_wp2_with fail
  refine (K2.out _).mono ?_
  rintro e w1 ⟨rfl, hw⟩
  rw [hw]
  clear hw w1 K2
  go_wp2
  go_end0
  exact ⟨rfl, rfl⟩
theorem isAgg_cell : ∀ w, (isAgg 32).run Try.prog w = .ok true w := Try.isAgg32
theorem sizeOf_cell : ∀ w, (sizeOf 32).run Try.prog w = .ok 3 w := Try.sizeOf32
/-- slices.SortFunc of any cells. -/
theorem tsort_any (w : World) (base : Nat) (q : Option Addr) (n cap : Nat) (L : List CB) (hl : L.length = n) (hn : n ≤ 1000) (O : RowOwn cbT w base (.slice q n cap) L) :
    Calls Try.prog 31 #[.slice q n cap, .func (.func 32) #[] #[]] w fun e w' => e = .returned (.tuple #[]) ∧ ∃ L' : List CB, L'.Perm L ∧ L'.Pairwise (fun a b => jC a < jC b ∨ jC a = jC b ∧ a.l ≤ b.l) ∧ RowOf cbT w' q L' ∧ Sole (fun j => base ≤ j) w w' := by
  rcases RowOwn.form O with ⟨hv, hl0⟩ | ⟨g, c', hv, hg, hgs, hc1, hc2⟩
  · cases hv
    refine (tksort0 none 0 _ w).mono ?_
    rintro e w' ⟨rfl, hw⟩
    rw [hw]
    exact ⟨rfl, [], by rw [hl0], List.Pairwise.nil, .inl rfl, Sole.refl _ _⟩
  · rw [hl] at hv
    cases hv
    subst hl
    have h := sort_row cbOk Try.sortPts isAgg_cell sizeOf_cell cfC swo_c 32 (enters_of Try.func32 (by kernel_rfl) rfl) (fun x y W => ordc_any x y W) w base g cap L (by omega) O
    refine Calls.mono h ?_
    rintro e w' ⟨rfl, L', h1, h2, h3, h4⟩
    refine ⟨rfl, L', h1, h2.imp (fun {a b} h => ?_), h3, h4.mono fun k _ e => by rw [e]; exact hg⟩
    rw [cfC_lt] at h
    simp only [decide_eq_false_iff_not] at h
    omega

/-- What a cell is taken as. -/
def takeC (c : Cl) (hc : 0 ≤ c.x ∧ c.x ≤ 4294967295 ∧ 0 ≤ c.y ∧ c.y ≤ 4294967295) : CB :=
  ⟨(floorI c.x (lvl c.l)).toNat, (floorI c.y (lvl c.l)).toNat, lvl c.l, by have := floor_bd (L := lvl c.l) hc.1 hc.2.1 (lvl_bd c.l).1 (lvl_bd c.l).2; omega, by have := floor_bd (L := lvl c.l) hc.2.2.1 hc.2.2.2 (lvl_bd c.l).1 (lvl_bd c.l).2; omega⟩
abbrev Cl.may (c : Cl) : Prop := 0 ≤ c.x ∧ c.x ≤ 4294967295 ∧ 0 ≤ c.y ∧ c.y ≤ 4294967295
theorem takeC_cells (c : Cl) (hc : c.may) : cbT.cells (takeC c hc) = [.int .u32 (floorI c.x (lvl c.l)), .int .u32 (floorI c.y (lvl c.l)), .int .i64 (lvl c.l)] := by
  have h1 := floor_bd (L := lvl c.l) hc.1 hc.2.1 (lvl_bd c.l).1 (lvl_bd c.l).2
  have h2 := floor_bd (L := lvl c.l) hc.2.2.1 hc.2.2.2 (lvl_bd c.l).1 (lvl_bd c.l).2
  show [Value.int .u32 (((floorI c.x (lvl c.l)).toNat : Nat) : Int), .int .u32 (((floorI c.y (lvl c.l)).toNat : Nat) : Int), .int .i64 (lvl c.l)] = _
  rw [show (((floorI c.x (lvl c.l)).toNat : Nat) : Int) = floorI c.x (lvl c.l) by omega, show (((floorI c.y (lvl c.l)).toNat : Nat) : Int) = floorI c.y (lvl c.l) by omega]

set_option maxRecDepth 100000 in
set_option maxHeartbeats 8000000 in
theorem torder_any (p : Option Addr) (n cap : Nat) (T : Nat → CB) (f : Nat → Cl) (hf : ∀ i, i < n → ∃ h : (f i).may, T i = takeC (f i) h) (hn : n ≤ 100) (h1 : n ≤ cap) (h2 : cap ≤ maxLen) (w : World) (R : RowP w p 3 n (fun i => clT.cells (f i))) :
    Calls Try.prog 18 #[.slice p n cap] w fun e w' => ∃ (q : Option Addr) (c : Nat) (L : List CB), e = .returned (.slice q n c) ∧ n ≤ c ∧ c ≤ maxLen ∧ L.Perm ((List.range n).map T) ∧ L.Pairwise (fun a b => jC a < jC b ∨ jC a = jC b ∧ a.l ≤ b.l) ∧ RowOf cbT w' q L ∧ Below w.heap.size w w' := by
  have HR := hid R
  have hfh := hid hf
  have hn1 : (n : Int) ≤ 100 := by omega
  have hnh := hid hn
  clear R hf h1 h2 hn
  go_enter Try.func18, Try.ntmps18
  go_wp2_with fail
  go_loopw [3, 8] (fun v i wr => ∃ (k : Nat) (q : Option Addr) (c : Nat), v = .slice q k c ∧ i = .int .i64 (k : Int) ∧ k ≤ n ∧ RowOwn cbT wr w.heap.size (.slice q k c) ((List.range k).map T) ∧ Below w.heap.size w wr) (fun _ i _ => n - (intOf i).toNat)
  case atStart => exact ⟨0, none, 0, rfl, rfl, Nat.zero_le _, RowOwn.nil _ _, Below.refl _ _⟩
  case round =>
    obtain ⟨k, q, c, rfl, rfl, hk, O, hb⟩ := hrel
    have Oh := hid O
    have Bh := hid hb
    by_cases hlt : k < n
    · have hlt1 : (k : Int) < (n : Int) := by omega
      obtain ⟨hm, hT⟩ := hfh.out k hlt
      obtain ⟨b, o, rfl, R0⟩ := HR.out.row (by omega)
      have R1 := R0.below hb R0.lt
      have y0 := R1.at0 hlt (v := .int .u32 (f k).x) rfl
      have y1 := R1.at1 hlt (v := .int .u32 (f k).y) rfl
      have y2 := R1.at2 hlt (v := .int .i64 (f k).l) rfl
      have KA := hid (fun w => at_any (f k).x (f k).y (f k).l hm.1 hm.2.1 hm.2.2.1 hm.2.2.2 w)
      have hcells := hid (takeC_cells (f k) hm)
      have hTh := hid hT
      have hkn := hid hlt
      clear R0 R1 O hb hlt hk hT
      generalize f k = C at *
      have b0 := tbelow_one wr (.cells #[.int .u32 C.x, .int .u32 C.y, .int .i64 C.l] 32)
      have D0 := hid b0
      clear b0
      go_wp2_with fail
      refine (KA.out _).mono ?_
      rintro e w2 ⟨rfl, hb2⟩
      have D2 := hid (below2 D0.out hb2 D0.out.size)
      generalize floorI C.x (lvl C.l) = X at *
      generalize floorI C.y (lvl C.l) = Y at *
      generalize lvl C.l = L at *
      have O2 := Oh.out.more D2.out
      have b3 := tbelow_one w2 (.cells #[.int .u32 X, .int .u32 Y, .int .i64 L] 32)
      have RI : RowOf cbT (w2.alloc (.cells #[.int .u32 X, .int .u32 Y, .int .i64 L] 32)) (some ⟨w2.heap.size, 0, none⟩) [T k] := rowOf_one cbOk (Blk.new w2 #[.int .u32 X, .int .u32 Y, .int .i64 L] 32) (x := T k) (by rw [hTh.out, hcells.out])
      have hl : ((List.range k).map T).length = k := by simp
      obtain ⟨v', w3, hr, O3, G3, N3⟩ := append_row cbOk w.heap.size 27 (w2.alloc (.cells #[.int .u32 X, .int .u32 Y, .int .i64 L] 32)) _ _ (O2.more b3) (some ⟨w2.heap.size, 0, none⟩) 1 [T k] RI (by rw [hl]; show (k + 1) * 16 ≤ _; have := hkn.out; have := hnh.out; omega) (by rw [hl]; unfold maxLen; have := hkn.out; have := hnh.out; simp; omega) (by have := Bh.out.size; have := D2.out.size; simp; omega)
      obtain ⟨q', c', hv', _⟩ := RowOwn.open cbOk O3
      have hl2 : ((List.range k).map T ++ [T k]).length = k + 1 := by simp
      rw [hl2] at hv'
      subst hv'
      have hmap : (List.range k).map T ++ [T k] = (List.range (k + 1)).map T := by rw [List.range_succ, List.map_append]; rfl
      rw [hmap] at O3
      have E := hid (show RowOwn cbT w3 w.heap.size (.slice q' (k + 1) c') ((List.range (k + 1)).map T) ∧ Below w.heap.size w w3 from ⟨O3, Below.grown (below2 Bh.out (below2 D2.out b3 D2.out.size) Bh.out.size) G3 (by have := Bh.out.size; have := D2.out.size; simp; omega) fun z hz => (RowOwn.within Oh.out z hz).1⟩)
      have hr1 : (Builtin.append_ #[27, 27] 27 #[.slice q k c, .slice (some ⟨w2.heap.size, 0, none⟩) 1 1]).run Try.prog (w2.alloc (.cells #[.int .u32 X, .int .u32 Y, .int .i64 L] 32)) = .ok (.slice q' (k + 1) c') w3 := hr
      clear O2 b3 RI O3 G3 N3 hr hmap hl hl2 hb2 D0 KA y0 y1 y2 Oh Bh hcells hTh hm D2
      go_wp2_with (at_builtin; refine Lib.wpList_append_run _ rfl _ _ _ _ rfl _ _ rfl rfl _ _ hr1 ?_)
      go_roundw
      case rel => exact ⟨k + 1, q', c', rfl, by go_num, hkn.out, E.out.1, E.out.2⟩
      case measure => have := hkn.out; simp [intOf]; omega
    · have hlt1 : ¬ (k : Int) < (n : Int) := by omega
      obtain rfl : k = n := by omega
      have KS := hid (fun (w2 : World) (O2 : RowOwn cbT w2 w.heap.size (.slice q k c) ((List.range k).map T)) => tsort_any w2 w.heap.size q k c _ (by simp) (by have := hnh.out; omega) O2)
      obtain ⟨q9, c9, hv9, k9, m9, _⟩ := RowOwn.open cbOk O
      rw [show ((List.range k).map T).length = k by simp] at hv9 k9
      have hqc := hid (show k ≤ c ∧ c ≤ maxLen by cases hv9; exact ⟨k9, m9⟩)
      clear O hb hk hv9 k9 m9
      go_wp2_with fail
      refine (KS.out _ Oh.out).mono ?_
      rintro e w5 ⟨rfl, L', h1, h2, h3, h4⟩
      have E := hid (show L'.Perm ((List.range k).map T) ∧ L'.Pairwise (fun a b => jC a < jC b ∨ jC a = jC b ∧ a.l ≤ b.l) ∧ RowOf cbT w5 q L' ∧ Below w.heap.size w w5 from ⟨h1, h2, h3, Bh.out.trans (h4.below Bh.out.size fun j hj => hj)⟩)
      clear h1 h2 h3 h4 KS Oh
      go_wp2
      go_ret
      exact ⟨q, c, L', rfl, hqc.out.1, hqc.out.2, E.out.1, E.out.2.1, E.out.2.2.1, E.out.2.2.2⟩
end Go.Proofs.Ytdepmoocjnmbeaa
