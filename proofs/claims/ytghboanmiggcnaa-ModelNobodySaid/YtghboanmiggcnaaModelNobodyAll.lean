/-
  ModelNobody answers true for any point, any window and any points, and changes nothing that was there: a model that nobody made has nothing. For every input, without a condition.
-/
import Derived.Test.YtghboanmiggcnaaChecked
import Derived.Test.YtghboanmiggcnaaBig
import Derived.Test.YtghboanmiggcnaaAidMore
import Derived.Test.YtghboanmiggcnaaRegion
import Derived.Lib.BufferMore
import Derived.Test.YtghboanmiggcnaaNodeDef
import Derived.WalkSpells
import Derived.ChangeMaps5
import Derived.Lib.SlKeysI
import Derived.RangeFuncMany
import Derived.RangeFuncKeeps
import Derived.RangeFuncLeaves
import Derived.Sort.MapsRangeIn
import Derived.Sort.KeysCollected
import Derived.WalkKit
import Derived.OwnWalkIn
import Derived.TacticsInMore
import Derived.RegionIn
import Derived.LoopNIn
import Derived.LoopIn
import Derived.Shelf.Abstract
import Derived.Maps.OwnSet
import Derived.Test.YtghboanmiggcnaaSole
import Derived.Test.YtghboanmiggcnaaSlices
import Derived.RangeFuncBox
import Derived.RangeFuncNested
import Derived.Maps.AppendAt
import Derived.Shelf.SlIter.Collect
import Derived.Test.YtghboanmiggcnaaPointGet
import Derived.BigQuiet
import Derived.WideKeyElems
import Derived.Deep.AppendLies
import Derived.Deep.RegionLaw
import Derived.Lib.AppendZeros
import Derived.Test.YtghboanmiggcnaaNodeTotal
import Derived.SizedLaws
import Derived.Test.YtghboanmiggcnaaOct
import Derived.Test.YtghboanmiggcnaaLift
import Derived.Test.YtghboanmiggcnaaOpen

/-
  The library's sorts of points, at none and at one: nothing is moved.
-/





namespace Go.Proofs.Ytghboanmiggcnaa
open Go.RowKit
set_option linter.unusedVariables false
set_option linter.unusedSimpArgs false

set_option maxRecDepth 100000 in
theorem kins (p : Option Addr) (c : Nat) (n : Nat) (hn : n ≤ 1) (f : Value) (w : World) : Calls Try.prog 75 #[.slice p n c, .int .i64 0, .int .i64 n, f] w fun e w' => e = .returned (.tuple #[]) ∧ w' = w := by
  have h1 : decide ((1 : Int) < (n : Int)) = false := decide_eq_false (by omega)
  go_enter Try.func75, Try.ntmps75
  go_wp2_with fail
  refine wp_loop_rounds 1 ?_
  rw [rounds_succ]
  go_wp2
  go_end0
  exact ⟨rfl, rfl⟩
set_option maxRecDepth 100000 in
theorem kstable (p : Option Addr) (c : Nat) (n : Nat) (hn : n ≤ 1) (f : Value) (w : World) : Calls Try.prog 61 #[.slice p n c, .int .i64 n, f] w fun e w' => e = .returned (.tuple #[]) ∧ w' = w := by
  have h1 : decide ((20 : Int) ≤ (n : Int)) = false := decide_eq_false (by omega)
  have h2 : decide ((20 : Int) < (n : Int)) = false := decide_eq_false (by omega)
  have K := hid (kins p c n hn f w)
  go_enter Try.func61, Try.ntmps61
  go_wp2_with fail
  refine wp_loop_rounds 1 ?_
  rw [rounds_succ]
  go_wp2_with fail
  refine K.out.mono ?_
  rintro e w1 ⟨rfl, hw⟩
  rw [hw]
  clear hw w1 K
  go_wp2_with fail
  refine wp_loop_rounds 1 ?_
  rw [rounds_succ]
  go_wp2
  go_end0
  exact ⟨rfl, rfl⟩
set_option maxRecDepth 100000 in
theorem ksortStable (p : Option Addr) (c : Nat) (n : Nat) (hn : n ≤ 1) (f : Value) (w : World) : Calls Try.prog 43 #[.slice p n c, f] w fun e w' => e = .returned (.tuple #[]) ∧ w' = w := by
  have K := hid (kstable p c n hn f w)
  go_enter Try.func43, Try.ntmps43
  go_wp2_with fail
  refine K.out.mono ?_
  rintro e w1 ⟨rfl, hw⟩
  rw [hw]
  clear hw w1 K
  go_wp2
  go_end0
  exact ⟨rfl, rfl⟩
set_option maxRecDepth 100000 in
theorem kpdq (p : Option Addr) (c : Nat) (l : Int) (f : Value) (w : World) : Calls Try.prog 80 #[.slice p 1 c, .int .i64 0, .int .i64 1, .int .i64 l, f] w fun e w' => e = .returned (.tuple #[]) ∧ w' = w := by
  have K := hid (kins p c 1 (Nat.le_refl _) f w)
  go_enter Try.func80, Try.ntmps80
  go_wp2_with fail
  refine wp_loop_rounds 1 ?_
  rw [rounds_succ]
  go_wp2_with fail
  refine K.out.mono ?_
  rintro e w1 ⟨rfl, hw⟩
  rw [hw]
  clear hw w1 K
  go_wp2_with fail
  (try simp only [Exit.inBlock, Exit.then]); refine bodyPost_ret (results_none rfl _ _ _) rfl ?_
  exact ⟨rfl, rfl⟩
set_option maxRecDepth 100000 in
theorem kbits64 (w : World) : Calls Try.prog 91 #[.int .u64 1] w fun e w' => (∃ n : Int, e = .returned (.int .i64 n)) ∧ w' = w := by
  go_enter Try.func91, Try.ntmps91
  go_wp2
  go_ret
  exact ⟨⟨_, rfl⟩, rfl⟩
set_option maxRecDepth 100000 in
theorem kbits (w : World) : Calls Try.prog 74 #[.int .u64 1] w fun e w' => (∃ n : Int, e = .returned (.int .i64 n)) ∧ w' = w := by
  have K := hid (kbits64 w)
  go_enter Try.func74, Try.ntmps74
  go_wp2_with fail
  refine K.out.mono ?_
  rintro e w1 ⟨⟨n, rfl⟩, hw⟩
  rw [hw]
  clear hw w1 K
  go_wp2
  go_ret
  exact ⟨⟨n, rfl⟩, rfl⟩
set_option maxRecDepth 100000 in
theorem ksort1 (p : Option Addr) (c : Nat) (f : Value) (w : World) : Calls Try.prog 68 #[.slice p 1 c, f] w fun e w' => e = .returned (.tuple #[]) ∧ w' = w := by
  have K := hid (kbits w)
  have K2 := hid (fun l => kpdq p c l f w)
  go_enter Try.func68, Try.ntmps68
  go_wp2_with fail
  refine K.out.mono ?_
  rintro e w1 ⟨⟨n, rfl⟩, hw⟩
  rw [hw]
  clear hw w1 K
  go_wp2_with fail
  refine (K2.out _).mono ?_
  rintro e w1 ⟨rfl, hw⟩
  rw [hw]
  clear hw w1 K2
  go_wp2
  go_end0
  exact ⟨rfl, rfl⟩
set_option maxRecDepth 100000 in
theorem kclone_nil (w : World) : Calls Try.prog 56 #[.slice none 0 0] w fun e w' => e = .returned (.slice none 0 0) ∧ w' = w := by
  have kE := Lib.run_eql_slice_nil_nil (P := Try.prog) w (t := 26) (e := 53) 0 0 Try.underlying26
  go_enter Try.func56, Try.ntmps56
  go_wp2
  go_ret
  exact ⟨rfl, rfl⟩
end Go.Proofs.Ytghboanmiggcnaa

/-
  Package model: of models that nobody made nothing is told.
-/





namespace Go.Proofs.Ytghboanmiggcnaa
open Go.RowKit Go.Maps
set_option linter.unusedVariables false
set_option linter.unusedSimpArgs false

theorem mbelow_one (w : World) (o : Obj) : Below w.heap.size w (w.alloc o) := (Below.refl _ _).alloc (Nat.le_refl _) _
set_option maxRecDepth 100000 in
theorem mmadeNil (w : World) : Calls Try.prog 35 #[.pointer none] w fun e w' => e = .returned (.bool false) ∧ w' = w := by
  go_enter Try.func35, Try.ntmps35
  go_wp2
  go_ret
  exact ⟨rfl, rfl⟩
set_option maxRecDepth 100000 in
theorem mmadeOf (p : Nat) (r : Option Nat) (w : World) (B : Blk w p #[.map r]) : Calls Try.prog 35 #[.pointer (some ⟨p, 0, none⟩)] w fun e w' => e = .returned (.bool r.isSome) ∧ w' = w := by
  obtain ⟨lb, kb, fb⟩ := B
  have kN := run_neq_map_nil (P := Try.prog) w 57 _ _ r Try.underlying57
  go_enter Try.func35, Try.ntmps35
  go_wp2
  go_ret
  exact ⟨rfl, rfl⟩
/-- A model that nobody made. -/
def NoModel (w : World) (v : Value) : Prop := v = .pointer none ∨ ∃ p, v = .pointer (some ⟨p, 0, none⟩) ∧ Blk w p #[.map none]
theorem NoModel.more {w w' : World} {v : Value} (h : NoModel w v) (hb : Below w.heap.size w w') : NoModel w' v := h.imp id fun ⟨p, e, B⟩ => ⟨p, e, B.more hb⟩
theorem nmMade (v : Value) (w : World) (h : NoModel w v) : Calls Try.prog 35 #[v] w fun e w' => e = .returned (.bool false) ∧ w' = w := by
  rcases h with rfl | ⟨p, rfl, B⟩
  · exact mmadeNil w
  · exact mmadeOf p none w B
set_option maxRecDepth 100000 in
theorem nmPoints (v : Value) (w : World) (h : NoModel w v) : Calls Try.prog 23 #[v] w fun e w' => e = .returned (.slice none 0 0) ∧ w' = w := by
  have K := hid (nmMade v w h)
  go_enter Try.func23, Try.ntmps23
  go_wp2_with fail
  refine K.out.mono ?_
  rintro e w1 ⟨rfl, hw⟩
  rw [hw]
  clear hw w1 K
  go_wp2
  go_ret
  exact ⟨rfl, rfl⟩
abbrev mpt0 : Value := .agg #[.int .i64 0, .int .u32 0, .int .u32 0, .string ByteArray.empty]
set_option maxRecDepth 100000 in
theorem nmInsert (v : Value) (P : Pt) (w : World) (h : NoModel w v) : Calls Try.prog 18 #[v, pval P] w fun e w' => e = .returned (.int .i64 9) ∧ Below w.heap.size w w' := by
  have hb := hid (mbelow_one w (.cells #[.int .i64 P.id, .int .u32 P.x, .int .u32 P.y, .string P.d] 53))
  have K := hid (nmMade v _ (h.more hb.out))
  clear h
  go_enter Try.func18, Try.ntmps18
  go_wp2_with fail
  refine K.out.mono ?_
  rintro e w1 ⟨rfl, hw⟩
  rw [hw]
  clear hw w1 K
  go_wp2
  go_ret
  exact ⟨rfl, hb.out⟩
set_option maxRecDepth 100000 in
theorem nmWith (v : Value) (k : Int) (f : Value) (w : World) (h : NoModel w v) : Calls Try.prog 37 #[v, .int .i64 k, f] w fun e w' => e = .returned (.int .i64 9) ∧ w' = w := by
  have K := hid (nmMade v w h)
  go_enter Try.func37, Try.ntmps37
  go_wp2_with fail
  refine K.out.mono ?_
  rintro e w1 ⟨rfl, hw⟩
  rw [hw]
  clear hw w1 K
  go_wp2
  go_ret
  exact ⟨rfl, rfl⟩
set_option maxRecDepth 100000 in
theorem nmDelete (v : Value) (k : Int) (w : World) (h : NoModel w v) : Calls Try.prog 19 #[v, .int .i64 k] w fun e w' => e = .returned (.int .i64 9) ∧ Below w.heap.size w w' := by
  have b1 := mbelow_one w (.cells #[v] 56)
  have hb := hid (below2 b1 (mbelow_one (w.alloc (.cells #[v] 56)) (.cells #[.int .i64 k] 3)) b1.size)
  have K := hid (fun f => nmWith v k f _ (h.more hb.out))
  have hv : v.oneCell' = true := by rcases h with rfl | ⟨p, rfl, _⟩ <;> rfl
  clear b1
  rcases h with rfl | ⟨p, rfl, _⟩
  all_goals
    go_enter Try.func19, Try.ntmps19
    go_wp2_with fail
    refine (K.out _).mono ?_
    rintro e w1 ⟨rfl, hw⟩
    rw [hw]
    clear hw w1 K
    go_wp2
    go_ret
    exact ⟨rfl, hb.out⟩
set_option maxRecDepth 100000 in
theorem nmMove (v : Value) (k x y : Int) (w : World) (h : NoModel w v) : Calls Try.prog 20 #[v, .int .i64 k, .int .u32 x, .int .u32 y] w fun e w' => e = .returned (.int .i64 9) ∧ Below w.heap.size w w' := by
  have b1 := mbelow_one w (.cells #[v] 56)
  have b2 := below2 b1 (mbelow_one (w.alloc (.cells #[v] 56)) (.cells #[.int .i64 k] 3)) b1.size
  have b3 := below2 b2 (mbelow_one ((w.alloc (.cells #[v] 56)).alloc (.cells #[.int .i64 k] 3)) (.cells #[.int .u32 x] 51)) b2.size
  have hb := hid (below2 b3 (mbelow_one (((w.alloc (.cells #[v] 56)).alloc (.cells #[.int .i64 k] 3)).alloc (.cells #[.int .u32 x] 51)) (.cells #[.int .u32 y] 51)) b3.size)
  have K := hid (fun f => nmWith v k f _ (h.more hb.out))
  clear b1 b2 b3
  rcases h with rfl | ⟨p, rfl, _⟩
  all_goals
    go_enter Try.func20, Try.ntmps20
    go_wp2_with fail
    refine (K.out _).mono ?_
    rintro e w1 ⟨rfl, hw⟩
    rw [hw]
    clear hw w1 K
    go_wp2
    go_ret
    exact ⟨rfl, hb.out⟩
set_option maxRecDepth 100000 in
theorem nmGet (v : Value) (k : Int) (w : World) (h : NoModel w v) : Calls Try.prog 17 #[v, .int .i64 k] w fun e w' => e = .returned (.tuple #[mpt0, .bool false]) ∧ Below w.heap.size w w' := by
  have hb := hid (mbelow_one w (.cells #[.int .i64 0, .int .u32 0, .int .u32 0, .string ByteArray.empty] 53))
  have B0 := hid (Blk.new w #[.int .i64 0, .int .u32 0, .int .u32 0, .string ByteArray.empty] 53)
  have K := hid (nmMade v _ (h.more hb.out))
  clear h
  go_enter Try.func17, Try.ntmps17
  go_wp2_with fail
  refine K.out.mono ?_
  rintro e w1 ⟨rfl, hw⟩
  rw [hw]
  clear hw w1 K
  obtain ⟨l1, m1, f1⟩ := B0.out
  go_wp2
  refine bodyPost_ret (v := .tuple #[mpt0, .bool false]) (by simp [results, Try.results17, go_sem]; first | rfl | done) rfl ⟨rfl, hb.out⟩
set_option maxRecDepth 100000 in
theorem mindex_nil (f : Value) (w : World) : Calls Try.prog 60 #[.slice none 0 0, f] w fun e w' => e = .returned (.int .i64 (-1)) ∧ w' = w := by
  go_enter Try.func60, Try.ntmps60
  go_wp2_with fail
  refine wp_loop_rounds 1 ?_
  rw [rounds_succ]
  go_wp2
  go_ret
  exact ⟨rfl, rfl⟩
set_option maxRecDepth 100000 in
theorem mdelf_nil (f : Value) (w : World) : Calls Try.prog 40 #[.slice none 0 0, f] w fun e w' => e = .returned (.slice none 0 0) ∧ w' = w := by
  have K := hid (fun f w => mindex_nil f w)
  go_enter Try.func40, Try.ntmps40
  go_wp2_with fail
  refine (K.out _ _).mono ?_
  rintro e w1 ⟨rfl, hw⟩
  rw [hw]
  clear hw w1 K
  go_wp2
  go_ret
  exact ⟨rfl, rfl⟩
set_option maxRecDepth 100000 in
theorem nmRange (v : Value) (c : Array Value) (hc : c.size = 4) (hone : c.all (·.oneCell') = true) (w : World) (h : NoModel w v) (a0 a1 a2 a3 : Int) (hcc : c = #[.int .u32 a0, .int .u32 a1, .int .u32 a2, .int .u32 a3]) : Calls Try.prog 21 #[v, .agg c] w fun e w' => e = .returned (.slice none 0 0) ∧ Below w.heap.size w w' := by
  subst hcc
  have hb := hid (mbelow_one w (.cells #[.int .u32 a0, .int .u32 a1, .int .u32 a2, .int .u32 a3] 55))
  have K := hid (nmPoints v _ (h.more hb.out))
  have K2 := hid (fun f w => mdelf_nil f w)
  clear h hc hone
  go_enter Try.func21, Try.ntmps21
  go_wp2_with fail
  refine K.out.mono ?_
  rintro e w1 ⟨rfl, hw⟩
  rw [hw]
  clear hw w1 K
  go_wp2_with fail
  refine (K2.out _ _).mono ?_
  rintro e w1 ⟨rfl, hw⟩
  rw [hw]
  clear hw w1 K2
  go_wp2
  go_ret
  exact ⟨rfl, hb.out⟩
@[go_sem high] theorem mmin3 (a b c : Int) (ats : Array TypeId) (ty : TypeId) (w : World) : (Builtin.min_ ats ty #[.int .i64 a, .int .i64 b, .int .i64 c]).run Try.prog w = .ok (.int .i64 (if c < (if b < a then b else a) then c else (if b < a then b else a))) w := rfl
set_option maxRecDepth 100000 in
theorem nmNear (v : Value) (x y : Int) (w : World) (h : NoModel w v) : Calls Try.prog 22 #[v, .int .u32 x, .int .u32 y, .int .i64 3] w fun e w' => e = .returned (.slice none 0 0) ∧ Below w.heap.size w w' := by
  have b1 := mbelow_one w (.cells #[.int .u32 x] 51)
  have hb := hid (below2 b1 (mbelow_one (w.alloc (.cells #[.int .u32 x] 51)) (.cells #[.int .u32 y] 51)) b1.size)
  have K := hid (nmPoints v _ (h.more hb.out))
  have K2 := hid (fun f w => ksortStable none 0 0 (Nat.zero_le _) f w)
  clear h b1
  go_enter Try.func22, Try.ntmps22
  go_wp2_with fail
  refine K.out.mono ?_
  rintro e w1 ⟨rfl, hw⟩
  rw [hw]
  clear hw w1 K
  go_wp2_with fail
  refine (K2.out _ _).mono ?_
  rintro e w1 ⟨rfl, hw⟩
  rw [hw]
  clear hw w1 K2
  go_wp2
  go_ret
  exact ⟨rfl, hb.out⟩
end Go.Proofs.Ytghboanmiggcnaa

/-
  maps.Values of a map of points: its iterator, for every loop body.
-/
















namespace Go.Proofs.Ytghboanmiggcnaa
open Go.RowKit Go.Maps Go.Sort Go.Shelf
set_option linter.unusedVariables false
set_option linter.unusedSimpArgs false

theorem pval_inj {A B : Pt} (h : pval A = pval B) : A = B := by
  cases A
  cases B
  simp only [pval, Value.agg.injEq] at h
  simpa using h
open Classical in
/-- How a point in a map reads. -/
noncomputable def ptR (v : Value) : Option (DataW Pt × List MemPlace) := if h : ∃ p : Pt, v = pval p then some (.held (Classical.choose h), []) else none
theorem ptR_pval (p : Pt) : ptR (pval p) = some (.held p, []) := by
  unfold ptR
  have h : ∃ q : Pt, pval p = pval q := ⟨p, rfl⟩
  rw [dif_pos h]
  have := Classical.choose_spec h
  rw [← pval_inj this]
theorem ptR_inv {v : Value} {y : DataW Pt × List MemPlace} (h : ptR v = some y) : ∃ p : Pt, v = pval p ∧ y = (.held p, []) := by
  unfold ptR at h
  split at h
  · rename_i hp
    obtain ⟨p, rfl⟩ := hp
    refine ⟨p, rfl, ?_⟩
    have h2 := ptR_pval p
    unfold ptR at h2
    rw [dif_pos ⟨p, rfl⟩] at h2
    exact Option.some.inj (h.symm.trans h2)
  · cases h
theorem mlawK : Keyed Try.prog 3 := int_keyed Try.underlying3
/-- The pair's second stands at its first. -/
def MValAt (D0 : DataW Pt) (p : Int × Pt) : Prop := ∀ zd, D0.atKey (.int .i64 p.1) zd = .held p.2
/-- All have come: the keys, each once, in some order; each with its point. -/
def MAllOf (D0 : DataW Pt) (ps : List (Int × Pt)) : Prop := (ps.map (·.1)).Perm (intKeys D0) ∧ ∀ p ∈ ps, MValAt D0 p

set_option maxRecDepth 100000 in
set_option maxHeartbeats 4000000 in
theorem mvals1S_in (F : Fence) (n : Nat) (h8 : F.fn 69) (hro : F.round = none) (hn : 1 ≤ n) (l Bm b nn : Nat) (D0 : DataW Pt) (J Jx : List Pt → World → Prop)
    (hY : ∀ pre x W, J pre W → pre.length < Maps.size D0 → YieldAt F (n - 1) Try.prog l #[pval x] W fun e W' =>
      (e = .returned (.bool true) ∧ J (pre ++ [x]) W' ∧ KeepsWalks W W') ∨ (e = .returned (.bool false) ∧ Jx (pre ++ [x]) W'))
    (W : World) (hJ : AbidesFrom W.heap.size J) (hm : W.cell? ⟨Bm, 0, none⟩ = some (.map (some b))) (hown : W.ownsMap Try.prog 3 ptR b nn D0) (h0 : J [] W) :
    CallsIn F n Try.prog 69 #[.func (.yield l) #[] #[], .pointer (some ⟨Bm, 0, none⟩)] W fun e W' => (∃ v, e = .returned v) ∧
      ((∃ xs, (∃ ps, MAllOf D0 ps ∧ xs = ps.map (·.2)) ∧ J xs W') ∨ (∃ pre, True ∧ Jx pre W')) := by
  refine callsIn_of_wp Try.func69 rfl h8 ?_ hro
  simp only [Try.ntmps69, List.size_toArray, List.length_cons, List.length_nil, Nat.reduceAdd, Nat.reduceSub, Array.replicate_succ, Array.replicate_zero, List.push_toArray, List.append_toArray, List.nil_append, List.cons_append]
  gi_wp2_with (first
    | (gi_at_range; refine wpListIn_range_own _ rfl _ 57 rfl 3 53 mlawK Try.underlying57 _ b nn _ rfl hown ?_; intro w0 hrg0 hg0 hs0)
    | gi_in)
  go_frame
  gi_loopw [4] (fun _ wr => ∃ (left : Lit → Bool) (cnt : Nat) (ps : List (Int × Pt)), wr.ranges Try.prog 3 ptR b W.heap.size nn D0 left cnt ∧ ps.length + cnt ≤ Maps.size D0 ∧ CollectedI D0 left (ps.map (·.1)) ∧ (∀ p ∈ ps, MValAt D0 p) ∧ J (ps.map (·.2)) wr)
    (fun _ wr => wr.rangeLeft b W.heap.size)
  case atStart =>
    exact ⟨_, _, [], hrg0, by simp, CollectedI.start D0, by simp, hJ [] W w0 none h0 hg0 (fun r e => by cases e)⟩
  case round =>
    obtain ⟨left, cnt, ps, hrg, hcs, hC, hV, hJs⟩ := hrel
    gi_wp2_with (first
      | (gi_at_next; refine wpListIn_next_ranges _ rfl _ rfl 3 mlawK ptR encZ pval (fun key kl hk => by obtain ⟨x, hx, _⟩ := Maps.keyOf_i64 Try.underlying3 hk; exact ⟨x, hx⟩) (fun v y hv => by obtain ⟨c, rfl, _⟩ := ptR_inv hv; exact ⟨c, rfl⟩) b W.heap.size nn _ _ _ rfl hrg ?_ ?_)
      | gi_in)
    · -- nothing is left
      intro hc0 hl0
      gi_wp2
      go_end0
      exact ⟨⟨_, rfl⟩, .inl ⟨_, ⟨ps, ⟨hC.perm hown mlawK Try.underlying3 hl0, hV⟩, rfl⟩, hJs⟩⟩
    · -- an entry has come
      intro x c kl yd yp w2 cnt2 hkey hlk hv hat hrg2 hlt hg2 hs2 hen
      obtain ⟨x', ex, rfl, _⟩ := Maps.keyOf_i64 Try.underlying3 hkey
      obtain rfl : x = x' := encZ_inj ex
      obtain ⟨c', ec, ez⟩ := ptR_inv hv
      obtain rfl : c = c' := pval_inj ec
      obtain rfl : yd = .held c := (Prod.mk.inj ez).1
      have hJ2 : J (ps.map (·.2)) w2 := hJ _ wr w2 (some W.heap.size) hJs hg2 (fun r e => by cases e; exact ⟨Nat.le_refl _, hrg.iter_walk⟩)
      have hJ3 : J (ps.map (·.2)) (w2.alloc (.cells #[.int .i64 c.id, .int .u32 c.x, .int .u32 c.y, .string c.d] 53)) := hJ _ w2 _ none hJ2 (World.grownBy_alloc w2 _ none) (fun r e => by cases e)
      obtain ⟨fn, tmps, assign, body, hy, hR⟩ := hY (ps.map (·.2)) c _ hJ3 (by simp; omega)
      have hrg2a := hrg2.of_walks (KeepsWalks.alloc w2 (.cells #[.int .i64 c.id, .int .u32 c.x, .int .u32 c.y, .string c.d] 53))
      clear hs2
      gi_wp2
      refine hR.mono ?_
      have hC2 : CollectedI D0 (fun z => left z && !z.sameKey (.int .i64 x)) ((ps ++ [(x, c)]).map (·.1)) := by simpa using hC.step hlk hat
      have hV2 : ∀ p ∈ ps ++ [(x, c)], MValAt D0 p := fun p hp => (List.mem_append.1 hp).elim (hV p) (fun e => by simp at e; subst e; exact hat)
      rintro e W3 (⟨rfl, hJ4, hk3⟩ | ⟨rfl, hJx3⟩)
      · gi_wp2
        have hrg3 := hrg2a.of_walks hk3
        go_roundw
        case rel => exact ⟨_, cnt2, ps ++ [(x, c)], hrg3, by simp; omega, hC2, hV2, by simpa using hJ4⟩
        case measure => rw [hrg3.left_eq, hrg.left_eq]; exact hlt
      · gi_wp2
        refine bodyPost_ret (results_none rfl _ _ _) rfl ?_
        exact ⟨⟨_, rfl⟩, .inr ⟨_, trivial, hJx3⟩⟩
theorem mvals_stops (F : Fence) (n : Nat) (h7 : F.fn 69) (hro : F.round = none) (hn : 1 ≤ n) (Bm b nn : Nat) (D0 : DataW Pt) (w : World) (hBm : Bm < w.heap.size)
    (hm : w.cell? ⟨Bm, 0, none⟩ = some (.map (some b))) (hown : w.ownsMap Try.prog 3 ptR b nn D0) :
    SeqStopsK F n Try.prog 69 #[.pointer (some ⟨Bm, 0, none⟩)] (fun p => #[pval p]) KeepsWalks (fun xs => ∃ ps, MAllOf D0 ps ∧ xs = ps.map (·.2)) (fun _ => True) (Maps.size D0) w := fun l J Jx W hW hJ _ hY h0 => by
  have hown' : W.ownsMap Try.prog 3 ptR b nn D0 := by
    have hbl := hown.lt
    obtain ⟨es, clock, hb, Ft, hs, hD⟩ := hown
    exact ⟨es, clock, (hW.block b hbl).trans hb, Ft, hs, hD⟩
  refine (mvals1S_in F n h7 hro hn l Bm b nn D0 J Jx hY W hJ ((hW.cell (p := ⟨Bm, 0, none⟩) hBm).trans hm) hown' h0).mono ?_
  rintro e W' ⟨hv, h | ⟨pre, _, h⟩⟩
  · exact ⟨hv, .inl h⟩
  · exact ⟨hv, .inr ⟨pre, trivial, h⟩⟩
set_option maxHeartbeats 1000000 in
/-- maps.Values: the map is boxed; the function value captures the box. -/
theorem mvalues_in (F : Fence) (n : Nat) (hf : F.fn 48) (hro : F.round = none) (mb : Option Nat) (w : World) :
    CallsIn F n Try.prog 48 #[.map mb] w fun e w' => e = .returned (.func (.func 69) #[] #[.pointer (some ⟨w.heap.size, 0, none⟩)]) ∧ w' = w.alloc (.cells #[.map mb] 57) := by
  refine callsIn_of_wp Try.func48 rfl hf ?_ hro
  simp only [Try.ntmps48, List.size_toArray, List.length_cons, List.length_nil, Nat.reduceAdd, Nat.reduceSub, Array.replicate_succ, Array.replicate_zero, List.push_toArray, List.append_toArray, List.nil_append, List.cons_append]
  gi_wp2
  go_ret
  exact ⟨rfl, rfl⟩
end Go.Proofs.Ytghboanmiggcnaa

/-
  Points in a row of the call's own: a list of them, and the row that a walk reads.
-/


namespace Go.Proofs.Ytghboanmiggcnaa
open Go.RowKit
set_option linter.unusedVariables false

theorem ptTab : (Try.prog.info? 53).map (fun i => (i.zero, i.size, i.bytes)) = some (some (.agg #[.int .i64 0, .int .u32 0, .int .u32 0, .string ByteArray.empty]), 4, 32) := by kernel_rfl
theorem intTab : (Try.prog.info? 3).map (fun i => (i.zero, i.size, i.bytes)) = some (some (.int .i64 0), 1, 8) := by kernel_rfl

/-- The cells of points, one behind the other. -/
def flatP (L : List Pt) : List Value := L.flatMap pcells
theorem flatP_nil : flatP [] = [] := rfl
theorem flatP_append (L M : List Pt) : flatP (L ++ M) = flatP L ++ flatP M := by simp [flatP]
theorem flatP_one (q : Pt) : flatP [q] = pcells q := by simp [flatP]
theorem flatP_length : ∀ L : List Pt, (flatP L).length = L.length * 4
  | [] => rfl
  | q :: L => by
    have h := flatP_length L
    simp only [flatP, List.flatMap_cons, List.length_append, List.length_cons] at h ⊢
    rw [h]
    simp [pcells]
    omega
theorem flatP_get : ∀ (L : List Pt) (i j : Nat) (hi : i < L.length) (v : Value), (pcells L[i])[j]? = some v → (flatP L)[i * 4 + j]? = some v
  | [], i, j, hi, v, h => absurd hi (Nat.not_lt_zero _)
  | q :: L, 0, j, hi, v, h => by
    have hj : j < (pcells q).length := (List.getElem?_eq_some_iff.1 h).1
    simp only [flatP, List.flatMap_cons, Nat.zero_mul, Nat.zero_add]
    rw [List.getElem?_append_left hj]
    exact h
  | q :: L, i + 1, j, hi, v, h => by
    have ih := flatP_get L i j (by simpa using hi) v (by simpa using h)
    simp only [flatP, List.flatMap_cons]
    rw [List.getElem?_append_right (by simp [pcells]; omega)]
    rw [show (i + 1) * 4 + j - (pcells q).length = i * 4 + j by simp [pcells]; omega]
    exact ih

/-- A row of the call's own holds these points. -/
def PtsOwn (w : World) (base : Nat) (v : Value) (L : List Pt) : Prop := w.ownsRow base 53 4 v L.length (flatP L)
/-- The i-th of them. -/
def ptAt (L : List Pt) (i : Nat) : Pt := (L[i]?).getD ⟨0, 0, 0, ByteArray.empty⟩
theorem ptAt_eq (L : List Pt) (i : Nat) (hi : i < L.length) : ptAt L i = L[i] := by simp [ptAt, hi]
theorem ptAt_mem (L : List Pt) (i : Nat) (hi : i < L.length) : ptAt L i ∈ L := by rw [ptAt_eq L i hi]; exact List.getElem_mem hi

theorem PtsOwn.nil (w : World) (base : Nat) : PtsOwn w base (.slice none 0 0) [] := World.ownsRow_nil _ _ _ _
theorem PtsOwn.more {w w' : World} {base : Nat} {v : Value} {L : List Pt} (h : PtsOwn w base v L) (hb : Below w.heap.size w w') : PtsOwn w' base v L :=
  own_sole h (Sole.made (S := fun _ => False) hb) fun _ _ x => x
theorem PtsOwn.sole {S : Nat → Prop} {w w' : World} {base : Nat} {v : Value} {L : List Pt} (h : PtsOwn w base v L) (hs : Sole S w w') (hn : ∀ k, v.ownBlock = some k → ¬ S k) : PtsOwn w' base v L := own_sole h hs hn
theorem PtsOwn.open {w : World} {base : Nat} {v : Value} {L : List Pt} (h : PtsOwn w base v L) :
    ∃ p cap, v = .slice p L.length cap ∧ L.length ≤ cap ∧ cap ≤ maxLen ∧ RowP w p 4 L.length (fun i => pcells (ptAt L i)) := by
  rcases h.2 with ⟨rfl, h0⟩ | ⟨g, cap, cur, rfl, hb, hg, h1, h2, h3, h4⟩
  · exact ⟨none, 0, by rw [h0], by omega, Nat.zero_le _, .inl h0⟩
  · refine ⟨_, cap, rfl, h1, h2, .inr ⟨g, 0, rfl, (h.lt g rfl).2, fun i hi j u hu => ?_⟩⟩
    rw [ptAt_eq L i hi] at hu
    have hf := flatP_get L i j hi u hu
    have := h.cells (g := g) rfl (i * 4 + j) u hf
    rw [Nat.zero_add]
    unfold Addr.add at this
    split at this
    · rename_i e
      simpa [e] using this
    · simpa using this

/-- Two rows of unlike elements are two blocks. -/
theorem own_apart {w : World} {b b' : Nat} {e e' : TypeId} {s s' : Nat} {v v' : Value} {n n' : Nat} {xs xs' : List Value} (h : w.ownsRow b e s v n xs) (h' : w.ownsRow b' e' s' v' n' xs') (hne : e ≠ e') :
    ∀ k, v.ownBlock = some k → v'.ownBlock ≠ some k := by
  intro k hk hk'
  rcases h.2 with ⟨rfl, _⟩ | ⟨g, cap, cur, rfl, hb, hg, _⟩
  · cases hk
  · rcases h'.2 with ⟨rfl, _⟩ | ⟨g', cap', cur', rfl, hb', hg', _⟩
    · cases hk'
    · simp [Value.ownBlock] at hk hk'
      subst hk
      subst hk'
      rw [hg] at hg'
      cases hg'
      exact hne rfl
end Go.Proofs.Ytghboanmiggcnaa

/-
  slices.AppendSeq(nil, seq), slices.Collect(seq) at points, against whatever iterator.
-/






namespace Go.Proofs.Ytghboanmiggcnaa
open Go.RowKit Go.Maps Go.Sort Go.Shelf
set_option linter.unusedVariables false
set_option linter.unusedSimpArgs false

attribute [local go_sem] Oper.semAt_some

theorem mheap_kept {X Y : World} {row : Option Nat} {b : Nat} {o : Obj} (h : X.heap[b]? = some o) (hc : o.isCells = true) (hg : X.grownBy Y row) (hr : ∀ r, row = some r → ∃ o : Obj, X.heap[r]? = some o ∧ o.isCells = false) : Y.heap[b]? = some o := by
  refine (hg.block b (Array.getElem?_eq_some_iff.1 h).1 (fun e => ?_)).trans h
  obtain ⟨o', ho, hc'⟩ := hr b e.symm
  rw [h] at ho
  cases ho
  rw [hc] at hc'
  cases hc'
theorem mnew_cells (w : World) (c : Array Value) (t : TypeId) : ∀ j u, c.toList[j]? = some u → (w.alloc (.cells c t)).cell? (Addr.add ⟨w.heap.size, 0, none⟩ j) = some u := by
  intro j u hu
  have B := Blk.new w c t
  have h := B.cell j
  have hadd : Addr.add ⟨w.heap.size, 0, none⟩ j = ⟨w.heap.size, j, none⟩ := by
    unfold Addr.add
    split
    · rename_i e
      have e' : j = 0 := e
      subst e'
      rfl
    · simp
  rw [hadd, h, ← Array.getElem?_toList]
  exact hu
set_option maxRecDepth 100000 in
set_option maxHeartbeats 8000000 in
theorem mappend_in (n : Nat) (hn : 2 ≤ n) (g : Nat) (lb : Array Value) (eg : ∀ args w, (callFunc g args).run Try.prog w = .ok (.enter g args) w) (S : List Pt → Prop) (N : Nat) (hN : N ≤ 1000000) (w : World)
    (hseq : SeqStopsK Fence.wide (n - 1) Try.prog g lb (fun p => #[pval p]) KeepsWalks S (fun _ => True) N w) :
    CallsIn Fence.wide n Try.prog 79 #[.slice none 0 0, .func (.func g) #[] lb] w fun e w' => ∃ (v : Value) (ss : List Pt), e = .returned v ∧ S ss ∧ w'.ownsRow w.heap.size 53 4 v ss.length (flatP ss) ∧ Below w.heap.size w w' := by
  have h1 : 1 ≤ n := by omega
  have hro : Fence.wide.round = none := rfl
  obtain ⟨i0, hi, hz0, hz1, hz2⟩ := info_parts ptTab
  refine callsIn_of_wp_marks Try.func79 rfl trivial ?_ hro
  simp only [Try.ntmps79, List.size_toArray, List.length_cons, List.length_nil, Nat.reduceAdd, Nat.reduceSub, Array.replicate_succ, Array.replicate_zero, List.push_toArray, List.append_toArray, List.nil_append, List.cons_append]
  gi_wp2
  have bO := Boxed.new w 26 (.slice none 0 0)
  have hB0 : Below w.heap.size w (w.alloc (.cells #[.slice none 0 0] 26)) := (Below.refl _ w).alloc (Nat.le_refl _) _
  have hsz : (w.alloc (.cells #[.slice none 0 0] 26)).heap.size = w.heap.size + 1 := by simp
  obtain ⟨W0, hW0⟩ : ∃ W0, w.alloc (.cells #[.slice none 0 0] 26) = W0 := ⟨_, rfl⟩
  rw [hW0] at bO hB0 hsz ⊢
  clear hW0
  refine wpIn_rangeFunc_ownH hro h1 (gf := g) (lb := lb) rfl trivial eg hseq KeepsWalks.trans (fun W l o o' _ h _ hw => KeepsWalks.putObj o' h hw) hB0 (fun _ => rfl)
    (fun pre W => (∃ v, Boxed W w.heap.size 26 v ∧ W.ownsRow w.heap.size 53 4 v pre.length (flatP pre) ∧ True) ∧ Below w.heap.size w W)
    (fun _ _ _ => False)
    (OwnFrom.and (Own.from (holdsRow_own w.heap.size w.heap.size 26 53 4 (fun pre => pre.length) (fun pre => flatP pre) (fun _ _ => True)) _) (ownFrom_below (Nat.le_refl _) (by omega)))
    (fun _ _ _ _ _ hs _ _ => hs)
    ⟨⟨_, bO, World.ownsRow_nil _ _ _ _, trivial⟩, hB0⟩
    (fun x a' W => ∃ Bv, w.heap.size < Bv ∧ W.heap[Bv]? = some (.cells #[.int .i64 x.id, .int .u32 x.x, .int .u32 x.y, .string x.d] 53 (0, 0)) ∧ a' = { tmps := #[.slice none 0 0, .func (.func g) #[] lb, .pointer (some ⟨w.heap.size, 0, none⟩), undef, .slice none 0 0, .pointer (some ⟨Bv, 0, none⟩), .func (.func g) #[] lb, pval x, undef, undef, undef, undef, undef], defers := [] })
    ?hAx ?assign ?body ?done ?stop
  case hAx =>
    rintro x a' _ X Y row ⟨Bv, h3, h4, h5⟩ hg hr
    exact ⟨Bv, h3, mheap_kept h4 rfl hg (fun r e => (hr r e).2), h5⟩
  case assign =>
    rintro l pre x W K ⟨⟨v, hv, hrow, _⟩, hB1⟩ hK
    gi_wp2
    have hb2 : Below W.heap.size W (W.alloc (.cells #[.int .i64 x.id, .int .u32 x.x, .int .u32 x.y, .string x.d] 53)) := (Below.refl _ W).alloc (Nat.le_refl _) _
    refine hK _ _ ((KeepsOthers.alloc _ _).from _) (KeepsWalks.alloc _ _) ⟨⟨v, hv.alloc _, hrow.alloc _, trivial⟩, hB1.trans (hb2.mono hB1.size)⟩ ⟨W.heap.size, by have := hv.lt; omega, World.alloc_heap_new W _, rfl⟩
  case body =>
    rintro l pre x a' W hl ⟨r, hr⟩ ⟨⟨v, hv, hrow, _⟩, hB1⟩ ⟨Bv, h3, h4, rfl⟩ hlt
    have hc := hv.cell
    have a0 : W.cell? ⟨Bv, 0, none⟩ = some (.int .i64 x.id) := by simp [World.cell?, h4]
    have a1 : W.cell? ⟨Bv, 1, none⟩ = some (.int .u32 x.x) := by simp [World.cell?, h4]
    have a2 : W.cell? ⟨Bv, 2, none⟩ = some (.int .u32 x.y) := by simp [World.cell?, h4]
    have a3 : W.cell? ⟨Bv, 3, none⟩ = some (.string x.d) := by simp [World.cell?, h4]
    have hs1 := hB1.size
    gi_wp2_with (gi_at_builtin; refine wpListIn_append_own _ rfl _ _ 26 rfl w.heap.size 53 i0 _ 4 32 Try.underlying26 hi hz0 hz1 hz2 rfl (by decide) _ _ _ rfl (hrow.alloc _) ⟨W.heap.size, 0, none⟩ 1 1 [.int .i64 x.id, .int .u32 x.x, .int .u32 x.y, .string x.d] rfl rfl (mnew_cells W #[.int .i64 x.id, .int .u32 x.x, .int .u32 x.y, .string x.d] _) (by simp [Value.oneCell']) (by unfold maxLen; omega) (by omega) (by have := hB1.size; simp; omega) ?_; intro v' w1 hown' hgrow _; obtain ⟨g', cap', rfl⟩ := ownsRow_succ hown'; obtain ⟨hv1, hv2, hr2, hk2, hb2⟩ := hv.appended (by decide) hrow hB1.size (Nat.le_refl _) hown' hgrow; have hc1 := hv1.cell; have hf1 := hv1.frozen)
    have hkw : KeepsWalks W (w1.setCell ⟨w.heap.size, 0, none⟩ (.slice (some ⟨g', 0, none⟩) (pre.length + 1) cap')) := ((KeepsWalks.alloc _ _).trans (KeepsWalks.of_grownBy hgrow (ownsRow_not_walk_a (hrow.alloc _)))).trans (KeepsWalks.setCell _ _ _)
    exact ⟨hk2.from _, hkw, ⟨_, hv2, by rw [flatP_append, flatP_one, List.length_append]; exact hr2, trivial⟩, hB1.trans hb2⟩
  case done =>
    rintro D ys W hD hS ⟨⟨v, hv, hrow, _⟩, hB⟩ hK
    have hc := hv.cell
    gi_wp2
    refine ⟨by simp, .inl ⟨_, _, rfl, run_takeDeferred hK, ?_⟩⟩
    exact ⟨_, results_tmp rfl _ _ _, v, ys, rfl, hS, ownsRow_putObj hrow _ hK rfl, hB.trans (belowK_b (w := w) (Nat.le_refl _) W D _ _ (by omega) hK rfl rfl)⟩
  case stop =>
    rintro D c pre W _ _ h _
    exact h.elim
set_option maxHeartbeats 1000000 in
/-- slices.Collect. -/
theorem mcollect_in (n : Nat) (hn : 3 ≤ n) (g : Nat) (lb : Array Value) (eg : ∀ args w, (callFunc g args).run Try.prog w = .ok (.enter g args) w) (S : List Pt → Prop) (N : Nat) (hN : N ≤ 1000000) (w : World)
    (hseq : SeqStopsK Fence.wide (n - 1 - 1) Try.prog g lb (fun p => #[pval p]) KeepsWalks S (fun _ => True) N w) :
    CallsIn Fence.wide n Try.prog 67 #[.func (.func g) #[] lb] w fun e w' => ∃ (v : Value) (ss : List Pt), e = .returned v ∧ S ss ∧ w'.ownsRow w.heap.size 53 4 v ss.length (flatP ss) ∧ Below w.heap.size w w' := by
  have h1 : 1 ≤ n := by omega
  have cA := mappend_in (n - 1) (by omega) g lb eg S N hN w hseq
  have hf : Fence.wide.fn 79 := trivial
  refine callsIn_of_wp Try.func67 rfl trivial ?_ rfl
  simp only [Try.ntmps67, List.size_toArray, List.length_cons, List.length_nil, Nat.reduceAdd, Nat.reduceSub, Array.replicate_succ, Array.replicate_zero, List.push_toArray, List.append_toArray, List.nil_append, List.cons_append]
  gi_wp2_with (gi_at_call 79; refine cA.mono ?_; rintro e w' ⟨v, ss, rfl, hS, hrow, hb⟩)
  go_ret
  exact ⟨v, ss, rfl, hS, hrow, hb⟩
end Go.Proofs.Ytghboanmiggcnaa

/-
  A region that draws its order, by what is known as it goes: a condition on which operations are done, their values and the world; each operation keeps it, in whatever order they come.
-/

namespace Go.Proofs.Ytghboanmiggcnaa
open Go.RowKit
set_option linter.unusedVariables false

section
variable {P : Program}

/-- One value more. -/
def fset {α : Type} (f : Nat → α) (j : Nat) (v : α) : Nat → α := fun k => if k = j then v else f k
theorem fset_same {α : Type} (f : Nat → α) (j : Nat) (v : α) : fset f j v j = v := if_pos rfl
theorem fset_ne {α : Type} (f : Nat → α) {j k : Nat} (v : α) (h : k ≠ j) : fset f j v k = f k := if_neg h

def invB (ops : Array Oper) (n m : Nat) : Bool :=
  Region.noSelect ops && decide (n < ops.size) && Region.sinkB .any ops n && Region.chainB .any ops n && soleB ops m &&
    ((List.range n).all fun j => match ops[j]? with
      | none => true
      | some o => o.after.all fun e => !Region.binds .any e || decide (e.on < j)) &&
    Region.seqB .any ops (ops.size - n) n (Array.ofFn fun i : Fin ops.size => decide (i.val < n))

/-- What operation j owes: done in the frame a, in the world w, it leaves some value behind which K holds. -/
def StepOf (P : Program) (ops : Array Oper) (Q : Exit → Act → World → Prop) (o : Oper) (a : Act) (w : World) (K : Value → World → Prop) : Prop :=
  if Region.wanted o (yielded ops a.tmps) = true then Oper.wp P o a w (fun a' w' => ∃ v, a' = a.put o.dst v ∧ K v w') Q else K undef w

theorem wp_region_inv {id : Nat} {Q : Exit → Act → World → Prop} {a0 : Act} {W : World} {l : List Oper} (N : Nat) (I : (Nat → Bool) → (Nat → Value) → World → Prop) (hm : P.follows .mixedOrders = true)
    (hB : invB l.toArray N a0.tmps.size = true)
    (h0 : I (fun _ => false) (fun _ => undef) W.drew)
    (hstep : ∀ (j : Nat) (o : Oper), j < N → l[j]? = some o → ∀ (D : Nat → Bool) (vs : Nat → Value) (a : Act) (w : World), D j = false → (∀ k, Region.waitsFor .any l.toArray j k = true → D k = true) →
      (∀ k t, D k = true → writer l.toArray t = some k → a.tmps[t]? = some (vs k)) → (∀ t, writer l.toArray t = none → a.tmps[t]? = a0.tmps[t]?) → I D vs w →
      StepOf P l.toArray Q o a w (fun v w' => I (fset D j true) (fset vs j v) w'))
    (hend : ∀ (D : Nat → Bool) (vs : Nat → Value) (w : World), (∀ i, i < N → D i = true) → I D vs w → wpList P l.toArray Q (l.drop N) (puts l.toArray vs (List.range N) a0) w) : (Code.region id l.toArray true).wp P Q a0 W := by
  simp only [invB, Bool.and_eq_true, decide_eq_true_eq] at hB
  obtain ⟨⟨⟨⟨⟨⟨hsel, hn⟩, hs⟩, hc⟩, hsole⟩, haft⟩, hseq⟩ := hB
  have hn' : N < l.length := by simpa using hn
  have haft' : ∀ j o, j < N → l.toArray[j]? = some o → ∀ e ∈ o.after, Region.binds .any e = true → e.on < j := by
    intro j o hj ho e he hb
    have := List.all_eq_true.1 haft j (List.mem_range.2 hj)
    simp only [ho] at this
    have := Array.all_eq_true_iff_forall_mem.1 this e he
    simpa [hb] using this
  have lex : ∀ (vs : Nat → Value) (t : Nat), (puts l.toArray vs (List.range N) a0).tmps[t]? = match writer l.toArray t with
      | some k => if k < N then some (vs k) else a0.tmps[t]?
      | none => a0.tmps[t]? := by
    intro vs t
    cases hw : writer l.toArray t with
    | none =>
      refine (puts_get vs t _ _).1 fun i hi hd => ?_
      have hlt : i < l.toArray.size := by have := List.mem_range.1 hi; omega
      have hoi : l.toArray[i]? = some l.toArray[i] := Array.getElem?_eq_getElem hlt
      rw [hoi] at hd
      exact writer_none hw hoi hd
    | some k =>
      obtain ⟨o, ho, hd⟩ := writer_some hw
      have hsole' : ∀ i, i < l.toArray.size → (l.toArray[i]?).bind (·.dst) = some t → i = k := fun i hi hdi => by
        have hoi : l.toArray[i]? = some l.toArray[i] := Array.getElem?_eq_getElem hi
        rw [hoi] at hdi
        have := (sole_dst hsole hoi hdi).1
        rw [hw] at this
        exact (Option.some.inj this).symm
      by_cases hk : k < N
      · simp only [hk, if_true]
        exact (puts_get vs t _ _).2 k (fun i hi hdi => hsole' i (by have := List.mem_range.1 hi; omega) hdi) (List.mem_range.2 hk) (by rw [ho]; exact hd) (sole_dst hsole ho hd).2
      · simp only [hk, if_false]
        refine (puts_get vs t _ _).1 fun i hi hdi => hk ?_
        have h1 := List.mem_range.1 hi
        rw [← hsole' i (by omega) hdi]
        exact h1
  refine wp_region_any hm ?_
  have main : ∀ (fuel : Nat) (L : Array Bool) (a : Act) (w : World) (vs : Nat → Value), Mid l.toArray a0 vs L a → HeadInv .any l.toArray N L → I (fun k => L.getD k false) vs w → L.toList.count false = fuel → wpAny P .any l.toArray Q fuel L a w := by
    intro fuel
    induction fuel with
    | zero =>
      intro L a w vs mid inv hI hcnt
      exfalso
      have h1 := inv.tail N (Nat.le_refl _) hn
      have hl : N < L.size := by rw [inv.size]; exact hn
      have : false ∈ L.toList := by
        have h2 : L[N] = false := by simpa [hl] using h1
        rw [← h2]; simp
      have := List.count_pos_iff.2 this
      omega
    | succ fuel ih =>
      intro L a w vs mid inv hI hcnt
      by_cases hall : ∀ i, i < N → L.getD i false = true
      · have hL : L = Array.ofFn fun i : Fin l.toArray.size => decide (i.val < N) := by
          apply Array.ext
          · simp [inv.size]
          · intro i h1 h2
            have hi : i < l.toArray.size := by rw [← inv.size]; exact h1
            simp only [Array.getElem_ofFn]
            by_cases hin : i < N
            · have := hall i hin
              simp [h1] at this
              simp [hin, this]
            · have := inv.tail i (by omega) hi
              simp [h1] at this
              simp [hin, this]
        have ha : a = puts l.toArray vs (List.range N) a0 := by
          have e1 : a.tmps = (puts l.toArray vs (List.range N) a0).tmps := by
            apply Array.ext_getElem?
            intro t
            rw [mid.slot t, lex vs t]
            cases hw : writer l.toArray t with
            | none => rfl
            | some k =>
              simp only []
              by_cases hk : k < N
              · rw [if_pos (hall k hk), if_pos hk]
              · rw [if_neg hk, if_neg]
                obtain ⟨o, ho, _⟩ := writer_some hw
                have := getD_both (inv.tail k (by omega) (Array.getElem?_eq_some_iff.1 ho).1)
                rw [this]; simp
          have e2 : a.defers = (puts l.toArray vs (List.range N) a0).defers := by rw [mid.defers]; exact (puts_defers vs _ _).symm
          cases a
          cases hp : puts l.toArray vs (List.range N) a0
          simp only [hp] at e1 e2
          subst e1 e2
          rfl
        have hfin := hend _ vs w hall hI
        have hcnt2 : fuel + 1 = (l.drop N).length := by
          rw [← hcnt, hL]
          simp only [Array.toList_ofFn, List.length_drop]
          have gen : ∀ (m n : Nat), ((List.ofFn fun i : Fin m => decide (i.val < n)).count false) = m - n := by
            intro m
            induction m with
            | zero => intro n; simp
            | succ m ihm =>
              intro n
              cases n with
              | zero =>
                have := ihm 0
                simp [List.ofFn_succ] at this ⊢
                omega
              | succ n =>
                have := ihm n
                simp [List.ofFn_succ] at this ⊢
                omega
          simpa using gen l.toArray.size N
        rw [hcnt2]
        refine wpAny_of_seq (md := .any) (l.drop N) N L a w (fun j => by simp [List.getElem?_drop]) ?_ ?_
        · rw [hL]
          have e : (l.drop N).length = l.toArray.size - N := by simp
          rw [e]; exact hseq
        · rw [ha]; exact hfin
      · have hex : ∃ i, i < N ∧ L.getD i true = false := by
          refine Classical.byContradiction fun hno => hall fun i hi => ?_
          cases hg : L.getD i true with
          | false => exact absurd ⟨i, hi, hg⟩ hno
          | true =>
            have hl : i < L.size := by rw [inv.size]; omega
            simp [hl] at hg ⊢
            exact hg
        obtain ⟨i0, hi0, hun0⟩ := hex
        have hready : ∀ j ∈ Region.ready .any l.toArray L, j < N := fun j hj => by
          rcases Nat.lt_or_ge j N with h | h
          · exact h
          · exact absurd hj (tail_waits hs hc hn inv _ i0 rfl hi0 hun0 j h)
        have hne : Region.ready .any l.toArray L ≠ [] := by
          intro hnil
          have hl : ∀ j, j < N → L.getD j false = true := by
            intro j
            induction j using Nat.strongRecOn with
            | _ j ihj =>
              intro hj
              cases hlj : L.getD j false with
              | true => rfl
              | false =>
                exfalso
                have hjo : j < l.toArray.size := by omega
                have hoj : l.toArray[j]? = some l.toArray[j] := Array.getElem?_eq_getElem hjo
                have : j ∈ Region.ready .any l.toArray L := mem_ready.2 ⟨getD_in (by rw [inv.size]; exact hjo) hlj, _, hoj, fun e he hb => by
                  have := haft' j _ hj hoj e he hb
                  exact ihj e.on this (by omega)⟩
                rw [hnil] at this
                cases this
          exact hall hl
        refine ⟨fun hr => absurd hr hne, fun j hj => ?_⟩
        have hjn := hready j hj
        obtain ⟨hun, o, ho, hpre⟩ := mem_ready.1 hj
        have hjs : j < L.size := by rw [inv.size]; omega
        have hcnt' : (L.setIfInBounds j true).toList.count false = fuel := by
          have := count_set L.toList j (by simp [hjs] at hun ⊢; exact hun)
          simp only [Array.toList_setIfInBounds]
          omega
        have eD : (fun k => (L.setIfInBounds j true).getD k false) = fset (fun k => L.getD k false) j true := by
          funext k
          by_cases hk : k = j
          · subst hk; rw [fset_same]; simp [hjs]
          · rw [fset_ne _ _ hk, getD_set_ne false (fun e => hk e.symm)]
        have next : ∀ v w', I (fset (fun k => L.getD k false) j true) (fset vs j v) w' → wpAny P .any l.toArray Q fuel (L.setIfInBounds j true) (a.put o.dst v) w' := by
          intro v w' hI'
          refine ih _ _ _ (fset vs j v) ?_ (inv.set hj hjn) (by rw [eD]; exact hI') hcnt'
          refine ⟨by rw [put_defers]; exact mid.defers, by rw [put_size]; exact mid.size, fun t => ?_⟩
          rw [put_get]
          by_cases hd : o.dst = some t
          · obtain ⟨hw, ht⟩ := sole_dst hsole ho hd
            rw [if_pos ⟨hd, by rw [mid.size]; exact ht⟩, hw]
            simp [hjs, fset_same]
          · rw [if_neg (fun h => hd h.1), mid.slot t]
            cases hw : writer l.toArray t with
            | none => rfl
            | some k =>
              have hkj : j ≠ k := by
                rintro rfl
                obtain ⟨o', ho', hd'⟩ := writer_some hw
                rw [ho] at ho'; cases ho'
                exact hd hd'
              simp only []
              rw [getD_set_ne false hkj, fset_ne _ _ (fun e => hkj e.symm)]
        have hst := hstep j o hjn (by simpa using ho) (fun k => L.getD k false) vs a w (getD_both hun) (fun k hk => by
          obtain ⟨oj, hoj, e, he, hb, hon⟩ := Region.waitsFor_spec hk
          have : oj = o := Option.some.inj (hoj.symm.trans ho)
          subst this
          exact hon ▸ hpre e he hb) (fun k t hk hw => by rw [mid.slot t, hw]; simp only [hk, if_true]) (fun t hw => by rw [mid.slot t, hw]) hI
        unfold wpOp
        simp only [ho]
        unfold StepOf at hst
        by_cases hwt : Region.wanted o (yielded l.toArray a.tmps) = true
        · rw [if_pos hwt] at hst ⊢
          left
          refine Oper.wp_mono ?_ hst
          rintro a' w' ⟨v, rfl, hI'⟩
          exact next v w' hI'
        · rw [if_neg hwt] at hst ⊢
          exact next undef w hst
  refine main l.toArray.size _ a0 W.drew (fun _ => undef) ⟨rfl, rfl, fun t => ?_⟩ ⟨by simp, fun j oj _ hl => (by rw [getD_replicate_false] at hl; cases hl), fun t _ ht => getD_in (by simpa using ht) (getD_replicate_false _ _)⟩ ?_ (by simp)
  · cases hw : writer l.toArray t with
    | none => rfl
    | some k => simp only [getD_replicate_false]; simp
  · have e : (fun k => (Array.replicate l.toArray.size false).getD k false) = fun _ => false := by funext k; exact getD_replicate_false _ _
    rw [e]; exact h0
variable {ops : Array Oper} {Q : Exit → Act → World → Prop}
theorem wanted_plain {o : Oper} (hg : o.guard = none) (y : Nat → Option Bool) : Region.wanted o y = true := by simp [Region.wanted, hg]
theorem StepOf.value {o : Oper} {a : Act} {w w' : World} {K : Value → World → Prop} (v : Value) (hw : Region.wanted o (yielded ops a.tmps) = true) (hr : (execOp a.eval o).run P w = .ok (.value v) w') (h : K v w') : StepOf P ops Q o a w K := by
  unfold StepOf
  rw [if_pos hw]
  unfold Oper.wp
  rw [hr, Oper.upon_value]
  exact ⟨v, rfl, h⟩
theorem StepOf.skip {o : Oper} {a : Act} {w w' : World} {K : Value → World → Prop} (hw : Region.wanted o (yielded ops a.tmps) = true) (hr : (execOp a.eval o).run P w = .ok .skip w') (h : K undef w') : StepOf P ops Q o a w K := by
  unfold StepOf
  rw [if_pos hw]
  unfold Oper.wp
  rw [hr, Oper.upon_skip]
  exact ⟨undef, rfl, h⟩
theorem StepOf.call {o : Oper} {a : Act} {w : World} {K : Value → World → Prop} (f : FuncId) (args : Array Value) (hw : Region.wanted o (yielded ops a.tmps) = true) (hr : (execOp a.eval o).run P w = .ok (.enter f args) w)
    (h : Calls P f args w fun e w' => ∃ v, e = .returned v ∧ K v w') : StepOf P ops Q o a w K := by
  unfold StepOf
  rw [if_pos hw]
  unfold Oper.wp
  rw [hr, Oper.upon_enter]
  refine h.mono ?_
  rintro e w' ⟨v, rfl, hK⟩
  exact ⟨v, rfl, hK⟩
theorem StepOf.kept {o : Oper} {a : Act} {w : World} {K : Value → World → Prop} (hw : Region.wanted o (yielded ops a.tmps) = false) (h : K undef w) : StepOf P ops Q o a w K := by
  unfold StepOf
  rw [if_neg (by rw [hw]; simp)]
  exact h
/-- What a frame holds, as an operation reads it. -/
theorem eval_of {a : Act} {t : Tmp} {v : Value} (h : a.tmps[t]? = some v) : a.eval (.tmp t) = v := by simp [Act.eval, h]

/-- Those done have the values of a table. -/
def Vals (V : Nat → Option Value) (D : Nat → Bool) (vs : Nat → Value) : Prop := ∀ k v, D k = true → V k = some v → vs k = v
theorem Vals.nil {V : Nat → Option Value} : Vals V (fun _ => false) (fun _ => undef) := fun k v h => by cases h
theorem Vals.set {V : Nat → Option Value} {D : Nat → Bool} {vs : Nat → Value} (h : Vals V D vs) (j : Nat) (v : Value) (hv : ∀ u, V j = some u → v = u) : Vals V (fset D j true) (fset vs j v) := by
  intro k u hD hV
  by_cases hk : k = j
  · subst hk; rw [fset_same]; exact hv u hV
  · rw [fset_ne _ _ hk] at hD ⊢; exact h k u hD hV
/-- What an operation reads of one that is done; of what stood there ahead of the region. -/
theorem at_done {V : Nat → Option Value} {D : Nat → Bool} {vs : Nat → Value} {a : Act} (H : Vals V D vs) (hv : ∀ k t, D k = true → writer ops t = some k → a.tmps[t]? = some (vs k)) {k : Nat} (hk : D k = true) (t : Tmp) (hw : writer ops t = some k) {v : Value} (hV : V k = some v) : a.tmps[t]?.getD undef = v := by
  rw [hv k t hk hw, H k v hk hV]; rfl
theorem at_base {a a0 : Act} (hb : ∀ t, writer ops t = none → a.tmps[t]? = a0.tmps[t]?) (t : Tmp) (hw : writer ops t = none) {v : Value} (h0 : a0.tmps[t]? = some v) : a.tmps[t]?.getD undef = v := by
  rw [hb t hw, h0]; rfl
theorem eval_get {a : Act} {t : Tmp} {v : Value} (h : a.tmps[t]?.getD undef = v) : a.eval (.tmp t) = v := by simp [Act.eval, h]
end
end Go.Proofs.Ytghboanmiggcnaa

/-
  Package model: a model's memory; Insert; Points of a model of one.
-/





namespace Go.Proofs.Ytghboanmiggcnaa
open Go.RowKit Go.Maps Go.Sort Go.Shelf
set_option linter.unusedVariables false
set_option linter.unusedSimpArgs false

/-- A model: its map's points. -/
structure ModelM (w : World) (p b n : Nat) (D : DataW Pt) : Prop where
  blk : Blk w p #[.map (some b)]
  own : w.ownsMap Try.prog 3 ptR b n D
  ne : p ≠ b
theorem mmap_sole {S : Nat → Prop} {w w' : World} {b n : Nat} {D : DataW Pt} (h : w.ownsMap Try.prog 3 ptR b n D) (hs : Sole S w w') (hn : ¬ S b) : w'.ownsMap Try.prog 3 ptR b n D := by
  have hlt := h.lt
  obtain ⟨es, clock, hb, r⟩ := h
  exact ⟨es, clock, (hs.block b hlt hn).trans hb, r⟩
theorem ModelM.more {w w' : World} {p b n : Nat} {D : DataW Pt} (h : ModelM w p b n D) (hb : Below w.heap.size w w') : ModelM w' p b n D :=
  ⟨h.blk.more hb, mmap_sole h.own (Sole.made (S := fun _ => False) hb) id, h.ne⟩
abbrev mp0 : Pt := ⟨0, 0, 0, ByteArray.empty⟩
theorem mzero (w : World) : (zeroValue 53).run Try.prog w = .ok (pval mp0) w := by kernel_rfl
theorem mlook {w : World} {b n : Nat} {D : DataW Pt} (h : w.ownsMap Try.prog 3 ptR b n D) (id : Int) (hw : (Lit.int .i64 id).wf = true) : ∃ Q : Pt, (D.atKey (.int .i64 id) (.held mp0) = .held Q) ∧ ∀ w' : World, w'.ownsMap Try.prog 3 ptR b n D →
    (Instr.lookup 57 (.map (some b)) (.int .i64 id) true).run Try.prog w' = .ok (.tuple #[pval Q, .bool (Maps.has D (.int .i64 id))]) w' := by
  obtain ⟨v, ps, hrun, hv⟩ := h.look_ok mlawK Try.underlying57 (mzero w) (zd := .held mp0) (zp := []) (ptR_pval mp0) (keyOf_int_mk (P := Try.prog) Try.underlying3 hw)
  obtain ⟨Q, rfl, hq⟩ := ptR_inv hv
  refine ⟨Q, (Prod.mk.inj hq).1, fun w' h' => ?_⟩
  obtain ⟨v', ps', hrun', hv'⟩ := h'.look_ok mlawK Try.underlying57 (mzero w') (zd := .held mp0) (zp := []) (ptR_pval mp0) (keyOf_int_mk (P := Try.prog) Try.underlying3 hw)
  obtain ⟨Q', rfl, hq'⟩ := ptR_inv hv'
  have e1 := (Prod.mk.inj hq).1
  have e2 := (Prod.mk.inj hq').1
  rw [e1] at e2
  cases e2
  exact hrun'
/-- As a looked up point is laid. -/
structure IZ (W : World) (V : Nat → Option Value) (D : Nat → Bool) (vs : Nat → Value) (w : World) : Prop where
  vals : Vals V D vs
  low : Below W.heap.size W w
  size : D 10 = false → w.heap.size = W.heap.size
  blk : D 10 = true → ∃ C, Blk w W.heap.size C ∧ C.size = 4
theorem IZ.quiet {W : World} {V : Nat → Option Value} {D : Nat → Bool} {vs : Nat → Value} {w : World} (h : IZ W V D vs w) (j : Nat) (v : Value) (hj : j ≠ 10) (hv : V j = some v) : IZ W V (fset D j true) (fset vs j v) w :=
  ⟨h.vals.set j v (fun u hu => Option.some.inj (hv.symm.trans hu)), h.low, by rw [fset_ne D true (show 10 ≠ j from fun e => hj e.symm)]; exact h.size, by rw [fset_ne D true (show 10 ≠ j from fun e => hj e.symm)]; exact h.blk⟩
theorem IZ.made {W : World} {V : Nat → Option Value} {D : Nat → Bool} {vs : Nat → Value} {w : World} (h : IZ W V D vs w) (hD : D 10 = false) (Z : Array Value) (hZ : Z.size = 4) (t : TypeId) (v : Value) (hv : V 10 = some v) : IZ W V (fset D 10 true) (fset vs 10 v) (w.alloc (.cells Z t)) := by
  have hs := h.size hD
  refine ⟨h.vals.set 10 v (fun u hu => Option.some.inj (hv.symm.trans hu)), below2 h.low (mbelow_one _ _) h.low.size, (fun e => by rw [fset_same] at e; cases e), fun _ => ⟨Z, ?_, hZ⟩⟩
  rw [← hs]
  exact Blk.new w Z t
theorem IZ.stored {W : World} {V : Nat → Option Value} {D : Nat → Bool} {vs : Nat → Value} {w : World} (h : IZ W V D vs w) (hD : D 10 = true) (C : Array Value) (hC : C.size = 4) (hv : V 11 = none) : IZ W V (fset D 11 true) (fset vs 11 undef) (w.setCells W.heap.size 0 C.toList) := by
  obtain ⟨C0, B, h0⟩ := h.blk hD
  refine ⟨h.vals.set 11 undef (fun u hu => by rw [hv] at hu; cases hu), below_cells h.low (Nat.le_refl _) 0 C.toList, ?_, ?_⟩
  · rw [fset_ne D true (show 10 ≠ 11 by decide)]
    intro e
    rw [hD] at e
    cases e
  · exact fun _ => ⟨C, B.whole (by rw [h0, hC]), hC⟩
theorem malloc_run (ρ : Operand → Value) (dst : Option Tmp) (ty : TypeId) (pos : String) (af : Array Edge) (w : World) : (execOp ρ { dst := dst, op := .alloc 53, type := ty, pos := pos, after := af, guard := none }).run Try.prog w =
    .ok (.value (.pointer (some ⟨w.heap.size, 0, none⟩))) (w.alloc (.cells #[.int .i64 0, .int .u32 0, .int .u32 0, .string ByteArray.empty] 53)) := by kernel_rfl
theorem mstore_at {P : Program} (ρ : Operand → Value) (op : Oper) (w : World) (ty : TypeId) (x y : Operand) (ho : op.op = .store ty x y)
    (b o : Nat) (c : Array Value) (hx : ρ x = .pointer (some ⟨b, o, none⟩)) (hy : ρ y = .agg c) (ht : w.there b o c.size) (hi : (P.info? ty).map (·.size) = some c.size) (h1 : c.all (·.oneCell') = true) :
    (execOp ρ op).run P w = .ok .skip (w.setCells b o c.toList) := by
  unfold execOp
  simp only [ho, hx, hy, Instr.storeAt, Instr.sureAddr, Sem.run_bind, Sem.run_pure, Result.andThen_ok, run_storeVar_mid w b o ty c ht hi h1]
theorem mload_at {P : Program} (ρ : Operand → Value) (op : Oper) (w : World) (ty : TypeId) (x : Operand) (ho : op.op = .load ty x)
    (b o : Nat) (hx : ρ x = .pointer (some ⟨b, o, none⟩)) (c : Array Value) (d : TypeDesc) (B : w.rangeAt b o c.toList)
    (hu : P.underlying ty = some d) (hd : d.isRow = true) (hi : (P.info? ty).map (·.size) = some c.size) :
    (execOp ρ op).run P w = .ok (.value (.agg c)) w := by
  unfold execOp
  simp only [ho, hx, Instr.loadAt, Instr.sureAddr, Sem.run_bind, Sem.run_pure, Result.andThen_ok, run_loadVar_mid w b o ty c.toList d B hu hd (by rw [hi]; simp), Array.toArray_toList]
/-- Of several operations none turns what is there. -/
structure IBm (W : World) (V : Nat → Option Value) (D : Nat → Bool) (vs : Nat → Value) (w : World) : Prop where
  vals : Vals V D vs
  now : w = W
theorem IBm.quiet {W : World} {V : Nat → Option Value} {D : Nat → Bool} {vs : Nat → Value} {w : World} (h : IBm W V D vs w) (j : Nat) (v : Value) (hv : V j = some v) : IBm W V (fset D j true) (fset vs j v) w :=
  ⟨h.vals.set j v (fun u hu => Option.some.inj (hv.symm.trans hu)), h.now⟩
def tabUpd (p b bx : Nat) (P : Pt) : Nat → Option Value
  | 0 => some (.pointer (some ⟨p, 0, none⟩))
  | 1 => some (.pointer (some ⟨p, 0, none⟩))
  | 2 => some (.pointer (some ⟨p, 0, none⟩))
  | 3 => some (.map (some b))
  | 4 => some (.pointer (some ⟨bx, 0, none⟩))
  | 5 => some (.int .i64 P.id)
  | 6 => some (pval P)
  | _ => none
theorem ptsz : (Try.prog.info? 53).map (·.size) = some 4 := by kernel_rfl
def tabIns (p b bx wz : Nat) (id : Int) (Q : Pt) (hs : Bool) : Nat → Option Value
  | 0 => some (.pointer (some ⟨p, 0, none⟩))
  | 1 => some (.pointer (some ⟨p, 0, none⟩))
  | 2 => some (.pointer (some ⟨p, 0, none⟩))
  | 3 => some (.map (some b))
  | 4 => some (.pointer (some ⟨bx, 0, none⟩))
  | 5 => some (.int .i64 id)
  | 6 => some (.tuple #[pval Q, .bool hs])
  | 7 => some (.tuple #[pval Q, .bool hs])
  | 8 => some (pval Q)
  | 9 => some (.bool hs)
  | 10 => some (.pointer (some ⟨wz, 0, none⟩))
  | _ => none

set_option maxRecDepth 100000 in
set_option maxHeartbeats 8000000 in
theorem minsert_any (p b n : Nat) (D : DataW Pt) (w : World) (G : ModelM w p b n D) (hn : n < 1000000) (P : Pt) (hP : P.ok) (hc : checkC P = 0) (hw : (Lit.int .i64 P.id).wf = true) :
    Calls Try.prog 18 #[.pointer (some ⟨p, 0, none⟩), pval P] w fun e w' => (Maps.has D (.int .i64 P.id) = true → e = .returned (.int .i64 22) ∧ Below w.heap.size w w') ∧
      (Maps.has D (.int .i64 P.id) = false → e = .returned (.int .i64 0) ∧ ModelM w' p b (n + 1) (D.put (.int .i64 P.id) (.held P)) ∧ Sole (fun k => k = b) w w') := by
  have hb := hid (mbelow_one w (.cells #[.int .i64 P.id, .int .u32 P.x, .int .u32 P.y, .string P.d] 53))
  have B0 := hid (Blk.new w #[.int .i64 P.id, .int .u32 P.x, .int .u32 P.y, .string P.d] 53)
  have K := hid (mmadeOf p (some b) _ (G.more hb.out).blk)
  have KC0 := fun w => check_any P hP w
  rw [hc] at KC0
  have KC := hid KC0
  have hG := hid G
  obtain ⟨Q, _, hrun⟩ := mlook G.own P.id hw
  have hrunh := hid hrun
  have hbw := hid (show p < w.heap.size ∧ b < w.heap.size from ⟨G.blk.lt, G.own.lt⟩)
  obtain ⟨hs, hhs⟩ : ∃ hs, hs = Maps.has D (.int .i64 P.id) := ⟨_, rfl⟩
  rw [← hhs]
  rw [← hhs] at hrun
  have hrunh := hid hrun
  have hkey := keyOf_int_mk (P := Try.prog) Try.underlying3 hw
  have hkeyh := hid hkey
  clear G KC0 hrun hhs hc hkey
  obtain ⟨l1, m1, f1⟩ := B0.out
  go_enter Try.func18, Try.ntmps18
  go_wp2_with fail
  refine K.out.mono ?_
  rintro e w1 ⟨rfl, hw1⟩
  rw [hw1]
  clear hw1 w1 K
  go_wp2_with fail
  refine (KC.out _).mono ?_
  rintro e w2 ⟨rfl, hb2⟩
  have D2 := hid (below2 hb.out hb2 hb.out.size)
  have B2 := hid (B0.out.more hb2)
  clear hb2 KC hb B0 l1 m1 f1
  go_upto_region 6 with (fail)
  have Bd := hid (show Blk w2.drew w.heap.size _ from B2.out.more (Below.refl _ _).drew)
  have Md := hid (hG.out.more D2.out.drew)
  have Dd := hid D2.out.drew
  generalize w.heap.size = bx at Bd ⊢
  generalize hV : tabIns p b bx w2.drew.heap.size P.id Q hs = V
  refine wp_region_inv 12 (fun D vs wx => IZ w2.drew V D vs wx) (by kernel_rfl) (by kernel_rfl) ?h0 ?hstep ?hend
  case h0 => exact ⟨Vals.nil, Below.refl _ _, fun _ => rfl, (fun e => by cases e)⟩
  case hstep =>
    intro n o hj ho D vs ax wx hDj hD hv hbase H
    rcases (show n = 0 ∨ n = 1 ∨ n = 2 ∨ n = 3 ∨ n = 4 ∨ n = 5 ∨ n = 6 ∨ n = 7 ∨ n = 8 ∨ n = 9 ∨ n = 10 ∨ n = 11 by omega) with rfl | rfl | rfl | rfl | rfl | rfl | rfl | rfl | rfl | rfl | rfl | rfl
    all_goals
      simp only [List.getElem?_cons_zero, List.getElem?_cons_succ, Option.some.injEq] at ho
      subst ho
    · have f0 := at_base hbase 0 (by kernel_rfl) (v := .pointer (some ⟨p, 0, none⟩)) rfl
      exact StepOf.value (.pointer (some ⟨p, 0, none⟩)) (wanted_plain rfl _) (by simp [execOp, Act.eval, f0, go_sem]) (H.quiet 0 _ (by decide) (by rw [← hV]; rfl))
    · have e0 := at_done H.vals hv (hD 0 (by kernel_rfl)) 17 (by kernel_rfl) (v := .pointer (some ⟨p, 0, none⟩)) (by rw [← hV]; rfl)
      exact StepOf.value (.pointer (some ⟨p, 0, none⟩)) (wanted_plain rfl _) (by simp [execOp, Act.eval, e0, go_sem]) (H.quiet 1 _ (by decide) (by rw [← hV]; rfl))
    · have e1 := at_done H.vals hv (hD 1 (by kernel_rfl)) 18 (by kernel_rfl) (v := .pointer (some ⟨p, 0, none⟩)) (by rw [← hV]; rfl)
      exact StepOf.value (.pointer (some ⟨p, 0, none⟩)) (wanted_plain rfl _) (by simp [execOp, Act.eval, e1, go_sem]) (H.quiet 2 _ (by decide) (by rw [← hV]; rfl))
    · have e2 := at_done H.vals hv (hD 2 (by kernel_rfl)) 19 (by kernel_rfl) (v := .pointer (some ⟨p, 0, none⟩)) (by rw [← hV]; rfl)
      have hc : wx.cell? ⟨p, 0, none⟩ = some (.map (some b)) := (Md.out.more H.low).blk.cell 0
      exact StepOf.value (.map (some b)) (wanted_plain rfl _) (by simp [execOp, Act.eval, e2, go_sem, hc]) (H.quiet 3 _ (by decide) (by rw [← hV]; rfl))
    · have f3 := at_base hbase 3 (by kernel_rfl) (v := .pointer (some ⟨bx, 0, none⟩)) rfl
      exact StepOf.value (.pointer (some ⟨bx, 0, none⟩)) (wanted_plain rfl _) (by simp [execOp, Act.eval, f3, go_sem]) (H.quiet 4 _ (by decide) (by rw [← hV]; rfl))
    · have e4 := at_done H.vals hv (hD 4 (by kernel_rfl)) 21 (by kernel_rfl) (v := .pointer (some ⟨bx, 0, none⟩)) (by rw [← hV]; rfl)
      have hc : wx.cell? ⟨bx, 0, none⟩ = some (.int .i64 P.id) := (Bd.out.more H.low).cell 0
      exact StepOf.value (.int .i64 P.id) (wanted_plain rfl _) (by simp [execOp, Act.eval, e4, go_sem, hc]) (H.quiet 5 _ (by decide) (by rw [← hV]; rfl))
    · have e3 := at_done H.vals hv (hD 3 (by kernel_rfl)) 20 (by kernel_rfl) (v := .map (some b)) (by rw [← hV]; rfl)
      have e5 := at_done H.vals hv (hD 5 (by kernel_rfl)) 22 (by kernel_rfl) (v := .int .i64 P.id) (by rw [← hV]; rfl)
      have hr := hrunh.out wx (Md.out.more H.low).own
      exact StepOf.value (.tuple #[pval Q, .bool hs]) (wanted_plain rfl _) (by simp [execOp, Act.eval, e3, e5, hr, Result.andThen]) (H.quiet 6 _ (by decide) (by rw [← hV]; rfl))
    · have e6 := at_done H.vals hv (hD 6 (by kernel_rfl)) 23 (by kernel_rfl) (v := .tuple #[pval Q, .bool hs]) (by rw [← hV]; rfl)
      exact StepOf.value (.tuple #[pval Q, .bool hs]) (wanted_plain rfl _) (by simp [execOp, Act.eval, e6, go_sem]) (H.quiet 7 _ (by decide) (by rw [← hV]; rfl))
    · have e7 := at_done H.vals hv (hD 7 (by kernel_rfl)) 16 (by kernel_rfl) (v := .tuple #[pval Q, .bool hs]) (by rw [← hV]; rfl)
      exact StepOf.value (pval Q) (wanted_plain rfl _) (by simp [execOp, Act.eval, e7, go_sem]) (H.quiet 8 _ (by decide) (by rw [← hV]; rfl))
    · have e7 := at_done H.vals hv (hD 7 (by kernel_rfl)) 16 (by kernel_rfl) (v := .tuple #[pval Q, .bool hs]) (by rw [← hV]; rfl)
      exact StepOf.value (.bool hs) (wanted_plain rfl _) (by simp [execOp, Act.eval, e7, go_sem]) (H.quiet 9 _ (by decide) (by rw [← hV]; rfl))
    · have hsz := H.size hDj
      exact StepOf.value (.pointer (some ⟨wx.heap.size, 0, none⟩)) (wanted_plain rfl _) (malloc_run _ _ _ _ _ wx) (by rw [hsz]; exact H.made hDj _ rfl _ _ (by rw [← hV]; rfl))
    · have e10 := at_done H.vals hv (hD 10 (by kernel_rfl)) 6 (by kernel_rfl) (v := .pointer (some ⟨w2.drew.heap.size, 0, none⟩)) (by rw [← hV]; rfl)
      have e8 := at_done H.vals hv (hD 8 (by kernel_rfl)) 24 (by kernel_rfl) (v := pval Q) (by rw [← hV]; rfl)
      obtain ⟨C, BC, hC⟩ := H.blk (hD 10 (by kernel_rfl))
      have hst := H.stored (hD 10 (by kernel_rfl)) #[.int .i64 Q.id, .int .u32 Q.x, .int .u32 Q.y, .string Q.d] rfl (by rw [← hV]; rfl)
      exact StepOf.skip (wanted_plain rfl _) (mstore_at _ _ _ 53 _ _ rfl w2.drew.heap.size 0 #[.int .i64 Q.id, .int .u32 Q.x, .int .u32 Q.y, .string Q.d] (eval_get e10) (eval_get e8) (BC.there (n := 4) hC.symm) (by rw [ptsz]; rfl) (by simp [Value.oneCell'])) hst
  case hend =>
    intro D9 vs W7x hall H
    have hlow := hid H.low
    have v0 := H.vals 0 _ (hall 0 (by omega)) (by rw [← hV]; rfl)
    have v1 := H.vals 1 _ (hall 1 (by omega)) (by rw [← hV]; rfl)
    have v2 := H.vals 2 _ (hall 2 (by omega)) (by rw [← hV]; rfl)
    have v3 := H.vals 3 _ (hall 3 (by omega)) (by rw [← hV]; rfl)
    have v4 := H.vals 4 _ (hall 4 (by omega)) (by rw [← hV]; rfl)
    have v5 := H.vals 5 _ (hall 5 (by omega)) (by rw [← hV]; rfl)
    have v6 := H.vals 6 _ (hall 6 (by omega)) (by rw [← hV]; rfl)
    have v7 := H.vals 7 _ (hall 7 (by omega)) (by rw [← hV]; rfl)
    have v8 := H.vals 8 _ (hall 8 (by omega)) (by rw [← hV]; rfl)
    have v9 := H.vals 9 _ (hall 9 (by omega)) (by rw [← hV]; rfl)
    have v10 := H.vals 10 _ (hall 10 (by omega)) (by rw [← hV]; rfl)
    simp only [puts, List.range, List.range.loop, List.foldl_cons, List.foldl_nil, List.getElem?_toArray, List.getElem?_cons_succ, List.getElem?_cons_zero, Option.bind_some, Option.bind_none, Act.put, List.setIfInBounds_toArray, List.set_cons_succ, List.set_cons_zero, v0, v1, v2, v3, v4, v5, v6, v7, v8, v9, v10]
    simp only [List.drop_succ_cons, List.drop_zero]
    clear v0 v1 v2 v3 v4 v5 v6 v7 v8 v9 v10 hall H hV
    have D7 := hid (below2 Dd.out hlow.out Dd.out.size)
    have B7 := hid (Bd.out.more hlow.out)
    have M7 := hid (Md.out.more hlow.out)
    clear hlow Bd Md Dd
    cases hs with
    | true =>
      go_wp2_with fail
      go_ret
      exact ⟨rfl, D7.out⟩
    | false =>
      go_upto_region 9 with (fail)
      have Bd := hid (show Blk W7x.drew bx _ from B7.out.more (Below.refl _ _).drew)
      have Md := hid (M7.out.more (Below.refl _ _).drew)
      have Dd := hid D7.out.drew
      generalize hV : tabUpd p b bx P = V
      refine wp_region_inv 7 (fun D vs wx => IBm W7x.drew V D vs wx) (by kernel_rfl) (by kernel_rfl) ?h0 ?hstep ?hend
      case h0 => exact ⟨Vals.nil, rfl⟩
      case hstep =>
        intro n o hj ho D vs ax wx hDj hD hv hbase H
        have hwx := H.now
        subst hwx
        rcases (show n = 0 ∨ n = 1 ∨ n = 2 ∨ n = 3 ∨ n = 4 ∨ n = 5 ∨ n = 6 by omega) with rfl | rfl | rfl | rfl | rfl | rfl | rfl
        all_goals
          simp only [List.getElem?_cons_zero, List.getElem?_cons_succ, Option.some.injEq] at ho
          subst ho
        · have f0 := at_base hbase 0 (by kernel_rfl) (v := .pointer (some ⟨p, 0, none⟩)) rfl
          exact StepOf.value (.pointer (some ⟨p, 0, none⟩)) (wanted_plain rfl _) (by simp [execOp, Act.eval, f0, go_sem]) (H.quiet 0 _ (by rw [← hV]; rfl))
        · have e0 := at_done H.vals hv (hD 0 (by kernel_rfl)) 27 (by kernel_rfl) (v := .pointer (some ⟨p, 0, none⟩)) (by rw [← hV]; rfl)
          exact StepOf.value (.pointer (some ⟨p, 0, none⟩)) (wanted_plain rfl _) (by simp [execOp, Act.eval, e0, go_sem]) (H.quiet 1 _ (by rw [← hV]; rfl))
        · have e1 := at_done H.vals hv (hD 1 (by kernel_rfl)) 28 (by kernel_rfl) (v := .pointer (some ⟨p, 0, none⟩)) (by rw [← hV]; rfl)
          exact StepOf.value (.pointer (some ⟨p, 0, none⟩)) (wanted_plain rfl _) (by simp [execOp, Act.eval, e1, go_sem]) (H.quiet 2 _ (by rw [← hV]; rfl))
        · have e2 := at_done H.vals hv (hD 2 (by kernel_rfl)) 29 (by kernel_rfl) (v := .pointer (some ⟨p, 0, none⟩)) (by rw [← hV]; rfl)
          have hc : W7x.drew.cell? ⟨p, 0, none⟩ = some (.map (some b)) := Md.out.blk.cell 0
          exact StepOf.value (.map (some b)) (wanted_plain rfl _) (by simp [execOp, Act.eval, e2, go_sem, hc]) (H.quiet 3 _ (by rw [← hV]; rfl))
        · have f3 := at_base hbase 3 (by kernel_rfl) (v := .pointer (some ⟨bx, 0, none⟩)) rfl
          exact StepOf.value (.pointer (some ⟨bx, 0, none⟩)) (wanted_plain rfl _) (by simp [execOp, Act.eval, f3, go_sem]) (H.quiet 4 _ (by rw [← hV]; rfl))
        · have e4 := at_done H.vals hv (hD 4 (by kernel_rfl)) 31 (by kernel_rfl) (v := .pointer (some ⟨bx, 0, none⟩)) (by rw [← hV]; rfl)
          have hc : W7x.drew.cell? ⟨bx, 0, none⟩ = some (.int .i64 P.id) := Bd.out.cell 0
          exact StepOf.value (.int .i64 P.id) (wanted_plain rfl _) (by simp [execOp, Act.eval, e4, go_sem, hc]) (H.quiet 5 _ (by rw [← hV]; rfl))
        · have f3 := at_base hbase 3 (by kernel_rfl) (v := .pointer (some ⟨bx, 0, none⟩)) rfl
          exact StepOf.value (pval P) (wanted_plain rfl _) (mload_at _ _ _ 53 _ rfl bx 0 (eval_get f3) #[.int .i64 P.id, .int .u32 P.x, .int .u32 P.y, .string P.d] _ Bd.out.range Try.underlying53 rfl (by rw [ptsz]; rfl)) (H.quiet 6 _ (by rw [← hV]; rfl))
      case hend =>
        intro D9 vs W9 hall H
        have hwx := H.now
        subst hwx
        have v0 := H.vals 0 _ (hall 0 (by omega)) (by rw [← hV]; rfl)
        have v1 := H.vals 1 _ (hall 1 (by omega)) (by rw [← hV]; rfl)
        have v2 := H.vals 2 _ (hall 2 (by omega)) (by rw [← hV]; rfl)
        have v3 := H.vals 3 _ (hall 3 (by omega)) (by rw [← hV]; rfl)
        have v4 := H.vals 4 _ (hall 4 (by omega)) (by rw [← hV]; rfl)
        have v5 := H.vals 5 _ (hall 5 (by omega)) (by rw [← hV]; rfl)
        have v6 := H.vals 6 _ (hall 6 (by omega)) (by rw [← hV]; rfl)
        simp only [puts, List.range, List.range.loop, List.foldl_cons, List.foldl_nil, List.getElem?_toArray, List.getElem?_cons_succ, List.getElem?_cons_zero, Option.bind_some, Option.bind_none, Act.put, List.setIfInBounds_toArray, List.set_cons_succ, List.set_cons_zero, v0, v1, v2, v3, v4, v5, v6]
        simp only [List.drop_succ_cons, List.drop_zero]
        clear v0 v1 v2 v3 v4 v5 v6 hall H hV
        obtain ⟨w3, hrun3, hown3, hgrow3⟩ := Md.out.own.update mlawK Try.underlying57 (show n < maxLen by unfold maxLen; omega) (val := pval P) hkeyh.out (ptR_pval P)
        have S3 : Sole (fun k => k = b) W7x.drew w3 := Sole.grown hgrow3 fun k e => by cases e; rfl
        have E := hid (show ModelM w3 p b (n + 1) (D.put (.int .i64 P.id) (.held P)) ∧ Sole (fun k => k = b) w w3 from ⟨⟨Md.out.blk.sole S3 Md.out.ne, hown3, Md.out.ne⟩, (Sole.made Dd.out).trans S3⟩)
        clear S3 hown3 hgrow3
        go_wp2_with fail
        go_ret
        exact ⟨rfl, E.out⟩
end Go.Proofs.Ytghboanmiggcnaa

/-
  Package model: Points of a model of one point.
-/

namespace Go.Proofs.Ytghboanmiggcnaa
open Go.RowKit Go.Maps Go.Sort Go.Shelf
set_option linter.unusedVariables false
set_option linter.unusedSimpArgs false

theorem mown_one {w : World} {base : Nat} {e : TypeId} {size : Nat} {v : Value} {n : Nat} {xs : List Value} (h : w.ownsRow base e size v n xs) (hn : n = 1) : ∃ g cap, v = .slice (some ⟨g, 0, none⟩) 1 cap := by
  subst hn
  rcases h.2 with ⟨_, h0⟩ | ⟨g, cap, cur, rfl, _⟩
  · cases h0
  · exact ⟨g, cap, rfl⟩
set_option maxRecDepth 100000 in
set_option maxHeartbeats 2000000 in
theorem msorted_in (n : Nat) (hn : 4 ≤ n) (g : Nat) (lb : Array Value) (eg : ∀ args w, (callFunc g args).run Try.prog w = .ok (.enter g args) w) (S : List Pt → Prop) (hS1 : ∀ ss, S ss → ss.length = 1) (N : Nat) (hN : N ≤ 1000000) (f : Value) (w : World)
    (hseq : SeqStopsK Fence.wide (n - 1 - 1 - 1) Try.prog g lb (fun p => #[pval p]) KeepsWalks S (fun _ => True) N w) :
    CallsIn Fence.wide n Try.prog 47 #[.func (.func g) #[] lb, f] w fun e w' => (∃ q c, e = .returned (.slice q 1 c)) ∧ Below w.heap.size w w' := by
  have h1 : 1 ≤ n := by omega
  have cC := mcollect_in (n - 1) (by omega) g lb eg S N hN w hseq
  have hfC : Fence.wide.fn 67 := trivial
  have hfS : Fence.wide.fn 68 := trivial
  refine callsIn_of_wp Try.func47 rfl trivial ?_ rfl
  simp only [Try.ntmps47, List.size_toArray, List.length_cons, List.length_nil, Nat.reduceAdd, Nat.reduceSub, Array.replicate_succ, Array.replicate_zero, List.push_toArray, List.append_toArray, List.nil_append, List.cons_append]
  gi_wp2_with (first
    | (gi_at_call 67; refine cC.mono ?_; rintro e w1 ⟨v, ss, rfl, hS, hrow, hb⟩; obtain ⟨g1, cap1, rfl⟩ := mown_one hrow (hS1 ss hS))
    | (gi_at_call 68; refine (callsIn_wide.2 (ksort1 _ _ _ _)).mono ?_; rintro e w2 ⟨rfl, rfl⟩))
  go_ret
  exact ⟨⟨_, _, rfl⟩, hb⟩
set_option maxRecDepth 100000 in
set_option maxHeartbeats 2000000 in
theorem mpoints_one (p b n : Nat) (P : Pt) (w : World) (G : ModelM w p b n ((DataW.map []).put (.int .i64 P.id) (.held P))) : Calls Try.prog 23 #[.pointer (some ⟨p, 0, none⟩)] w fun e w' => (∃ q c, e = .returned (.slice q 1 c)) ∧ Below w.heap.size w w' := by
  obtain ⟨D, hD⟩ : ∃ D : DataW Pt, D = (DataW.map []).put (.int .i64 P.id) (.held P) := ⟨_, rfl⟩
  rw [← hD] at G
  have hown := G.own
  have hbl := hown.lt
  have hsz : Maps.size D ≤ 1000000 := by rw [hD]; show (1 : Nat) ≤ 1000000; omega
  have hk : (intKeys D).length = 1 := by rw [hD]; rfl
  have cM : CallsIn Fence.wide 6 Try.prog 35 #[.pointer (some ⟨p, 0, none⟩)] w fun e w' => e = .returned (.bool (some b).isSome) ∧ w' = w := callsIn_wide.2 (mmadeOf p (some b) w G.blk)
  obtain ⟨lb, kb, fb⟩ := G.blk
  refine (callsIn_wide (n := 7)).1 ?_
  have hseq : SeqStopsK Fence.wide 3 Try.prog 69 #[.pointer (some ⟨w.heap.size, 0, none⟩)] (fun p => #[pval p]) KeepsWalks (fun xs => ∃ ps, MAllOf D ps ∧ xs = ps.map (·.2)) (fun _ => True) (Maps.size D) (w.alloc (.cells #[.map (some b)] 57)) :=
    mvals_stops Fence.wide 3 trivial rfl (by omega) w.heap.size b n D _ (by simp) (by simp) (by
      obtain ⟨es, clock, hb, Ft, hs, hD⟩ := hown
      exact ⟨es, clock, (Below.heap_alloc _ _ b hbl).trans hb, Ft, hs, hD⟩)
  have cV := mvalues_in Fence.wide 6 trivial rfl (some b) w
  have cS := fun f => msorted_in 6 (by omega) 69 #[.pointer (some ⟨w.heap.size, 0, none⟩)] (enters_of Try.func69 (by kernel_rfl) rfl) _ (fun ss ⟨ps, hA, e⟩ => by rw [e, List.length_map, ← List.length_map (f := (·.1)), hA.1.length_eq, hk]) (Maps.size D) hsz f _ hseq
  have hfM : Fence.wide.fn 35 := trivial
  have hfV : Fence.wide.fn 48 := trivial
  have hfS : Fence.wide.fn 47 := trivial
  clear hown hsz hD hk
  refine callsIn_of_wp Try.func23 rfl trivial ?_ rfl
  simp only [Try.ntmps23, List.size_toArray, List.length_cons, List.length_nil, Nat.reduceAdd, Nat.reduceSub, Array.replicate_succ, Array.replicate_zero, List.push_toArray, List.append_toArray, List.nil_append, List.cons_append]
  gi_wp2_with (first
    | (gi_at_call 35; refine cM.mono ?_; rintro e w' ⟨rfl, rfl⟩)
    | (gi_at_call 48; refine cV.mono ?_; rintro e w' ⟨rfl, rfl⟩)
    | (gi_at_call 47; refine (cS _).mono ?_; rintro e w' ⟨⟨q, c, rfl⟩, hb⟩))
  go_ret
  exact ⟨⟨q, c, rfl⟩, (mbelow_one _ _).trans (hb.mono (by simp))⟩
end Go.Proofs.Ytghboanmiggcnaa

/-
  Layer 29: twice one Id.
-/



namespace Go.Proofs.Ytghboanmiggcnaa
open Go.RowKit Go.Maps Go.Sort Go.Shelf
set_option linter.unusedVariables false
set_option linter.unusedSimpArgs false

abbrev mp5 : Pt := ⟨5, 0, 0, ByteArray.empty⟩
theorem mp5_ok : mp5.ok := ⟨by decide, by decide, by decide, by decide, by decide, by decide, by decide⟩
theorem mp5_may : checkC mp5 = 0 := by decide
theorem mwf5 : (Lit.int .i64 5).wf = true := by decide
abbrev mD1 : DataW Pt := (DataW.map []).put (.int .i64 5) (.held mp5)
theorem mhas0 : Maps.has (DataW.map [] : DataW Pt) (.int .i64 5) = false := rfl
theorem mhas1 : Maps.has mD1 (.int .i64 5) = true := has_put_same isMap_empty (mlawK.key (keyOf_int_mk (P := Try.prog) Try.underlying3 mwf5)) _
set_option maxRecDepth 100000 in
set_option maxHeartbeats 4000000 in
theorem mnew_two (a c : Nat) (w : World) (B : Blk w a #[.int .i64 5, .int .u32 0, .int .u32 0, .string ByteArray.empty, .int .i64 5, .int .u32 0, .int .u32 0, .string ByteArray.empty]) : Calls Try.prog 52 #[.slice (some ⟨a, 0, none⟩) 2 c] w fun e w' => ∃ p b, e = .returned (.pointer (some ⟨p, 0, none⟩)) ∧ ModelM w' p b 1 mD1 ∧ Below w.heap.size w w' := by
  have b1 := mbelow_one w (.map #[] 0)
  have b2 := mbelow_one (w.alloc (.map #[] 0)) (.cells #[.map (some w.heap.size)] 59)
  have M1 := World.ownsMap_made (H := Pt) w Try.prog 3 ptR
  have hs : (w.alloc (.map #[] 0)).heap.size = w.heap.size + 1 := by simp
  have D2 := hid (below2 b1 b2 b1.size)
  have G2 := hid (show ModelM ((w.alloc (.map #[] 0)).alloc (.cells #[.map (some w.heap.size)] 59)) (w.heap.size + 1) w.heap.size 0 (.map []) from ⟨by
      have := Blk.new (w.alloc (.map #[] 0)) #[.map (some w.heap.size)] 59
      rwa [hs] at this, mmap_sole M1 (Sole.made (S := fun _ => False) b2) (fun h => h), by omega⟩)
  have B2 := hid (B.more D2.out)
  have hal := hid B.lt
  clear b1 b2 M1 hs B
  have hmm := @run_makeMap Try.prog
  go_enter Try.func52, Try.ntmps52
  go_wp2_with fail
  clear hmm
  generalize World.alloc (World.alloc w _) _ = W2 at *
  refine wp_loop_rounds 3 ?_
  rw [rounds_succ]
  obtain ⟨la, ma, fa⟩ := B2.out
  go_wp2_with fail
  have b3 := mbelow_one W2 (.cells #[.int .i64 5, .int .u32 0, .int .u32 0, .string ByteArray.empty] 53)
  have B3 := B2.out.more b3
  have D3 := below2 D2.out b3 D2.out.size
  refine (minsert_any _ _ 0 _ _ (G2.out.more b3) (by omega) mp5 mp5_ok mp5_may mwf5).mono ?_
  rintro e w3 ⟨_, h3⟩
  obtain ⟨rfl, G4, S4⟩ := h3 mhas0
  have G4h := hid G4
  have B4 := hid (B3.sole S4 (by show ¬ _; have := hal.out; omega))
  have D4 := hid (D3.trans (S4.below (B := w.heap.size) D3.size (fun k (hk : k = w.heap.size) => by omega)))
  clear b3 B3 D3 h3 G4 S4 la ma fa G2 B2 D2
  go_wp2_with fail
  rw [rounds_succ]
  obtain ⟨la, ma, fa⟩ := B4.out
  go_wp2_with fail
  have b5 := mbelow_one w3 (.cells #[.int .i64 5, .int .u32 0, .int .u32 0, .string ByteArray.empty] 53)
  have D5 := below2 D4.out b5 D4.out.size
  have G5 := G4h.out.more b5
  refine (minsert_any _ _ 1 _ _ G5 (by omega) mp5 mp5_ok mp5_may mwf5).mono ?_
  rintro e w5 ⟨h5, _⟩
  obtain ⟨rfl, hb5⟩ := h5 mhas1
  have G6 := hid (G5.more hb5)
  have D6 := hid (below2 D5 hb5 D5.size)
  clear b5 D5 G5 h5 hb5 la ma fa G4h B4 D4
  go_wp2_with fail
  rw [rounds_succ]
  go_wp2_with fail
  go_ret
  exact ⟨_, _, rfl, G6.out, D6.out⟩
set_option maxRecDepth 100000 in
set_option maxHeartbeats 4000000 in
theorem alive29 (w : World) : Calls Try.prog 25 #[] w fun e w' => e = .returned (.bool true) ∧ Below w.heap.size w w' := by
  have b1 := hid (mbelow_one w (.cells #[.int .i64 5, .int .u32 0, .int .u32 0, .string ByteArray.empty, .int .i64 5, .int .u32 0, .int .u32 0, .string ByteArray.empty] 53))
  have B1 := hid (Blk.new w #[.int .i64 5, .int .u32 0, .int .u32 0, .string ByteArray.empty, .int .i64 5, .int .u32 0, .int .u32 0, .string ByteArray.empty] 53)
  go_enter Try.func25, Try.ntmps25
  go_wp2_with fail
  refine (mnew_two _ _ _ B1.out).mono ?_
  rintro e w2 ⟨p, b, rfl, G2, hb2⟩
  have D2 := hid (below2 b1.out hb2 b1.out.size)
  have G2h := hid G2
  clear hb2 G2 b1 B1
  go_wp2_with fail
  refine (mpoints_one p b 1 mp5 w2 G2h.out).mono ?_
  rintro e w3 ⟨⟨q, c, rfl⟩, hb3⟩
  have D3 := hid (below2 D2.out hb3 D2.out.size)
  have G3 := hid (G2h.out.more hb3)
  clear hb3 G2h D2
  go_wp2_with fail
  refine (minsert_any _ _ 1 _ _ G3.out (by omega) mp5 mp5_ok mp5_may mwf5).mono ?_
  rintro e w5 ⟨h5, _⟩
  obtain ⟨rfl, hb5⟩ := h5 mhas1
  have D5 := hid (below2 D3.out hb5 D3.out.size)
  clear h5 hb5 G3 D3
  go_wp2_with fail
  go_ret
  exact ⟨rfl, D5.out⟩
end Go.Proofs.Ytghboanmiggcnaa

/-
  Elements of any type in a row of the call's own: a list of them, the row that a walk reads, one more, others behind.
-/






namespace Go.Proofs.Ytghboanmiggcnaa
open Go.RowKit
set_option linter.unusedVariables false
set_option linter.unusedSimpArgs false

/-- How the elements of a slice lie. -/
structure RowT (α : Type) where
  ty : TypeId
  sl : TypeId
  sz : Nat
  bytes : Nat
  zero : Value
  cells : α → List Value
  dflt : α
structure RowT.Ok {α : Type} (T : RowT α) : Prop where
  under : Try.prog.underlying T.sl = some (.slice T.ty)
  tab : (Try.prog.info? T.ty).map (fun i => (i.zero, i.size, i.bytes)) = some (some T.zero, T.sz, T.bytes)
  zs : T.zero.cells.size = T.sz
  pos : 0 < T.sz
  len : ∀ x, (T.cells x).length = T.sz
  one : ∀ x, ∀ u ∈ T.cells x, u.oneCell' = true

section
variable {α : Type} {T : RowT α}
def flatR (T : RowT α) (L : List α) : List Value := L.flatMap T.cells
def atR (T : RowT α) (L : List α) (i : Nat) : α := (L[i]?).getD T.dflt
theorem atR_eq (L : List α) (i : Nat) (hi : i < L.length) : atR T L i = L[i] := by simp [atR, hi]
theorem atR_mem (L : List α) (i : Nat) (hi : i < L.length) : atR T L i ∈ L := by rw [atR_eq L i hi]; exact List.getElem_mem hi
theorem atR_of_mem (L : List α) (x : α) (h : x ∈ L) : ∃ i, i < L.length ∧ atR T L i = x := by
  obtain ⟨i, hi, e⟩ := List.getElem_of_mem h
  exact ⟨i, hi, by rw [atR_eq L i hi]; exact e⟩
theorem atR_take (L : List α) (k i : Nat) (h : i < k) : atR T (L.take k) i = atR T L i := by
  unfold atR; rw [List.getElem?_take_of_lt h]
theorem atR_drop (L : List α) (k i : Nat) : atR T (L.drop k) i = atR T L (k + i) := by
  unfold atR; rw [List.getElem?_drop]
theorem flatR_append (L M : List α) : flatR T (L ++ M) = flatR T L ++ flatR T M := by simp [flatR]
theorem flatR_one (q : α) : flatR T [q] = T.cells q := by simp [flatR]
theorem flatR_length (K : T.Ok) : ∀ L : List α, (flatR T L).length = L.length * T.sz
  | [] => by simp [flatR]
  | q :: L => by
    have h := flatR_length K L
    have hq := K.len q
    simp only [flatR, List.flatMap_cons, List.length_append, List.length_cons] at h ⊢
    rw [h, hq, Nat.add_mul, Nat.one_mul, Nat.add_comm]
theorem flatR_get (K : T.Ok) : ∀ (L : List α) (i j : Nat) (hi : i < L.length) (v : Value), (T.cells L[i])[j]? = some v → (flatR T L)[i * T.sz + j]? = some v
  | [], i, j, hi, v, h => absurd hi (Nat.not_lt_zero _)
  | q :: L, 0, j, hi, v, h => by
    have hj : j < (T.cells q).length := (List.getElem?_eq_some_iff.1 h).1
    simp only [flatR, List.flatMap_cons, Nat.zero_mul, Nat.zero_add]
    rw [List.getElem?_append_left hj]
    exact h
  | q :: L, i + 1, j, hi, v, h => by
    have ih := flatR_get K L i j (by simpa using hi) v (by simpa using h)
    have hq := K.len q
    have e1 : (i + 1) * T.sz = i * T.sz + T.sz := by rw [Nat.add_mul, Nat.one_mul]
    simp only [flatR, List.flatMap_cons]
    rw [List.getElem?_append_right (by omega), show (i + 1) * T.sz + j - (T.cells q).length = i * T.sz + j by omega]
    exact ih
theorem flatR_at (K : T.Ok) (M : List α) (t : Nat) (h : t < M.length * T.sz) : (flatR T M)[t]? = (T.cells (atR T M (t / T.sz)))[t % T.sz]? := by
  have hp := K.pos
  have hi : t / T.sz < M.length := (Nat.div_lt_iff_lt_mul hp).2 h
  have e : t = t / T.sz * T.sz + t % T.sz := by rw [Nat.mul_comm]; exact (Nat.div_add_mod t T.sz).symm
  have hr : t % T.sz < (T.cells M[t / T.sz]).length := by rw [K.len]; exact Nat.mod_lt _ hp
  have hf := flatR_get K M (t / T.sz) (t % T.sz) hi _ (List.getElem?_eq_getElem hr)
  rw [← e] at hf
  rw [hf, atR_eq M _ hi, List.getElem?_eq_getElem hr]

/-- A row of the call's own holds these. -/
def RowOwn (T : RowT α) (w : World) (base : Nat) (v : Value) (L : List α) : Prop := w.ownsRow base T.ty T.sz v L.length (flatR T L)
/-- A slice of these, wherever. -/
abbrev RowOf (T : RowT α) (w : World) (q : Option Addr) (L : List α) : Prop := RowP w q T.sz L.length (fun i => T.cells (atR T L i))

theorem RowOwn.nil (w : World) (base : Nat) : RowOwn T w base (.slice none 0 0) [] := World.ownsRow_nil _ _ _ _
theorem RowOwn.more {w w' : World} {base : Nat} {v : Value} {L : List α} (h : RowOwn T w base v L) (hb : Below w.heap.size w w') : RowOwn T w' base v L :=
  own_sole h (Sole.made (S := fun _ => False) hb) fun _ _ x => x
theorem RowOwn.alloc {w : World} {base : Nat} {v : Value} {L : List α} (h : RowOwn T w base v L) (o : Obj) : RowOwn T (w.alloc o) base v L := h.more ((Below.refl _ _).alloc (Nat.le_refl _) o)
theorem RowOwn.drew {w : World} {base : Nat} {v : Value} {L : List α} (h : RowOwn T w base v L) : RowOwn T w.drew base v L := h.more (Below.refl _ _).drew
theorem RowOwn.sole {S : Nat → Prop} {w w' : World} {base : Nat} {v : Value} {L : List α} (h : RowOwn T w base v L) (hs : Sole S w w') (hn : ∀ k, v.ownBlock = some k → ¬ S k) : RowOwn T w' base v L := own_sole h hs hn
theorem RowOwn.mono {w : World} {a b : Nat} {v : Value} {L : List α} (h : RowOwn T w b v L) (hab : a ≤ b) : RowOwn T w a v L := by
  refine ⟨h.1, h.2.imp id ?_⟩
  rintro ⟨g, cap, cur, e, hb, r⟩
  exact ⟨g, cap, cur, e, Nat.le_trans hab hb, r⟩
theorem RowOwn.within {w : World} {base : Nat} {v : Value} {L : List α} (h : RowOwn T w base v L) : ∀ k, v.ownBlock = some k → base ≤ k ∧ k < w.heap.size := World.ownsRow.lt h
theorem RowOwn.open (K : T.Ok) {w : World} {base : Nat} {v : Value} {L : List α} (h : RowOwn T w base v L) :
    ∃ p cap, v = .slice p L.length cap ∧ L.length ≤ cap ∧ cap ≤ maxLen ∧ RowOf T w p L := by
  rcases h.2 with ⟨rfl, h0⟩ | ⟨g, cap, cur, rfl, hb, hg, h1, h2, h3, h4⟩
  · exact ⟨none, 0, by rw [h0], by omega, Nat.zero_le _, .inl h0⟩
  · refine ⟨_, cap, rfl, h1, h2, .inr ⟨g, 0, rfl, (h.lt g rfl).2, fun i hi j u hu => ?_⟩⟩
    rw [atR_eq L i hi] at hu
    have hf := flatR_get K L i j hi u hu
    have := h.cells (g := g) rfl (i * T.sz + j) u hf
    rw [Nat.zero_add]
    unfold Addr.add at this
    split at this
    · rename_i e
      rw [e]
      exact this
    · simpa using this
/-- No bytes, or not nil. -/
theorem RowOwn.form {w : World} {base : Nat} {v : Value} {L : List α} (h : RowOwn T w base v L) : v = .slice none 0 0 ∧ L = [] ∨ ∃ g cap, v = .slice (some ⟨g, 0, none⟩) L.length cap ∧ base ≤ g ∧ g < w.heap.size ∧ L.length ≤ cap ∧ cap ≤ maxLen := by
  rcases h.2 with ⟨rfl, h0⟩ | ⟨g, cap, cur, rfl, hb, hg, h1, h2, h3, h4⟩
  · exact .inl ⟨rfl, List.eq_nil_of_length_eq_zero h0⟩
  · exact .inr ⟨g, cap, rfl, hb, (h.lt g rfl).2, h1, h2⟩
theorem RowOf.more {w w' : World} {q : Option Addr} {L : List α} (h : RowOf T w q L) (hb : Below w.heap.size w w') : RowOf T w' q L := RowP.more h hb
/-- The first ones, and those behind. -/
theorem RowOf.take {w : World} {q : Option Addr} {L : List α} (h : RowOf T w q L) (k : Nat) (hk : k ≤ L.length) : RowOf T w q (L.take k) := by
  have hl : (L.take k).length = k := by rw [List.length_take]; omega
  unfold RowOf
  rw [hl]
  rcases RowP.take h hk with h0 | ⟨b, o, e, r⟩
  · exact .inl h0
  · exact .inr ⟨b, o, e, r.lt, fun i hi j v hv => r.cell i hi j v (by rw [atR_take L k i hi] at hv; exact hv)⟩
theorem addr_plus (b o j : Nat) : Addr.add ⟨b, o, none⟩ j = ⟨b, o + j, none⟩ := by
  unfold Addr.add
  split
  · subst j; rfl
  · rfl
/-- s[k:], where s has room for more than k. -/
theorem RowOf.drop {w : World} {b o : Nat} {L : List α} (h : RowOf T w (some ⟨b, o, none⟩) L) (k : Nat) : RowOf T w (some ⟨b, o + k * T.sz, none⟩) (L.drop k) := by
  unfold RowOf
  rw [List.length_drop]
  by_cases h0 : L.length - k = 0
  · exact .inl h0
  · obtain ⟨b', o', e, r⟩ := RowP.row h (by omega)
    cases e
    have r2 := r.drop k
    exact .inr ⟨b, _, rfl, r2.lt, fun i hi j v hv => r2.cell i hi j v (by rw [atR_drop] at hv; exact hv)⟩

/-- A new block with one. -/
theorem rowOf_one (K : T.Ok) {w : World} {b : Nat} {c : Array Value} {x : α} (B : Blk w b c) (hc : c.toList = T.cells x) : RowOf T w (some ⟨b, 0, none⟩) [x] := by
  refine .inr ⟨_, _, rfl, B.lt, fun i hi j v hv => ?_⟩
  have hi0 : i = 0 := by simpa using hi
  subst hi0
  have e : 0 + 0 * T.sz + j = j := by simp
  rw [e, B.cell, ← Array.getElem?_toList, hc]
  exact hv
theorem rowOf_nil (w : World) (q : Option Addr) : RowOf T w q [] := .inl rfl

theorem append_row (K : T.Ok) (base : Nat) (ty : TypeId) (w : World) (v : Value) (l : List α) (hown : RowOwn T w base v l) (q : Option Addr) (c : Nat) (M : List α) (R : RowOf T w q M) (hn : (l.length + M.length) * T.bytes ≤ 140737488355328) (h63 : l.length + M.length ≤ maxLen) (hbase : base ≤ w.heap.size) :
    ∃ v' w', (Builtin.append_ #[T.sl, T.sl] ty #[v, .slice q M.length c]).run Try.prog w = .ok v' w' ∧ RowOwn T w' base v' (l ++ M) ∧ w.grownBy w' v.ownBlock ∧ (v'.ownBlock = v.ownBlock ∨ v'.ownBlock = some w.heap.size) := by
  obtain ⟨i, hi, hz, hs, hby⟩ := info_parts K.tab
  have ht := K.under
  by_cases h0 : M = []
  · subst h0
    refine ⟨v, w, ?_, by simpa using hown, ⟨rfl, rfl, rfl, Nat.le_refl _, fun _ _ _ => rfl⟩, .inl rfl⟩
    rcases hown.2 with ⟨rfl, h0⟩ | ⟨g, cap, cur, rfl, hbg, hg, hnc, hcm, hcs, htake⟩
    · cases q <;> simp [Builtin.append_, run_underlying ht, sizeOf, typeInfo, hi, hs, Builtin.lenOf, Builtin.firstCells, loadCells, loadCellsFrom, storeCells]
    · cases q <;> simp [Builtin.append_, run_underlying ht, sizeOf, typeInfo, hi, hs, Builtin.lenOf, Builtin.firstCells, loadCells, loadCellsFrom, storeCells, hnc]
  · have hp : M.length ≠ 0 := fun h => h0 (List.eq_nil_of_length_eq_zero h)
    obtain ⟨b, o, rfl, r⟩ := RowP.row R hp
    have hnews : ∀ j u, (flatR T M)[j]? = some u → w.cell? ((⟨b, o, none⟩ : Addr).add j) = some u := by
      intro j u hu
      have hj : j < M.length * T.sz := by
        have := (List.getElem?_eq_some_iff.1 hu).1
        rwa [flatR_length K] at this
      rw [flatR_at K M j hj] at hu
      have := r.cell (j / T.sz) ((Nat.div_lt_iff_lt_mul K.pos).2 hj) (j % T.sz) u hu
      have e : j / T.sz * T.sz + j % T.sz = j := by rw [Nat.mul_comm]; exact Nat.div_add_mod j T.sz
      rw [addr_plus, show o + j = o + j / T.sz * T.sz + j % T.sz by omega]
      exact this
    obtain ⟨v', w', hr, O, G, N, at'⟩ := run_append_own_at (P := Try.prog) w base T.sl ty T.ty i T.zero T.sz T.bytes ht hi hz hs hby K.zs K.pos v l.length (flatR T l) hown ⟨b, o, none⟩ M.length c (flatR T M) (flatR_length K M) hnews (fun u hu => by
      unfold flatR at hu
      obtain ⟨x, -, hx⟩ := List.mem_flatMap.1 hu
      exact K.one x u hx) h63 hn hbase
    refine ⟨v', w', hr, ?_, G, at'⟩
    unfold RowOwn
    rw [List.length_append, flatR_append]
    exact O
end
end Go.Proofs.Ytghboanmiggcnaa

/-
  Points in rows of the call's own, by number: slices.Clone of any points.
-/


namespace Go.Proofs.Ytghboanmiggcnaa
open Go.RowKit
set_option linter.unusedVariables false
set_option linter.unusedSimpArgs false

def gpT : RowT Pt := { ty := 53, sl := 26, sz := 4, bytes := 32, zero := .agg #[.int .i64 0, .int .u32 0, .int .u32 0, .string ByteArray.empty], cells := pcells, dflt := ⟨0, 0, 0, ByteArray.empty⟩ }
theorem gpOk : gpT.Ok := ⟨Try.underlying26, by kernel_rfl, rfl, by decide, fun _ => rfl, fun x u hu => by
  simp [gpT, pcells] at hu
  rcases hu with rfl | rfl | rfl | rfl <;> rfl⟩
/-- The first n, as a list. -/
def ptL (n : Nat) (f : Nat → Pt) : List Pt := (List.range n).map f
theorem ptL_len (n : Nat) (f : Nat → Pt) : (ptL n f).length = n := by simp [ptL]
theorem ptL_at (n : Nat) (f : Nat → Pt) {i : Nat} (h : i < n) : atR gpT (ptL n f) i = f i := by
  have hl : i < (ptL n f).length := by rw [ptL_len]; exact h
  rw [atR_eq _ _ hl]
  simp [ptL]
theorem rowp_list {w : World} {p : Option Addr} {n : Nat} {f : Nat → Pt} (h : RowP w p 4 n (fun i => pcells (f i))) : RowOf gpT w p (ptL n f) := by
  unfold RowOf
  rw [ptL_len]
  rcases h with h | ⟨b, o, e, R⟩
  · exact .inl h
  · exact .inr ⟨b, o, e, R.lt, fun i hi j v hv => R.cell i hi j v (by rw [← ptL_at n f hi]; exact hv)⟩
theorem list_rowp {w : World} {p : Option Addr} {n : Nat} {f : Nat → Pt} (h : RowOf gpT w p (ptL n f)) : RowP w p 4 n (fun i => pcells (f i)) := by
  unfold RowOf at h
  rw [ptL_len] at h
  rcases h with h | ⟨b, o, e, R⟩
  · exact .inl h
  · exact .inr ⟨b, o, e, R.lt, fun i hi j v hv => R.cell i hi j v (by rw [ptL_at n f hi]; exact hv)⟩

/-- Points in a row of the call's own: n of them, from base on. -/
def OwnP (w : World) (base : Nat) (p : Option Addr) (n cap : Nat) (f : Nat → Pt) : Prop := RowOwn gpT w base (.slice p n cap) (ptL n f)
theorem OwnP.row {w : World} {base : Nat} {p : Option Addr} {n cap : Nat} {f : Nat → Pt} (h : OwnP w base p n cap f) : n ≤ cap ∧ cap ≤ maxLen ∧ RowP w p 4 n (fun i => pcells (f i)) := by
  obtain ⟨p', cap', hv, h1, h2, h3⟩ := RowOwn.open gpOk h
  rw [ptL_len] at hv h1
  cases hv
  exact ⟨h1, h2, list_rowp h3⟩
set_option maxRecDepth 100000 in
theorem gclone_pts (p : Option Addr) (n cap : Nat) (f : Nat → Pt) (hn : n * 32 ≤ 140737488355328) (w : World) (R : RowP w p 4 n (fun i => pcells (f i))) :
    Calls Try.prog 56 #[.slice p n cap] w fun e w' => ∃ q c, e = .returned (.slice q n c) ∧ OwnP w' w.heap.size q n c f ∧ Below w.heap.size w w' := by
  rcases p with _ | x
  · obtain rfl : n = 0 := by
      rcases R with h | ⟨b, o, e, _⟩
      · exact h
      · cases e
    have ke := fun w => Lib.run_eql_slice_nil_nil (P := Try.prog) w (t := 26) (e := 53) 0 cap Try.underlying26
    go_enter Try.func56, Try.ntmps56
    go_wp2_with fail
    go_ret
    exact ⟨none, 0, rfl, RowOwn.nil _ _, Below.refl _ _⟩
  · have ke := fun w => Lib.run_eql_slice_some_nil (P := Try.prog) w (t := 26) (e := 53) x n cap Try.underlying26
    have OM : RowOwn gpT (w.alloc (.cells #[] 53)) w.heap.size (.slice (some ⟨w.heap.size, 0, none⟩) 0 0) [] := World.ownsRow_made (size := 4) w #[] 0 (Nat.le_refl _) (Nat.zero_le _) rfl
    have hb0 : Below w.heap.size w (w.alloc (.cells #[] 53)) := Below.alloc (Below.refl _ _) (Nat.le_refl _) _
    have hlen := ptL_len n f
    obtain ⟨v', w', hr, O', gr, mv⟩ := append_row gpOk w.heap.size 26 (w.alloc (.cells #[] 53)) _ [] OM (some x) cap (ptL n f) (RowOf.more (rowp_list R) hb0) (by rw [hlen]; show (0 + n) * 32 ≤ _; omega) (by unfold maxLen; simp [ptL_len]; omega) (by simp)
    obtain ⟨q, c, hv, _⟩ := RowOwn.open gpOk O'
    rw [List.nil_append, hlen] at hv
    subst hv
    rw [hlen] at hr
    have E : Hid (OwnP w' w.heap.size q n c f ∧ Below w.heap.size w w') := hid ⟨O', Below.grown hb0 gr (by simp) fun k hk => (OM.within k hk).1⟩
    clear R OM hb0 O' gr mv hlen
    replace hn := hid hn
    go_enter Try.func56, Try.ntmps56
    go_wp2_with (at_builtin; refine Lib.wpList_append_run _ rfl _ _ _ _ rfl _ _ rfl rfl _ _ hr ?_)
    go_ret
    exact ⟨q, c, rfl, E.out.1, E.out.2⟩
end Go.Proofs.Ytghboanmiggcnaa

/-
  Layer 29: the law's last region: rows of points made out of one another, in any order; what is known of them.
-/



namespace Go.Proofs.Ytghboanmiggcnaa
open Go.RowKit Go.Maps Go.Sort Go.Shelf
set_option linter.unusedVariables false
set_option linter.unusedSimpArgs false

set_option maxRecDepth 100000 in
theorem msame_any (p p' : Option Addr) (n n' cap cap' : Nat) (f g : Nat → Pt) (h1 : n ≤ cap) (h2 : cap ≤ maxLen) (h3 : n' ≤ cap') (h4 : cap' ≤ maxLen) (w : World) (HR : RowP w p 4 n (fun i => pcells (f i))) (HQ : RowP w p' 4 n' (fun i => pcells (g i))) :
    Calls Try.prog 24 #[.slice p n cap, .slice p' n' cap'] w fun e w' => e = .returned (.bool (decide (n = n') && allP f g n)) ∧ Below w.heap.size w w' := by
  have K := hid (eqPts_any p p' n n' cap cap' f g h1 h2 h3 h4 w HR HQ)
  generalize (decide (n = n') && allP f g n) = B at *
  clear HR HQ
  go_enter Try.func24, Try.ntmps24
  go_wp2_with fail
  refine K.out.mono ?_
  rintro e w1 ⟨rfl, hb⟩
  have D := hid hb
  clear hb K
  go_wp2
  go_ret
  exact ⟨rfl, D.out⟩
theorem mmade_nil (base : Nat) (w : World) (hb : base ≤ w.heap.size) : RowOwn gpT (w.alloc (.cells #[] 53)) base (.slice (some ⟨w.heap.size, 0, none⟩) 0 0) [] := World.ownsRow_made (size := 4) w #[] 0 hb (Nat.zero_le _) (by simp)
theorem mempty_run (ρ : Operand → Value) (dst : Option Tmp) (ty : TypeId) (pos : String) (af : Array Edge) (g : Option (Nat × Bool)) (w : World) : (execOp ρ { dst := dst, op := .buildSlice 26 0 #[], type := ty, pos := pos, after := af, guard := g }).run Try.prog w =
    .ok (.value (.slice (some ⟨w.heap.size, 0, none⟩) 0 0)) (w.alloc (.cells #[] 53)) := by kernel_rfl
theorem mone_run (P : Pt) (ρ : Operand → Value) (dst : Option Tmp) (ty : TypeId) (pos : String) (af : Array Edge) (g : Option (Nat × Bool)) (x : Operand) (hx : ρ x = pval P) (w : World) : (execOp ρ { dst := dst, op := .buildSlice 26 1 #[(0, x)], type := ty, pos := pos, after := af, guard := g }).run Try.prog w =
    .ok (.value (.slice (some ⟨w.heap.size, 0, none⟩) 1 1)) (w.alloc (.cells #[.int .i64 P.id, .int .u32 P.x, .int .u32 P.y, .string P.d] 53)) := by
  simp [execOp, hx, go_sem]
theorem mappend_run (ρ : Operand → Value) (dst : Option Tmp) (ty : TypeId) (pos : String) (af : Array Edge) (g : Option (Nat × Bool)) (s x : Operand) (v u v' : Value) (hs : ρ s = v) (hx : ρ x = u) (w w' : World) (hr : (Builtin.append_ #[26, 26] ty #[v, u]).run Try.prog w = .ok v' w') :
    (execOp ρ { dst := dst, op := .call { callee := .builtin .append, args := #[s, x], argTypes := #[26, 26] }, type := ty, pos := pos, after := af, guard := g }).run Try.prog w = .ok (.value v') w' := by
  simp [execOp, resolve, invoke, builtin, hs, hx, hr, Result.andThen]
/-- Of seventeen operations two lay rows, two put one behind the other. -/
structure IS9 (W : World) (L : List Pt) (P : Pt) (V : Nat → Option Value) (D : Nat → Bool) (vs : Nat → Value) (w : World) : Prop where
  vals : Vals V D vs
  low : Below W.heap.size W w
  a5 : D 5 = true → D 7 = false → RowOwn gpT w W.heap.size (vs 5) []
  a9 : D 9 = true → D 10 = false → ∃ g, vs 9 = .slice (some ⟨g, 0, none⟩) 1 1 ∧ RowOf gpT w (some ⟨g, 0, none⟩) [P] ∧ g < w.heap.size ∧ (D 5 = true → D 7 = false → (vs 5).ownBlock ≠ some g) ∧ (D 7 = true → (vs 7).ownBlock ≠ some g)
  a7 : D 7 = true → D 10 = false → RowOwn gpT w W.heap.size (vs 7) L
  a10 : D 10 = true → RowOwn gpT w W.heap.size (vs 10) (L ++ [P])
  o7 : D 7 = true → D 5 = true
  o10 : D 10 = true → D 7 = true ∧ D 9 = true
section
variable {W : World} {L : List Pt} {P : Pt} {V : Nat → Option Value} {D : Nat → Bool} {vs : Nat → Value} {w w' : World}
theorem IS9.first : IS9 W L P V (fun _ => false) (fun _ => undef) W :=
  ⟨Vals.nil, Below.refl _ _, (fun e => by cases e), (fun e => by cases e), (fun e => by cases e), (fun e => by cases e), (fun e => by cases e), (fun e => by cases e)⟩
theorem IS9.to (h : IS9 W L P V D vs w) (j : Nat) (v : Value) (h5 : 5 ≠ j) (h7 : 7 ≠ j) (h9 : 9 ≠ j) (h10 : 10 ≠ j) (hv : ∀ u, V j = some u → v = u) (hb : Below w.heap.size w w') : IS9 W L P V (fset D j true) (fset vs j v) w' := by
  refine ⟨h.vals.set j v hv, below2 h.low hb h.low.size, ?_, ?_, ?_, ?_, ?_, ?_⟩ <;> simp only [fset_ne D true h5, fset_ne D true h7, fset_ne D true h9, fset_ne D true h10, fset_ne vs v h5, fset_ne vs v h7, fset_ne vs v h9, fset_ne vs v h10]
  · exact fun a b => (h.a5 a b).more hb
  · intro a b
    obtain ⟨g, e, R, hg, x1, x2⟩ := h.a9 a b
    exact ⟨g, e, RowOf.more R hb, Nat.lt_of_lt_of_le hg hb.size, x1, x2⟩
  · exact fun a b => (h.a7 a b).more hb
  · exact fun a => (h.a10 a).more hb
  · exact h.o7
  · exact h.o10
theorem IS9.quiet (h : IS9 W L P V D vs w) (j : Nat) (v : Value) (hv : V j = some v) (h5 : 5 ≠ j := by decide) (h7 : 7 ≠ j := by decide) (h9 : 9 ≠ j := by decide) (h10 : 10 ≠ j := by decide) : IS9 W L P V (fset D j true) (fset vs j v) w :=
  h.to j v h5 h7 h9 h10 (fun u hu => Option.some.inj (hv.symm.trans hu)) (Below.refl _ _)
theorem IS9.called (h : IS9 W L P V D vs w) (j : Nat) (v : Value) (hv : V j = some v) (hb : Below w.heap.size w w') (h5 : 5 ≠ j := by decide) (h7 : 7 ≠ j := by decide) (h9 : 9 ≠ j := by decide) (h10 : 10 ≠ j := by decide) : IS9 W L P V (fset D j true) (fset vs j v) w' :=
  h.to j v h5 h7 h9 h10 (fun u hu => Option.some.inj (hv.symm.trans hu)) hb
theorem IS9.mk5 (h : IS9 W L P V D vs w) (hD : D 5 = false) (hv : V 5 = none) : IS9 W L P V (fset D 5 true) (fset vs 5 (.slice (some ⟨w.heap.size, 0, none⟩) 0 0)) (w.alloc (.cells #[] 53)) := by
  have hb := mbelow_one w (.cells #[] 53)
  have h7 : D 7 = false := by
    cases e : D 7 with
    | false => rfl
    | true => rw [h.o7 e] at hD; cases hD
  have h10 : D 10 = false := by
    cases e : D 10 with
    | false => rfl
    | true => rw [(h.o10 e).1] at h7; cases h7
  refine ⟨h.vals.set 5 _ (fun u hu => by rw [hv] at hu; cases hu), below2 h.low hb h.low.size, ?_, ?_, ?_, ?_, ?_, ?_⟩ <;> simp only [fset_same, fset_ne D true (show 7 ≠ 5 by decide), fset_ne D true (show 9 ≠ 5 by decide), fset_ne D true (show 10 ≠ 5 by decide), fset_ne vs _ (show 7 ≠ 5 by decide), fset_ne vs _ (show 9 ≠ 5 by decide), fset_ne vs _ (show 10 ≠ 5 by decide)]
  · exact fun _ _ => mmade_nil _ w h.low.size
  · intro a b
    obtain ⟨g, e, R, hg, x1, x2⟩ := h.a9 a b
    refine ⟨g, e, RowOf.more R hb, Nat.lt_of_lt_of_le hg hb.size, fun _ _ e2 => ?_, x2⟩
    have e3 : w.heap.size = g := by simpa [Value.ownBlock] using e2
    omega
  · exact fun a _ => by rw [h7] at a; cases a
  · exact fun a => by rw [h10] at a; cases a
  · exact fun _ => trivial
  · exact fun a => by rw [h10] at a; cases a
theorem IS9.mk9 (h : IS9 W L P V D vs w) (hD : D 9 = false) (hv : V 9 = none) : IS9 W L P V (fset D 9 true) (fset vs 9 (.slice (some ⟨w.heap.size, 0, none⟩) 1 1)) (w.alloc (.cells #[.int .i64 P.id, .int .u32 P.x, .int .u32 P.y, .string P.d] 53)) := by
  have hb := mbelow_one w (.cells #[.int .i64 P.id, .int .u32 P.x, .int .u32 P.y, .string P.d] 53)
  have h10 : D 10 = false := by
    cases e : D 10 with
    | false => rfl
    | true => rw [(h.o10 e).2] at hD; cases hD
  refine ⟨h.vals.set 9 _ (fun u hu => by rw [hv] at hu; cases hu), below2 h.low hb h.low.size, ?_, ?_, ?_, ?_, ?_, ?_⟩ <;> simp only [fset_same, fset_ne D true (show 7 ≠ 9 by decide), fset_ne D true (show 5 ≠ 9 by decide), fset_ne D true (show 10 ≠ 9 by decide), fset_ne vs _ (show 7 ≠ 9 by decide), fset_ne vs _ (show 5 ≠ 9 by decide), fset_ne vs _ (show 10 ≠ 9 by decide)]
  · exact fun a b => (h.a5 a b).more hb
  · refine fun _ _ => ⟨w.heap.size, rfl, rowOf_one gpOk (Blk.new w _ _) rfl, by simp, fun a b e => ?_, fun a e => ?_⟩
    · have := (RowOwn.within (h.a5 a b) _ e).2; omega
    · have := (RowOwn.within (h.a7 a h10) _ e).2; omega
  · exact fun a b => (h.a7 a b).more hb
  · exact fun a => by rw [h10] at a; cases a
  · exact h.o7
  · exact fun a => by rw [h10] at a; cases a
theorem IS9.ap7 (h : IS9 W L P V D vs w) (h5 : D 5 = true) (h7 : D 7 = false) (hv : V 7 = none) (q : Option Addr) (c : Nat) (R : RowOf gpT w q L) (hn : L.length * 32 ≤ 140737488355328) (h63 : L.length ≤ maxLen) :
    ∃ v' w', (∀ ty, (Builtin.append_ #[26, 26] ty #[vs 5, .slice q L.length c]).run Try.prog w = .ok v' w') ∧ IS9 W L P V (fset D 7 true) (fset vs 7 v') w' := by
  have O := h.a5 h5 h7
  have h10 : D 10 = false := by
    cases e : D 10 with
    | false => rfl
    | true => rw [(h.o10 e).1] at h7; cases h7
  obtain ⟨v', w', hr, O', gr, mv⟩ := append_row gpOk W.heap.size gpT.sl w (vs 5) [] O q c L R (by simpa [gpT] using hn) (by simpa using h63) h.low.size
  refine ⟨v', w', fun ty => hr, ?_⟩
  have S1 : Sole (fun k => (vs 5).ownBlock = some k) w w' := Sole.grown gr fun k e => e
  refine ⟨h.vals.set 7 _ (fun u hu => by rw [hv] at hu; cases hu), h.low.grown gr h.low.size (fun k e => (RowOwn.within O k e).1), ?_, ?_, ?_, ?_, ?_, ?_⟩ <;> simp only [fset_same, fset_ne D true (show 5 ≠ 7 by decide), fset_ne D true (show 9 ≠ 7 by decide), fset_ne D true (show 10 ≠ 7 by decide), fset_ne vs _ (show 5 ≠ 7 by decide), fset_ne vs _ (show 9 ≠ 7 by decide), fset_ne vs _ (show 10 ≠ 7 by decide)]
  · exact fun _ b => by cases b
  · intro a b
    obtain ⟨g, e, R9, hg, x1, x2⟩ := h.a9 a b
    refine ⟨g, e, ?_, Nat.lt_of_lt_of_le hg S1.size, (fun _ b => by cases b), fun _ e2 => ?_⟩
    · rcases R9 with h0 | ⟨bb, oo, e3, Rr⟩
      · exact .inl h0
      · cases e3
        exact .inr ⟨_, _, rfl, Nat.lt_of_lt_of_le Rr.lt S1.size, fun i hi j v hv => (S1.cell Rr.lt (x1 h5 h7)).trans (Rr.cell i hi j v hv)⟩
    · rcases mv with m | m
      · exact x1 h5 h7 (m ▸ e2)
      · rw [m] at e2
        cases e2
        omega
  · exact fun _ _ => by simpa using O'
  · exact fun a => by rw [h10] at a; cases a
  · exact fun _ => h5
  · exact fun a => by rw [h10] at a; cases a
theorem IS9.ap10 (h : IS9 W L P V D vs w) (h7 : D 7 = true) (h9 : D 9 = true) (h10 : D 10 = false) (hv : V 10 = none) (hn : (L.length + 1) * 32 ≤ 140737488355328) (h63 : L.length + 1 ≤ maxLen) :
    ∃ v' w', (∀ ty, (Builtin.append_ #[26, 26] ty #[vs 7, vs 9]).run Try.prog w = .ok v' w') ∧ IS9 W L P V (fset D 10 true) (fset vs 10 v') w' := by
  have O := h.a7 h7 h10
  obtain ⟨g, e, R9, hg, x1, x2⟩ := h.a9 h9 h10
  obtain ⟨v', w', hr, O', gr, mv⟩ := append_row gpOk W.heap.size gpT.sl w (vs 7) L O (some ⟨g, 0, none⟩) 1 [P] R9 (by simpa [gpT] using hn) (by simpa using h63) h.low.size
  refine ⟨v', w', fun ty => by rw [e]; exact hr, ?_⟩
  refine ⟨h.vals.set 10 _ (fun u hu => by rw [hv] at hu; cases hu), h.low.grown gr h.low.size (fun k e => (RowOwn.within O k e).1), ?_, ?_, ?_, ?_, ?_, ?_⟩ <;> simp only [fset_same, fset_ne D true (show 5 ≠ 10 by decide), fset_ne D true (show 7 ≠ 10 by decide), fset_ne D true (show 9 ≠ 10 by decide), fset_ne vs _ (show 5 ≠ 10 by decide), fset_ne vs _ (show 7 ≠ 10 by decide), fset_ne vs _ (show 9 ≠ 10 by decide)]
  · exact fun _ b => by rw [h7] at b; cases b
  · exact fun _ b => by cases b
  · exact fun _ b => by cases b
  · exact fun _ => O'
  · exact h.o7
  · exact fun _ => ⟨h7, h9⟩
end
end Go.Proofs.Ytghboanmiggcnaa

/-
  Layer 29: a model that nobody made has nothing: the law's loop. (Written by wip/tools/genmodelnobody.py.)
-/

namespace Go.Proofs.Ytghboanmiggcnaa
open Go.RowKit Go.Maps Go.Sort Go.Shelf
set_option linter.unusedVariables false
set_option linter.unusedSimpArgs false

theorem mwrap0 : IntKind.i64.wrap 0 = 0 := by decide
theorem rcsz : (Try.prog.info? 55).map (·.size) = some 4 := by kernel_rfl
theorem wanted_on9 {ops : Array Oper} {o : Oper} {tm : Array Value} {j : Nat} {t : Tmp} {b : Bool} (hg : o.guard = some (j, b)) (hd : (ops[j]?).bind (·.dst) = some t) (hv : tm[t]?.getD undef = .bool b) : Region.wanted o (yielded ops tm) = true := by
  have h : tm[t]? = some (.bool b) := by
    cases e : tm[t]? with
    | none => rw [e] at hv; cases hv
    | some v => rw [e] at hv; exact congrArg some hv
  simp [Region.wanted, hg, yielded, hd, h]
theorem at_val {ops : Array Oper} {D : Nat → Bool} {vs : Nat → Value} {a : Act} (hv : ∀ k t, D k = true → writer ops t = some k → a.tmps[t]? = some (vs k)) {k : Nat} (hk : D k = true) (t : Tmp) (hw : writer ops t = some k) {v : Value} (e : vs k = v) : a.tmps[t]?.getD undef = v := by
  rw [hv k t hk hw, e]; rfl
/-- Of several operations none turns what is there. -/
structure IBn (W : World) (V : Nat → Option Value) (D : Nat → Bool) (vs : Nat → Value) (w : World) : Prop where
  vals : Vals V D vs
  low : Below W.heap.size W w
theorem IBn.first {W : World} {V : Nat → Option Value} : IBn W V (fun _ => false) (fun _ => undef) W := ⟨Vals.nil, Below.refl _ _⟩
theorem IBn.quiet {W : World} {V : Nat → Option Value} {D : Nat → Bool} {vs : Nat → Value} {w : World} (h : IBn W V D vs w) (j : Nat) (v : Value) (hv : V j = some v) : IBn W V (fset D j true) (fset vs j v) w :=
  ⟨h.vals.set j v (fun u hu => Option.some.inj (hv.symm.trans hu)), h.low⟩
theorem IBn.called {W : World} {V : Nat → Option Value} {D : Nat → Bool} {vs : Nat → Value} {w w' : World} (h : IBn W V D vs w) (j : Nat) (v : Value) (hv : V j = some v) (hb : Below w.heap.size w w') : IBn W V (fset D j true) (fset vs j v) w' :=
  ⟨h.vals.set j v (fun u hu => Option.some.inj (hv.symm.trans hu)), below2 h.low hb h.low.size⟩
/-- One of them lays a block, another one fills it. -/
structure IGn (W : World) (V : Nat → Option Value) (D : Nat → Bool) (vs : Nat → Value) (w : World) : Prop where
  vals : Vals V D vs
  low : Below W.heap.size W w
  blk : D 10 = true → ∃ g, vs 10 = .pointer (some ⟨g, 0, none⟩) ∧ W.heap.size ≤ g ∧ ∃ C, Blk w g C ∧ C.size = 4
theorem IGn.first {W : World} {V : Nat → Option Value} : IGn W V (fun _ => false) (fun _ => undef) W := ⟨Vals.nil, Below.refl _ _, (fun e => by cases e)⟩
theorem IGn.to {W : World} {V : Nat → Option Value} {D : Nat → Bool} {vs : Nat → Value} {w w' : World} (h : IGn W V D vs w) (j : Nat) (v : Value) (hj : j ≠ 10) (hv : ∀ u, V j = some u → v = u) (hb : Below w.heap.size w w') : IGn W V (fset D j true) (fset vs j v) w' := by
  refine ⟨h.vals.set j v hv, below2 h.low hb h.low.size, ?_⟩
  rw [fset_ne D true (show 10 ≠ j from fun e => hj e.symm), fset_ne vs v (show 10 ≠ j from fun e => hj e.symm)]
  intro hD
  obtain ⟨g, e, hg, C, B, hC⟩ := h.blk hD
  exact ⟨g, e, hg, C, B.more hb, hC⟩
theorem IGn.quiet {W : World} {V : Nat → Option Value} {D : Nat → Bool} {vs : Nat → Value} {w : World} (h : IGn W V D vs w) (j : Nat) (v : Value) (hv : V j = some v) (hj : j ≠ 10 := by decide) : IGn W V (fset D j true) (fset vs j v) w :=
  h.to j v hj (fun u hu => Option.some.inj (hv.symm.trans hu)) (Below.refl _ _)
theorem IGn.called {W : World} {V : Nat → Option Value} {D : Nat → Bool} {vs : Nat → Value} {w w' : World} (h : IGn W V D vs w) (j : Nat) (v : Value) (hv : V j = some v) (hb : Below w.heap.size w w') (hj : j ≠ 10 := by decide) : IGn W V (fset D j true) (fset vs j v) w' :=
  h.to j v hj (fun u hu => Option.some.inj (hv.symm.trans hu)) hb
theorem IGn.made {W : World} {V : Nat → Option Value} {D : Nat → Bool} {vs : Nat → Value} {w : World} (h : IGn W V D vs w) (Z : Array Value) (hZ : Z.size = 4) (t : TypeId) (hv : V 10 = none) : IGn W V (fset D 10 true) (fset vs 10 (.pointer (some ⟨w.heap.size, 0, none⟩))) (w.alloc (.cells Z t)) :=
  ⟨h.vals.set 10 _ (fun u hu => by rw [hv] at hu; cases hu), below2 h.low (mbelow_one _ _) h.low.size, fun _ => ⟨w.heap.size, fset_same _ _ _, h.low.size, Z, Blk.new w Z t, hZ⟩⟩
theorem IGn.stored {W : World} {V : Nat → Option Value} {D : Nat → Bool} {vs : Nat → Value} {w : World} (h : IGn W V D vs w) (hD : D 10 = true) {g : Nat} (eg : vs 10 = .pointer (some ⟨g, 0, none⟩)) (C : Array Value) (hC : C.size = 4) (hv : V 11 = none) : IGn W V (fset D 11 true) (fset vs 11 undef) (w.setCells g 0 C.toList) := by
  obtain ⟨g', e, hg, C0, B, h0⟩ := h.blk hD
  rw [eg] at e
  cases e
  refine ⟨h.vals.set 11 undef (fun u hu => by rw [hv] at hu; cases hu), below_cells h.low hg 0 C.toList, ?_⟩
  rw [fset_ne D true (show 10 ≠ 11 by decide), fset_ne vs undef (show 10 ≠ 11 by decide)]
  exact fun _ => ⟨g, eg, hg, C, B.whole (by rw [h0, hC]), hC⟩
def tabGet (bs k bx by9 : Nat) (M : Value) (P : Pt) (r0 r1 r2 r3 : Int) : Nat → Option Value
  | 0 => some (.slice (some ⟨bs, 0, none⟩) 2 2)
  | 1 => some (.int .i64 (k : Int))
  | 2 => some (.pointer (some ⟨bs, k, none⟩))
  | 3 => some (M)
  | 4 => some (.pointer (some ⟨bx, 0, none⟩))
  | 5 => some (.int .i64 P.id)
  | 6 => some (.tuple #[mpt0, .bool false])
  | 7 => some (.tuple #[mpt0, .bool false])
  | 8 => some (mpt0)
  | 9 => some (.bool false)
  | _ => none
def tabNob (bs k bx by9 : Nat) (M : Value) (P : Pt) (r0 r1 r2 r3 : Int) : Nat → Option Value
  | 0 => some (.bool false)
  | 1 => some (.bool false)
  | 2 => some (.slice (some ⟨bs, 0, none⟩) 2 2)
  | 3 => some (.int .i64 (k : Int))
  | 4 => some (.pointer (some ⟨bs, k, none⟩))
  | 5 => some (M)
  | 6 => some (pval P)
  | 7 => some (.int .i64 9)
  | 8 => some (.bool false)
  | 9 => some (.bool false)
  | 10 => some (.bool false)
  | 11 => some (.slice (some ⟨bs, 0, none⟩) 2 2)
  | 12 => some (.int .i64 (k : Int))
  | 13 => some (.pointer (some ⟨bs, k, none⟩))
  | 14 => some (M)
  | 15 => some (.pointer (some ⟨bx, 0, none⟩))
  | 16 => some (.int .i64 P.id)
  | 17 => some (.int .i64 9)
  | 18 => some (.bool false)
  | 19 => some (.bool false)
  | 20 => some (.bool false)
  | 21 => some (.slice (some ⟨bs, 0, none⟩) 2 2)
  | 22 => some (.int .i64 (k : Int))
  | 23 => some (.pointer (some ⟨bs, k, none⟩))
  | 24 => some (M)
  | 25 => some (.pointer (some ⟨bx, 0, none⟩))
  | 26 => some (.int .i64 P.id)
  | 27 => some (.int .i64 9)
  | 28 => some (.bool false)
  | 29 => some (.bool false)
  | 30 => some (.bool false)
  | 31 => some (.slice (some ⟨bs, 0, none⟩) 2 2)
  | 32 => some (.int .i64 (k : Int))
  | 33 => some (.pointer (some ⟨bs, k, none⟩))
  | 34 => some (M)
  | 35 => some (.agg #[.int .u32 r0, .int .u32 r1, .int .u32 r2, .int .u32 r3])
  | 36 => some (.slice none 0 0)
  | 37 => some (.int .i64 0)
  | 38 => some (.slice (some ⟨bs, 0, none⟩) 2 2)
  | 39 => some (.int .i64 (k : Int))
  | 40 => some (.pointer (some ⟨bs, k, none⟩))
  | 41 => some (M)
  | 42 => some (.slice none 0 0)
  | 43 => some (.int .i64 0)
  | 44 => some (.int .i64 0)
  | 45 => some (.slice (some ⟨bs, 0, none⟩) 2 2)
  | 46 => some (.int .i64 (k : Int))
  | 47 => some (.pointer (some ⟨bs, k, none⟩))
  | 48 => some (M)
  | 49 => some (.slice none 0 0)
  | 50 => some (.int .i64 0)
  | 51 => some (.int .i64 0)
  | 52 => some (.bool false)
  | _ => none
def tabEnd (lp : Option Addr) (nl lc : Nat) (P : Pt) : Nat → Option Value
  | 0 => some (.slice lp nl lc)
  | 1 => some (.slice lp nl lc)
  | 2 => some (.bool true)
  | 3 => some (.bool true)
  | 4 => some (.slice lp nl lc)
  | 6 => some (.slice lp nl lc)
  | 8 => some (pval P)
  | 11 => some (.bool false)
  | 12 => some (.bool true)
  | 13 => some (.bool true)
  | 14 => some (.bool true)
  | 15 => some (.bool true)
  | 16 => some (.bool true)
  | _ => none
/-- The law's two. -/
def mv2 (pm k : Nat) : Value := if k = 0 then .pointer none else .pointer (some ⟨pm, 0, none⟩)
set_option maxRecDepth 100000 in
set_option maxHeartbeats 16000000 in
theorem modelNobody (P : Pt) (hP : P.ok) (r0 r1 r2 r3 : Int) (lp : Option Addr) (nl lc : Nat) (f : Nat → Pt) (h0 : nl ≤ 4398046511000) (h1 : nl ≤ lc) (h2 : lc ≤ maxLen) (w : World) (HR : RowP w lp 4 nl (fun i => pcells (f i))) :
    Calls Try.prog 4 #[pval P, .agg #[.int .u32 r0, .int .u32 r1, .int .u32 r2, .int .u32 r3], .slice lp nl lc] w fun e w' => e = .returned (.bool true) ∧ Below w.heap.size w w' := by
  have b1 := mbelow_one w (.cells #[.int .i64 P.id, .int .u32 P.x, .int .u32 P.y, .string P.d] 53)
  have b2 := mbelow_one (w.alloc (.cells #[.int .i64 P.id, .int .u32 P.x, .int .u32 P.y, .string P.d] 53)) (.cells #[.int .u32 r0, .int .u32 r1, .int .u32 r2, .int .u32 r3] 55)
  have BP := (Blk.new w #[.int .i64 P.id, .int .u32 P.x, .int .u32 P.y, .string P.d] 53).more b2
  have BR := Blk.new (w.alloc (.cells #[.int .i64 P.id, .int .u32 P.x, .int .u32 P.y, .string P.d] 53)) #[.int .u32 r0, .int .u32 r1, .int .u32 r2, .int .u32 r3] 55
  rw [show (w.alloc (.cells #[.int .i64 P.id, .int .u32 P.x, .int .u32 P.y, .string P.d] 53)).heap.size = w.heap.size + 1 by simp] at BR
  have hb12 := below2 b1 b2 b1.size
  obtain ⟨W2, hW2⟩ : ∃ W2, W2 = (w.alloc (.cells #[.int .i64 P.id, .int .u32 P.x, .int .u32 P.y, .string P.d] 53)).alloc (.cells #[.int .u32 r0, .int .u32 r1, .int .u32 r2, .int .u32 r3] 55) := ⟨_, rfl⟩
  have hs2 : W2.heap.size = w.heap.size + 1 + 1 := by rw [hW2]; simp
  rw [← hW2] at BP BR hb12
  have b3 := mbelow_one W2 (.cells #[.map none] 59)
  have BM := Blk.new W2 #[.map none] 59
  rw [hs2] at BM
  have b4 := mbelow_one (W2.alloc (.cells #[.map none] 59)) (.cells #[.pointer none, .pointer (some ⟨w.heap.size + 1 + 1, 0, none⟩)] 56)
  have BS := Blk.new (W2.alloc (.cells #[.map none] 59)) #[.pointer none, .pointer (some ⟨w.heap.size + 1 + 1, 0, none⟩)] 56
  rw [show (W2.alloc (.cells #[.map none] 59)).heap.size = w.heap.size + 1 + 1 + 1 by simp [hs2]] at BS
  have b34 := below2 b3 b4 b3.size
  have D4 := hid (below2 hb12 b34 hb12.size)
  have BPh := hid (BP.more b34)
  have BRh := hid (BR.more b34)
  have BMh := hid (BM.more b4)
  have BSh := hid BS
  have hHR := hid HR
  have hcs := hid (And.intro h1 h2)
  rw [hW2] at D4 BPh BRh BMh BSh
  clear b1 b2 BP BR hb12 b3 BM b4 BS b34 hs2 hW2 HR h1 h2
  go_enter Try.func4, Try.ntmps4
  go_wp2_with fail
  generalize World.alloc (World.alloc (World.alloc (World.alloc w _) _) _) _ = W4 at *
  have hpl := hid (show w.heap.size + 1 + 1 + 1 < W4.heap.size from BSh.out.lt)
  generalize w.heap.size + 1 + 1 + 1 = bs at *
  generalize w.heap.size + 1 + 1 = pm at *
  generalize hby : w.heap.size + 1 = by9 at *
  clear hby
  generalize hbx : w.heap.size = bx at BPh ⊢
  clear hbx
  have hNM := hid (fun (k : Nat) W' (h : Below W4.heap.size W4 W') => show NoModel W' (mv2 pm k) from by
    unfold mv2
    split
    · exact .inl rfl
    · exact .inr ⟨pm, rfl, BMh.out.more h⟩)
  have hFM := hid (fun (k : Nat) (hk : k < 2) W' (h : Below W4.heap.size W4 W') => show W'.cell? ⟨bs, k, none⟩ = some (mv2 pm k) from by
    have hc := (BSh.out.more h).cell k
    rcases (show k = 0 ∨ k = 1 by omega) with rfl | rfl
    · exact hc
    · exact hc)
  have hFP := hid (fun W' (h : Below W4.heap.size W4 W') => (BPh.out.more h))
  have hFR := hid (fun W' (h : Below W4.heap.size W4 W') => (BRh.out.more h))
  clear BMh BSh BPh BRh
  go_loopw [9] (fun sk wr => ∃ k : Nat, k ≤ 2 ∧ sk = .int .i64 (k : Int) ∧ Below W4.heap.size W4 wr) (fun sk _ => 2 - (Go.RowKit.intOf sk).toNat)
  case atStart => exact ⟨0, by omega, rfl, Below.refl _ _⟩
  case round =>
    obtain ⟨k, hk, rfl, hb⟩ := hrel
    by_cases hlt : k < 2
    · have hkk : (k : Int) < 2 := by omega
      have hkn : k < 2 := hlt
      have hmeas := hid (show ∀ z : Int, z = ((k + 1 : Nat) : Int) → 2 - (Go.RowKit.intOf (.int .i64 z)).toNat < 2 - (Go.RowKit.intOf (.int .i64 (k : Int))).toNat from fun z hz => by
        subst hz
        show 2 - (((k + 1 : Nat) : Int)).toNat < 2 - ((k : Int)).toNat
        rw [Int.toNat_natCast, Int.toNat_natCast]
        omega)
      have hw1 : wrap64 ((k : Int) + 1) = ((k + 1 : Nat) : Int) := by
        rw [IntWalk.wrap64_in _ ⟨by omega, by omega⟩]
        rfl
      obtain ⟨M, hM⟩ : ∃ M, M = mv2 pm k := ⟨_, rfl⟩
      have hNMk := hid (fun W' h => hM ▸ hNM.out k W' h)
      have hFMk := hid (fun W' h => hM ▸ hFM.out k hkn W' h)
      have hbh := hid hb
      clear hM hb hlt
      go_upto_region 6 with (fail)
      have hl := fun W' (h : Below wr.drew.heap.size wr.drew W') => below2 hbh.out.drew h hbh.out.drew.size
      have hcM := fun W' (h : Below wr.drew.heap.size wr.drew W') => hFMk.out W' (hl W' h)
      have hcI := fun W' (h : Below wr.drew.heap.size wr.drew W') => show W'.cell? ⟨bx, 0, none⟩ = some (.int .i64 P.id) from (hFP.out W' (hl W' h)).cell 0
      have KG := fun W' (h : Below wr.drew.heap.size wr.drew W') => nmGet M P.id W' (hNMk.out W' (hl W' h))
      generalize hV : tabGet bs k bx by9 M P r0 r1 r2 r3 = V
      refine wp_region_inv 12 (fun D vs wx => IGn wr.drew V D vs wx) (by kernel_rfl) (by kernel_rfl) ?h0 ?hstep ?hend
      case h0 => exact IGn.first
      case hstep =>
        intro n o hj ho D vs ax wx hDj hD hv hbase H
        match n, hj with
        | 0, _ =>
          simp only [List.getElem?_cons_zero, List.getElem?_cons_succ, Option.some.injEq] at ho
          subst ho
          have f8 := at_base hbase 8 (by kernel_rfl) (v := .slice (some ⟨bs, 0, none⟩) 2 2) rfl
          exact StepOf.value (.slice (some ⟨bs, 0, none⟩) 2 2) (wanted_plain rfl _) (by simp [execOp, Act.eval, f8, go_sem]) (H.quiet 0 _ (by rw [← hV]; rfl))
        | 1, _ =>
          simp only [List.getElem?_cons_zero, List.getElem?_cons_succ, Option.some.injEq] at ho
          subst ho
          have f9 := at_base hbase 9 (by kernel_rfl) (v := .int .i64 (k : Int)) rfl
          exact StepOf.value (.int .i64 (k : Int)) (wanted_plain rfl _) (by simp [execOp, Act.eval, f9, go_sem]) (H.quiet 1 _ (by rw [← hV]; rfl))
        | 2, _ =>
          simp only [List.getElem?_cons_zero, List.getElem?_cons_succ, Option.some.injEq] at ho
          subst ho
          have e0 := at_done H.vals hv (hD 0 (by kernel_rfl)) 23 (by kernel_rfl) (v := .slice (some ⟨bs, 0, none⟩) 2 2) (by rw [← hV]; rfl)
          have e1 := at_done H.vals hv (hD 1 (by kernel_rfl)) 24 (by kernel_rfl) (v := .int .i64 (k : Int)) (by rw [← hV]; rfl)
          exact StepOf.value (.pointer (some ⟨bs, k, none⟩)) (wanted_plain rfl _) (by simp [execOp, Act.eval, e0, e1, hkk, hkn, go_sem]) (H.quiet 2 _ (by rw [← hV]; rfl))
        | 3, _ =>
          simp only [List.getElem?_cons_zero, List.getElem?_cons_succ, Option.some.injEq] at ho
          subst ho
          have e2 := at_done H.vals hv (hD 2 (by kernel_rfl)) 25 (by kernel_rfl) (v := .pointer (some ⟨bs, k, none⟩)) (by rw [← hV]; rfl)
          have hc := hcM _ H.low
          exact StepOf.value (M) (wanted_plain rfl _) (by simp [execOp, Act.eval, e2, hc, go_sem]) (H.quiet 3 _ (by rw [← hV]; rfl))
        | 4, _ =>
          simp only [List.getElem?_cons_zero, List.getElem?_cons_succ, Option.some.injEq] at ho
          subst ho
          have f3 := at_base hbase 3 (by kernel_rfl) (v := .pointer (some ⟨bx, 0, none⟩)) rfl
          exact StepOf.value (.pointer (some ⟨bx, 0, none⟩)) (wanted_plain rfl _) (by simp [execOp, Act.eval, f3, go_sem]) (H.quiet 4 _ (by rw [← hV]; rfl))
        | 5, _ =>
          simp only [List.getElem?_cons_zero, List.getElem?_cons_succ, Option.some.injEq] at ho
          subst ho
          have e4 := at_done H.vals hv (hD 4 (by kernel_rfl)) 27 (by kernel_rfl) (v := .pointer (some ⟨bx, 0, none⟩)) (by rw [← hV]; rfl)
          have hc := hcI _ H.low
          exact StepOf.value (.int .i64 P.id) (wanted_plain rfl _) (by simp [execOp, Act.eval, e4, hc, go_sem]) (H.quiet 5 _ (by rw [← hV]; rfl))
        | 6, _ =>
          simp only [List.getElem?_cons_zero, List.getElem?_cons_succ, Option.some.injEq] at ho
          subst ho
          have e3 := at_done H.vals hv (hD 3 (by kernel_rfl)) 26 (by kernel_rfl) (v := M) (by rw [← hV]; rfl)
          have e5 := at_done H.vals hv (hD 5 (by kernel_rfl)) 28 (by kernel_rfl) (v := .int .i64 P.id) (by rw [← hV]; rfl)
          refine StepOf.call 17 #[M, .int .i64 P.id] (wanted_plain rfl _) (by simp [execOp, Act.eval, e3, e5, go_sem]) ((KG _ H.low).mono ?_)
          rintro e w2 ⟨rfl, hb2⟩
          exact ⟨_, rfl, H.called 6 (.tuple #[mpt0, .bool false]) (by rw [← hV]; rfl) hb2⟩
        | 7, _ =>
          simp only [List.getElem?_cons_zero, List.getElem?_cons_succ, Option.some.injEq] at ho
          subst ho
          have e6 := at_done H.vals hv (hD 6 (by kernel_rfl)) 29 (by kernel_rfl) (v := .tuple #[mpt0, .bool false]) (by rw [← hV]; rfl)
          exact StepOf.value (.tuple #[mpt0, .bool false]) (wanted_plain rfl _) (by simp [execOp, Act.eval, e6, go_sem]) (H.quiet 7 _ (by rw [← hV]; rfl))
        | 8, _ =>
          simp only [List.getElem?_cons_zero, List.getElem?_cons_succ, Option.some.injEq] at ho
          subst ho
          have e7 := at_done H.vals hv (hD 7 (by kernel_rfl)) 22 (by kernel_rfl) (v := .tuple #[mpt0, .bool false]) (by rw [← hV]; rfl)
          exact StepOf.value (mpt0) (wanted_plain rfl _) (by simp [execOp, Act.eval, e7, go_sem]) (H.quiet 8 _ (by rw [← hV]; rfl))
        | 9, _ =>
          simp only [List.getElem?_cons_zero, List.getElem?_cons_succ, Option.some.injEq] at ho
          subst ho
          have e7 := at_done H.vals hv (hD 7 (by kernel_rfl)) 22 (by kernel_rfl) (v := .tuple #[mpt0, .bool false]) (by rw [← hV]; rfl)
          exact StepOf.value (.bool false) (wanted_plain rfl _) (by simp [execOp, Act.eval, e7, go_sem]) (H.quiet 9 _ (by rw [← hV]; rfl))
        | 10, _ =>
          simp only [List.getElem?_cons_zero, List.getElem?_cons_succ, Option.some.injEq] at ho
          subst ho
          exact StepOf.value (.pointer (some ⟨wx.heap.size, 0, none⟩)) (wanted_plain rfl _) (malloc_run _ _ _ _ _ wx) (H.made _ rfl _ (by rw [← hV]; rfl))
        | 11, _ =>
          simp only [List.getElem?_cons_zero, List.getElem?_cons_succ, Option.some.injEq] at ho
          subst ho
          obtain ⟨g10, eg, hg, C, BC, hC⟩ := H.blk (hD 10 (by kernel_rfl))
          have e10 := at_val hv (hD 10 (by kernel_rfl)) 10 (by kernel_rfl) eg
          have e8 := at_done H.vals hv (hD 8 (by kernel_rfl)) 30 (by kernel_rfl) (v := mpt0) (by rw [← hV]; rfl)
          exact StepOf.skip (wanted_plain rfl _) (mstore_at _ _ _ 53 _ _ rfl g10 0 #[.int .i64 0, .int .u32 0, .int .u32 0, .string ByteArray.empty] (eval_get e10) (eval_get e8) (BC.there (n := 4) hC.symm) (by rw [ptsz]; rfl) (by simp [Value.oneCell'])) (H.stored (hD 10 (by kernel_rfl)) eg _ rfl (by rw [← hV]; rfl))
        | n + 12, hj => exact absurd hj (by omega)
      case hend =>
        intro D vs W7x hall H
        have hlow := hid H.low
        have v0 := H.vals 0 _ (hall 0 (by omega)) (by rw [← hV]; rfl)
        have v1 := H.vals 1 _ (hall 1 (by omega)) (by rw [← hV]; rfl)
        have v2 := H.vals 2 _ (hall 2 (by omega)) (by rw [← hV]; rfl)
        have v3 := H.vals 3 _ (hall 3 (by omega)) (by rw [← hV]; rfl)
        have v4 := H.vals 4 _ (hall 4 (by omega)) (by rw [← hV]; rfl)
        have v5 := H.vals 5 _ (hall 5 (by omega)) (by rw [← hV]; rfl)
        have v6 := H.vals 6 _ (hall 6 (by omega)) (by rw [← hV]; rfl)
        have v7 := H.vals 7 _ (hall 7 (by omega)) (by rw [← hV]; rfl)
        have v8 := H.vals 8 _ (hall 8 (by omega)) (by rw [← hV]; rfl)
        have v9 := H.vals 9 _ (hall 9 (by omega)) (by rw [← hV]; rfl)
        obtain ⟨g10, eg10, _⟩ := H.blk (hall 10 (by omega))
        simp only [puts, List.range, List.range.loop, List.foldl_cons, List.foldl_nil, List.getElem?_toArray, List.getElem?_cons_succ, List.getElem?_cons_zero, Option.bind_some, Option.bind_none, Act.put, List.setIfInBounds_toArray, List.set_cons_succ, List.set_cons_zero, v0, v1, v2, v3, v4, v5, v6, v7, v8, v9, eg10]
        simp only [List.drop_succ_cons, List.drop_zero]
        clear v0 v1 v2 v3 v4 v5 v6 v7 v8 v9 eg10 hall H hV
        have hbq := hid (below2 hbh.out.drew hlow.out hbh.out.drew.size)
        clear hlow hl hcM hcI KG hbh
        go_upto_region 7 with (fail)
        obtain ⟨wq, hwq⟩ : ∃ W, W = W7x := ⟨_, rfl⟩
        rw [← hwq] at hbq ⊢
        clear hwq
        have hl := fun W' (h : Below wq.drew.heap.size wq.drew W') => below2 hbq.out.drew h hbq.out.drew.size
        have hcM := fun W' (h : Below wq.drew.heap.size wq.drew W') => hFMk.out W' (hl W' h)
        have hcI := fun W' (h : Below wq.drew.heap.size wq.drew W') => show W'.cell? ⟨bx, 0, none⟩ = some (.int .i64 P.id) from (hFP.out W' (hl W' h)).cell 0
        have hcP := fun W' (h : Below wq.drew.heap.size wq.drew W') => (hFP.out W' (hl W' h)).range
        have hcR := fun W' (h : Below wq.drew.heap.size wq.drew W') => (hFR.out W' (hl W' h)).range
        have KI := fun W' (h : Below wq.drew.heap.size wq.drew W') => nmInsert M P W' (hNMk.out W' (hl W' h))
        have KD := fun W' (h : Below wq.drew.heap.size wq.drew W') => nmDelete M P.id W' (hNMk.out W' (hl W' h))
        have KMv := fun W' (h : Below wq.drew.heap.size wq.drew W') => nmMove M P.id 1 2 W' (hNMk.out W' (hl W' h))
        have KR := fun W' (h : Below wq.drew.heap.size wq.drew W') => nmRange M _ rfl (by simp [Value.oneCell']) W' (hNMk.out W' (hl W' h)) r0 r1 r2 r3 rfl
        have KN := fun W' (h : Below wq.drew.heap.size wq.drew W') => nmNear M 1 2 W' (hNMk.out W' (hl W' h))
        have KP := fun W' (h : Below wq.drew.heap.size wq.drew W') => (nmPoints M W' (hNMk.out W' (hl W' h))).mono (fun e w2 ⟨he, hw⟩ => (⟨he, by rw [hw]; exact Below.refl _ _⟩ : e = Ending.returned (.slice none 0 0) ∧ Below W'.heap.size W' w2))
        generalize hV : tabNob bs k bx by9 M P r0 r1 r2 r3 = V
        refine wp_region_inv 53 (fun D vs wx => IBn wq.drew V D vs wx) (by kernel_rfl) (by kernel_rfl) ?h0 ?hstep ?hend
        case h0 => exact IBn.first
        case hstep =>
          intro n o hj ho D vs ax wx hDj hD hv hbase H
          match n, hj with
          | 0, _ =>
            simp only [List.getElem?_cons_zero, List.getElem?_cons_succ, Option.some.injEq] at ho
            subst ho
            have f11 := at_base hbase 11 (by kernel_rfl) (v := .bool false) rfl
            exact StepOf.value (.bool false) (wanted_plain rfl _) (by simp [execOp, Act.eval, f11, go_sem]) (H.quiet 0 _ (by rw [← hV]; rfl))
          | 1, _ =>
            simp only [List.getElem?_cons_zero, List.getElem?_cons_succ, Option.some.injEq] at ho
            subst ho
            have e0 := at_done H.vals hv (hD 0 (by kernel_rfl)) 32 (by kernel_rfl) (v := .bool false) (by rw [← hV]; rfl)
            exact StepOf.value (.bool false) (wanted_plain rfl _) (by simp [execOp, Act.eval, e0, go_sem]) (H.quiet 1 _ (by rw [← hV]; rfl))
          | 2, _ =>
            simp only [List.getElem?_cons_zero, List.getElem?_cons_succ, Option.some.injEq] at ho
            subst ho
            have e1 := at_done H.vals hv (hD 1 (by kernel_rfl)) 33 (by kernel_rfl) (v := .bool false) (by rw [← hV]; rfl)
            have f8 := at_base hbase 8 (by kernel_rfl) (v := .slice (some ⟨bs, 0, none⟩) 2 2) rfl
            exact StepOf.value (.slice (some ⟨bs, 0, none⟩) 2 2) (wanted_on9 rfl (t := 33) rfl e1) (by simp [execOp, Act.eval, f8, go_sem]) (H.quiet 2 _ (by rw [← hV]; rfl))
          | 3, _ =>
            simp only [List.getElem?_cons_zero, List.getElem?_cons_succ, Option.some.injEq] at ho
            subst ho
            have e1 := at_done H.vals hv (hD 1 (by kernel_rfl)) 33 (by kernel_rfl) (v := .bool false) (by rw [← hV]; rfl)
            have f9 := at_base hbase 9 (by kernel_rfl) (v := .int .i64 (k : Int)) rfl
            exact StepOf.value (.int .i64 (k : Int)) (wanted_on9 rfl (t := 33) rfl e1) (by simp [execOp, Act.eval, f9, go_sem]) (H.quiet 3 _ (by rw [← hV]; rfl))
          | 4, _ =>
            simp only [List.getElem?_cons_zero, List.getElem?_cons_succ, Option.some.injEq] at ho
            subst ho
            have e1 := at_done H.vals hv (hD 1 (by kernel_rfl)) 33 (by kernel_rfl) (v := .bool false) (by rw [← hV]; rfl)
            have e2 := at_done H.vals hv (hD 2 (by kernel_rfl)) 34 (by kernel_rfl) (v := .slice (some ⟨bs, 0, none⟩) 2 2) (by rw [← hV]; rfl)
            have e3 := at_done H.vals hv (hD 3 (by kernel_rfl)) 35 (by kernel_rfl) (v := .int .i64 (k : Int)) (by rw [← hV]; rfl)
            exact StepOf.value (.pointer (some ⟨bs, k, none⟩)) (wanted_on9 rfl (t := 33) rfl e1) (by simp [execOp, Act.eval, e2, e3, hkk, hkn, go_sem]) (H.quiet 4 _ (by rw [← hV]; rfl))
          | 5, _ =>
            simp only [List.getElem?_cons_zero, List.getElem?_cons_succ, Option.some.injEq] at ho
            subst ho
            have e1 := at_done H.vals hv (hD 1 (by kernel_rfl)) 33 (by kernel_rfl) (v := .bool false) (by rw [← hV]; rfl)
            have e4 := at_done H.vals hv (hD 4 (by kernel_rfl)) 36 (by kernel_rfl) (v := .pointer (some ⟨bs, k, none⟩)) (by rw [← hV]; rfl)
            have hc := hcM _ H.low
            exact StepOf.value (M) (wanted_on9 rfl (t := 33) rfl e1) (by simp [execOp, Act.eval, e4, hc, go_sem]) (H.quiet 5 _ (by rw [← hV]; rfl))
          | 6, _ =>
            simp only [List.getElem?_cons_zero, List.getElem?_cons_succ, Option.some.injEq] at ho
            subst ho
            have e1 := at_done H.vals hv (hD 1 (by kernel_rfl)) 33 (by kernel_rfl) (v := .bool false) (by rw [← hV]; rfl)
            have f3 := at_base hbase 3 (by kernel_rfl) (v := .pointer (some ⟨bx, 0, none⟩)) rfl
            exact StepOf.value (pval P) (wanted_on9 rfl (t := 33) rfl e1) (mload_at _ _ _ 53 _ rfl bx 0 (eval_get f3) #[.int .i64 P.id, .int .u32 P.x, .int .u32 P.y, .string P.d] _ (hcP _ H.low) Try.underlying53 rfl (by rw [ptsz]; rfl)) (H.quiet 6 _ (by rw [← hV]; rfl))
          | 7, _ =>
            simp only [List.getElem?_cons_zero, List.getElem?_cons_succ, Option.some.injEq] at ho
            subst ho
            have e1 := at_done H.vals hv (hD 1 (by kernel_rfl)) 33 (by kernel_rfl) (v := .bool false) (by rw [← hV]; rfl)
            have e5 := at_done H.vals hv (hD 5 (by kernel_rfl)) 37 (by kernel_rfl) (v := M) (by rw [← hV]; rfl)
            have e6 := at_done H.vals hv (hD 6 (by kernel_rfl)) 38 (by kernel_rfl) (v := pval P) (by rw [← hV]; rfl)
            refine StepOf.call 18 #[M, pval P] (wanted_on9 rfl (t := 33) rfl e1) (by simp [execOp, Act.eval, e5, e6, go_sem]) ((KI _ H.low).mono ?_)
            rintro e w2 ⟨rfl, hb2⟩
            exact ⟨_, rfl, H.called 7 (.int .i64 9) (by rw [← hV]; rfl) hb2⟩
          | 8, _ =>
            simp only [List.getElem?_cons_zero, List.getElem?_cons_succ, Option.some.injEq] at ho
            subst ho
            have e1 := at_done H.vals hv (hD 1 (by kernel_rfl)) 33 (by kernel_rfl) (v := .bool false) (by rw [← hV]; rfl)
            have e7 := at_done H.vals hv (hD 7 (by kernel_rfl)) 39 (by kernel_rfl) (v := .int .i64 9) (by rw [← hV]; rfl)
            exact StepOf.value (.bool false) (wanted_on9 rfl (t := 33) rfl e1) (by simp [execOp, Act.eval, e7, go_sem]) (H.quiet 8 _ (by rw [← hV]; rfl))
          | 9, _ =>
            simp only [List.getElem?_cons_zero, List.getElem?_cons_succ, Option.some.injEq] at ho
            subst ho
            have e1 := at_done H.vals hv (hD 1 (by kernel_rfl)) 33 (by kernel_rfl) (v := .bool false) (by rw [← hV]; rfl)
            have e8 := at_done H.vals hv (hD 8 (by kernel_rfl)) 40 (by kernel_rfl) (v := .bool false) (by rw [← hV]; rfl)
            exact StepOf.value (.bool false) (wanted_plain rfl _) (by simp [execOp, Act.eval, e1, e8, go_sem]) (H.quiet 9 _ (by rw [← hV]; rfl))
          | 10, _ =>
            simp only [List.getElem?_cons_zero, List.getElem?_cons_succ, Option.some.injEq] at ho
            subst ho
            have e9 := at_done H.vals hv (hD 9 (by kernel_rfl)) 41 (by kernel_rfl) (v := .bool false) (by rw [← hV]; rfl)
            exact StepOf.value (.bool false) (wanted_plain rfl _) (by simp [execOp, Act.eval, e9, go_sem]) (H.quiet 10 _ (by rw [← hV]; rfl))
          | 11, _ =>
            simp only [List.getElem?_cons_zero, List.getElem?_cons_succ, Option.some.injEq] at ho
            subst ho
            have e10 := at_done H.vals hv (hD 10 (by kernel_rfl)) 42 (by kernel_rfl) (v := .bool false) (by rw [← hV]; rfl)
            have f8 := at_base hbase 8 (by kernel_rfl) (v := .slice (some ⟨bs, 0, none⟩) 2 2) rfl
            exact StepOf.value (.slice (some ⟨bs, 0, none⟩) 2 2) (wanted_on9 rfl (t := 42) rfl e10) (by simp [execOp, Act.eval, f8, go_sem]) (H.quiet 11 _ (by rw [← hV]; rfl))
          | 12, _ =>
            simp only [List.getElem?_cons_zero, List.getElem?_cons_succ, Option.some.injEq] at ho
            subst ho
            have e10 := at_done H.vals hv (hD 10 (by kernel_rfl)) 42 (by kernel_rfl) (v := .bool false) (by rw [← hV]; rfl)
            have f9 := at_base hbase 9 (by kernel_rfl) (v := .int .i64 (k : Int)) rfl
            exact StepOf.value (.int .i64 (k : Int)) (wanted_on9 rfl (t := 42) rfl e10) (by simp [execOp, Act.eval, f9, go_sem]) (H.quiet 12 _ (by rw [← hV]; rfl))
          | 13, _ =>
            simp only [List.getElem?_cons_zero, List.getElem?_cons_succ, Option.some.injEq] at ho
            subst ho
            have e10 := at_done H.vals hv (hD 10 (by kernel_rfl)) 42 (by kernel_rfl) (v := .bool false) (by rw [← hV]; rfl)
            have e11 := at_done H.vals hv (hD 11 (by kernel_rfl)) 43 (by kernel_rfl) (v := .slice (some ⟨bs, 0, none⟩) 2 2) (by rw [← hV]; rfl)
            have e12 := at_done H.vals hv (hD 12 (by kernel_rfl)) 44 (by kernel_rfl) (v := .int .i64 (k : Int)) (by rw [← hV]; rfl)
            exact StepOf.value (.pointer (some ⟨bs, k, none⟩)) (wanted_on9 rfl (t := 42) rfl e10) (by simp [execOp, Act.eval, e11, e12, hkk, hkn, go_sem]) (H.quiet 13 _ (by rw [← hV]; rfl))
          | 14, _ =>
            simp only [List.getElem?_cons_zero, List.getElem?_cons_succ, Option.some.injEq] at ho
            subst ho
            have e10 := at_done H.vals hv (hD 10 (by kernel_rfl)) 42 (by kernel_rfl) (v := .bool false) (by rw [← hV]; rfl)
            have e13 := at_done H.vals hv (hD 13 (by kernel_rfl)) 45 (by kernel_rfl) (v := .pointer (some ⟨bs, k, none⟩)) (by rw [← hV]; rfl)
            have hc := hcM _ H.low
            exact StepOf.value (M) (wanted_on9 rfl (t := 42) rfl e10) (by simp [execOp, Act.eval, e13, hc, go_sem]) (H.quiet 14 _ (by rw [← hV]; rfl))
          | 15, _ =>
            simp only [List.getElem?_cons_zero, List.getElem?_cons_succ, Option.some.injEq] at ho
            subst ho
            have e10 := at_done H.vals hv (hD 10 (by kernel_rfl)) 42 (by kernel_rfl) (v := .bool false) (by rw [← hV]; rfl)
            have f3 := at_base hbase 3 (by kernel_rfl) (v := .pointer (some ⟨bx, 0, none⟩)) rfl
            exact StepOf.value (.pointer (some ⟨bx, 0, none⟩)) (wanted_on9 rfl (t := 42) rfl e10) (by simp [execOp, Act.eval, f3, go_sem]) (H.quiet 15 _ (by rw [← hV]; rfl))
          | 16, _ =>
            simp only [List.getElem?_cons_zero, List.getElem?_cons_succ, Option.some.injEq] at ho
            subst ho
            have e10 := at_done H.vals hv (hD 10 (by kernel_rfl)) 42 (by kernel_rfl) (v := .bool false) (by rw [← hV]; rfl)
            have e15 := at_done H.vals hv (hD 15 (by kernel_rfl)) 47 (by kernel_rfl) (v := .pointer (some ⟨bx, 0, none⟩)) (by rw [← hV]; rfl)
            have hc := hcI _ H.low
            exact StepOf.value (.int .i64 P.id) (wanted_on9 rfl (t := 42) rfl e10) (by simp [execOp, Act.eval, e15, hc, go_sem]) (H.quiet 16 _ (by rw [← hV]; rfl))
          | 17, _ =>
            simp only [List.getElem?_cons_zero, List.getElem?_cons_succ, Option.some.injEq] at ho
            subst ho
            have e10 := at_done H.vals hv (hD 10 (by kernel_rfl)) 42 (by kernel_rfl) (v := .bool false) (by rw [← hV]; rfl)
            have e14 := at_done H.vals hv (hD 14 (by kernel_rfl)) 46 (by kernel_rfl) (v := M) (by rw [← hV]; rfl)
            have e16 := at_done H.vals hv (hD 16 (by kernel_rfl)) 48 (by kernel_rfl) (v := .int .i64 P.id) (by rw [← hV]; rfl)
            refine StepOf.call 19 #[M, .int .i64 P.id] (wanted_on9 rfl (t := 42) rfl e10) (by simp [execOp, Act.eval, e14, e16, go_sem]) ((KD _ H.low).mono ?_)
            rintro e w2 ⟨rfl, hb2⟩
            exact ⟨_, rfl, H.called 17 (.int .i64 9) (by rw [← hV]; rfl) hb2⟩
          | 18, _ =>
            simp only [List.getElem?_cons_zero, List.getElem?_cons_succ, Option.some.injEq] at ho
            subst ho
            have e10 := at_done H.vals hv (hD 10 (by kernel_rfl)) 42 (by kernel_rfl) (v := .bool false) (by rw [← hV]; rfl)
            have e17 := at_done H.vals hv (hD 17 (by kernel_rfl)) 49 (by kernel_rfl) (v := .int .i64 9) (by rw [← hV]; rfl)
            exact StepOf.value (.bool false) (wanted_on9 rfl (t := 42) rfl e10) (by simp [execOp, Act.eval, e17, go_sem]) (H.quiet 18 _ (by rw [← hV]; rfl))
          | 19, _ =>
            simp only [List.getElem?_cons_zero, List.getElem?_cons_succ, Option.some.injEq] at ho
            subst ho
            have e10 := at_done H.vals hv (hD 10 (by kernel_rfl)) 42 (by kernel_rfl) (v := .bool false) (by rw [← hV]; rfl)
            have e18 := at_done H.vals hv (hD 18 (by kernel_rfl)) 50 (by kernel_rfl) (v := .bool false) (by rw [← hV]; rfl)
            exact StepOf.value (.bool false) (wanted_plain rfl _) (by simp [execOp, Act.eval, e10, e18, go_sem]) (H.quiet 19 _ (by rw [← hV]; rfl))
          | 20, _ =>
            simp only [List.getElem?_cons_zero, List.getElem?_cons_succ, Option.some.injEq] at ho
            subst ho
            have e19 := at_done H.vals hv (hD 19 (by kernel_rfl)) 51 (by kernel_rfl) (v := .bool false) (by rw [← hV]; rfl)
            exact StepOf.value (.bool false) (wanted_plain rfl _) (by simp [execOp, Act.eval, e19, go_sem]) (H.quiet 20 _ (by rw [← hV]; rfl))
          | 21, _ =>
            simp only [List.getElem?_cons_zero, List.getElem?_cons_succ, Option.some.injEq] at ho
            subst ho
            have e20 := at_done H.vals hv (hD 20 (by kernel_rfl)) 52 (by kernel_rfl) (v := .bool false) (by rw [← hV]; rfl)
            have f8 := at_base hbase 8 (by kernel_rfl) (v := .slice (some ⟨bs, 0, none⟩) 2 2) rfl
            exact StepOf.value (.slice (some ⟨bs, 0, none⟩) 2 2) (wanted_on9 rfl (t := 52) rfl e20) (by simp [execOp, Act.eval, f8, go_sem]) (H.quiet 21 _ (by rw [← hV]; rfl))
          | 22, _ =>
            simp only [List.getElem?_cons_zero, List.getElem?_cons_succ, Option.some.injEq] at ho
            subst ho
            have e20 := at_done H.vals hv (hD 20 (by kernel_rfl)) 52 (by kernel_rfl) (v := .bool false) (by rw [← hV]; rfl)
            have f9 := at_base hbase 9 (by kernel_rfl) (v := .int .i64 (k : Int)) rfl
            exact StepOf.value (.int .i64 (k : Int)) (wanted_on9 rfl (t := 52) rfl e20) (by simp [execOp, Act.eval, f9, go_sem]) (H.quiet 22 _ (by rw [← hV]; rfl))
          | 23, _ =>
            simp only [List.getElem?_cons_zero, List.getElem?_cons_succ, Option.some.injEq] at ho
            subst ho
            have e20 := at_done H.vals hv (hD 20 (by kernel_rfl)) 52 (by kernel_rfl) (v := .bool false) (by rw [← hV]; rfl)
            have e21 := at_done H.vals hv (hD 21 (by kernel_rfl)) 53 (by kernel_rfl) (v := .slice (some ⟨bs, 0, none⟩) 2 2) (by rw [← hV]; rfl)
            have e22 := at_done H.vals hv (hD 22 (by kernel_rfl)) 54 (by kernel_rfl) (v := .int .i64 (k : Int)) (by rw [← hV]; rfl)
            exact StepOf.value (.pointer (some ⟨bs, k, none⟩)) (wanted_on9 rfl (t := 52) rfl e20) (by simp [execOp, Act.eval, e21, e22, hkk, hkn, go_sem]) (H.quiet 23 _ (by rw [← hV]; rfl))
          | 24, _ =>
            simp only [List.getElem?_cons_zero, List.getElem?_cons_succ, Option.some.injEq] at ho
            subst ho
            have e20 := at_done H.vals hv (hD 20 (by kernel_rfl)) 52 (by kernel_rfl) (v := .bool false) (by rw [← hV]; rfl)
            have e23 := at_done H.vals hv (hD 23 (by kernel_rfl)) 55 (by kernel_rfl) (v := .pointer (some ⟨bs, k, none⟩)) (by rw [← hV]; rfl)
            have hc := hcM _ H.low
            exact StepOf.value (M) (wanted_on9 rfl (t := 52) rfl e20) (by simp [execOp, Act.eval, e23, hc, go_sem]) (H.quiet 24 _ (by rw [← hV]; rfl))
          | 25, _ =>
            simp only [List.getElem?_cons_zero, List.getElem?_cons_succ, Option.some.injEq] at ho
            subst ho
            have e20 := at_done H.vals hv (hD 20 (by kernel_rfl)) 52 (by kernel_rfl) (v := .bool false) (by rw [← hV]; rfl)
            have f3 := at_base hbase 3 (by kernel_rfl) (v := .pointer (some ⟨bx, 0, none⟩)) rfl
            exact StepOf.value (.pointer (some ⟨bx, 0, none⟩)) (wanted_on9 rfl (t := 52) rfl e20) (by simp [execOp, Act.eval, f3, go_sem]) (H.quiet 25 _ (by rw [← hV]; rfl))
          | 26, _ =>
            simp only [List.getElem?_cons_zero, List.getElem?_cons_succ, Option.some.injEq] at ho
            subst ho
            have e20 := at_done H.vals hv (hD 20 (by kernel_rfl)) 52 (by kernel_rfl) (v := .bool false) (by rw [← hV]; rfl)
            have e25 := at_done H.vals hv (hD 25 (by kernel_rfl)) 57 (by kernel_rfl) (v := .pointer (some ⟨bx, 0, none⟩)) (by rw [← hV]; rfl)
            have hc := hcI _ H.low
            exact StepOf.value (.int .i64 P.id) (wanted_on9 rfl (t := 52) rfl e20) (by simp [execOp, Act.eval, e25, hc, go_sem]) (H.quiet 26 _ (by rw [← hV]; rfl))
          | 27, _ =>
            simp only [List.getElem?_cons_zero, List.getElem?_cons_succ, Option.some.injEq] at ho
            subst ho
            have e20 := at_done H.vals hv (hD 20 (by kernel_rfl)) 52 (by kernel_rfl) (v := .bool false) (by rw [← hV]; rfl)
            have e24 := at_done H.vals hv (hD 24 (by kernel_rfl)) 56 (by kernel_rfl) (v := M) (by rw [← hV]; rfl)
            have e26 := at_done H.vals hv (hD 26 (by kernel_rfl)) 58 (by kernel_rfl) (v := .int .i64 P.id) (by rw [← hV]; rfl)
            refine StepOf.call 20 #[M, .int .i64 P.id, .int .u32 1, .int .u32 2] (wanted_on9 rfl (t := 52) rfl e20) (by simp [execOp, Act.eval, e24, e26, go_sem]) ((KMv _ H.low).mono ?_)
            rintro e w2 ⟨rfl, hb2⟩
            exact ⟨_, rfl, H.called 27 (.int .i64 9) (by rw [← hV]; rfl) hb2⟩
          | 28, _ =>
            simp only [List.getElem?_cons_zero, List.getElem?_cons_succ, Option.some.injEq] at ho
            subst ho
            have e20 := at_done H.vals hv (hD 20 (by kernel_rfl)) 52 (by kernel_rfl) (v := .bool false) (by rw [← hV]; rfl)
            have e27 := at_done H.vals hv (hD 27 (by kernel_rfl)) 59 (by kernel_rfl) (v := .int .i64 9) (by rw [← hV]; rfl)
            exact StepOf.value (.bool false) (wanted_on9 rfl (t := 52) rfl e20) (by simp [execOp, Act.eval, e27, go_sem]) (H.quiet 28 _ (by rw [← hV]; rfl))
          | 29, _ =>
            simp only [List.getElem?_cons_zero, List.getElem?_cons_succ, Option.some.injEq] at ho
            subst ho
            have e20 := at_done H.vals hv (hD 20 (by kernel_rfl)) 52 (by kernel_rfl) (v := .bool false) (by rw [← hV]; rfl)
            have e28 := at_done H.vals hv (hD 28 (by kernel_rfl)) 60 (by kernel_rfl) (v := .bool false) (by rw [← hV]; rfl)
            exact StepOf.value (.bool false) (wanted_plain rfl _) (by simp [execOp, Act.eval, e20, e28, go_sem]) (H.quiet 29 _ (by rw [← hV]; rfl))
          | 30, _ =>
            simp only [List.getElem?_cons_zero, List.getElem?_cons_succ, Option.some.injEq] at ho
            subst ho
            have e29 := at_done H.vals hv (hD 29 (by kernel_rfl)) 61 (by kernel_rfl) (v := .bool false) (by rw [← hV]; rfl)
            exact StepOf.value (.bool false) (wanted_plain rfl _) (by simp [execOp, Act.eval, e29, go_sem]) (H.quiet 30 _ (by rw [← hV]; rfl))
          | 31, _ =>
            simp only [List.getElem?_cons_zero, List.getElem?_cons_succ, Option.some.injEq] at ho
            subst ho
            have e30 := at_done H.vals hv (hD 30 (by kernel_rfl)) 62 (by kernel_rfl) (v := .bool false) (by rw [← hV]; rfl)
            have f8 := at_base hbase 8 (by kernel_rfl) (v := .slice (some ⟨bs, 0, none⟩) 2 2) rfl
            exact StepOf.value (.slice (some ⟨bs, 0, none⟩) 2 2) (wanted_on9 rfl (t := 62) rfl e30) (by simp [execOp, Act.eval, f8, go_sem]) (H.quiet 31 _ (by rw [← hV]; rfl))
          | 32, _ =>
            simp only [List.getElem?_cons_zero, List.getElem?_cons_succ, Option.some.injEq] at ho
            subst ho
            have e30 := at_done H.vals hv (hD 30 (by kernel_rfl)) 62 (by kernel_rfl) (v := .bool false) (by rw [← hV]; rfl)
            have f9 := at_base hbase 9 (by kernel_rfl) (v := .int .i64 (k : Int)) rfl
            exact StepOf.value (.int .i64 (k : Int)) (wanted_on9 rfl (t := 62) rfl e30) (by simp [execOp, Act.eval, f9, go_sem]) (H.quiet 32 _ (by rw [← hV]; rfl))
          | 33, _ =>
            simp only [List.getElem?_cons_zero, List.getElem?_cons_succ, Option.some.injEq] at ho
            subst ho
            have e30 := at_done H.vals hv (hD 30 (by kernel_rfl)) 62 (by kernel_rfl) (v := .bool false) (by rw [← hV]; rfl)
            have e31 := at_done H.vals hv (hD 31 (by kernel_rfl)) 63 (by kernel_rfl) (v := .slice (some ⟨bs, 0, none⟩) 2 2) (by rw [← hV]; rfl)
            have e32 := at_done H.vals hv (hD 32 (by kernel_rfl)) 64 (by kernel_rfl) (v := .int .i64 (k : Int)) (by rw [← hV]; rfl)
            exact StepOf.value (.pointer (some ⟨bs, k, none⟩)) (wanted_on9 rfl (t := 62) rfl e30) (by simp [execOp, Act.eval, e31, e32, hkk, hkn, go_sem]) (H.quiet 33 _ (by rw [← hV]; rfl))
          | 34, _ =>
            simp only [List.getElem?_cons_zero, List.getElem?_cons_succ, Option.some.injEq] at ho
            subst ho
            have e30 := at_done H.vals hv (hD 30 (by kernel_rfl)) 62 (by kernel_rfl) (v := .bool false) (by rw [← hV]; rfl)
            have e33 := at_done H.vals hv (hD 33 (by kernel_rfl)) 65 (by kernel_rfl) (v := .pointer (some ⟨bs, k, none⟩)) (by rw [← hV]; rfl)
            have hc := hcM _ H.low
            exact StepOf.value (M) (wanted_on9 rfl (t := 62) rfl e30) (by simp [execOp, Act.eval, e33, hc, go_sem]) (H.quiet 34 _ (by rw [← hV]; rfl))
          | 35, _ =>
            simp only [List.getElem?_cons_zero, List.getElem?_cons_succ, Option.some.injEq] at ho
            subst ho
            have e30 := at_done H.vals hv (hD 30 (by kernel_rfl)) 62 (by kernel_rfl) (v := .bool false) (by rw [← hV]; rfl)
            have f4 := at_base hbase 4 (by kernel_rfl) (v := .pointer (some ⟨by9, 0, none⟩)) rfl
            exact StepOf.value (.agg #[.int .u32 r0, .int .u32 r1, .int .u32 r2, .int .u32 r3]) (wanted_on9 rfl (t := 62) rfl e30) (mload_at _ _ _ 55 _ rfl by9 0 (eval_get f4) #[.int .u32 r0, .int .u32 r1, .int .u32 r2, .int .u32 r3] _ (hcR _ H.low) Try.underlying55 rfl (by rw [rcsz]; rfl)) (H.quiet 35 _ (by rw [← hV]; rfl))
          | 36, _ =>
            simp only [List.getElem?_cons_zero, List.getElem?_cons_succ, Option.some.injEq] at ho
            subst ho
            have e30 := at_done H.vals hv (hD 30 (by kernel_rfl)) 62 (by kernel_rfl) (v := .bool false) (by rw [← hV]; rfl)
            have e34 := at_done H.vals hv (hD 34 (by kernel_rfl)) 66 (by kernel_rfl) (v := M) (by rw [← hV]; rfl)
            have e35 := at_done H.vals hv (hD 35 (by kernel_rfl)) 67 (by kernel_rfl) (v := .agg #[.int .u32 r0, .int .u32 r1, .int .u32 r2, .int .u32 r3]) (by rw [← hV]; rfl)
            refine StepOf.call 21 #[M, .agg #[.int .u32 r0, .int .u32 r1, .int .u32 r2, .int .u32 r3]] (wanted_on9 rfl (t := 62) rfl e30) (by simp [execOp, Act.eval, e34, e35, go_sem]) ((KR _ H.low).mono ?_)
            rintro e w2 ⟨rfl, hb2⟩
            exact ⟨_, rfl, H.called 36 (.slice none 0 0) (by rw [← hV]; rfl) hb2⟩
          | 37, _ =>
            simp only [List.getElem?_cons_zero, List.getElem?_cons_succ, Option.some.injEq] at ho
            subst ho
            have e30 := at_done H.vals hv (hD 30 (by kernel_rfl)) 62 (by kernel_rfl) (v := .bool false) (by rw [← hV]; rfl)
            have e36 := at_done H.vals hv (hD 36 (by kernel_rfl)) 68 (by kernel_rfl) (v := .slice none 0 0) (by rw [← hV]; rfl)
            exact StepOf.value (.int .i64 0) (wanted_on9 rfl (t := 62) rfl e30) (by simp [execOp, Act.eval, e36, go_sem]) (H.quiet 37 _ (by rw [← hV]; rfl))
          | 38, _ =>
            simp only [List.getElem?_cons_zero, List.getElem?_cons_succ, Option.some.injEq] at ho
            subst ho
            have e30 := at_done H.vals hv (hD 30 (by kernel_rfl)) 62 (by kernel_rfl) (v := .bool false) (by rw [← hV]; rfl)
            have f8 := at_base hbase 8 (by kernel_rfl) (v := .slice (some ⟨bs, 0, none⟩) 2 2) rfl
            exact StepOf.value (.slice (some ⟨bs, 0, none⟩) 2 2) (wanted_on9 rfl (t := 62) rfl e30) (by simp [execOp, Act.eval, f8, go_sem]) (H.quiet 38 _ (by rw [← hV]; rfl))
          | 39, _ =>
            simp only [List.getElem?_cons_zero, List.getElem?_cons_succ, Option.some.injEq] at ho
            subst ho
            have e30 := at_done H.vals hv (hD 30 (by kernel_rfl)) 62 (by kernel_rfl) (v := .bool false) (by rw [← hV]; rfl)
            have f9 := at_base hbase 9 (by kernel_rfl) (v := .int .i64 (k : Int)) rfl
            exact StepOf.value (.int .i64 (k : Int)) (wanted_on9 rfl (t := 62) rfl e30) (by simp [execOp, Act.eval, f9, go_sem]) (H.quiet 39 _ (by rw [← hV]; rfl))
          | 40, _ =>
            simp only [List.getElem?_cons_zero, List.getElem?_cons_succ, Option.some.injEq] at ho
            subst ho
            have e30 := at_done H.vals hv (hD 30 (by kernel_rfl)) 62 (by kernel_rfl) (v := .bool false) (by rw [← hV]; rfl)
            have e38 := at_done H.vals hv (hD 38 (by kernel_rfl)) 70 (by kernel_rfl) (v := .slice (some ⟨bs, 0, none⟩) 2 2) (by rw [← hV]; rfl)
            have e39 := at_done H.vals hv (hD 39 (by kernel_rfl)) 71 (by kernel_rfl) (v := .int .i64 (k : Int)) (by rw [← hV]; rfl)
            exact StepOf.value (.pointer (some ⟨bs, k, none⟩)) (wanted_on9 rfl (t := 62) rfl e30) (by simp [execOp, Act.eval, e38, e39, hkk, hkn, go_sem]) (H.quiet 40 _ (by rw [← hV]; rfl))
          | 41, _ =>
            simp only [List.getElem?_cons_zero, List.getElem?_cons_succ, Option.some.injEq] at ho
            subst ho
            have e30 := at_done H.vals hv (hD 30 (by kernel_rfl)) 62 (by kernel_rfl) (v := .bool false) (by rw [← hV]; rfl)
            have e40 := at_done H.vals hv (hD 40 (by kernel_rfl)) 72 (by kernel_rfl) (v := .pointer (some ⟨bs, k, none⟩)) (by rw [← hV]; rfl)
            have hc := hcM _ H.low
            exact StepOf.value (M) (wanted_on9 rfl (t := 62) rfl e30) (by simp [execOp, Act.eval, e40, hc, go_sem]) (H.quiet 41 _ (by rw [← hV]; rfl))
          | 42, _ =>
            simp only [List.getElem?_cons_zero, List.getElem?_cons_succ, Option.some.injEq] at ho
            subst ho
            have e30 := at_done H.vals hv (hD 30 (by kernel_rfl)) 62 (by kernel_rfl) (v := .bool false) (by rw [← hV]; rfl)
            have e41 := at_done H.vals hv (hD 41 (by kernel_rfl)) 73 (by kernel_rfl) (v := M) (by rw [← hV]; rfl)
            refine StepOf.call 22 #[M, .int .u32 1, .int .u32 2, .int .i64 3] (wanted_on9 rfl (t := 62) rfl e30) (by simp [execOp, Act.eval, e41, go_sem]) ((KN _ H.low).mono ?_)
            rintro e w2 ⟨rfl, hb2⟩
            exact ⟨_, rfl, H.called 42 (.slice none 0 0) (by rw [← hV]; rfl) hb2⟩
          | 43, _ =>
            simp only [List.getElem?_cons_zero, List.getElem?_cons_succ, Option.some.injEq] at ho
            subst ho
            have e30 := at_done H.vals hv (hD 30 (by kernel_rfl)) 62 (by kernel_rfl) (v := .bool false) (by rw [← hV]; rfl)
            have e42 := at_done H.vals hv (hD 42 (by kernel_rfl)) 74 (by kernel_rfl) (v := .slice none 0 0) (by rw [← hV]; rfl)
            exact StepOf.value (.int .i64 0) (wanted_on9 rfl (t := 62) rfl e30) (by simp [execOp, Act.eval, e42, go_sem]) (H.quiet 43 _ (by rw [← hV]; rfl))
          | 44, _ =>
            simp only [List.getElem?_cons_zero, List.getElem?_cons_succ, Option.some.injEq] at ho
            subst ho
            have e30 := at_done H.vals hv (hD 30 (by kernel_rfl)) 62 (by kernel_rfl) (v := .bool false) (by rw [← hV]; rfl)
            have e37 := at_done H.vals hv (hD 37 (by kernel_rfl)) 69 (by kernel_rfl) (v := .int .i64 0) (by rw [← hV]; rfl)
            have e43 := at_done H.vals hv (hD 43 (by kernel_rfl)) 75 (by kernel_rfl) (v := .int .i64 0) (by rw [← hV]; rfl)
            exact StepOf.value (.int .i64 0) (wanted_on9 rfl (t := 62) rfl e30) (by simp [execOp, Act.eval, e37, e43, mwrap0, go_sem]) (H.quiet 44 _ (by rw [← hV]; rfl))
          | 45, _ =>
            simp only [List.getElem?_cons_zero, List.getElem?_cons_succ, Option.some.injEq] at ho
            subst ho
            have e30 := at_done H.vals hv (hD 30 (by kernel_rfl)) 62 (by kernel_rfl) (v := .bool false) (by rw [← hV]; rfl)
            have f8 := at_base hbase 8 (by kernel_rfl) (v := .slice (some ⟨bs, 0, none⟩) 2 2) rfl
            exact StepOf.value (.slice (some ⟨bs, 0, none⟩) 2 2) (wanted_on9 rfl (t := 62) rfl e30) (by simp [execOp, Act.eval, f8, go_sem]) (H.quiet 45 _ (by rw [← hV]; rfl))
          | 46, _ =>
            simp only [List.getElem?_cons_zero, List.getElem?_cons_succ, Option.some.injEq] at ho
            subst ho
            have e30 := at_done H.vals hv (hD 30 (by kernel_rfl)) 62 (by kernel_rfl) (v := .bool false) (by rw [← hV]; rfl)
            have f9 := at_base hbase 9 (by kernel_rfl) (v := .int .i64 (k : Int)) rfl
            exact StepOf.value (.int .i64 (k : Int)) (wanted_on9 rfl (t := 62) rfl e30) (by simp [execOp, Act.eval, f9, go_sem]) (H.quiet 46 _ (by rw [← hV]; rfl))
          | 47, _ =>
            simp only [List.getElem?_cons_zero, List.getElem?_cons_succ, Option.some.injEq] at ho
            subst ho
            have e30 := at_done H.vals hv (hD 30 (by kernel_rfl)) 62 (by kernel_rfl) (v := .bool false) (by rw [← hV]; rfl)
            have e45 := at_done H.vals hv (hD 45 (by kernel_rfl)) 77 (by kernel_rfl) (v := .slice (some ⟨bs, 0, none⟩) 2 2) (by rw [← hV]; rfl)
            have e46 := at_done H.vals hv (hD 46 (by kernel_rfl)) 78 (by kernel_rfl) (v := .int .i64 (k : Int)) (by rw [← hV]; rfl)
            exact StepOf.value (.pointer (some ⟨bs, k, none⟩)) (wanted_on9 rfl (t := 62) rfl e30) (by simp [execOp, Act.eval, e45, e46, hkk, hkn, go_sem]) (H.quiet 47 _ (by rw [← hV]; rfl))
          | 48, _ =>
            simp only [List.getElem?_cons_zero, List.getElem?_cons_succ, Option.some.injEq] at ho
            subst ho
            have e30 := at_done H.vals hv (hD 30 (by kernel_rfl)) 62 (by kernel_rfl) (v := .bool false) (by rw [← hV]; rfl)
            have e47 := at_done H.vals hv (hD 47 (by kernel_rfl)) 79 (by kernel_rfl) (v := .pointer (some ⟨bs, k, none⟩)) (by rw [← hV]; rfl)
            have hc := hcM _ H.low
            exact StepOf.value (M) (wanted_on9 rfl (t := 62) rfl e30) (by simp [execOp, Act.eval, e47, hc, go_sem]) (H.quiet 48 _ (by rw [← hV]; rfl))
          | 49, _ =>
            simp only [List.getElem?_cons_zero, List.getElem?_cons_succ, Option.some.injEq] at ho
            subst ho
            have e30 := at_done H.vals hv (hD 30 (by kernel_rfl)) 62 (by kernel_rfl) (v := .bool false) (by rw [← hV]; rfl)
            have e48 := at_done H.vals hv (hD 48 (by kernel_rfl)) 80 (by kernel_rfl) (v := M) (by rw [← hV]; rfl)
            refine StepOf.call 23 #[M] (wanted_on9 rfl (t := 62) rfl e30) (by simp [execOp, Act.eval, e48, go_sem]) ((KP _ H.low).mono ?_)
            rintro e w2 ⟨rfl, hb2⟩
            exact ⟨_, rfl, H.called 49 (.slice none 0 0) (by rw [← hV]; rfl) hb2⟩
          | 50, _ =>
            simp only [List.getElem?_cons_zero, List.getElem?_cons_succ, Option.some.injEq] at ho
            subst ho
            have e30 := at_done H.vals hv (hD 30 (by kernel_rfl)) 62 (by kernel_rfl) (v := .bool false) (by rw [← hV]; rfl)
            have e49 := at_done H.vals hv (hD 49 (by kernel_rfl)) 81 (by kernel_rfl) (v := .slice none 0 0) (by rw [← hV]; rfl)
            exact StepOf.value (.int .i64 0) (wanted_on9 rfl (t := 62) rfl e30) (by simp [execOp, Act.eval, e49, go_sem]) (H.quiet 50 _ (by rw [← hV]; rfl))
          | 51, _ =>
            simp only [List.getElem?_cons_zero, List.getElem?_cons_succ, Option.some.injEq] at ho
            subst ho
            have e30 := at_done H.vals hv (hD 30 (by kernel_rfl)) 62 (by kernel_rfl) (v := .bool false) (by rw [← hV]; rfl)
            have e44 := at_done H.vals hv (hD 44 (by kernel_rfl)) 76 (by kernel_rfl) (v := .int .i64 0) (by rw [← hV]; rfl)
            have e50 := at_done H.vals hv (hD 50 (by kernel_rfl)) 82 (by kernel_rfl) (v := .int .i64 0) (by rw [← hV]; rfl)
            exact StepOf.value (.int .i64 0) (wanted_on9 rfl (t := 62) rfl e30) (by simp [execOp, Act.eval, e44, e50, mwrap0, go_sem]) (H.quiet 51 _ (by rw [← hV]; rfl))
          | 52, _ =>
            simp only [List.getElem?_cons_zero, List.getElem?_cons_succ, Option.some.injEq] at ho
            subst ho
            have e30 := at_done H.vals hv (hD 30 (by kernel_rfl)) 62 (by kernel_rfl) (v := .bool false) (by rw [← hV]; rfl)
            have e51 := at_done H.vals hv (hD 51 (by kernel_rfl)) 83 (by kernel_rfl) (v := .int .i64 0) (by rw [← hV]; rfl)
            exact StepOf.value (.bool false) (wanted_on9 rfl (t := 62) rfl e30) (by simp [execOp, Act.eval, e51, go_sem]) (H.quiet 52 _ (by rw [← hV]; rfl))
          | n + 53, hj => exact absurd hj (by omega)
        case hend =>
          intro D vs W7x hall H
          have hlow := hid H.low
          have v0 := H.vals 0 _ (hall 0 (by omega)) (by rw [← hV]; rfl)
          have v1 := H.vals 1 _ (hall 1 (by omega)) (by rw [← hV]; rfl)
          have v2 := H.vals 2 _ (hall 2 (by omega)) (by rw [← hV]; rfl)
          have v3 := H.vals 3 _ (hall 3 (by omega)) (by rw [← hV]; rfl)
          have v4 := H.vals 4 _ (hall 4 (by omega)) (by rw [← hV]; rfl)
          have v5 := H.vals 5 _ (hall 5 (by omega)) (by rw [← hV]; rfl)
          have v6 := H.vals 6 _ (hall 6 (by omega)) (by rw [← hV]; rfl)
          have v7 := H.vals 7 _ (hall 7 (by omega)) (by rw [← hV]; rfl)
          have v8 := H.vals 8 _ (hall 8 (by omega)) (by rw [← hV]; rfl)
          have v9 := H.vals 9 _ (hall 9 (by omega)) (by rw [← hV]; rfl)
          have v10 := H.vals 10 _ (hall 10 (by omega)) (by rw [← hV]; rfl)
          have v11 := H.vals 11 _ (hall 11 (by omega)) (by rw [← hV]; rfl)
          have v12 := H.vals 12 _ (hall 12 (by omega)) (by rw [← hV]; rfl)
          have v13 := H.vals 13 _ (hall 13 (by omega)) (by rw [← hV]; rfl)
          have v14 := H.vals 14 _ (hall 14 (by omega)) (by rw [← hV]; rfl)
          have v15 := H.vals 15 _ (hall 15 (by omega)) (by rw [← hV]; rfl)
          have v16 := H.vals 16 _ (hall 16 (by omega)) (by rw [← hV]; rfl)
          have v17 := H.vals 17 _ (hall 17 (by omega)) (by rw [← hV]; rfl)
          have v18 := H.vals 18 _ (hall 18 (by omega)) (by rw [← hV]; rfl)
          have v19 := H.vals 19 _ (hall 19 (by omega)) (by rw [← hV]; rfl)
          have v20 := H.vals 20 _ (hall 20 (by omega)) (by rw [← hV]; rfl)
          have v21 := H.vals 21 _ (hall 21 (by omega)) (by rw [← hV]; rfl)
          have v22 := H.vals 22 _ (hall 22 (by omega)) (by rw [← hV]; rfl)
          have v23 := H.vals 23 _ (hall 23 (by omega)) (by rw [← hV]; rfl)
          have v24 := H.vals 24 _ (hall 24 (by omega)) (by rw [← hV]; rfl)
          have v25 := H.vals 25 _ (hall 25 (by omega)) (by rw [← hV]; rfl)
          have v26 := H.vals 26 _ (hall 26 (by omega)) (by rw [← hV]; rfl)
          have v27 := H.vals 27 _ (hall 27 (by omega)) (by rw [← hV]; rfl)
          have v28 := H.vals 28 _ (hall 28 (by omega)) (by rw [← hV]; rfl)
          have v29 := H.vals 29 _ (hall 29 (by omega)) (by rw [← hV]; rfl)
          have v30 := H.vals 30 _ (hall 30 (by omega)) (by rw [← hV]; rfl)
          have v31 := H.vals 31 _ (hall 31 (by omega)) (by rw [← hV]; rfl)
          have v32 := H.vals 32 _ (hall 32 (by omega)) (by rw [← hV]; rfl)
          have v33 := H.vals 33 _ (hall 33 (by omega)) (by rw [← hV]; rfl)
          have v34 := H.vals 34 _ (hall 34 (by omega)) (by rw [← hV]; rfl)
          have v35 := H.vals 35 _ (hall 35 (by omega)) (by rw [← hV]; rfl)
          have v36 := H.vals 36 _ (hall 36 (by omega)) (by rw [← hV]; rfl)
          have v37 := H.vals 37 _ (hall 37 (by omega)) (by rw [← hV]; rfl)
          have v38 := H.vals 38 _ (hall 38 (by omega)) (by rw [← hV]; rfl)
          have v39 := H.vals 39 _ (hall 39 (by omega)) (by rw [← hV]; rfl)
          have v40 := H.vals 40 _ (hall 40 (by omega)) (by rw [← hV]; rfl)
          have v41 := H.vals 41 _ (hall 41 (by omega)) (by rw [← hV]; rfl)
          have v42 := H.vals 42 _ (hall 42 (by omega)) (by rw [← hV]; rfl)
          have v43 := H.vals 43 _ (hall 43 (by omega)) (by rw [← hV]; rfl)
          have v44 := H.vals 44 _ (hall 44 (by omega)) (by rw [← hV]; rfl)
          have v45 := H.vals 45 _ (hall 45 (by omega)) (by rw [← hV]; rfl)
          have v46 := H.vals 46 _ (hall 46 (by omega)) (by rw [← hV]; rfl)
          have v47 := H.vals 47 _ (hall 47 (by omega)) (by rw [← hV]; rfl)
          have v48 := H.vals 48 _ (hall 48 (by omega)) (by rw [← hV]; rfl)
          have v49 := H.vals 49 _ (hall 49 (by omega)) (by rw [← hV]; rfl)
          have v50 := H.vals 50 _ (hall 50 (by omega)) (by rw [← hV]; rfl)
          have v51 := H.vals 51 _ (hall 51 (by omega)) (by rw [← hV]; rfl)
          have v52 := H.vals 52 _ (hall 52 (by omega)) (by rw [← hV]; rfl)
          simp only [puts, List.range, List.range.loop, List.foldl_cons, List.foldl_nil, List.getElem?_toArray, List.getElem?_cons_succ, List.getElem?_cons_zero, Option.bind_some, Option.bind_none, Act.put, List.setIfInBounds_toArray, List.set_cons_succ, List.set_cons_zero, v0, v1, v2, v3, v4, v5, v6, v7, v8, v9, v10, v11, v12, v13, v14, v15, v16, v17, v18, v19, v20, v21, v22, v23, v24, v25, v26, v27, v28, v29, v30, v31, v32, v33, v34, v35, v36, v37, v38, v39, v40, v41, v42, v43, v44, v45, v46, v47, v48, v49, v50, v51, v52]
          simp only [List.drop_succ_cons, List.drop_zero]
          clear v0 v1 v2 v3 v4 v5 v6 v7 v8 v9 v10 v11 v12 v13 v14 v15 v16 v17 v18 v19 v20 v21 v22 v23 v24 v25 v26 v27 v28 v29 v30 v31 v32 v33 v34 v35 v36 v37 v38 v39 v40 v41 v42 v43 v44 v45 v46 v47 v48 v49 v50 v51 v52 hall H hV
          have hbr := hid (below2 hbq.out.drew hlow.out hbq.out.drew.size)
          clear hlow hl hcM hcI hcP hcR KI KD KMv KR KN KP hbq
          go_wp2_with fail
          exact ⟨⟨k + 1, by omega, rfl, hbr.out⟩, hmeas.out _ rfl⟩
    · obtain rfl : k = 2 := by omega
      have hD := hid (below2 D4.out hb D4.out.size)
      have hbh := hid hb
      clear hb
      go_upto_region 9 with (fail)
      have hl := fun W' (h : Below wr.drew.heap.size wr.drew W') => below2 hD.out.drew h hD.out.drew.size
      have hl4 := fun W' (h : Below wr.drew.heap.size wr.drew W') => below2 hbh.out.drew h hbh.out.drew.size
      have hcP := fun W' (h : Below wr.drew.heap.size wr.drew W') => (hFP.out W' (hl4 W' h)).range
      have hRL := fun W' (h : Below wr.drew.heap.size wr.drew W') => rowp_list (hHR.out.more (hl W' h))
      have hlen : (ptL nl f).length = nl := ptL_len nl f
      have hby1 : (ptL nl f).length * 32 ≤ 140737488355328 := by rw [hlen]; omega
      have hmx1 : (ptL nl f).length ≤ maxLen := by rw [hlen]; unfold maxLen; omega
      have hby2 : ((ptL nl f).length + 1) * 32 ≤ 140737488355328 := by rw [hlen]; omega
      have hmx2 : (ptL nl f).length + 1 ≤ maxLen := by rw [hlen]; unfold maxLen; omega
      have KE := fun W' (h : Below wr.drew.heap.size wr.drew W') => by
        have := msame_any lp lp nl nl lc lc f f hcs.out.1 hcs.out.2 hcs.out.1 hcs.out.2 W' (hHR.out.more (hl W' h)) (hHR.out.more (hl W' h))
        rw [show (decide (nl = nl) && allP f f nl) = true by simp [allP_self f f nl (fun _ _ => rfl)]] at this
        exact this
      have KF := fun W' (h : Below wr.drew.heap.size wr.drew W') (p c : _) (x1 : (ptL nl f ++ [P]).length ≤ c) (x2 : c ≤ maxLen) (R : RowOf gpT W' p (ptL nl f ++ [P])) => by
        have := msame_any lp p nl (ptL nl f ++ [P]).length lc c f (fun i => atR gpT (ptL nl f ++ [P]) i) hcs.out.1 hcs.out.2 x1 x2 W' (hHR.out.more (hl W' h)) R
        rw [show decide (nl = (ptL nl f ++ [P]).length) = false from decide_eq_false (by rw [List.length_append, hlen, List.length_singleton]; omega), Bool.false_and] at this
        exact this
      generalize hV : tabEnd lp nl lc P = V
      refine wp_region_inv 17 (fun D vs wx => IS9 wr.drew (ptL nl f) P V D vs wx) (by kernel_rfl) (by kernel_rfl) ?h0 ?hstep ?hend
      case h0 => exact IS9.first
      case hstep =>
        intro n o hj ho D vs ax wx hDj hD hv hbase H
        match n, hj with
        | 0, _ =>
          simp only [List.getElem?_cons_zero, List.getElem?_cons_succ, Option.some.injEq] at ho
          subst ho
          have f2 := at_base hbase 2 (by kernel_rfl) (v := .slice lp nl lc) rfl
          exact StepOf.value (.slice lp nl lc) (wanted_plain rfl _) (by simp [execOp, Act.eval, f2, go_sem]) (H.quiet 0 _ (by rw [← hV]; rfl))
        | 1, _ =>
          simp only [List.getElem?_cons_zero, List.getElem?_cons_succ, Option.some.injEq] at ho
          subst ho
          have f2 := at_base hbase 2 (by kernel_rfl) (v := .slice lp nl lc) rfl
          exact StepOf.value (.slice lp nl lc) (wanted_plain rfl _) (by simp [execOp, Act.eval, f2, go_sem]) (H.quiet 1 _ (by rw [← hV]; rfl))
        | 2, _ =>
          simp only [List.getElem?_cons_zero, List.getElem?_cons_succ, Option.some.injEq] at ho
          subst ho
          have e0 := at_done H.vals hv (hD 0 (by kernel_rfl)) 86 (by kernel_rfl) (v := .slice lp nl lc) (by rw [← hV]; rfl)
          have e1 := at_done H.vals hv (hD 1 (by kernel_rfl)) 87 (by kernel_rfl) (v := .slice lp nl lc) (by rw [← hV]; rfl)
          refine StepOf.call 24 #[.slice lp nl lc, .slice lp nl lc] (wanted_plain rfl _) (by simp [execOp, Act.eval, e0, e1, go_sem]) ((KE _ H.low).mono ?_)
          rintro e w2 ⟨rfl, hb2⟩
          exact ⟨_, rfl, H.called 2 (.bool true) (by rw [← hV]; rfl) hb2⟩
        | 3, _ =>
          simp only [List.getElem?_cons_zero, List.getElem?_cons_succ, Option.some.injEq] at ho
          subst ho
          have e2 := at_done H.vals hv (hD 2 (by kernel_rfl)) 88 (by kernel_rfl) (v := .bool true) (by rw [← hV]; rfl)
          exact StepOf.value (.bool true) (wanted_plain rfl _) (by simp [execOp, Act.eval, e2, go_sem]) (H.quiet 3 _ (by rw [← hV]; rfl))
        | 4, _ =>
          simp only [List.getElem?_cons_zero, List.getElem?_cons_succ, Option.some.injEq] at ho
          subst ho
          have e3 := at_done H.vals hv (hD 3 (by kernel_rfl)) 89 (by kernel_rfl) (v := .bool true) (by rw [← hV]; rfl)
          have f2 := at_base hbase 2 (by kernel_rfl) (v := .slice lp nl lc) rfl
          exact StepOf.value (.slice lp nl lc) (wanted_on9 rfl (t := 89) rfl e3) (by simp [execOp, Act.eval, f2, go_sem]) (H.quiet 4 _ (by rw [← hV]; rfl))
        | 5, _ =>
          simp only [List.getElem?_cons_zero, List.getElem?_cons_succ, Option.some.injEq] at ho
          subst ho
          have e3 := at_done H.vals hv (hD 3 (by kernel_rfl)) 89 (by kernel_rfl) (v := .bool true) (by rw [← hV]; rfl)
          exact StepOf.value _ (wanted_on9 rfl (t := 89) rfl e3) (mempty_run _ _ _ _ _ _ wx) (H.mk5 hDj (by rw [← hV]; rfl))
        | 6, _ =>
          simp only [List.getElem?_cons_zero, List.getElem?_cons_succ, Option.some.injEq] at ho
          subst ho
          have e3 := at_done H.vals hv (hD 3 (by kernel_rfl)) 89 (by kernel_rfl) (v := .bool true) (by rw [← hV]; rfl)
          have f2 := at_base hbase 2 (by kernel_rfl) (v := .slice lp nl lc) rfl
          exact StepOf.value (.slice lp nl lc) (wanted_on9 rfl (t := 89) rfl e3) (by simp [execOp, Act.eval, f2, go_sem]) (H.quiet 6 _ (by rw [← hV]; rfl))
        | 7, _ =>
          simp only [List.getElem?_cons_zero, List.getElem?_cons_succ, Option.some.injEq] at ho
          subst ho
          have e3 := at_done H.vals hv (hD 3 (by kernel_rfl)) 89 (by kernel_rfl) (v := .bool true) (by rw [← hV]; rfl)
          have e5 := at_val hv (hD 5 (by kernel_rfl)) 91 (by kernel_rfl) (rfl : vs 5 = vs 5)
          have e6 := at_done H.vals hv (hD 6 (by kernel_rfl)) 92 (by kernel_rfl) (v := .slice lp nl lc) (by rw [← hV]; rfl)
          obtain ⟨v', w', hr, H'⟩ := H.ap7 (hD 5 (by kernel_rfl)) hDj (by rw [← hV]; rfl) lp lc (hRL wx H.low) hby1 hmx1
          simp only [ptL_len] at hr
          exact StepOf.value v' (wanted_on9 rfl (t := 89) rfl e3) (mappend_run _ _ _ _ _ _ _ _ _ _ _ (eval_get e5) (eval_get e6) wx w' (hr _)) H'
        | 8, _ =>
          simp only [List.getElem?_cons_zero, List.getElem?_cons_succ, Option.some.injEq] at ho
          subst ho
          have e3 := at_done H.vals hv (hD 3 (by kernel_rfl)) 89 (by kernel_rfl) (v := .bool true) (by rw [← hV]; rfl)
          have f3 := at_base hbase 3 (by kernel_rfl) (v := .pointer (some ⟨bx, 0, none⟩)) rfl
          exact StepOf.value (pval P) (wanted_on9 rfl (t := 89) rfl e3) (mload_at _ _ _ 53 _ rfl bx 0 (eval_get f3) #[.int .i64 P.id, .int .u32 P.x, .int .u32 P.y, .string P.d] _ (hcP _ H.low) Try.underlying53 rfl (by rw [ptsz]; rfl)) (H.quiet 8 _ (by rw [← hV]; rfl))
        | 9, _ =>
          simp only [List.getElem?_cons_zero, List.getElem?_cons_succ, Option.some.injEq] at ho
          subst ho
          have e3 := at_done H.vals hv (hD 3 (by kernel_rfl)) 89 (by kernel_rfl) (v := .bool true) (by rw [← hV]; rfl)
          have e8 := at_done H.vals hv (hD 8 (by kernel_rfl)) 94 (by kernel_rfl) (v := pval P) (by rw [← hV]; rfl)
          exact StepOf.value _ (wanted_on9 rfl (t := 89) rfl e3) (mone_run P _ _ _ _ _ _ _ (eval_get e8) wx) (H.mk9 hDj (by rw [← hV]; rfl))
        | 10, _ =>
          simp only [List.getElem?_cons_zero, List.getElem?_cons_succ, Option.some.injEq] at ho
          subst ho
          have e3 := at_done H.vals hv (hD 3 (by kernel_rfl)) 89 (by kernel_rfl) (v := .bool true) (by rw [← hV]; rfl)
          have e7 := at_val hv (hD 7 (by kernel_rfl)) 93 (by kernel_rfl) (rfl : vs 7 = vs 7)
          have e9 := at_val hv (hD 9 (by kernel_rfl)) 95 (by kernel_rfl) (rfl : vs 9 = vs 9)
          obtain ⟨v', w', hr, H'⟩ := H.ap10 (hD 7 (by kernel_rfl)) (hD 9 (by kernel_rfl)) hDj (by rw [← hV]; rfl) hby2 hmx2
          exact StepOf.value v' (wanted_on9 rfl (t := 89) rfl e3) (mappend_run _ _ _ _ _ _ _ _ _ _ _ (eval_get e7) (eval_get e9) wx w' (hr _)) H'
        | 11, _ =>
          simp only [List.getElem?_cons_zero, List.getElem?_cons_succ, Option.some.injEq] at ho
          subst ho
          have e3 := at_done H.vals hv (hD 3 (by kernel_rfl)) 89 (by kernel_rfl) (v := .bool true) (by rw [← hV]; rfl)
          have e4 := at_done H.vals hv (hD 4 (by kernel_rfl)) 90 (by kernel_rfl) (v := .slice lp nl lc) (by rw [← hV]; rfl)
          obtain ⟨p10, c10, q10, x1, x2, R10⟩ := RowOwn.open gpOk (H.a10 (hD 10 (by kernel_rfl)))
          have e10 := at_val hv (hD 10 (by kernel_rfl)) 96 (by kernel_rfl) q10
          refine StepOf.call 24 #[.slice lp nl lc, .slice p10 (ptL nl f ++ [P]).length c10] (wanted_on9 rfl (t := 89) rfl e3) (by simp [execOp, Act.eval, e4, e10, go_sem]) ((KF wx H.low p10 c10 x1 x2 R10).mono ?_)
          rintro e w2 ⟨rfl, hb2⟩
          exact ⟨_, rfl, H.called 11 (.bool false) (by rw [← hV]; rfl) hb2⟩
        | 12, _ =>
          simp only [List.getElem?_cons_zero, List.getElem?_cons_succ, Option.some.injEq] at ho
          subst ho
          have e3 := at_done H.vals hv (hD 3 (by kernel_rfl)) 89 (by kernel_rfl) (v := .bool true) (by rw [← hV]; rfl)
          have e11 := at_done H.vals hv (hD 11 (by kernel_rfl)) 97 (by kernel_rfl) (v := .bool false) (by rw [← hV]; rfl)
          exact StepOf.value (.bool true) (wanted_on9 rfl (t := 89) rfl e3) (by simp [execOp, Act.eval, e11, go_sem]) (H.quiet 12 _ (by rw [← hV]; rfl))
        | 13, _ =>
          simp only [List.getElem?_cons_zero, List.getElem?_cons_succ, Option.some.injEq] at ho
          subst ho
          have e3 := at_done H.vals hv (hD 3 (by kernel_rfl)) 89 (by kernel_rfl) (v := .bool true) (by rw [← hV]; rfl)
          have e12 := at_done H.vals hv (hD 12 (by kernel_rfl)) 98 (by kernel_rfl) (v := .bool true) (by rw [← hV]; rfl)
          exact StepOf.value (.bool true) (wanted_plain rfl _) (by simp [execOp, Act.eval, e3, e12, go_sem]) (H.quiet 13 _ (by rw [← hV]; rfl))
        | 14, _ =>
          simp only [List.getElem?_cons_zero, List.getElem?_cons_succ, Option.some.injEq] at ho
          subst ho
          have e13 := at_done H.vals hv (hD 13 (by kernel_rfl)) 99 (by kernel_rfl) (v := .bool true) (by rw [← hV]; rfl)
          exact StepOf.value (.bool true) (wanted_plain rfl _) (by simp [execOp, Act.eval, e13, go_sem]) (H.quiet 14 _ (by rw [← hV]; rfl))
        | 15, _ =>
          simp only [List.getElem?_cons_zero, List.getElem?_cons_succ, Option.some.injEq] at ho
          subst ho
          have e14 := at_done H.vals hv (hD 14 (by kernel_rfl)) 100 (by kernel_rfl) (v := .bool true) (by rw [← hV]; rfl)
          refine StepOf.call 25 #[] (wanted_on9 rfl (t := 100) rfl e14) (by simp [execOp, Act.eval, go_sem]) ((alive29 wx).mono ?_)
          rintro e w2 ⟨rfl, hb2⟩
          exact ⟨_, rfl, H.called 15 (.bool true) (by rw [← hV]; rfl) hb2⟩
        | 16, _ =>
          simp only [List.getElem?_cons_zero, List.getElem?_cons_succ, Option.some.injEq] at ho
          subst ho
          have e14 := at_done H.vals hv (hD 14 (by kernel_rfl)) 100 (by kernel_rfl) (v := .bool true) (by rw [← hV]; rfl)
          have e15 := at_done H.vals hv (hD 15 (by kernel_rfl)) 101 (by kernel_rfl) (v := .bool true) (by rw [← hV]; rfl)
          exact StepOf.value (.bool true) (wanted_plain rfl _) (by simp [execOp, Act.eval, e14, e15, go_sem]) (H.quiet 16 _ (by rw [← hV]; rfl))
        | n + 17, hj => exact absurd hj (by omega)
      case hend =>
        intro D vs W7x hall H
        have hlow := hid H.low
        have v0 := H.vals 0 _ (hall 0 (by omega)) (by rw [← hV]; rfl)
        have v1 := H.vals 1 _ (hall 1 (by omega)) (by rw [← hV]; rfl)
        have v2 := H.vals 2 _ (hall 2 (by omega)) (by rw [← hV]; rfl)
        have v3 := H.vals 3 _ (hall 3 (by omega)) (by rw [← hV]; rfl)
        have v4 := H.vals 4 _ (hall 4 (by omega)) (by rw [← hV]; rfl)
        have v6 := H.vals 6 _ (hall 6 (by omega)) (by rw [← hV]; rfl)
        have v8 := H.vals 8 _ (hall 8 (by omega)) (by rw [← hV]; rfl)
        have v11 := H.vals 11 _ (hall 11 (by omega)) (by rw [← hV]; rfl)
        have v12 := H.vals 12 _ (hall 12 (by omega)) (by rw [← hV]; rfl)
        have v13 := H.vals 13 _ (hall 13 (by omega)) (by rw [← hV]; rfl)
        have v14 := H.vals 14 _ (hall 14 (by omega)) (by rw [← hV]; rfl)
        have v15 := H.vals 15 _ (hall 15 (by omega)) (by rw [← hV]; rfl)
        have v16 := H.vals 16 _ (hall 16 (by omega)) (by rw [← hV]; rfl)
        simp only [puts, List.range, List.range.loop, List.foldl_cons, List.foldl_nil, List.getElem?_toArray, List.getElem?_cons_succ, List.getElem?_cons_zero, Option.bind_some, Option.bind_none, Act.put, List.setIfInBounds_toArray, List.set_cons_succ, List.set_cons_zero, v0, v1, v2, v3, v4, v6, v8, v11, v12, v13, v14, v15, v16]
        simp only [List.drop_succ_cons, List.drop_zero]
        clear v0 v1 v2 v3 v4 v6 v8 v11 v12 v13 v14 v15 v16 hall H hV
        have hE := hid (below2 hD.out.drew hlow.out hD.out.drew.size)
        clear hlow hl hl4 hcP hRL hlen hby1 hmx1 hby2 hmx2 KE KF
        go_wp2_with fail
        go_ret
        exact ⟨rfl, hE.out⟩
end Go.Proofs.Ytghboanmiggcnaa

/-
  A slice of points that comes in: what it holds, how long it may be.
-/


namespace Go.Proofs.Ytghboanmiggcnaa
open Go.ChangeShapes Go.WideShapes Go.ChangeAt Go.RowKit Go.Joins Go.Deep
set_option linter.unusedVariables false

set_option maxRecDepth 100000 in
theorem ptsd_of {H : Type} {enc : TypeId × Value → H} {W : World} {b0 : Nat} {v : Value} {d : DataW H} {p : List MemPlace} (hv : Value.okWide Try.prog W .any b0 26 v) (h : DataW.Trod enc Try.prog W 0 (fun _ => true) true 26 v d p) :
    ∃ (n : Nat) (f : Nat → Pt) (q : Option Addr) (cap : Nat), v = .slice q n cap ∧ n ≤ cap ∧ cap ≤ maxLen ∧ (∀ i, i < n → (f i).ok) ∧ RowP W q 4 n (fun i => pcells (f i)) ∧ (n = 0 ∨ ∃ el sp, d = .slice el sp ∧ n ≤ el.length + sp.length) := by
  obtain ⟨n, f, hok, q, cap, rfl, h1, h2, h3⟩ := pts_of hv h
  refine ⟨n, f, q, cap, rfl, h1, h2, hok, h3, ?_⟩
  obtain ⟨fuel, hf⟩ := h
  rcases open_slice Try.underlying26 hf with ⟨h0, _⟩ | ⟨a, len, cap', m, k, D, Pl, hcs, hb, hl, hm, hmm, hx, hi⟩
  · simp [Value.cells] at h0
    exact .inl h0.2.1
  · simp [Value.cells] at hcs
    obtain ⟨_, rfl, rfl⟩ := hcs
    refine .inr ⟨_, _, congrArg Prod.fst hx, ?_⟩
    simp
theorem bytes_pt : Try.prog.bytesOf 53 = 32 := by kernel_rfl
theorem pts_reach {H : Type} {ts : List TypeId} {ds : List (DataW H)} (h : (DataW.weightsEach Try.prog ts ds).all (· ≤ reachBytes) = true) {j : Nat} {d : DataW H} {n : Nat} (ht : ts[j]? = some 26) (hd : ds[j]? = some d) (hl : n = 0 ∨ ∃ el sp, d = .slice el sp ∧ n ≤ el.length + sp.length) : n ≤ 4398046511104 := by
  rcases hl with rfl | ⟨el, sp, rfl, hl⟩
  · omega
  · have := sized_slice h ht hd Try.underlying26
    rw [bytes_pt] at this
    simp only [reachBytes] at this
    omega
end Go.Proofs.Ytghboanmiggcnaa

/-
  A point that comes in.
-/

namespace Go.Proofs.Ytghboanmiggcnaa
open Go.ChangeShapes Go.WideShapes Go.ChangeAt Go.RowKit Go.Joins Go.Deep
set_option linter.unusedVariables false
set_option maxRecDepth 100000 in
theorem pt_of {H : Type} {enc : TypeId × Value → H} {W : World} {b0 : Nat} {v : Value} {d : DataW H} {p : List MemPlace} (hv : Value.okWide Try.prog W .any b0 53 v) (h : DataW.Trod enc Try.prog W 0 (fun _ => true) true 53 v d p) :
    ∃ P : Pt, P.ok ∧ v = pval P := by
  obtain ⟨c0, c1, c2, c3, y0, y1, y2, y3, m, rfl, _, _, hy0, hy1, hy2, hy3⟩ := open_agg4 Try.underlying53 (by kernel_rfl) (by kernel_rfl) hv h
  obtain ⟨a, e0, _, wa⟩ := DataW.trod_int Try.underlying3 hy0
  obtain ⟨b, e1, _, wb⟩ := DataW.trod_int Try.underlying51 hy1
  obtain ⟨c, e2, _, wc⟩ := DataW.trod_int Try.underlying51 hy2
  obtain ⟨s, e3, _, ws⟩ := DataW.trod_string Try.underlying9 hy3
  simp at e0 e1 e2 e3
  subst e0 e1 e2 e3
  have g0 := bounds_i64 wa
  have g1 := bounds_u32 wb
  have g2 := bounds_u32 wc
  exact ⟨⟨a, b, c, s⟩, ⟨g0.1, g0.2, g1.1, g1.2, g2.1, g2.2, ws⟩, rfl⟩
end Go.Proofs.Ytghboanmiggcnaa

/-
  Octets that come in, as a list; a text that comes in.
-/



namespace Go.Proofs.Ytghboanmiggcnaa
open Go.ChangeShapes Go.WideShapes Go.ChangeAt Go.RowKit Go.Joins Go.Deep
set_option linter.unusedVariables false

/-- One parameter off the list, with its datum. -/
theorem args_consd {H : Type} {enc : TypeId × Value → H} {P : Program} {w : World} {base : Nat} {spare : Nat → Bool} {held : Bool} {t : TypeId} {ts : List TypeId} {vs : List Value} {ds : List (DataW H)} {ps : List MemPlace} (h : DataW.TrodAll enc P w base spare held (t :: ts) vs ds ps) :
    ∃ v vs' d ds' p q, vs = v :: vs' ∧ ds = d :: ds' ∧ DataW.Trod enc P w base spare held t v d p ∧ DataW.TrodAll enc P w base spare held ts vs' ds' q := by
  obtain ⟨v, vs', d, ds', p, q, h1, h2, _, h3, h4⟩ := trodAll_cons h
  exact ⟨v, vs', d, ds', p, q, h1, h2, h3, h4⟩
theorem bytes_u8 : Try.prog.bytesOf 5 = 1 := by kernel_rfl
end Go.Proofs.Ytghboanmiggcnaa

/-
  From a walk to its row, where the walk asks how long an argument may be: the form's own reach.
-/

namespace Go.Proofs.Ytghboanmiggcnaa
open Go.ChangeShapes Go.WideShapes Go.ChangeAt Go.RowKit
set_option linter.unusedVariables false

/-- The row's step, of any law. -/
theorem lift_sized {C : Checked} {f : FuncId} {fn : Func} {s : ChangeSpec} {tb : TypeId} (hown : ownKnob C.prog.godebug = none) (noInit : C.prog.inits.idxOf? f = none) (hfn : C.prog.funcs[f]? = some fn)
    (hl : laidOutB C.prog = true) (hvars : s.vars = []) (hres : fn.resultTypes = #[tb]) (htb : C.prog.underlying tb = some .bool)
    (hts : (fn.params.toList.all fun t => C.prog.readableRec t && decide (t < C.prog.types.size)) = true)
    (hs : ∀ (H : Type) (ds : List (DataW H)), ds.length = fn.params.toList.length → s.fn H (ds ++ []) = { results := [.lit (.bool true)], args := ds })
    (os : Os) (started : os.Started) (H : Type) (enc : TypeId × Value → H)
    (witness : ∃ (w : World) (tape : Tape) (i : Input), w.os = os ∧ (w.forCall tape i).Shaped C.prog ∧ i.vars = [] ∧ Input.okWide C.prog (w.forCall tape i) .any w.heap.size f i ∧
      s.pre6 enc C.prog fn [] false (w.forCall tape i).memory i.args ∧ ({} : Assume).holds C.prog (lone (Frame.enter C.prog f i.args .normal) [] (w.forCall tape i)))
    (walk : ∀ (W : World) (base : Nat) (args : Array Value) (ds : List (DataW H)) (ps : List MemPlace),
      (∀ (j : Nat) t v, fn.params[j]? = some t → args[j]? = some v → Value.okWide C.prog W .any base t v) →
      DataW.TrodAll enc C.prog W 0 (fun _ => true) true fn.params.toList args.toList ds ps →
      (DataW.weightsEach C.prog (fn.params.toList ++ s.plain.varTypes C.prog) (ds ++ [])).all (· ≤ reachBytes) = true →
      Calls C.prog f args W fun e W' => e = .returned (.bool true) ∧ Below W.heap.size W W') :
    ReturnsInHanded {} C os f .any (s.pre6 enc C.prog fn [] false) (s.post enc C.prog fn false true false false) := by
  refine returnsInHanded_of_change_sized (C := C) hown started noInit hfn witness ?_
  intro W base args ds gs before hval hW _ hsz _
  have hW' := hW
  obtain ⟨p, q, hA, hV, rfl, hfz, hnd⟩ := hW
  rw [hvars] at hV
  obtain ⟨rfl, rfl⟩ := trodVars_none hV
  refine (walk W base args ds p hval hA hsz).mono fun e W' ⟨he, hb⟩ => ?_
  subst he
  have hfnv := hs H ds (trodAll_length hA)
  refine ⟨_, rfl, ds, [], p ++ [], [], p, [], hW', ?_, ?_, ?_, hb.frame _, fun h => by cases h⟩
  · rw [hfnv, hres]
    exact trodAll_mk1 (shut_bool htb true)
  · rw [hfnv]
    exact trodAll_below hl hb hts hA
  · rw [hfnv, hvars]
    exact rfl
end Go.Proofs.Ytghboanmiggcnaa

namespace Go.Proofs.Ytghboanmiggcnaa
open Go.ChangeShapes Go.WideShapes Go.ChangeAt Go.RowKit
set_option linter.unusedVariables false
set_option maxRecDepth 100000

theorem rect_arg29 {H : Type} {enc : TypeId × Value → H} {W : World} {b0 : Nat} {v : Value} {d : DataW H} {p : List MemPlace} (hv : Value.okWide Try.prog W .any b0 55 v) (h : DataW.Trod enc Try.prog W 0 (fun _ => true) true 55 v d p) :
    ∃ a b c e : Int, v = .agg #[.int .u32 a, .int .u32 b, .int .u32 c, .int .u32 e] := by
  obtain ⟨a, b, c, e, ev, wa, wb, wc, we⟩ := open_four Try.underlying55 (by kernel_rfl) (by kernel_rfl) Try.underlying51 Try.underlying51 Try.underlying51 Try.underlying51 hv h
  exact ⟨a, b, c, e, ev⟩
theorem pts_reach29 {H : Type} {ts : List TypeId} {ds : List (DataW H)} (h : (DataW.weightsEach Try.prog ts ds).all (· ≤ reachBytes) = true) {j : Nat} {d : DataW H} {n : Nat} (ht : ts[j]? = some 26) (hd : ds[j]? = some d) (hl : n = 0 ∨ ∃ el sp, d = .slice el sp ∧ n ≤ el.length + sp.length) : n ≤ 4398046511000 := by
  rcases hl with rfl | ⟨el, sp, rfl, hl⟩
  · omega
  · have := sized_slice h ht hd Try.underlying26
    rw [bytes_pt] at this
    simp only [reachBytes] at this
    omega

theorem modelNobody_lifted (os : Os) (started : os.Started) (H : Type) (enc : TypeId × Value → H) :
    ReturnsInHanded {} Try.checked os 4 .any (Rows.modelNobodySpec.pre6 enc Try.prog Try.f4 [] false) (Rows.modelNobodySpec.post enc Try.prog Try.f4 false true false false) :=
  lift_sized (C := Try.checked) (s := Rows.modelNobodySpec) own (by kernel_rfl) Try.func4 laidOut rfl rfl Try.underlying4 (by kernel_rfl)
    (fun H ds hd => by match ds, hd with | [d1, d2, d3], _ => rfl) os started H enc
    (ChangeSpec.witness6 (enc := enc) (C := Try.checked) false ⟨#[], #[.agg #[.int .i64 0, .int .u32 0, .int .u32 0, .string ByteArray.empty], .agg #[.int .u32 0, .int .u32 0, .int .u32 0, .int .u32 0], .slice none 0 0], []⟩ 8 (by kernel_rfl) (by kernel_rfl) (by kernel_rfl) (by kernel_rfl))
    (fun W base args ds ps hval0 hA0 hsz0 => by
      have hval : ∀ (j : Nat) t v, Try.f4.params[j]? = some t → args[j]? = some v → Value.okWide Try.prog W .any base t v := hval0
      have hA : DataW.TrodAll enc Try.prog W 0 (fun _ => true) true Try.f4.params.toList args.toList ds ps := hA0
      have hsz : (DataW.weightsEach Try.prog (Try.f4.params.toList ++ Rows.modelNobodySpec.plain.varTypes Try.prog) (ds ++ [])).all (· ≤ reachBytes) = true := hsz0
      rw [Try.params4] at hA hval hsz
      obtain ⟨v0, s0, d0, e0, p0, q0, g0, rfl, h0, r0⟩ := args_consd hA
      obtain ⟨v1, s1, d1, e1, p1, q1, rfl, rfl, h1, r1⟩ := args_consd r0
      obtain ⟨v2, s2, d2, e2, p2, q2, rfl, rfl, h2, r2⟩ := args_consd r1
      obtain ⟨rfl, rfl, _⟩ := trodAll_nil r2
      obtain rfl : args = #[v0, v1, v2] := by cases args; simp_all
      obtain ⟨P, hP, rfl⟩ := pt_of (hval 0 53 v0 rfl rfl) h0
      obtain ⟨x0, x1, x2, x3, rfl⟩ := rect_arg29 (hval 1 55 v1 rfl rfl) h1
      obtain ⟨n, f, q, cap, rfl, n1, n2, nok, Rn, nd⟩ := ptsd_of (hval 2 26 v2 rfl rfl) h2
      have nr := pts_reach29 hsz (j := 2) rfl rfl nd
      exact modelNobody P hP x0 x1 x2 x3 q n cap f nr n1 n2 W Rn)

theorem modelNobody_holds : Rows.ModelNobodySaid :=
  OpenClaim.holds_of_wide 4 Try.f4 rfl rfl rfl rfl rfl rfl rfl ⟨rfl, rfl, rfl, rfl, rfl⟩ rfl rfl rfl rfl rfl (by kernel_rfl) Try.func4 (by kernel_rfl)
    (of_decide_eq_true (by kernel_rfl)) (by unfold Func.isWrapper; rw [if_neg (of_decide_eq_false (by kernel_rfl))]; exact ⟨rfl, rfl⟩)
    (fun os started H enc _ => modelNobody_lifted os started H enc)
#print axioms modelNobody_holds
end Go.Proofs.Ytghboanmiggcnaa
