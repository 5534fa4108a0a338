/-
  Joined: MarkRd, MarkRdMath, MarkRdGood, MarkRdHead, MarkRdFill, MarkRdBody, MarkRead.
-/
import Derived.Test.YtdagddahpccnkaaMarkWr
import Derived.Test.YtdagddahpccnkaaFrameIs
import Derived.Great.Walk
import Derived.Test.YtdagddahpccnkaaRegionInv
import Derived.BigRegion
import Derived.RegionTactic
import Derived.Deep.RegionWith
import Derived.Test.YtdagddahpccnkaaRegionFen

/-
  Package mark: what readHead reads; a mark's block.
-/



namespace Go.Proofs.Ytdagddahpccnkaa
open Go.RowKit
set_option linter.unusedVariables false
set_option linter.unusedSimpArgs false

/-- An empty mark's cells. -/
def zerosM : Array Value := Array.replicate 292 (.int .i64 0)
theorem mrep (k : IntKind) (n : Nat) : Nums (Array.replicate n (.int k 0)) k n (fun _ => 0) := ⟨by simp, fun j hj => by simp [hj]⟩
theorem zerosM_nums : Nums zerosM .i64 292 (fun _ => 0) := mrep _ _

set_option maxRecDepth 100000 in
theorem mallocM (ρ : Operand → Value) (dst : Option Tmp) (ty : TypeId) (pos : String) (af : Array Edge) (w : World) : (execOp ρ { dst := dst, op := .alloc 27, type := ty, pos := pos, after := af, guard := none }).run Try.prog w =
    .ok (.value (.pointer (some ⟨w.heap.size, 0, none⟩))) (w.alloc (.cells zerosM 27)) := by kernel_rfl
set_option maxRecDepth 100000 in
theorem mbuildZ (ρ : Operand → Value) (dst : Option Tmp) (ty : TypeId) (pos : String) (af : Array Edge) (w : World) : (execOp ρ { dst := dst, op := .build 27 #[], type := ty, pos := pos, after := af, guard := none }).run Try.prog w =
    .ok (.value (.agg zerosM)) w := by kernel_rfl

set_option maxRecDepth 100000 in
theorem neq_st (a b c a' b' c' : Int) (w : World) : (binOp .neq 54 (.agg #[.int .i64 a, .int .i64 b, .int .i64 c]) (.agg #[.int .i64 a', .int .i64 b', .int .i64 c'])).run Try.prog w = .ok (.bool (!stEq a b c a' b' c')) w := by
  have h := eql_st a b c a' b' c' w
  generalize stEq a b c a' b' c' = B at *
  unfold binOp at h ⊢
  dsimp only at h ⊢
  rw [Sem.run_bind] at h ⊢
  cases hq : Sem.run Try.prog (Op.equal 54 (.agg #[.int .i64 a, .int .i64 b, .int .i64 c]) (.agg #[.int .i64 a', .int .i64 b', .int .i64 c'])) w with
  | ok r w' =>
    rw [hq] at h
    simp only [Result.andThen_ok, Sem.run_pure] at h ⊢
    injection h with h1 h2
    injection h1 with h3
    subst h3 h2
    rfl
  | _ => rw [hq] at h; simp [Result.andThen] at h
/-- Is it a mark's head? -/
def mhB (l : List UInt8) : Bool := goodB l && (openK l == 2 && (stEq (openS l).e (openS l).s (openS l).a (openS l).e 0 3 && decide ((openT l).length = 131)))
/-- What it tells. -/
def mhF (l : List UInt8) (i : Nat) : Int :=
  if mhB l then
    if i = 0 then (openS l).e
    else if i < 4 then numOf (((openT l).drop (i - 1)).take 1)
    else if i < 36 then numOf (((openT l).drop (3 + 4 * (i - 4))).take 4)
    else 0
  else 0
/-- Is it a mark's sector i of a body, of this epoch? -/
def mbB (ep : Int) (i : Nat) (l : List UInt8) : Bool := goodB l && (openK l == 3 && (stEq (openS l).e (openS l).s (openS l).a ep 0 (i : Int) && decide ((openT l).length = 2 * secN i)))
end Go.Proofs.Ytdagddahpccnkaa

/-
  Package mark: what readHead builds, step by step: the mark's cells as its ages are read.
-/


namespace Go.Proofs.Ytdagddahpccnkaa
open Go.RowKit
set_option linter.unusedVariables false
set_option linter.unusedSimpArgs false

/-- An Epoch and a Place, and nothing else. -/
def headA (e a b c : Int) : Array Value := #[.int .i64 e, .int .i64 a, .int .i64 b, .int .i64 c] ++ Array.replicate 288 (.int .i64 0)
theorem headA_size (e a b c : Int) : (headA e a b c).size = 292 := by simp [headA]
set_option maxRecDepth 100000 in
theorem mbuildH (ρ : Operand → Value) (dst : Option Tmp) (ty : TypeId) (pos : String) (af : Array Edge) (e a b c : Int) (hx : ρ (.tmp 40) = .int .i64 e) (hy : ρ (.tmp 47) = .agg #[.int .i64 a, .int .i64 b, .int .i64 c]) (w : World) :
    (execOp ρ { dst := dst, op := .build 27 #[(0, .tmp 40), (1, .tmp 47)], type := ty, pos := pos, after := af, guard := none }).run Try.prog w = .ok (.value (.agg (headA e a b c))) w := by
  have h : execOp ρ { dst := dst, op := .build 27 #[(0, .tmp 40), (1, .tmp 47)], type := ty, pos := pos, after := af, guard := none } =
      execOp (fun o => match o with | .tmp 40 => .int .i64 e | .tmp 47 => .agg #[.int .i64 a, .int .i64 b, .int .i64 c] | _ => undef) { dst := dst, op := .build 27 #[(0, .tmp 40), (1, .tmp 47)], type := ty, pos := pos, after := af, guard := none } := by
    refine execOp_congr _ (fun cs b e => by cases e) fun x hx' => ?_
    simp [Op.operands] at hx'
    rcases hx' with rfl | rfl
    · exact hx
    · exact hy
  have k : (execOp (fun o => match o with | .tmp 40 => .int .i64 e | .tmp 47 => .agg #[.int .i64 a, .int .i64 b, .int .i64 c] | _ => undef) { dst := dst, op := .build 27 #[(0, .tmp 40), (1, .tmp 47)], type := ty, pos := pos, after := af, guard := none }).run Try.prog w = .ok (.value (.agg (headA e a b c))) w := by kernel_rfl
  rw [h]
  exact k

theorem sole_all {b : Nat} : ∀ (vs : List Value) (o : Nat) (w : World), Sole (fun j => j = b) w (setAll w b o vs)
  | [], _, w => Sole.refl _ w
  | v :: vs, o, w => (Sole.setCell (S := fun j => j = b) w (b := b) (o := o) v rfl).trans (sole_all vs (o + 1) _)
theorem sole_cells {b : Nat} (vs : List Value) (o : Nat) (w : World) : Sole (fun j => j = b) w (w.setCells b o vs) := by
  rw [← setAll_eq]; exact sole_all vs o w
/-- The numbers, with k ages read. -/
def hdF (e : Int) (T : List UInt8) (k : Nat) (j : Nat) : Int :=
  if j = 0 then e else if j < 4 then numOf ((T.drop (j - 1)).take 1) else if j < 4 + k then numOf ((T.drop (3 + 4 * (j - 4))).take 4) else 0
theorem headA_nums (e : Int) (T : List UInt8) : Nums (headA e (numOf (T.take 1)) (numOf ((T.drop 1).take 1)) (numOf ((T.drop 2).take 1))) .i64 292 (hdF e T 0) := by
  refine ⟨headA_size _ _ _ _, fun j hj => ?_⟩
  unfold headA hdF
  rcases j with _ | _ | _ | _ | j
  · simp
  · simp
  · simp
  · simp
  · have h1 : ¬ (j + 1 + 1 + 1 + 1 < 4) := by omega
    rw [if_neg (by omega), if_neg h1, if_neg (by omega)]
    rw [Array.getElem?_append_right (by simp), Array.getElem?_replicate, if_pos (by simp; omega)]
theorem hdF_step (e : Int) (T : List UInt8) (k j : Nat) : hdF e T (k + 1) j = if j = 4 + k then (numOf ((T.drop (3 + 4 * k)).take 4) : Int) else hdF e T k j := by
  unfold hdF
  by_cases h : j = 4 + k
  · subst h
    rw [if_neg (by omega), if_neg (by omega), if_pos (by omega), if_pos rfl, show 4 + k - 4 = k by omega]
  · rw [if_neg h]
    by_cases h0 : j = 0
    · simp [h0]
    · by_cases h1 : j < 4
      · simp [h0, h1]
      · by_cases h2 : j < 4 + k
        · simp [h0, h1, h2, show j < 4 + (k + 1) by omega]
        · simp [h0, h1, h2, show ¬ j < 4 + (k + 1) by omega]
theorem hdF_full (l : List UInt8) (h : mhB l = true) (j : Nat) : mhF l j = hdF (openS l).e (openT l) 32 j := by
  unfold mhF hdF
  rw [if_pos h]

/-- How many of the three numbers of the Place are read. -/
def cntD (D : Nat → Bool) : Nat := (if D 3 then 1 else 0) + (if D 5 then 1 else 0) + (if D 7 then 1 else 0)
/-- What is known as the Place is read, in whatever order. -/
structure HI (W : World) (s r q : Nat) (st : Array Value) (T : List UInt8) (V : Nat → Option Value) (D : Nat → Bool) (vs : Nat → Value) (w : World) : Prop where
  vals : Vals V D vs
  new : D 10 = true → ∃ g, vs 10 = .pointer (some ⟨g, 0, none⟩) ∧ W.heap.size ≤ g ∧ Blk w g zerosM
  c5 : D 5 = true → D 3 = true
  c7 : D 7 = true → D 5 = true
  bs : Blk w s st
  br : Blk w r zerosM
  rs : RS w q (T.drop (cntD D)) false
  low : Below r W w
theorem HI.quiet {W : World} {s r q : Nat} {st : Array Value} {T : List UInt8} {V : Nat → Option Value} {D : Nat → Bool} {vs : Nat → Value} {w : World} (h : HI W s r q st T V D vs w) (j : Nat) (v : Value) (h3 : 3 ≠ j) (h5 : 5 ≠ j) (h7 : 7 ≠ j) (h10 : 10 ≠ j)
    (hv : V j = some v) : HI W s r q st T V (fset D j true) (fset vs j v) w := by
  have e3 := fset_ne D true h3
  have e5 := fset_ne D true h5
  have e7 := fset_ne D true h7
  have e10 := fset_ne D true h10
  refine ⟨h.vals.set j v (fun u hu => Option.some.inj (hv.symm.trans hu)), ?_, ?_, ?_, h.bs, h.br, ?_, h.low⟩
  · rw [e10, fset_ne vs v h10]; exact h.new
  · rw [e3, e5]; exact h.c5
  · rw [e5, e7]; exact h.c7
  · have : cntD (fset D j true) = cntD D := by unfold cntD; rw [e3, e5, e7]
    rw [this]; exact h.rs
theorem HI.alloc {W : World} {s r q : Nat} {st : Array Value} {T : List UInt8} {V : Nat → Option Value} {D : Nat → Bool} {vs : Nat → Value} {w : World} (h : HI W s r q st T V D vs w) (hr : r ≤ W.heap.size) (t : TypeId) (hv : V 10 = none) :
    HI W s r q st T V (fset D 10 true) (fset vs 10 (.pointer (some ⟨w.heap.size, 0, none⟩))) (w.alloc (.cells zerosM t)) := by
  have e3 := fset_ne D (j := 10) (k := 3) true (by omega)
  have e5 := fset_ne D (j := 10) (k := 5) true (by omega)
  have e7 := fset_ne D (j := 10) (k := 7) true (by omega)
  have hb : Below w.heap.size w (w.alloc (.cells zerosM t)) := (Below.refl _ _).alloc (Nat.le_refl _) _
  refine ⟨h.vals.set 10 _ (fun u hu => by rw [hv] at hu; cases hu), ?_, ?_, ?_, h.bs.more hb, h.br.more hb, ?_, h.low.alloc (Nat.le_trans hr h.low.size) _⟩
  · intro _; rw [fset_same]; exact ⟨_, rfl, h.low.size, Blk.new w zerosM t⟩
  · rw [e3, e5]; exact h.c5
  · rw [e5, e7]; exact h.c7
  · have : cntD (fset D 10 true) = cntD D := by unfold cntD; rw [e3, e5, e7]
    rw [this]; exact h.rs.more hb
/-- A number is read. -/
theorem HI.read {W : World} {s r q : Nat} {st : Array Value} {T : List UInt8} {V : Nat → Option Value} {D : Nat → Bool} {vs : Nat → Value} {w : World} (h : HI W s r q st T V D vs w) (j : Nat) (v : Value) (hj : (j = 3 ∧ D 3 = false) ∨ (j = 5 ∧ D 5 = false ∧ D 3 = true) ∨ (j = 7 ∧ D 7 = false ∧ D 5 = true))
    (hv : V j = some v) {w' : World} (S : Sole (fun k => k = q) w w') (R : RS w' q ((T.drop (cntD D)).drop 1) false) (hs : s ≠ q) (hr : r < q) (hq : q < W.heap.size) : HI W s r q st T V (fset D j true) (fset vs j v) w' := by
  have hc : cntD (fset D j true) = cntD D + 1 ∧ ((fset D j true) 5 = true → (fset D j true) 3 = true) ∧ ((fset D j true) 7 = true → (fset D j true) 5 = true) ∧ 10 ≠ j := by
    unfold cntD fset
    have c5 := h.c5
    have c7 := h.c7
    rcases hj with ⟨rfl, h3⟩ | ⟨rfl, h5, h3⟩ | ⟨rfl, h7, h5⟩
    · have h5 : D 5 = false := by cases hh : D 5 with
        | false => rfl
        | true => rw [c5 hh] at h3; cases h3
      have h7 : D 7 = false := by cases hh : D 7 with
        | false => rfl
        | true => rw [c7 hh] at h5; cases h5
      simp [h3, h5, h7]
    · have h7 : D 7 = false := by cases hh : D 7 with
        | false => rfl
        | true => rw [c7 hh] at h5; cases h5
      simp [h3, h5, h7]
    · simp [c5 h5, h5, h7]
  refine ⟨h.vals.set j v (fun u hu => Option.some.inj (hv.symm.trans hu)), ?_, hc.2.1, hc.2.2.1, h.bs.sole S hs, h.br.sole S (by omega), ?_, h.low.trans (S.below (Nat.le_of_lt h.br.lt) (fun k hk => by omega))⟩
  · rw [fset_ne D true hc.2.2.2, fset_ne vs v hc.2.2.2]
    intro hd
    obtain ⟨g, e, hg, B⟩ := h.new hd
    exact ⟨g, e, hg, B.sole S (by omega)⟩
  · rw [hc.1, ← List.drop_drop]; exact R
def tabR (s q : Nat) (e n0 n1 n2 : Int) : Nat → Option Value
  | 0 => some (.pointer (some ⟨s, 0, none⟩))
  | 1 => some (.int .i64 e)
  | 2 => some (at' q)
  | 3 => some (.int .i64 n0)
  | 4 => some (at' q)
  | 5 => some (.int .i64 n1)
  | 6 => some (at' q)
  | 7 => some (.int .i64 n2)
  | 8 => some (.agg #[.int .i64 n0, .int .i64 n1, .int .i64 n2])
  | 9 => some (.agg (headA e n0 n1 n2))
  | _ => none
end Go.Proofs.Ytdagddahpccnkaa

/-
  Package mark: readHead, where the octets are a mark's head.
-/




namespace Go.Proofs.Ytdagddahpccnkaa
open Go.RowKit
set_option linter.unusedVariables false
set_option linter.unusedSimpArgs false

theorem mresults_blk2 {P : Program} {fn : Func} {p t : Tmp} {ty : TypeId} (h : fn.results = #[.cell p ty, .tmp t]) (tmps : Array Value) (w : World) (g : Nat) (c : Array Value) (d : TypeDesc) (v : Value)
    (hp : tmps.getD p undef = .pointer (some ⟨g, 0, none⟩)) (hv : tmps.getD t undef = v) (B : Blk w g c) (hu : P.underlying ty = some d) (hd : d.isRow = true) (hi : (P.info? ty).map (·.size) = some c.size) :
    (results fn tmps).run P w = .ok (.tuple #[.agg c, v]) w := by
  have hp' : tmps[p]?.getD undef = .pointer (some ⟨g, 0, none⟩) := by simpa using hp
  have hv' : tmps[t]?.getD undef = v := by simpa using hv
  have := run_loadVar_mid (P := P) w g 0 ty c.toList d B.range hu hd (by rw [hi]; simp)
  simp [results, h, hp', hv', asAddr, this]

set_option maxRecDepth 100000 in
set_option maxHeartbeats 8000000 in
theorem mreadHead_good (l : List UInt8) (a : Option Addr) (cap : Nat) (h1 : l.length ≤ cap) (h2 : cap ≤ maxLen) (w : World) (O : Octs w a l) (hB : mhB l = true) :
    Calls Try.prog 20 #[.slice a l.length cap] w fun e w' => ∃ c, e = .returned (.tuple #[.agg c, .bool true]) ∧ Nums c .i64 292 (mhF l) ∧ Below w.heap.size w w' := by
  obtain ⟨W0, hW0⟩ : ∃ W0, w.alloc (.cells zerosM 27) = W0 := ⟨_, rfl⟩
  have hb0 : Below w.heap.size w W0 := by rw [← hW0]; exact (Below.refl _ _).alloc (Nat.le_refl _) _
  have BX : Blk W0 w.heap.size zerosM := by rw [← hW0]; exact Blk.new w _ _
  have KO := fopen_any l a cap h1 h2 W0 (O.more hb0)
  unfold OpenPost at KO
  have hF := hid (fun j => hdF_full l hB j)
  have hG : goodB l = true ∧ openK l = 2 ∧ stEq (openS l).e (openS l).s (openS l).a (openS l).e 0 3 = true ∧ (openT l).length = 131 := by
    unfold mhB at hB
    simpa using hB
  obtain ⟨hG, hK, hs, ht⟩ := hG
  have hE : openE l = 0 := by unfold openE; rw [if_pos hG]
  rw [hK, hE] at KO
  have HBX := hid BX
  replace hb0 := hid hb0
  generalize openS l = S at *
  generalize openT l = T at *
  generalize mhF l = MF at *
  replace KO := hid KO
  have zoneh := hid (show zerosM.all (·.oneCell') = true from zerosM_nums.one)
  have zszh := hid (show zerosM.size = 292 by simp [zerosM])
  clear BX O h1 h2 hB hG hK hE
  have kn : ∀ wx, (binOp .neq 54 (.agg #[.int .i64 S.e, .int .i64 S.s, .int .i64 S.a]) (.agg #[.int .i64 S.e, .int .i64 0, .int .i64 3])).run Try.prog wx = .ok (.bool false) wx := fun wx => by rw [neq_st, hs]; rfl
  have KS : Hid (∀ wx, Calls Try.prog 18 #[.int .i64 S.e] wx fun e w' => e = .returned (.agg #[.int .i64 S.e, .int .i64 0, .int .i64 3]) ∧ Below wx.heap.size wx w') := hid (fun wx => mstamp_any S.e wx)
  have KOp := hid (fun a tc wx O => rs_open T a tc wx O (by omega))
  have htl := hid ht
  obtain ⟨tn, htn⟩ : ∃ tn, T.length = tn := ⟨_, rfl⟩
  rw [ht] at KOp htn
  subst htn
  have hn := hid (headA_nums S.e T)
  clear hs
  go_enter Try.func20, Try.ntmps20
  go_wp2_with (refine Go.Great.wpList_runTo rfl (some 2) rfl _ _ (mallocM _ _ _ _ _ _) ?_)
  refine KO.out.mono ?_
  rintro e w1 ⟨v, rfl, V, hb1⟩
  have hbA : Below w1.heap.size w1 (w1.alloc (.cells #[.int .i64 S.e, .int .i64 S.s, .int .i64 S.a] 54)) := (Below.refl _ _).alloc (Nat.le_refl _) _
  have BS := Blk.new w1 #[.int .i64 S.e, .int .i64 S.s, .int .i64 S.a] 54
  have hb1' := below2 hb1 hbA hb1.size
  have HB1 := hid (HBX.out.more hb1')
  have D1 := hid (below2 hb0.out hb1' hb0.out.size)
  have V1 := V.more hbA
  have hrs : w.heap.size < w1.heap.size := Nat.lt_of_lt_of_le HBX.out.lt hb1.size
  have hrsh := hid hrs
  clear hb1 hbA hb1' V HBX hb0 hW0 KO hrs
  have BSh := hid BS
  obtain ⟨ta, tc, rfl, OT, tc1, _⟩ := V1
  replace OT := hid OT
  rw [ht] at tc1 ⊢
  clear ht
  obtain ⟨ls, ks, fs⟩ := BS
  go_wp2_with fail
  clear ls ks fs
  generalize w1.alloc (.cells #[.int .i64 S.e, .int .i64 S.s, .int .i64 S.a] 54) = w2 at *
  have q0 := fun u : Later w2 => u.blk BSh.out
  refine wp_region_late 17 (by kernel_rfl) (by kernel_rfl) ?_
  simp only [List.take_succ_cons, List.take_zero, List.drop_succ_cons, List.drop_zero]
  repeat (quiet_step ((go_at_call 18; (with_reducible exact late_call (KS.out _)))))
  refine wpQuiet_nil ?_
  intro w3 h3'
  have h3 := late_out h3'
  clear h3' q0 kn KS
  have HB3 := hid (HB1.out.more h3)
  have BS3 := hid (BSh.out.more h3)
  have D3 := hid (below2 D1.out h3 D1.out.size)
  have OT3 := hid (OT.out.more h3)
  clear h3 HB1 BSh D1 OT
  go_wp2_with fail
  refine (KOp.out _ _ _ OT3.out).mono ?_
  rintro e w4 ⟨q, rfl, hq, R4, hb4⟩
  have HB4 := hid (HB3.out.more hb4)
  have BS4 := hid (BS3.out.more hb4)
  have D4 := hid (below2 D3.out hb4 D3.out.size)
  have hsq : w1.heap.size ≠ q := by have := BS3.out.lt; omega
  have hrq : w.heap.size < q := by have := BS3.out.lt; have := hrsh.out; omega
  have hqw : q < w4.heap.size := R4.1.lt
  replace hsq := hid hsq
  replace hrq := hid hrq
  replace hqw := hid hqw
  replace R4 := hid R4
  clear hb4 HB3 BS3 D3 OT3 hq KOp
  go_wp2_with fail
  generalize hV : tabR w1.heap.size q S.e (numOf (T.take 1)) (numOf ((T.drop 1).take 1)) (numOf ((T.drop 2).take 1)) = V
  refine wp_region_inv 11 (fun D vs wx => HI w4 w1.heap.size w.heap.size q #[.int .i64 S.e, .int .i64 S.s, .int .i64 S.a] T V D vs wx) (by kernel_rfl) (by kernel_rfl) ?h0 ?hstep ?hend
  case h0 => exact ⟨Vals.nil, (fun h => by cases h), (fun h => by cases h), (fun h => by cases h), BS4.out.drew, HB4.out.drew, R4.out.more (Below.refl _ _).drew, (Below.refl _ _).drew⟩
  case hstep =>
    intro j o hj ho D vs ax wx hDj hD hv hbase H
    rcases (show j = 0 ∨ j = 1 ∨ j = 2 ∨ j = 3 ∨ j = 4 ∨ j = 5 ∨ j = 6 ∨ j = 7 ∨ j = 8 ∨ j = 9 ∨ j = 10 by omega) with rfl | rfl | rfl | rfl | rfl | rfl | rfl | rfl | rfl | rfl | rfl
    all_goals
      simp only [List.getElem?_cons_zero, List.getElem?_cons_succ, Option.some.injEq] at ho
      subst ho
    · have e5 := at_base hbase 5 (by kernel_rfl) (v := .pointer (some ⟨w1.heap.size, 0, none⟩)) rfl
      exact StepOf.value (.pointer (some ⟨w1.heap.size, 0, none⟩)) (wanted_plain rfl _) (by simp [execOp, e5, go_sem]) (H.quiet 0 _ (by omega) (by omega) (by omega) (by omega) (by rw [← hV]; rfl))
    · have e39 := at_done H.vals hv (hD 0 (by kernel_rfl)) 39 (by kernel_rfl) (by rw [← hV]; rfl)
      have z0 := H.bs.cell 0
      exact StepOf.value (.int .i64 S.e) (wanted_plain rfl _) (by simp [execOp, e39, go_sem, z0]) (H.quiet 1 _ (by omega) (by omega) (by omega) (by omega) (by rw [← hV]; rfl))
    · have e8 := at_base hbase 8 (by kernel_rfl) (v := at' q) rfl
      exact StepOf.value (at' q) (wanted_plain rfl _) (by simp [execOp, e8, go_sem]) (H.quiet 2 _ (by omega) (by omega) (by omega) (by omega) (by rw [← hV]; rfl))
    · have e41 := at_done H.vals hv (hD 2 (by kernel_rfl)) 41 (by kernel_rfl) (by rw [← hV]; rfl)
      have h5 : D 5 = false := by cases hh : D 5 with
        | false => rfl
        | true => rw [H.c5 hh] at hDj; cases hDj
      have h7 : D 7 = false := by cases hh : D 7 with
        | false => rfl
        | true => rw [H.c7 hh] at h5; cases h5
      have hc : cntD D = 0 := by unfold cntD; rw [hDj, h5, h7]; rfl
      have R := H.rs
      rw [hc] at R
      refine StepOf.call _ _ (wanted_plain rfl _) (by simp [execOp, Act.eval, e41, go_sem]) ((rs_nums 1 1 rfl q (T.drop 0) wx R (by rw [List.length_drop, htl.out]; omega)).mono ?_)
      rintro e w' ⟨rfl, R', S'⟩
      exact ⟨_, rfl, H.read 3 _ (.inl ⟨rfl, hDj⟩) (by rw [← hV]; rfl) S' (by rw [hc]; exact R') hsq.out hrq.out hqw.out⟩
    · have e8 := at_base hbase 8 (by kernel_rfl) (v := at' q) rfl
      exact StepOf.value (at' q) (wanted_plain rfl _) (by simp [execOp, e8, go_sem]) (H.quiet 4 _ (by omega) (by omega) (by omega) (by omega) (by rw [← hV]; rfl))
    · have e43 := at_done H.vals hv (hD 4 (by kernel_rfl)) 43 (by kernel_rfl) (by rw [← hV]; rfl)
      have h3 := hD 3 (by kernel_rfl)
      have h7 : D 7 = false := by cases hh : D 7 with
        | false => rfl
        | true => rw [H.c7 hh] at hDj; cases hDj
      have hc : cntD D = 1 := by unfold cntD; rw [hDj, h3, h7]; rfl
      have R := H.rs
      rw [hc] at R
      refine StepOf.call _ _ (wanted_plain rfl _) (by simp [execOp, Act.eval, e43, go_sem]) ((rs_nums 1 1 rfl q (T.drop 1) wx R (by rw [List.length_drop, htl.out]; omega)).mono ?_)
      rintro e w' ⟨rfl, R', S'⟩
      exact ⟨_, rfl, H.read 5 _ (.inr (.inl ⟨rfl, hDj, h3⟩)) (by rw [← hV]; rfl) S' (by rw [hc]; exact R') hsq.out hrq.out hqw.out⟩
    · have e8 := at_base hbase 8 (by kernel_rfl) (v := at' q) rfl
      exact StepOf.value (at' q) (wanted_plain rfl _) (by simp [execOp, e8, go_sem]) (H.quiet 6 _ (by omega) (by omega) (by omega) (by omega) (by rw [← hV]; rfl))
    · have e45 := at_done H.vals hv (hD 6 (by kernel_rfl)) 45 (by kernel_rfl) (by rw [← hV]; rfl)
      have h5 := hD 5 (by kernel_rfl)
      have h3 := H.c5 h5
      have hc : cntD D = 2 := by unfold cntD; rw [hDj, h3, h5]; rfl
      have R := H.rs
      rw [hc] at R
      refine StepOf.call _ _ (wanted_plain rfl _) (by simp [execOp, Act.eval, e45, go_sem]) ((rs_nums 1 1 rfl q (T.drop 2) wx R (by rw [List.length_drop, htl.out]; omega)).mono ?_)
      rintro e w' ⟨rfl, R', S'⟩
      exact ⟨_, rfl, H.read 7 _ (.inr (.inr ⟨rfl, hDj, h5⟩)) (by rw [← hV]; rfl) S' (by rw [hc]; exact R') hsq.out hrq.out hqw.out⟩
    · have e42 := at_done H.vals hv (hD 3 (by kernel_rfl)) 42 (by kernel_rfl) (by rw [← hV]; rfl)
      have e44 := at_done H.vals hv (hD 5 (by kernel_rfl)) 44 (by kernel_rfl) (by rw [← hV]; rfl)
      have e46 := at_done H.vals hv (hD 7 (by kernel_rfl)) 46 (by kernel_rfl) (by rw [← hV]; rfl)
      exact StepOf.value (.agg #[.int .i64 (numOf (T.take 1)), .int .i64 (numOf ((T.drop 1).take 1)), .int .i64 (numOf ((T.drop 2).take 1))]) (wanted_plain rfl _) (by simp [execOp, e42, e44, e46, go_sem]) (H.quiet 8 _ (by omega) (by omega) (by omega) (by omega) (by rw [← hV]; rfl))
    · have e40 := at_done H.vals hv (hD 1 (by kernel_rfl)) 40 (by kernel_rfl) (by rw [← hV]; rfl)
      have e47 := at_done H.vals hv (hD 8 (by kernel_rfl)) 47 (by kernel_rfl) (by rw [← hV]; rfl)
      exact StepOf.value _ (wanted_plain rfl _) (mbuildH _ _ _ _ _ _ _ _ _ (eval_get e40) (eval_get e47) _) (H.quiet 9 _ (by omega) (by omega) (by omega) (by omega) (by rw [← hV]; rfl))
    · exact StepOf.value _ (wanted_plain rfl _) (mallocM _ _ _ _ _ _) (H.alloc (by have := hrq.out; have := hqw.out; omega) _ (by rw [← hV]; rfl))
  case hend =>
    intro D vs wx hall H
    obtain ⟨g, hg, hgW, BG⟩ := H.new (hall 10 (by omega))
    have v0 := H.vals 0 _ (hall 0 (by omega)) (by rw [← hV]; rfl)
    have v1 := H.vals 1 _ (hall 1 (by omega)) (by rw [← hV]; rfl)
    have v2 := H.vals 2 _ (hall 2 (by omega)) (by rw [← hV]; rfl)
    have v3 := H.vals 3 _ (hall 3 (by omega)) (by rw [← hV]; rfl)
    have v4 := H.vals 4 _ (hall 4 (by omega)) (by rw [← hV]; rfl)
    have v5 := H.vals 5 _ (hall 5 (by omega)) (by rw [← hV]; rfl)
    have v6 := H.vals 6 _ (hall 6 (by omega)) (by rw [← hV]; rfl)
    have v7 := H.vals 7 _ (hall 7 (by omega)) (by rw [← hV]; rfl)
    have v8 := H.vals 8 _ (hall 8 (by omega)) (by rw [← hV]; rfl)
    have v9 := H.vals 9 _ (hall 9 (by omega)) (by rw [← hV]; rfl)
    have hc : cntD D = 3 := by unfold cntD; rw [hall 3 (by omega), hall 5 (by omega), hall 7 (by omega)]; rfl
    have R := H.rs
    rw [hc] at R
    have HR := hid R
    have HBr := hid H.br
    have HBG := hid BG
    have hlow := hid (D4.out.trans H.low)
    have hgq : q < g := by have := hqw.out; omega
    have hgr : w.heap.size ≠ g := by have := hrq.out; have := hqw.out; omega
    have hgr' : w.heap.size ≤ g := by have := hrq.out; have := hqw.out; omega
    replace hgq := hid hgq
    replace hgr := hid hgr
    replace hgr' := hid hgr'
    simp only [puts, List.range, List.range.loop, List.foldl_cons, List.foldl_nil, List.getElem?_toArray, List.getElem?_cons_succ, List.getElem?_cons_zero, Option.bind_some, Act.put, List.setIfInBounds_toArray, List.set_cons_succ, List.set_cons_zero, v0, v1, v2, v3, v4, v5, v6, v7, v8, v9, hg]
    clear v0 v1 v2 v3 v4 v5 v6 v7 v8 v9 hg hall H R BG hV hc D4 R4 HB4 BS4
    obtain ⟨HA, hHA⟩ : ∃ HA, headA S.e (numOf (T.take 1)) (numOf ((T.drop 1).take 1)) (numOf ((T.drop 2).take 1)) = HA := ⟨_, rfl⟩
    have hHs : Hid (HA.size = 292) := hid (by rw [← hHA]; exact headA_size _ _ _ _)
    rw [hHA] at hn
    have HN := hid hn.out
    have hone := hid hn.out.one
    rw [hHA]
    replace hHA := hid hHA
    have th := HBG.out.there (n := HA.size) (by rw [hHs.out, zszh.out])
    simp only [List.drop_succ_cons, List.drop_zero]
    go_wp2_with (refine wpList_store_mid rfl 27 _ _ rfl g 0 HA rfl rfl th (by rw [mtab, hHs.out]) hone.out ?_)
    have HBG2 := hid (HBG.out.whole (d := HA) (by rw [hHs.out, zszh.out]))
    have HBr2 := hid (HBr.out.beside (fun h => hgr.out h.symm) 0 HA.toList)
    have HR2 := hid (show RS (wx.setCells g 0 HA.toList) q (T.drop 3) false from HR.out.kept (sole_cells _ _ _) (fun k hk e => by have := hqw.out; omega))
    have hlow2 := hid (below_cells hlow.out hgr'.out 0 HA.toList)
    clear th HBG HBr HR hlow
    generalize wx.setCells g 0 HA.toList = w6 at *
    go_wp2_with fail
    go_loopw [49, 10] (fun i z wr => ∃ k : Nat, ∃ c, k ≤ 32 ∧ i = .int .i64 (k : Int) ∧ Blk wr g c ∧ Nums c .i64 292 (hdF S.e T k) ∧ Blk wr w.heap.size zerosM ∧ RS wr q (T.drop (3 + 4 * k)) false ∧ Below w.heap.size w wr) (fun i _ _ => 32 - (intOf i).toNat)
    case atStart => exact ⟨0, HA, by omega, rfl, HBG2.out, HN.out, HBr2.out, HR2.out, hlow2.out⟩
    case round =>
      clear HBG2 HN HBr2 HR2 hlow2 hn
      obtain ⟨k, c, hk, rfl, B, N, Br, R, hl⟩ := hrel
      by_cases hlt : k < 32
      · have hlt' : decide ((k : Int) < 32) = true := decide_eq_true (by omega)
        have K := hid (rs_nums 4 4 rfl q (T.drop (3 + 4 * k)) wr R (by rw [List.length_drop, htl.out]; omega))
        rw [List.drop_drop] at K
        replace B := hid B
        replace N := hid N
        replace Br := hid Br
        replace hl := hid hl
        clear R
        go_wp2_with fail
        refine K.out.mono ?_
        rintro e w9 ⟨rfl, R9, S9⟩
        have B9 := hid (B.out.sole S9 (fun h => by have := hgq.out; omega))
        have Br9 := hid (Br.out.sole S9 (fun h => by have := hrq.out; omega))
        have hl9 := hid (hl.out.trans (S9.below (B := w.heap.size) hl.out.size (fun i hi => by have := hrq.out; omega)))
        have z1 := B9.out.cell (4 + k)
        rw [N.out.get (4 + k) (by omega)] at z1
        have z2 := B9.out.frz (4 + k)
        have ki : (0 : Int) ≤ (k : Int) ∧ (k : Int) < 32 := by omega
        have R10 := hid (R9.kept (Sole.setCell (S := fun j => j = g) w9 (b := g) (o := 4 + k) (.int .i64 (numOf ((T.drop (3 + 4 * k)).take 4) : Int)) rfl) (fun j hj e => by have := hgq.out; omega))
        clear K R9 S9 B Br hl
        go_wp2_with fail
        go_roundw
        case rel => exact ⟨k + 1, _, by omega, by go_num, B9.out.set (4 + k) (.int .i64 (numOf ((T.drop (3 + 4 * k)).take 4) : Int)) (by rw [N.out.size]; omega), N.out.set (by omega) (fun j hj => hdF_step S.e T k j), Br9.out.other _ (by exact fun h => hgr.out h.symm) _, by rw [show 3 + 4 * (k + 1) = 3 + 4 * k + 4 by omega]; exact R10.out, hl9.out.setCell (by exact hgr'.out) _⟩
        case measure => simp [intOf]; omega
      · obtain rfl : k = 32 := by omega
        have NF := hid (N.congr (g := MF) (fun j hj => hF.out j))
        have hcs := hid N.size
        have hone' := hid N.one
        have hr := hid B.range
        have hcl : c.toList.length = 292 := by simpa using hcs.out
        have th := Br.there (n := c.size) (by rw [hcs.out, zszh.out])
        have Bw := hid (Br.whole (d := c) (by rw [hcs.out, zszh.out]))
        have hlw := hid (below_cells hl (Nat.le_refl _) 0 c.toList)
        clear B N Br R hl
        replace hcl := hid hcl
        go_wp2_with (first | (refine wpList_load_mid rfl 27 _ rfl g 0 rfl c.toList _ hr.out Try.underlying27 rfl (by rw [mtab, hcl.out]) ?_) | (refine wpList_store_mid rfl 27 _ _ rfl w.heap.size 0 c rfl rfl th (by rw [mtab, hcs.out]) hone'.out ?_))
        refine bodyPost_ret (v := .tuple #[.agg c, .bool true]) (mresults_blk2 rfl _ _ w.heap.size c _ _ rfl rfl Bw.out Try.underlying27 rfl (by rw [mtab, hcs.out])) rfl ⟨c, rfl, NF.out, hlw.out⟩
end Go.Proofs.Ytdagddahpccnkaa

/-
  Package mark: readHead. the head of a mark, out of its octets.
-/




namespace Go.Proofs.Ytdagddahpccnkaa
open Go.RowKit
set_option linter.unusedVariables false
set_option linter.unusedSimpArgs false

set_option maxRecDepth 100000 in
set_option maxHeartbeats 8000000 in
theorem mreadHead_any (l : List UInt8) (a : Option Addr) (cap : Nat) (h1 : l.length ≤ cap) (h2 : cap ≤ maxLen) (w : World) (O : Octs w a l) :
    Calls Try.prog 20 #[.slice a l.length cap] w fun e w' => ∃ c, e = .returned (.tuple #[.agg c, .bool (mhB l)]) ∧ Nums c .i64 292 (mhF l) ∧ Below w.heap.size w w' := by
  cases hmb : mhB l with
  | true => exact mreadHead_good l a cap h1 h2 w O hmb
  | false =>
  rw [← hmb]
  obtain ⟨W0, hW0⟩ : ∃ W0, w.alloc (.cells zerosM 27) = W0 := ⟨_, rfl⟩
  have hb0 : Below w.heap.size w W0 := by rw [← hW0]; exact (Below.refl _ _).alloc (Nat.le_refl _) _
  have BX : Blk W0 w.heap.size zerosM := by rw [← hW0]; exact Blk.new w _ _
  have KO := fopen_any l a cap h1 h2 W0 (O.more hb0)
  unfold OpenPost at KO
  have EB : Hid (mhB l = false → Nums zerosM .i64 292 (mhF l)) := hid (fun h => zerosM_nums.congr fun j hj => by unfold mhF; rw [h]; rfl)
  have hB : Hid (mhB l = (goodB l && (openK l == 2 && (stEq (openS l).e (openS l).s (openS l).a (openS l).e 0 3 && decide ((openT l).length = 131))))) := hid rfl
  have hE : Hid (openE l = if goodB l then 0 else 16) := hid rfl
  have zone : zerosM.all (·.oneCell') = true := zerosM_nums.one
  have zsz : zerosM.size = 292 := by simp [zerosM]
  have HBX := hid BX
  replace hb0 := hid hb0
  generalize goodB l = G at *
  generalize openK l = K at *
  generalize openS l = S at *
  generalize openT l = T at *
  generalize openE l = E at *
  replace KO := hid KO
  have zoneh := hid zone
  have zszh := hid zsz
  clear BX O h1 h2 zone zsz
  go_enter Try.func20, Try.ntmps20
  go_wp2_with (refine Go.Great.wpList_runTo rfl (some 2) rfl _ _ (mallocM _ _ _ _ _ _) ?_)
  refine KO.out.mono ?_
  rintro e w1 ⟨v, rfl, V, hb1⟩
  have hbA : Below w1.heap.size w1 (w1.alloc (.cells #[.int .i64 S.e, .int .i64 S.s, .int .i64 S.a] 54)) := (Below.refl _ _).alloc (Nat.le_refl _) _
  have BS := Blk.new w1 #[.int .i64 S.e, .int .i64 S.s, .int .i64 S.a] 54
  have hb1' := below2 hb1 hbA hb1.size
  have HB1 := hid (HBX.out.more hb1')
  have D1 := hid (below2 hb0.out hb1' hb0.out.size)
  have V1 := V.more hbA
  clear hb1 hbA hb1' V HBX hb0 hW0 KO
  have BSh := hid BS
  obtain ⟨ta, tc, rfl, OT, tc1, _⟩ := V1
  replace OT := hid OT
  cases hG : G with
  | false =>
    subst hG
    have hbad := hid (show mhB l = false by rw [hB.out]; rfl)
    rw [hE.out, if_neg (by simp)]
    obtain ⟨ls, ks, fs⟩ := BS
    go_wp2_with fail
    generalize w1.alloc (.cells #[.int .i64 S.e, .int .i64 S.s, .int .i64 S.a] 54) = w2 at *
    go_region
    have HB2 := HB1.out.drew
    have D2 := hid (D1.out.drew)
    have th := HB2.there (n := zerosM.size) rfl
    go_wp2_with (first | (refine Go.Great.wpList_runTo rfl (some 36) rfl _ _ (mbuildZ _ _ _ _ _ _) ?_) | (refine wpList_store_mid rfl 27 _ _ rfl w.heap.size 0 zerosM rfl rfl th (by rw [mtab, zszh.out]) zoneh.out ?_))
    refine bodyPost_ret (v := .tuple #[.agg zerosM, .bool false]) (mresults_blk2 rfl _ _ w.heap.size zerosM _ _ rfl rfl (HB2.whole rfl) Try.underlying27 rfl (by rw [mtab, zszh.out])) rfl ⟨zerosM, by rw [hbad.out], EB.out hbad.out, below_cells D2.out (Nat.le_refl _) _ _⟩
  | true =>
    subst hG
    rw [hE.out, if_pos rfl]
    cases hk : (K == 2) with
    | false =>
      have hbad := hid (show mhB l = false by rw [hB.out, hk]; rfl)
      have hk' : (K != 2) = true := by simp [bne, hk]
      clear hk
      obtain ⟨ls, ks, fs⟩ := BS
      go_wp2_with fail
      generalize w1.alloc (.cells #[.int .i64 S.e, .int .i64 S.s, .int .i64 S.a] 54) = w2 at *
      go_region
      have HB2 := HB1.out.drew
      have D2 := hid (D1.out.drew)
      have th := HB2.there (n := zerosM.size) rfl
      go_wp2_with (first | (refine Go.Great.wpList_runTo rfl (some 36) rfl _ _ (mbuildZ _ _ _ _ _ _) ?_) | (refine wpList_store_mid rfl 27 _ _ rfl w.heap.size 0 zerosM rfl rfl th (by rw [mtab, zszh.out]) zoneh.out ?_))
      refine bodyPost_ret (v := .tuple #[.agg zerosM, .bool false]) (mresults_blk2 rfl _ _ w.heap.size zerosM _ _ rfl rfl (HB2.whole rfl) Try.underlying27 rfl (by rw [mtab, zszh.out])) rfl ⟨zerosM, by rw [hbad.out], EB.out hbad.out, below_cells D2.out (Nat.le_refl _) _ _⟩
    | true =>
      obtain rfl : K = 2 := by simpa using hk
      have KS : Hid (∀ wx, Calls Try.prog 18 #[.int .i64 S.e] wx fun e w' => e = .returned (.agg #[.int .i64 S.e, .int .i64 0, .int .i64 3]) ∧ Below wx.heap.size wx w') := hid (fun wx => mstamp_any S.e wx)
      clear hk
      cases hs : stEq S.e S.s S.a S.e 0 3 with
      | false =>
        have hbad := hid (show mhB l = false by rw [hB.out, hs]; rfl)
        have kn : ∀ wx, (binOp .neq 54 (.agg #[.int .i64 S.e, .int .i64 S.s, .int .i64 S.a]) (.agg #[.int .i64 S.e, .int .i64 0, .int .i64 3])).run Try.prog wx = .ok (.bool true) wx := fun wx => by rw [neq_st, hs]; rfl
        clear hs
        obtain ⟨ls, ks, fs⟩ := BS
        go_wp2_with fail
        clear ls ks fs
        generalize w1.alloc (.cells #[.int .i64 S.e, .int .i64 S.s, .int .i64 S.a] 54) = w2 at *
        have q0 := fun u : Later w2 => u.blk BSh.out
        refine wp_region_late 17 (by kernel_rfl) (by kernel_rfl) ?_
        simp only [List.take_succ_cons, List.take_zero, List.drop_succ_cons, List.drop_zero]
        repeat (quiet_step ((go_at_call 18; (with_reducible exact late_call (KS.out _)))))
        refine wpQuiet_nil ?_
        intro w3 h3'
        have h3 := late_out h3'
        clear h3'
        have HB2 := hid (HB1.out.more h3)
        have D2 := hid (below2 D1.out h3 D1.out.size)
        have th := HB2.there (n := zerosM.size) rfl
        clear h3 q0
        go_wp2_with (first | (refine Go.Great.wpList_runTo rfl (some 36) rfl _ _ (mbuildZ _ _ _ _ _ _) ?_) | (refine wpList_store_mid rfl 27 _ _ rfl w.heap.size 0 zerosM rfl rfl th (by rw [mtab, zszh.out]) zoneh.out ?_))
        refine bodyPost_ret (v := .tuple #[.agg zerosM, .bool false]) (mresults_blk2 rfl _ _ w.heap.size zerosM _ _ rfl rfl (HB2.whole rfl) Try.underlying27 rfl (by rw [mtab, zszh.out])) rfl ⟨zerosM, by rw [hbad.out], EB.out hbad.out, below_cells D2.out (Nat.le_refl _) _ _⟩
      | true =>
        have kn : ∀ wx, (binOp .neq 54 (.agg #[.int .i64 S.e, .int .i64 S.s, .int .i64 S.a]) (.agg #[.int .i64 S.e, .int .i64 0, .int .i64 3])).run Try.prog wx = .ok (.bool false) wx := fun wx => by rw [neq_st, hs]; rfl
        by_cases ht : T.length = 131
        · exact absurd hmb (by rw [hB.out, hs, decide_eq_true ht]; simp)
        · have hbad := hid (show mhB l = false by rw [hB.out, hs, decide_eq_false ht]; rfl)
          have htn : ((T.length : Int) != 131) = true := by simp [bne]; omega
          clear hs ht
          obtain ⟨tn, htn0⟩ : ∃ tn, T.length = tn := ⟨_, rfl⟩
          rw [htn0] at htn ⊢
          clear htn0
          obtain ⟨ls, ks, fs⟩ := BS
          go_wp2_with fail
          clear ls ks fs
          generalize w1.alloc (.cells #[.int .i64 S.e, .int .i64 S.s, .int .i64 S.a] 54) = w2 at *
          have q0 := fun u : Later w2 => u.blk BSh.out
          refine wp_region_late 17 (by kernel_rfl) (by kernel_rfl) ?_
          simp only [List.take_succ_cons, List.take_zero, List.drop_succ_cons, List.drop_zero]
          repeat (quiet_step ((go_at_call 18; (with_reducible exact late_call (KS.out _)))))
          refine wpQuiet_nil ?_
          intro w3 h3'
          have h3 := late_out h3'
          clear h3'
          have HB2 := hid (HB1.out.more h3)
          have D2 := hid (below2 D1.out h3 D1.out.size)
          have th := HB2.there (n := zerosM.size) rfl
          clear h3 q0
          go_wp2_with (first | (refine Go.Great.wpList_runTo rfl (some 36) rfl _ _ (mbuildZ _ _ _ _ _ _) ?_) | (refine wpList_store_mid rfl 27 _ _ rfl w.heap.size 0 zerosM rfl rfl th (by rw [mtab, zszh.out]) zoneh.out ?_))
          refine bodyPost_ret (v := .tuple #[.agg zerosM, .bool false]) (mresults_blk2 rfl _ _ w.heap.size zerosM _ _ rfl rfl (HB2.whole rfl) Try.underlying27 rfl (by rw [mtab, zszh.out])) rfl ⟨zerosM, by rw [hbad.out], EB.out hbad.out, below_cells D2.out (Nat.le_refl _) _ _⟩
end Go.Proofs.Ytdagddahpccnkaa

/-
  Package mark: what readBody fills in, sector by sector; what a round leaves.
-/



namespace Go.Proofs.Ytdagddahpccnkaa
open Go.RowKit Go.Shelf
set_option linter.unusedVariables false
set_option linter.unusedSimpArgs false

/-- The Ids of a sector, the first k of them. -/
def fillK (F : Nat → Int) (i : Nat) (T : List UInt8) (k : Nat) (j : Nat) : Int := if 36 + 86 * i ≤ j ∧ j < 36 + 86 * i + k then numOf ((T.drop (2 * (j - (36 + 86 * i)))).take 2) else F j
theorem fillK_zero (F : Nat → Int) (i : Nat) (T : List UInt8) : fillK F i T 0 = F := by
  funext j
  unfold fillK
  rw [if_neg (by omega)]
theorem fillK_succ (F : Nat → Int) (i : Nat) (T : List UInt8) (k j : Nat) : fillK F i T (k + 1) j = if j = 36 + (86 * i + k) then (numOf ((T.drop (2 * k)).take 2) : Int) else fillK F i T k j := by
  unfold fillK
  by_cases h : j = 36 + (86 * i + k)
  · subst h
    rw [if_pos (by omega), if_pos rfl, show 36 + (86 * i + k) - (36 + 86 * i) = k by omega]
  · rw [if_neg h]
    by_cases h2 : 36 + 86 * i ≤ j ∧ j < 36 + 86 * i + k
    · rw [if_pos h2, if_pos (by omega)]
    · rw [if_neg h2, if_neg (by omega)]
def fillAll (F : Nat → Int) (Ts : Nat → List UInt8) (pre : List (Fin 3)) : Nat → Int := pre.foldl (fun G i => fillK G i.val (Ts i.val) (secN i.val)) F
theorem fillAll_snoc (F : Nat → Int) (Ts : Nat → List UInt8) (pre : List (Fin 3)) (i : Fin 3) : fillAll F Ts (pre ++ [i]) = fillK (fillAll F Ts pre) i.val (Ts i.val) (secN i.val) := by
  simp [fillAll, List.foldl_append]
theorem fillAll_low (Ts : Nat → List UInt8) (j : Nat) (h : j < 36) : ∀ (pre : List (Fin 3)) (F : Nat → Int), fillAll F Ts pre j = F j
  | [], F => rfl
  | i :: pre, F => by
    show fillAll (fillK F i.val (Ts i.val) (secN i.val)) Ts pre j = F j
    rw [fillAll_low Ts j h pre]
    unfold fillK
    rw [if_neg (by omega)]
def ocTx (L : List OcS) (i : Nat) : List UInt8 := openT (ocA L i).l
def mbAll (ep : Int) (L : List OcS) : Bool := (tk 3).all fun i => mbB ep i.val (ocA L i.val).l

/-- Blocks of cells stay, whatever else is turned. -/
theorem blk_kept {W W' : World} {row : Option Nat} {b : Nat} {c : Array Value} (h : Blk W b c) (hc : 0 < c.size) (hg : W.grownBy W' row) (hr : ∀ r, row = some r → ∃ o : Obj, W.heap[r]? = some o ∧ o.isCells = false) : Blk W' b c := by
  have h0 : W.cell? ⟨b, 0, none⟩ = some c[0] := by rw [h.cell]; simp [hc]
  obtain ⟨o, ho, hcl⟩ := cells_of_cell h0
  have e := grownBy_keeps_cells hg hr ho hcl
  exact ⟨Nat.lt_of_lt_of_le h.lt hg.size, fun o => (World.cell?_of_block (a := ⟨b, o, none⟩) e).trans (h.cell o), fun o => (World.frozen?_of_block (a := ⟨b, o, none⟩) e).trans (h.frz o)⟩
theorem blk_cells {W : World} {b : Nat} {c : Array Value} (h : Blk W b c) (hc : 0 < c.size) (o : Obj) (ho : W.heap[b]? = some o) : o.isCells = true := by
  have h0 : W.cell? ⟨b, 0, none⟩ = some c[0] := by rw [h.cell]; simp [hc]
  obtain ⟨o', ho', hcl⟩ := cells_of_cell h0
  have : W.heap[b]? = some o' := ho'
  rw [ho] at this; cases this; exact hcl
theorem sole_grown {S : Nat → Prop} {W1 W W' : World} {row : Option Nat} (h : Sole S W1 W) (hg : W.grownBy W' row) (hr : ∀ r, row = some r → W1.heap.size ≤ r) : Sole S W1 W' :=
  ⟨hg.os.trans h.os, hg.tape.trans h.tape, hg.output.trans h.output, Nat.le_trans h.size hg.size, fun k hk hn => (hg.block k (Nat.lt_of_lt_of_le hk h.size) (fun e => by have := hr k e.symm; omega)).trans (h.block k hk hn)⟩
theorem keeps_sole {S : Nat → Prop} {W W' : World} (h : Sole S W W') (hS : ∀ k o, S k → W.heap[k]? = some o → o.isCells = true) : KeepsOthers W W' :=
  ⟨h.size, fun k o hk ho => (h.block k (Array.getElem?_eq_some_iff.1 hk).1 (fun hs => by rw [hS k o hs hk] at ho; cases ho)).trans hk⟩
theorem below_zero {S : Nat → Prop} {W W' : World} (h : Sole S W W') : Below 0 W W' := ⟨h.os, h.tape, h.output, h.size, fun k hk => absurd hk (Nat.not_lt_zero k)⟩
theorem boxed_sole {S : Nat → Prop} {W W' : World} {B : Nat} {t : TypeId} {v : Value} (h : Boxed W B t v) (hs : Sole S W W') (hn : ¬ S B) : Boxed W' B t v := (hs.block B h.lt hn).trans h

/-- What is known between the rounds. -/
def RdI (g : Nat) (F : Nat → Int) (L : List OcS) (W1 : World) (pre : List (Fin 3)) (W : World) : Prop :=
  (∀ i ∈ pre, mbB (F 0) i.val (ocA L i.val).l = true) ∧ (∃ c', Blk W g c' ∧ Nums c' .i64 292 (fillAll F (ocTx L) pre)) ∧ Sole (fun j => j = g) W1 W
/-- .. and where a round said no. -/
def RdX (g b4 : Nat) (F : Nat → Int) (L : List OcS) (W1 : World) (cd : Code) (pre : List (Fin 3)) (W : World) : Prop :=
  cd = .ret ∧ (∃ i ∈ pre, mbB (F 0) i.val (ocA L i.val).l = false) ∧ Boxed W b4 4 (.bool false) ∧ Sole (fun j => j = g ∨ j = b4) W1 W
theorem rdI_own (g : Nat) (F : Nat → Int) (L : List OcS) (W1 : World) : OwnFrom W1.heap.size (RdI g F L W1) := by
  rintro pre W W' row ⟨h1, ⟨c', B, N⟩, h3⟩ hg hr
  exact ⟨h1, ⟨c', blk_kept B (by rw [N.size]; omega) hg (fun r e => (hr r e).2), N⟩, sole_grown h3 hg (fun r e => (hr r e).1)⟩
theorem rdX_own (g b4 : Nat) (F : Nat → Int) (L : List OcS) (W1 : World) (cd : Code) : OwnFrom W1.heap.size (RdX g b4 F L W1 cd) := by
  rintro pre W W' row ⟨h1, h2, h3, h4⟩ hg hr
  exact ⟨h1, h2, (grownBy_keeps_cells hg (fun r e => (hr r e).2) h3 rfl).trans h3, sole_grown h4 hg (fun r e => (hr r e).1)⟩

/-- What is known as one number of the map is read and its place is reckoned, in whatever order. -/
structure HM (wr : World) (q b2 : Nat) (vg : Value) (l0 l1 : List UInt8) (V : Nat → Option Value) (D : Nat → Bool) (vs : Nat → Value) (w : World) : Prop where
  vals : Vals V D vs
  box : w.cell? ⟨b2, 0, none⟩ = some vg
  rs : RS w q (if D 3 then l1 else l0) false
  sole : Sole (fun j => j = q) wr w
theorem HM.quiet {wr : World} {q b2 : Nat} {vg : Value} {l0 l1 : List UInt8} {V : Nat → Option Value} {D : Nat → Bool} {vs : Nat → Value} {w : World} (h : HM wr q b2 vg l0 l1 V D vs w) (j : Nat) (v : Value) (h3 : 3 ≠ j) (hv : V j = some v) :
    HM wr q b2 vg l0 l1 V (fset D j true) (fset vs j v) w :=
  ⟨h.vals.set j v (fun u hu => Option.some.inj (hv.symm.trans hu)), h.box, by rw [fset_ne D true h3]; exact h.rs, h.sole⟩
theorem HM.read {wr : World} {q b2 : Nat} {vg : Value} {l0 l1 : List UInt8} {V : Nat → Option Value} {D : Nat → Bool} {vs : Nat → Value} {w w' : World} (h : HM wr q b2 vg l0 l1 V D vs w) (v : Value) (hv : V 3 = some v) (S : Sole (fun j => j = q) w w') (R : RS w' q l1 false) (hb : b2 ≠ q) :
    HM wr q b2 vg l0 l1 V (fset D 3 true) (fset vs 3 v) w' :=
  ⟨h.vals.set 3 v (fun u hu => Option.some.inj (hv.symm.trans hu)), (S.cell (cell_lt h.box) hb).trans h.box, by rw [fset_same]; exact R, h.sole.trans S⟩
/-- What is read lies in octets: so no store into a row of numbers reaches it. -/
theorem rs_beside {w : World} {q g n : Nat} {l : List UInt8} {bad : Bool} {c : Array Value} {G : Nat → Int} (h : RS w q l bad) (B : Blk w g c) (N : Nums c .i64 n G) (hq : q ≠ g) (o : Nat) (v : Value) : RS (w.setCell ⟨g, o, none⟩ v) q l bad := by
  obtain ⟨⟨a, cap, BI, h1, h2, O, h4⟩, hb⟩ := h
  have S : Sole (fun j => j = g) w (w.setCell ⟨g, o, none⟩ v) := Sole.setCell w v rfl
  refine ⟨⟨a, cap, BI.sole S (fun e => hq e), h1, h2, O.sole S (fun b o' e hne hg => ?_), h4⟩, hb⟩
  rcases O with h0 | ⟨b', o'', e', hlt, hc⟩
  · exact hne h0
  · have eb : (⟨b', o'', none⟩ : Addr) = ⟨b, o', none⟩ := Option.some.inj (e'.symm.trans e)
    have hbb : b' = g := by
      have := congrArg Addr.block eb
      have h2 : b' = b := this
      rw [h2]; exact hg
    subst hbb
    have hl : 0 < l.length := List.length_pos_iff.2 hne
    have := hc 0 hl
    rw [B.cell] at this
    by_cases hn : o'' + 0 < n
    · rw [N.get _ hn] at this
      cases this
    · rw [Array.getElem?_eq_none (by rw [N.size]; omega)] at this
      cases this
def tabM (g q j : Nat) (n : Int) : Nat → Option Value
  | 0 => some (at' g)
  | 1 => some (.int .i64 (j : Int))
  | 2 => some (at' q)
  | 3 => some (.int .i64 n)
  | 4 => some (at' g)
  | 5 => some (.pointer (some ⟨g, 36, none⟩))
  | 6 => some (.pointer (some ⟨g, 36 + j, none⟩))
  | _ => none
end Go.Proofs.Ytdagddahpccnkaa

/-
  Package mark: readBody: the map of a mark, out of its body's sectors. (Written by genmarkrdbody.py.)
-/

namespace Go.Proofs.Ytdagddahpccnkaa
open Go.RowKit Go.Shelf
set_option linter.unusedVariables false
set_option linter.unusedSimpArgs false

attribute [local go_sem] Oper.semAt_some

set_option maxRecDepth 100000 in
set_option maxHeartbeats 16000000 in
theorem mreadBody_in (g : Nat) (c : Array Value) (F : Nat → Int) (L : List OcS) (p : Option Addr) (cap : Nat) (hL : L.length = 4) (h1 : 4 ≤ cap) (w : World) (BG : Blk w g c) (N : Nums c .i64 292 F) (R : RowOf ocT w p L) (hT : ∀ x ∈ L, x.there w)
    (hp : ∀ b o, p = some ⟨b, o, none⟩ → b ≠ g) (hx : ∀ x ∈ L, ∀ b o, x.a = some ⟨b, o, none⟩ → x.l ≠ [] → b ≠ g) :
    CallsIn Fence.wide 5 Try.prog 21 #[at' g, .slice p 4 cap] w fun e w' => e = .returned (.bool (mbAll (F 0) L)) ∧ Sole (fun j => j = g) w w' ∧ (mbAll (F 0) L = true → ∃ c', Blk w' g c' ∧ Nums c' .i64 292 (fillAll F (ocTx L) (tk 3))) := by
  have hro : Fence.wide.round = none := rfl
  have hRow : RowP w p 1 L.length (fun i => [.slice (ocA L i).a (ocA L i).l.length (ocA L i).cap]) := R
  rw [hL] at hRow
  obtain ⟨rb, ro, hpe, hR⟩ := hRow.row (by omega)
  subst hpe
  have hrow := hid (fun i (hi : i < 4) => hR.at0 hi (v := .slice (ocA L i).a (ocA L i).l.length (ocA L i).cap) rfl)
  have hrb := hid (hp rb ro rfl)
  have hT' := hid (fun i (hi : i < 4) => hT _ (ocA_mem L i (by omega)))
  have hx' := hid (fun i (hi : i < 4) => hx _ (ocA_mem L i (by omega)))
  have hgl := BG.lt
  have hrl : rb < w.heap.size := cell_lt (hrow.out 0 (by omega))
  have b2 := ((Boxed.new w 61 (at' g)).alloc (.cells #[.slice (some ⟨rb, ro, none⟩) 4 cap] 29)).alloc (.cells #[.bool false] 4)
  have b3 := (Boxed.new (w.alloc (.cells #[at' g] 61)) 29 (.slice (some ⟨rb, ro, none⟩) 4 cap)).alloc (.cells #[.bool false] 4)
  have b4 := Boxed.new ((w.alloc (.cells #[at' g] 61)).alloc (.cells #[.slice (some ⟨rb, ro, none⟩) 4 cap] 29)) 4 (.bool false)
  have hb0 : Below w.heap.size w (((w.alloc (.cells #[at' g] 61)).alloc (.cells #[.slice (some ⟨rb, ro, none⟩) 4 cap] 29)).alloc (.cells #[.bool false] 4)) := (((Below.refl _ w).alloc (Nat.le_refl _) _).alloc (by simp) _).alloc (by simp; omega) _
  have hs0 : (((w.alloc (.cells #[at' g] 61)).alloc (.cells #[.slice (some ⟨rb, ro, none⟩) 4 cap] 29)).alloc (.cells #[.bool false] 4)).heap.size = w.heap.size + 3 := by simp
  simp only [World.size_alloc] at b3 b4
  obtain ⟨W1, hW1⟩ : ∃ W1, ((w.alloc (.cells #[at' g] 61)).alloc (.cells #[.slice (some ⟨rb, ro, none⟩) 4 cap] 29)).alloc (.cells #[.bool false] 4) = W1 := ⟨_, rfl⟩
  rw [hW1] at b2 b3 b4 hb0 hs0
  replace hW1 := hid hW1
  have BG1 := BG.more hb0
  replace b2 := hid b2
  replace b3 := hid b3
  replace b4 := hid b4
  replace hb0 := hid hb0
  have hN := hid N
  clear BG N R hT hp hx hR hRow hL
  refine callsIn_of_wp_marks Try.func21 rfl trivial ?_ hro
  simp only [Try.ntmps21, List.size_toArray, List.length_cons, List.length_nil, Nat.reduceAdd, Nat.reduceSub, Array.replicate_succ, Array.replicate_zero, List.push_toArray, List.append_toArray, List.nil_append, List.cons_append]
  gi_wp2_with (refine ⟨trivial, ?_⟩; gi_at_call 14; refine (callsIn_wide.2 (pieces_any _)).mono ?_; rintro e w' ⟨rfl, rfl⟩)
  rw [hW1.out]
  clear hW1
  refine wpIn_rangeFunc_ownH hro (by omega) (gf := 25) (lb := #[]) rfl trivial (enters_of Try.func25 (by kernel_rfl) rfl)
    (pieces_stops (5 - 1) (by omega) 0 W1 (by omega)) belowK_t (belowK_b (Nat.zero_le _)) (Below.refl _ _) (fun _ => rfl)
    (RdI g F L W1) (RdX g (w.heap.size + 1 + 1) F L W1) (rdI_own g F L W1) (rdX_own g (w.heap.size + 1 + 1) F L W1)
    ⟨by simp, ⟨c, BG1, hN.out⟩, Sole.refl _ _⟩
    (fun i a' W => ∃ Bi, W1.heap.size ≤ Bi ∧ Boxed2W W Bi i.val ∧ a' = { tmps := #[at' g, .slice (some ⟨rb, ro, none⟩) 4 cap, .pointer (some ⟨w.heap.size, 0, none⟩), .pointer (some ⟨w.heap.size + 1, 0, none⟩), .pointer (some ⟨w.heap.size + 1 + 1, 0, none⟩), .int .i64 ((i.val : Nat) : Int), .pointer (some ⟨Bi, 0, none⟩), undef, undef, undef, undef, undef, undef, .func (.func 25) #[] #[], .int .i64 ((i.val : Nat) : Int), .agg #[.int .i64 ((86 * i.val : Nat) : Int), .int .i64 ((pEnd i.val : Nat) : Int)], undef, undef, undef, undef, undef, undef, undef, undef, undef, undef, undef, undef, undef, undef, undef, undef, undef, undef, undef, undef, undef, undef, undef, undef, undef, undef, undef, undef, undef, undef, undef, undef, undef, undef, undef, undef, undef, undef, undef, undef, undef, undef, undef, undef, undef, undef, undef, undef, undef, undef, undef, undef, undef, undef], defers := [] })
    ?hAx ?assign ?body ?done ?stop
  case hAx =>
    rintro i a' _ X Y row ⟨Bi, h3, h5, h7⟩ hg hr
    exact ⟨Bi, h3, (grownBy_keeps_cells hg (fun r e => (hr r e).2) h5 rfl).trans h5, h7⟩
  case assign =>
    rintro l pre i W K ⟨hI1, ⟨c', BGW, NW⟩, hS⟩ hK
    simp only [pVal_eq]
    gi_wp2
    have hb2 : Below W.heap.size W (W.alloc (.cells #[.int .i64 ((86 * i.val : Nat) : Int), .int .i64 ((pEnd i.val : Nat) : Int)] 48)) := (Below.refl _ W).alloc (Nat.le_refl _) _
    have hS2 : Sole (fun j => j = g) W1 (W.alloc (.cells #[.int .i64 ((86 * i.val : Nat) : Int), .int .i64 ((pEnd i.val : Nat) : Int)] 48)) := hS.trans (Sole.alloc W _)
    exact hK _ _ ((KeepsOthers.alloc _ _).from _) (hb2.mono (Nat.zero_le _)) ⟨hI1, ⟨c', BGW.more hb2, NW⟩, hS2⟩ ⟨W.heap.size, hS.size, World.alloc_heap_new W _, rfl⟩
  case body =>
    rintro l pre i a' W hl ⟨r, hr⟩ ⟨hI1, ⟨c', BGW, NW⟩, hS⟩ ⟨Bi, h3, h5, rfl⟩ hlt
    have hi3 := i.isLt
    have hgw : g < W1.heap.size := by have := hb0.out.size; omega
    have hB2 := boxed_sole b2.out hS (by omega)
    have hB3 := boxed_sole b3.out hS (by omega)
    have hB4 := boxed_sole b4.out hS (by omega)
    have S0 : Sole (fun j => j = g) w W := (Sole.made hb0.out).trans hS
    have z1 : W.cell? ⟨rb, ro + i.val, none⟩ = some (.slice (ocA L i.val).a (ocA L i.val).l.length (ocA L i.val).cap) := by
      have := hrow.out i.val (by omega)
      rw [Nat.mul_one] at this
      exact (S0.cell (cell_lt this) hrb.out).trans this
    have OX : Octs W (ocA L i.val).a (ocA L i.val).l := (hT'.out i.val (by omega)).1.sole S0 (fun b o e hne => hx'.out i.val (by omega) b o e hne)
    obtain ⟨_, hx1, hx2⟩ := hT'.out i.val (by omega)
    have KO := fopen_any (ocA L i.val).l (ocA L i.val).a (ocA L i.val).cap hx1 hx2 W OX
    unfold OpenPost at KO
    replace KO := hid KO
    have hep : Hid (fillAll F (ocTx L) pre 0 = F 0) := hid (fillAll_low _ 0 (by omega) pre F)
    have hg0 : W.cell? ⟨g, 0, none⟩ = some (.int .i64 (F 0)) := by rw [BGW.cell, NW.get 0 (by omega), hep.out]
    have hBi : Bi < W.heap.size := (Array.getElem?_eq_some_iff.1 h5).1
    have a0 : W.cell? ⟨Bi, 0, none⟩ = some (.int .i64 ((86 * i.val : Nat) : Int)) := by simp [World.cell?, show W.heap[Bi]? = _ from h5]
    have a1 : W.cell? ⟨Bi, 1, none⟩ = some (.int .i64 ((pEnd i.val : Nat) : Int)) := by simp [World.cell?, show W.heap[Bi]? = _ from h5]
    have hsecN : 86 * i.val + secN i.val = pEnd i.val := by unfold secN pEnd; omega
    have hend : pEnd i.val ≤ 256 := by unfold pEnd; omega
    have hib : (0 : Int) ≤ ((i.val : Nat) : Int) ∧ ((i.val : Nat) : Int) < 4 := by omega
    have c3 := hB3.cell
    have hmb : Hid (mbB (F 0) i.val (ocA L i.val).l = (goodB (ocA L i.val).l && (openK (ocA L i.val).l == 3 && (stEq (openS (ocA L i.val).l).e (openS (ocA L i.val).l).s (openS (ocA L i.val).l).a (F 0) 0 (i.val : Int) && decide ((openT (ocA L i.val).l).length = 2 * secN i.val))))) := hid rfl
    have hTx : Hid (ocTx L i.val = openT (ocA L i.val).l) := hid rfl
    have hE : Hid (openE (ocA L i.val).l = if goodB (ocA L i.val).l then 0 else 16) := hid rfl
    have hfill : Hid (fillAll F (ocTx L) (pre ++ [i]) = fillK (fillAll F (ocTx L) pre) i.val (ocTx L i.val) (secN i.val)) := hid (fillAll_snoc _ _ _ _)
    replace hI1 := hid hI1
    have HBG := hid BGW
    have HN := hid NW
    have HS := hid hS
    have HB2 := hid hB2
    have HB4 := hid hB4
    have a0h := hid a0
    have a1h := hid a1
    have hg0h := hid hg0
    clear BGW NW hS hB2 hB3 hB4 S0 OX hr h5 a0 a1 hg0
    generalize fillAll F (ocTx L) pre = FP at *
    generalize hA : 86 * i.val = A at *
    generalize hEn : pEnd i.val = En at *
    generalize hSn : secN i.val = Sn at *
    generalize hS2 : 2 * Sn = S2 at *
    have e1 : IntKind.i64.wrap ((En : Int) - (A : Int)) = (Sn : Int) := by rw [IntWalk.i64_in _ ⟨by omega, by omega⟩]; omega
    have e2 : IntKind.i64.wrap (2 * (Sn : Int)) = (S2 : Int) := by rw [IntWalk.i64_in _ ⟨by omega, by omega⟩]; omega
    replace hA := hid hA
    replace hEn := hid hEn
    replace hSn := hid hSn
    replace hS2 := hid hS2
    replace hsecN := hid hsecN
    replace hend := hid hend
    gi_wp2_with fail
    refine ⟨trivial, ?_⟩
    gi_at_call 33
    refine (CallsIn.inRound l (callsIn_wide.2 KO.out)).mono ?_
    rintro e w1 ⟨v, rfl, V, hb1⟩
    generalize goodB (ocA L i.val).l = G at *
    generalize openK (ocA L i.val).l = K at *
    generalize openS (ocA L i.val).l = S at *
    generalize openT (ocA L i.val).l = T at *
    generalize openE (ocA L i.val).l = E at *
    clear KO c3 z1
    have hbA : Below w1.heap.size w1 (w1.alloc (.cells #[.int .i64 S.e, .int .i64 S.s, .int .i64 S.a] 54)) := (Below.refl _ _).alloc (Nat.le_refl _) _
    have BS := Blk.new w1 #[.int .i64 S.e, .int .i64 S.s, .int .i64 S.a] 54
    have hb2 := below2 hb1 hbA hb1.size
    have V1 := V.more hbA
    have hsW : W.heap.size ≤ w1.heap.size := hb1.size
    clear hb1 hbA V
    obtain ⟨ta, tc, rfl, OT, tc1, _⟩ := V1
    have hBSh := hid BS
    obtain ⟨ls, ks, fs⟩ := BS
    replace hb2 := hid hb2
    replace OT := hid OT
    gi_wp2_with fail
    clear ls ks fs
    generalize w1.alloc (.cells #[.int .i64 S.e, .int .i64 S.s, .int .i64 S.a] 54) = w2 at *
    have up : ∀ (b o : Nat) (v : Value), W.cell? ⟨b, o, none⟩ = some v → ∀ u : Later w2, u.val.cell? ⟨b, o, none⟩ = some v := fun b o v h u => (u.cell b o (Nat.lt_of_lt_of_le (cell_lt h) hb2.out.size)).trans ((hb2.out.cell (p := ⟨b, o, none⟩) (cell_lt h)).trans h)
    have q0 := fun u : Later w2 => u.blk hBSh.out
    have q1 := up _ _ _ HB2.out.cell
    have q2 := up _ _ _ hg0h.out
    have q3 := up _ _ _ a0h.out
    have q4 := up _ _ _ a1h.out
    clear up
    replace hi3 := hid hi3
    replace hlt := hid hlt
    replace hl := hid hl
    replace hrl := hid hrl
    replace hgl := hid hgl
    replace hgw := hid hgw
    replace hs0 := hid hs0
    replace h1 := hid h1
    replace h3 := hid h3
    replace hBi := hid hBi
    replace hsW := hid hsW
    replace tc1 := hid tc1
    clear hx1 hx2 hib BG1
    cases hG : G with
    | false =>
      subst hG
      have hbad := hid (show mbB (F 0) i.val (ocA L i.val).l = false by rw [hmb.out]; rfl)
      rw [hE.out, if_neg (by simp)]
      refine wpIn_region_late_fen (wd_round l) 26 (by kernel_rfl) (by kernel_rfl) (by kernel_rfl) ?_
      simp only [List.take_succ_cons, List.take_zero, List.drop_succ_cons, List.drop_zero]
      iterate 26 (go_big_quiet_step (fail))
      refine wpQuiet_nil ?_
      intro w3 hL'
      have hL := late_out hL'
      clear hL'
      clear q0 q1 q2 q3 q4
      have hbW := hid (below2 hb2.out hL hb2.out.size)
      have H4 := HB4.out.kept (mgrown_of hbW.out) (by simp)
      have hc4 := H4.cell
      have hf4 := H4.frozen
      have H4' := hid H4
      clear hL H4
      gi_wp2
      refine ⟨(KeepsFrom.of_grownBy (mgrown_of hbW.out) (fun j e => by cases e)).trans ((KeepsOthers.setCell _ _ _).from _), rfl, ⟨i, by simp, hbad.out⟩, H4'.out.set _, ?_⟩
      exact ((HS.out.mono (fun _ _ e => .inl e)).trans (Sole.made hbW.out)).trans (Sole.setCell _ _ (.inr rfl))
    | true =>
      subst hG
      rw [hE.out, if_pos rfl]
      cases hk : (K == 3) with
      | false =>
        have hbad := hid (show mbB (F 0) i.val (ocA L i.val).l = false by rw [hmb.out, hk]; rfl)
        have hk' : (K != 3) = true := by simp [bne, hk]
        clear hk
        refine wpIn_region_late_fen (wd_round l) 26 (by kernel_rfl) (by kernel_rfl) (by kernel_rfl) ?_
        simp only [List.take_succ_cons, List.take_zero, List.drop_succ_cons, List.drop_zero]
        iterate 26 (go_big_quiet_step (fail))
        refine wpQuiet_nil ?_
        intro w3 hL'
        have hL := late_out hL'
        clear hL'
        clear q0 q1 q2 q3 q4
        have hbW := hid (below2 hb2.out hL hb2.out.size)
        have H4 := HB4.out.kept (mgrown_of hbW.out) (by simp)
        have hc4 := H4.cell
        have hf4 := H4.frozen
        have H4' := hid H4
        clear hL H4
        gi_wp2
        refine ⟨(KeepsFrom.of_grownBy (mgrown_of hbW.out) (fun j e => by cases e)).trans ((KeepsOthers.setCell _ _ _).from _), rfl, ⟨i, by simp, hbad.out⟩, H4'.out.set _, ?_⟩
        exact ((HS.out.mono (fun _ _ e => .inl e)).trans (Sole.made hbW.out)).trans (Sole.setCell _ _ (.inr rfl))
      | true =>
        obtain rfl : K = 3 := by simpa using hk
        clear hk
        cases hs : stEq S.e S.s S.a (F 0) 0 (i.val : Int) with
        | false =>
          have kn : ∀ wx, (binOp .neq 54 (.agg #[.int .i64 S.e, .int .i64 S.s, .int .i64 S.a]) (.agg #[.int .i64 (F 0), .int .i64 0, .int .i64 ((i.val : Nat) : Int)])).run Try.prog wx = .ok (.bool true) wx := fun wx => by rw [neq_st, hs]; rfl
          have hbad := hid (show mbB (F 0) i.val (ocA L i.val).l = false by rw [hmb.out, hs]; rfl)
          clear hs
          refine wpIn_region_late_fen (wd_round l) 26 (by kernel_rfl) (by kernel_rfl) (by kernel_rfl) ?_
          simp only [List.take_succ_cons, List.take_zero, List.drop_succ_cons, List.drop_zero]
          iterate 26 (go_big_quiet_step (fail))
          refine wpQuiet_nil ?_
          intro w3 hL'
          have hL := late_out hL'
          clear hL'
          clear q0 q1 q2 q3 q4
          have hbW := hid (below2 hb2.out hL hb2.out.size)
          have H4 := HB4.out.kept (mgrown_of hbW.out) (by simp)
          have hc4 := H4.cell
          have hf4 := H4.frozen
          have H4' := hid H4
          clear hL H4
          gi_wp2
          refine ⟨(KeepsFrom.of_grownBy (mgrown_of hbW.out) (fun j e => by cases e)).trans ((KeepsOthers.setCell _ _ _).from _), rfl, ⟨i, by simp, hbad.out⟩, H4'.out.set _, ?_⟩
          exact ((HS.out.mono (fun _ _ e => .inl e)).trans (Sole.made hbW.out)).trans (Sole.setCell _ _ (.inr rfl))
        | true =>
          have kn : ∀ wx, (binOp .neq 54 (.agg #[.int .i64 S.e, .int .i64 S.s, .int .i64 S.a]) (.agg #[.int .i64 (F 0), .int .i64 0, .int .i64 ((i.val : Nat) : Int)])).run Try.prog wx = .ok (.bool false) wx := fun wx => by rw [neq_st, hs]; rfl
          by_cases ht : T.length = S2
          · have hgood := hid (show mbB (F 0) i.val (ocA L i.val).l = true by rw [hmb.out, hs, decide_eq_true ht]; rfl)
            have KOp := hid (fun a tc wx O => rs_open T a tc wx O (by have := hS2.out; have := hsecN.out; have := hend.out; omega))
            have htl := hid ht
            rw [ht] at KOp ⊢
            clear hs ht
            have hns : ((S2 : Int) != (S2 : Int)) = false := by simp
            refine wpIn_region_late_fen (wd_round l) 26 (by kernel_rfl) (by kernel_rfl) (by kernel_rfl) ?_
            simp only [List.take_succ_cons, List.take_zero, List.drop_succ_cons, List.drop_zero]
            iterate 26 (go_big_quiet_step (fail))
            refine wpQuiet_nil ?_
            intro w3 hL'
            have hL := late_out hL'
            clear hL'
            clear kn q0 q1 q2 q3 q4
            have hbW := hid (below2 hb2.out hL hb2.out.size)
            have OT3 := hid (OT.out.more hL)
            clear hL OT
            gi_wp2_with fail
            refine ⟨trivial, ?_⟩
            gi_at_call 34
            refine (CallsIn.inRound l (callsIn_wide.2 (KOp.out _ _ _ OT3.out))).mono ?_
            rintro e w4 ⟨q, rfl, hq, R4, hb4⟩
            have hbW4 := hid (below2 hbW.out hb4 hbW.out.size)
            have hqW := hid (show W.heap.size ≤ q by have := hbW.out.size; omega)
            have a0 := (hbW4.out.cell (p := ⟨Bi, 0, none⟩) hBi.out).trans a0h.out
            have HR4 := hid R4
            clear hb4 R4 OT3 KOp hq
            gi_wp2_with fail
            gi_loopw [12] (fun v wr => ∃ k : Nat, ∃ c2, k ≤ Sn ∧ v = .int .i64 ((A + k : Nat) : Int) ∧ Blk wr g c2 ∧ Nums c2 .i64 292 (fillK FP i.val T k) ∧ RS wr q (T.drop (2 * k)) false ∧ Sole (fun j => j = g) W wr) (fun v _ => A + Sn - (intOf v).toNat)
            case atStart => exact ⟨0, c', by omega, rfl, HBG.out.more hbW4.out, by rw [fillK_zero]; exact HN.out, HR4.out, Sole.made hbW4.out⟩
            case round =>
              clear a0 HR4
              obtain ⟨k, c2, hk, rfl, B2, N2, Rk, Sk⟩ := hrel
              have hgl' := hgl.out
              have hgw' := hgw.out
              have h3' := h3.out
              have hsW1 := HS.out.size
              have a1 := (Sk.cell (b := Bi) (o := 1) hBi.out (by omega)).trans a1h.out
              have bx := (Sk.cell (b := w.heap.size) (o := 0) HB2.out.lt (by omega)).trans HB2.out.cell
              have hsecN' := hsecN.out
              have hend' := hend.out
              by_cases hlk : k < Sn
              · have hlt' : decide (A + k < En) = true := decide_eq_true (by omega)
                have hjj : (0 : Int) ≤ ((A + k : Nat) : Int) ∧ ((A + k : Nat) : Int) < 256 := by omega
                have hnx : IntKind.i64.wrap (((A + k : Nat) : Int) + 1) = ((A + (k + 1) : Nat) : Int) := by rw [IntWalk.i64_in _ ⟨by omega, by omega⟩]; omega
                have hlen := hid (show 2 ≤ (T.drop (2 * k)).length by rw [List.length_drop, htl.out]; have := hS2.out; omega)
                have hfs := hid (fun j => fillK_succ FP i.val T k j)
                rw [hA.out] at hfs
                have hdd : Hid ((T.drop (2 * k)).drop 2 = T.drop (2 * (k + 1))) := hid (by rw [List.drop_drop]; congr 1)
                have HB := hid B2
                have HNk := hid N2
                have HRk := hid Rk
                have HSk := hid Sk
                have hbq := hid (show w.heap.size ≠ q by have := hqW.out; have := hs0.out; omega)
                have hgq := hid (show g < q by have := hqW.out; omega)
                clear B2 N2 Rk Sk hsecN' hend' hsW1 h3' hgw' hgl'
                generalize hJ : A + k = j at *
                replace hJ := hid hJ
                obtain ⟨nm, hnm⟩ : ∃ nm : Int, ((numOf ((T.drop (2 * k)).take 2) : Nat) : Int) = nm := ⟨_, rfl⟩
                rw [hnm] at hfs
                replace hnm := hid hnm
                have hlk' := hid hlk
                have hkh := hid hk
                clear hlk hk
                gi_wp2_with fail
                generalize hV : tabM g q j nm = V
                refine wpIn_region_inv (wd_round l) 7 (fun D vs wx => HM wr q w.heap.size (at' g) (T.drop (2 * k)) (T.drop (2 * (k + 1))) V D vs wx) (by kernel_rfl) (by kernel_rfl) (by kernel_rfl) ?h0 ?hstep ?hend
                case h0 => exact ⟨Vals.nil, bx, HRk.out.more (Below.refl _ _).drew, (Sole.refl _ _).drew⟩
                case hstep =>
                  intro jj o hjN ho D vs ax wx hDj hD hv hbase H
                  rcases (show jj = 0 ∨ jj = 1 ∨ jj = 2 ∨ jj = 3 ∨ jj = 4 ∨ jj = 5 ∨ jj = 6 by omega) with rfl | rfl | rfl | rfl | rfl | rfl | rfl
                  all_goals
                    simp only [List.getElem?_cons_zero, List.getElem?_cons_succ, Option.some.injEq] at ho
                    subst ho
                  · have e2 := at_base hbase 2 (by kernel_rfl) (v := .pointer (some ⟨w.heap.size, 0, none⟩)) rfl
                    have z := H.box
                    exact StepIn.value (wd_round l) (at' g) (fun c h => by cases h) (wanted_plain rfl _) (by simp [execOp, e2, go_sem, z]) (H.quiet 0 _ (by omega) (by rw [← hV]; rfl))
                  · have e12 := at_base hbase 12 (by kernel_rfl) (v := .int .i64 (j : Int)) rfl
                    exact StepIn.value (wd_round l) (.int .i64 (j : Int)) (fun c h => by cases h) (wanted_plain rfl _) (by simp [execOp, e12, go_sem]) (H.quiet 1 _ (by omega) (by rw [← hV]; rfl))
                  · have e11 := at_base hbase 11 (by kernel_rfl) (v := at' q) rfl
                    exact StepIn.value (wd_round l) (at' q) (fun c h => by cases h) (wanted_plain rfl _) (by simp [execOp, e11, go_sem]) (H.quiet 2 _ (by omega) (by rw [← hV]; rfl))
                  · have e65 := at_done H.vals hv (hD 2 (by kernel_rfl)) 65 (by kernel_rfl) (by rw [← hV]; rfl)
                    have Rq := H.rs
                    rw [hDj] at Rq
                    have KN := rs_nums 2 2 rfl q (T.drop (2 * k)) wx Rq hlen.out
                    rw [hdd.out, hnm.out] at KN
                    refine StepIn.call (wd_round l) _ _ (fun c h => by cases h) (wanted_plain rfl _) (by simp [execOp, Act.eval, e65, go_sem]) (KN.mono ?_)
                    rintro e w' ⟨rfl, R', S'⟩
                    exact ⟨_, rfl, H.read _ (by rw [← hV]; rfl) S' R' hbq.out⟩
                  · have e63 := at_done H.vals hv (hD 0 (by kernel_rfl)) 63 (by kernel_rfl) (by rw [← hV]; rfl)
                    exact StepIn.value (wd_round l) (at' g) (fun c h => by cases h) (wanted_plain rfl _) (by simp [execOp, e63, go_sem]) (H.quiet 4 _ (by omega) (by rw [← hV]; rfl))
                  · have e67 := at_done H.vals hv (hD 4 (by kernel_rfl)) 67 (by kernel_rfl) (by rw [← hV]; rfl)
                    exact StepIn.value (wd_round l) (.pointer (some ⟨g, 36, none⟩)) (fun c h => by cases h) (wanted_plain rfl _) (by simp [execOp, e67, go_sem]) (H.quiet 5 _ (by omega) (by rw [← hV]; rfl))
                  · have e68 := at_done H.vals hv (hD 5 (by kernel_rfl)) 68 (by kernel_rfl) (by rw [← hV]; rfl)
                    have e64 := at_done H.vals hv (hD 1 (by kernel_rfl)) 64 (by kernel_rfl) (by rw [← hV]; rfl)
                    exact StepIn.value (wd_round l) (.pointer (some ⟨g, 36 + j, none⟩)) (fun c h => by cases h) (wanted_plain rfl _) (by simp [execOp, e68, e64, go_sem, hjj]) (H.quiet 6 _ (by omega) (by rw [← hV]; rfl))
                case hend =>
                  intro D vs wx hall H
                  have v0 := H.vals 0 _ (hall 0 (by omega)) (by rw [← hV]; rfl)
                  have v1 := H.vals 1 _ (hall 1 (by omega)) (by rw [← hV]; rfl)
                  have v2 := H.vals 2 _ (hall 2 (by omega)) (by rw [← hV]; rfl)
                  have v3 := H.vals 3 _ (hall 3 (by omega)) (by rw [← hV]; rfl)
                  have v4 := H.vals 4 _ (hall 4 (by omega)) (by rw [← hV]; rfl)
                  have v5 := H.vals 5 _ (hall 5 (by omega)) (by rw [← hV]; rfl)
                  have v6 := H.vals 6 _ (hall 6 (by omega)) (by rw [← hV]; rfl)
                  have Rq := H.rs
                  rw [hall 3 (by omega)] at Rq
                  have HB9 := hid (HB.out.sole H.sole (by have := hgq.out; omega))
                  have z1 := HB9.out.cell (36 + j)
                  rw [HNk.out.get (36 + j) (by omega)] at z1
                  have z2 := HB9.out.frz (36 + j)
                  have R10 := hid (rs_beside Rq HB9.out HNk.out (by have := hgq.out; omega) (36 + j) (.int .i64 nm))
                  have S10 := hid ((HSk.out.trans' H.sole (fun n hn e => by have := hqW.out; omega)).trans (Sole.setCell (S := fun n => n = g) wx (b := g) (o := 36 + j) (.int .i64 nm) rfl))
                  simp only [puts, List.range, List.range.loop, List.foldl_cons, List.foldl_nil, List.getElem?_toArray, List.getElem?_cons_succ, List.getElem?_cons_zero, Option.bind_some, Act.put, List.setIfInBounds_toArray, List.set_cons_succ, List.set_cons_zero, v0, v1, v2, v3, v4, v5, v6]
                  simp only [List.drop_succ_cons, List.drop_zero]
                  clear v0 v1 v2 v3 v4 v5 v6 hall H Rq hV
                  generalize fillK FP i.val T k (36 + j) = old at *
                  gi_wp2_with fail
                  go_roundw
                  case rel => exact ⟨k + 1, _, by have := hlk'.out; omega, by rfl, HB9.out.set (36 + j) (.int .i64 nm) (by rw [HNk.out.size]; omega), HNk.out.set (by omega) (fun n hn => hfs.out n), R10.out, S10.out⟩
                  case measure => have := hJ.out; have := hlk'.out; simp [intOf]; omega
              · obtain rfl : k = Sn := by omega
                have hlt' : decide (A + k < En) = false := decide_eq_false (by omega)
                have HB := hid B2
                have HNk := hid N2
                have HSk := hid Sk
                clear B2 N2 Rk Sk hsecN' hend' hsW1 h3' hgw' hgl'
                generalize hJ : A + k = j at *
                replace hJ := hid hJ
                gi_wp2_with fail
                refine ⟨(keeps_sole HSk.out (fun n o e ho => by subst e; exact blk_cells HBG.out (by rw [HN.out.size]; omega) o ho)).from _, below_zero HSk.out, ?_, ⟨c2, HB.out, ?_⟩, HS.out.trans HSk.out⟩
                · intro x hx
                  rcases List.mem_append.1 hx with h | h
                  · exact hI1.out x h
                  · simp only [List.mem_singleton] at h
                    rw [h]; exact hgood.out
                · rw [hfill.out, hTx.out]; exact HNk.out
          · have hbad := hid (show mbB (F 0) i.val (ocA L i.val).l = false by rw [hmb.out, hs, decide_eq_false ht]; rfl)
            have htn : ((T.length : Int) != (S2 : Int)) = true := by simp [bne]; omega
            clear hs ht
            obtain ⟨tn, htn0⟩ : ∃ tn, T.length = tn := ⟨_, rfl⟩
            rw [htn0] at htn ⊢
            clear htn0
            refine wpIn_region_late_fen (wd_round l) 26 (by kernel_rfl) (by kernel_rfl) (by kernel_rfl) ?_
            simp only [List.take_succ_cons, List.take_zero, List.drop_succ_cons, List.drop_zero]
            iterate 26 (go_big_quiet_step (fail))
            refine wpQuiet_nil ?_
            intro w3 hL'
            have hL := late_out hL'
            clear hL'
            clear q0 q1 q2 q3 q4
            have hbW := hid (below2 hb2.out hL hb2.out.size)
            have H4 := HB4.out.kept (mgrown_of hbW.out) (by simp)
            have hc4 := H4.cell
            have hf4 := H4.frozen
            have H4' := hid H4
            clear hL H4
            gi_wp2
            refine ⟨(KeepsFrom.of_grownBy (mgrown_of hbW.out) (fun j e => by cases e)).trans ((KeepsOthers.setCell _ _ _).from _), rfl, ⟨i, by simp, hbad.out⟩, H4'.out.set _, ?_⟩
            exact ((HS.out.mono (fun _ _ e => .inl e)).trans (Sole.made hbW.out)).trans (Sole.setCell _ _ (.inr rfl))
  case done =>
    rintro D zs W hD rfl ⟨hI1, ⟨c', BGW, NW⟩, hS⟩ hK
    have hall : Hid (mbAll (F 0) L = true) := hid (by unfold mbAll; rw [List.all_eq_true]; exact hI1)
    have h4 := boxed_sole b4.out hS (by omega)
    have hc4 := h4.cell
    have hf4 := h4.frozen
    have HS := hid hS
    have HB := hid BGW
    have H4 := hid h4
    have HN := hid NW
    clear hI1 BGW hS h4 NW
    gi_wp2
    have hK' := (KeepsOthers.setCell W ⟨w.heap.size + 1 + 1, 0, none⟩ (.bool true)).same D _ hK rfl
    refine ⟨by simp, .inl ⟨_, _, rfl, run_takeDeferred hK', ?_⟩⟩
    have hno : ∀ r, some D = some r → ∃ o : Obj, (W.setCell ⟨w.heap.size + 1 + 1, 0, none⟩ (.bool true)).heap[r]? = some o ∧ o.isCells = false := fun r e => by cases e; exact ⟨_, hK', rfl⟩
    have hgD := grownBy_putObj' (W.setCell ⟨w.heap.size + 1 + 1, 0, none⟩ (.bool true)) D (.deferred none)
    have k1 := cell_kept ((H4.out.set (.bool true)).cell) hgD hno
    refine ⟨.bool true, ?_, by rw [hall.out], ?_, fun _ => ⟨c', ?_, HN.out⟩⟩
    · simp [results, Try.f21, go_sem, k1]
    · have s1 : Sole (fun j => j = g ∨ w.heap.size ≤ j) w W := (Sole.made (S := fun j => j = g ∨ w.heap.size ≤ j) hb0.out).trans' (HS.out) (fun k _ e => .inl e)
      have s2 := s1.trans (Sole.setCell (S := fun j => j = g ∨ w.heap.size ≤ j) W (b := w.heap.size + 1 + 1) (o := 0) (.bool true) (.inr (by omega)))
      have s3 := sole_grown s2 hgD (fun r e => by cases e; have := hb0.out.size; omega)
      exact s3.mono fun k hk hs => hs.resolve_right (by omega)
    · exact blk_kept (HB.out.other ⟨w.heap.size + 1 + 1, 0, none⟩ (by show w.heap.size + 1 + 1 ≠ g; omega) (.bool true)) (by rw [HN.out.size]; omega) hgD hno
  case stop =>
    rintro D cd pre W hD hpre ⟨rfl, ⟨i, hi, hbad⟩, h4, hS⟩ hK
    obtain ⟨k, hk, rfl⟩ := hpre
    have hall : Hid (mbAll (F 0) L = false) := hid (by
      unfold mbAll; rw [List.all_eq_false]
      refine ⟨i, ?_, by rw [hbad]; simp⟩
      show i ∈ (List.finRange 3).take 3
      rw [List.take_of_length_le (by simp)]
      exact List.mem_finRange i)
    have hc4 := h4.cell
    gi_wp2
    refine ⟨by simp, .inl ⟨_, _, rfl, run_takeDeferred hK, ?_⟩⟩
    have hgD := grownBy_putObj' W D (.deferred none)
    have hno : ∀ r, some D = some r → ∃ o : Obj, W.heap[r]? = some o ∧ o.isCells = false := fun r e => by cases e; exact ⟨_, hK, rfl⟩
    have k1 := cell_kept hc4 hgD hno
    refine ⟨.bool false, ?_, by rw [hall.out], ?_, fun h => by rw [hall.out] at h; cases h⟩
    · simp [results, Try.f21, go_sem, k1]
    · have s1 : Sole (fun j => j = g ∨ w.heap.size ≤ j) w W := (Sole.made (S := fun j => j = g ∨ w.heap.size ≤ j) hb0.out).trans' hS (fun k _ e => e.imp id (fun e => by omega))
      have s3 := sole_grown s1 hgD (fun r e => by cases e; have := hb0.out.size; omega)
      exact s3.mono fun k hk hs => hs.resolve_right (by omega)
end Go.Proofs.Ytdagddahpccnkaa

/-
  Package mark: Read: the mark of a body's sectors and a head.
-/


namespace Go.Proofs.Ytdagddahpccnkaa
open Go.RowKit
set_option linter.unusedVariables false
set_option linter.unusedSimpArgs false

/-- Are they a mark's sectors? Which mark is it? -/
def mrF (L : List OcS) : Nat → Int := fillAll (mhF (ocA L 3).l) (ocTx L) (tk 3)
def mrB (L : List OcS) : Bool := decide (L.length = 4) && (mhB (ocA L 3).l && (mbAll (mhF (ocA L 3).l 0) L && mOk (mrF L)))
def mrE (L : List OcS) : Int := if mrB L then 0 else 16
def mrG (L : List OcS) : Nat → Int := fun j => if mrB L then mrF L j else 0

/-- Nothing is told. -/
def RdBad (L : List OcS) (w : World) (e : Ending) (w' : World) : Prop := ∃ c, e = .returned (.tuple #[.agg c, .int .i64 (mrE L)]) ∧ Nums c .i64 292 (mrG L) ∧ Below w.heap.size w w'
theorem rdBad_of {L : List OcS} {w w' : World} (h : mrB L = false) (hb : Below w.heap.size w w') : RdBad L w (.returned (.tuple #[.agg zerosM, .int .i64 16])) w' := by
  refine ⟨zerosM, ?_, zerosM_nums.congr fun j hj => ?_, hb⟩
  · unfold mrE; rw [h]; rfl
  · unfold mrG; rw [h]; rfl
theorem rdGood_of {L : List OcS} {w w' : World} {c : Array Value} (h : mrB L = true) (N : Nums c .i64 292 (mrF L)) (hb : Below w.heap.size w w') : RdBad L w (.returned (.tuple #[.agg c, .int .i64 0])) w' := by
  refine ⟨c, ?_, N.congr fun j hj => ?_, hb⟩
  · unfold mrE; rw [h]; rfl
  · unfold mrG; rw [h]; rfl

set_option maxRecDepth 100000 in
set_option maxHeartbeats 8000000 in
theorem mread_len (n : Nat) (hlen : n ≠ 4) (p : Option Addr) (cap : Nat) (w : World) :
    Calls Try.prog 11 #[.slice p n cap] w fun e w' => e = .returned (.tuple #[.agg zerosM, .int .i64 16]) ∧ Below w.heap.size w w' := by
  obtain ⟨W0, hW0⟩ : ∃ W0, w.alloc (.cells zerosM 27) = W0 := ⟨_, rfl⟩
  have hb0 : Below w.heap.size w W0 := by rw [← hW0]; exact (Below.refl _ _).alloc (Nat.le_refl _) _
  have BX : Blk W0 w.heap.size zerosM := by rw [← hW0]; exact Blk.new w _ _
  have zoneh := hid (show zerosM.all (·.oneCell') = true from zerosM_nums.one)
  have zszh := hid (show zerosM.size = 292 by simp [zerosM])
  have hn4 : ((n : Int) != 4) = true := by simp [bne]; omega
  have HB0 := hid BX
  replace hb0 := hid hb0
  have hm0 : ∀ (ρ : Operand → Value) (dst : Option Tmp) (ty : TypeId) (pos : String) (af : Array Edge), (execOp ρ { dst := dst, op := .alloc 27, type := ty, pos := pos, after := af, guard := none }).run Try.prog w = .ok (.value (.pointer (some ⟨w.heap.size, 0, none⟩))) W0 := fun ρ dst ty pos af => by rw [← hW0]; exact mallocM _ _ _ _ _ _
  replace hm0 := hid hm0
  clear hW0 BX hlen
  go_enter Try.func11, Try.ntmps11
  have th := HB0.out.there (n := zerosM.size) rfl
  go_wp2_with (first | (refine Go.Great.wpList_runTo rfl (some 2) rfl _ _ (hm0.out _ _ _ _ _) ?_) | (refine Go.Great.wpList_runTo rfl (some 9) rfl _ _ (mbuildZ _ _ _ _ _ _) ?_) | (refine wpList_store_mid rfl 27 _ _ rfl w.heap.size 0 zerosM rfl rfl th (by rw [mtab, zszh.out]) zoneh.out ?_))
  refine bodyPost_ret (v := .tuple #[.agg zerosM, .int .i64 16]) (mresults_blk2 rfl _ _ w.heap.size zerosM _ _ rfl rfl (HB0.out.whole rfl) Try.underlying27 rfl (by rw [mtab, zszh.out])) rfl ⟨rfl, below_cells hb0.out (Nat.le_refl _) _ _⟩

set_option maxRecDepth 100000 in
set_option maxHeartbeats 8000000 in
theorem mread_any (L : List OcS) (p : Option Addr) (cap : Nat) (h1 : L.length ≤ cap) (h2 : L.length ≤ maxLen) (w : World) (R : RowOf ocT w p L) (hT : ∀ x ∈ L, x.there w) :
    Calls Try.prog 11 #[.slice p L.length cap] w (RdBad L w) := by
  obtain ⟨W0, hW0⟩ : ∃ W0, w.alloc (.cells zerosM 27) = W0 := ⟨_, rfl⟩
  have hb0 : Below w.heap.size w W0 := by rw [← hW0]; exact (Below.refl _ _).alloc (Nat.le_refl _) _
  have BX : Blk W0 w.heap.size zerosM := by rw [← hW0]; exact Blk.new w _ _
  have hs0 : W0.heap.size = w.heap.size + 1 := by rw [← hW0]; simp
  have zoneh := hid (show zerosM.all (·.oneCell') = true from zerosM_nums.one)
  have zszh := hid (show zerosM.size = 292 by simp [zerosM])
  have EB := hid (fun (h : mrB L = false) w' (hb : Below w.heap.size w w') => rdBad_of h hb)
  have EG := hid (fun (h : mrB L = true) c w' (N : Nums c .i64 292 (mrF L)) (hb : Below w.heap.size w w') => rdGood_of h N hb)
  have hB : Hid (mrB L = (decide (L.length = 4) && (mhB (ocA L 3).l && (mbAll (mhF (ocA L 3).l 0) L && mOk (mrF L))))) := hid rfl
  by_cases hlen : L.length = 4
  · have hRow : RowP w p 1 L.length (fun i => [.slice (ocA L i).a (ocA L i).l.length (ocA L i).cap]) := R
    obtain ⟨rb, ro, rfl, hR⟩ := hRow.row (by omega)
    have z3 := hR.at0 (i := 3) (by omega) (v := .slice (ocA L 3).a (ocA L 3).l.length (ocA L 3).cap) rfl
    have hrl : rb < w.heap.size := cell_lt z3
    have z30 := (hb0.cell (p := ⟨rb, ro + 3 * 1, none⟩) hrl).trans z3
    rw [Nat.mul_one] at z30
    have t3 := hT _ (ocA_mem L 3 (by omega))
    have KH := mreadHead_any (ocA L 3).l (ocA L 3).a (ocA L 3).cap t3.2.1 t3.2.2 W0 (t3.1.more hb0)
    have KB := hid (fun (g : Nat) (c : Array Value) (wx : World) (hb : Below w.heap.size w wx) (hg : w.heap.size ≤ g) (BG : Blk wx g c) (N : Nums c .i64 292 (mhF (ocA L 3).l)) =>
      callsIn_wide.1 (mreadBody_in g c (mhF (ocA L 3).l) L (some ⟨rb, ro, none⟩) cap hlen (by omega) wx BG N (RowOf.more R hb) (fun x hx => (hT x hx).more hb) (fun b o e => by cases e; omega)
        (fun x hx b o e hne => by
          rcases (hT x hx).1 with h0 | ⟨b', o', e', hlt, _⟩
          · exact absurd h0 hne
          · rw [e'] at e; cases e; omega)))
    rw [hlen] at h1 hB ⊢
    have hFd : Hid (fillAll (mhF (ocA L 3).l) (ocTx L) (tk 3) = mrF L) := hid rfl
    generalize mhB (ocA L 3).l = HB at *
    generalize mhF (ocA L 3).l = HF at *
    generalize fillAll HF (ocTx L) (tk 3) = RF at *
    have HBX := hid BX
    replace hb0 := hid hb0
    replace KH := hid KH
    have hm0 : ∀ (ρ : Operand → Value) (dst : Option Tmp) (ty : TypeId) (pos : String) (af : Array Edge), (execOp ρ { dst := dst, op := .alloc 27, type := ty, pos := pos, after := af, guard := none }).run Try.prog w = .ok (.value (.pointer (some ⟨w.heap.size, 0, none⟩))) W0 := fun ρ dst ty pos af => by rw [← hW0]; exact mallocM _ _ _ _ _ _
    replace hm0 := hid hm0
    clear hW0
    have hc4 : (4 : Int) ≤ (cap : Int) := by omega
    clear BX R hT hRow hR z3 t3 h2
    go_enter Try.func11, Try.ntmps11
    go_wp2_with (refine Go.Great.wpList_runTo rfl (some 2) rfl _ _ (hm0.out _ _ _ _ _) ?_)
    refine KH.out.mono ?_
    rintro e w1 ⟨c, rfl, N, hb1⟩
    have D1 := hid (below2 hb0.out hb1 hb0.out.size)
    have HB1 := hid (HBX.out.more hb1)
    have HN := hid N
    have honec := hid N.one
    have hszc := hid (show c.size = 292 from N.size)
    clear hb1 N HBX z30 KH
    have BT := hid (Blk.new w1 zerosM 27)
    have tht := BT.out.there (n := c.size) (by rw [hszc.out, zszh.out])
    have hgr : w1.heap.size ≠ w.heap.size := by have := HB1.out.lt; omega
    have hgr' : w.heap.size ≤ w1.heap.size := by have := HB1.out.lt; omega
    have hb3 := (Below.refl w1.heap.size w1).alloc (Nat.le_refl _) (.cells zerosM 27)
    have HB3 := hid ((HB1.out.more hb3).beside hgr 0 c.toList)
    have D3 := hid (below_cells (below2 D1.out hb3 D1.out.size) hgr' 0 c.toList)
    have BG3 := hid (BT.out.whole (d := c) (by rw [hszc.out, zszh.out]))
    clear hb3 BT HB1 D1
    cases hHB : HB with
    | false =>
      subst hHB
      have hbad := hid (show mrB L = false by rw [hB.out]; simp)
      have HBx := HB3
      have Dx := D3
      have th := HBx.out.there (n := zerosM.size) rfl
      clear BG3 KB
      go_wp2_with (first | (refine Go.Great.wpList_runTo rfl (some 4) rfl _ _ (mallocM _ _ _ _ _ _) ?_) | (refine wpList_store_mid rfl 27 _ _ rfl w1.heap.size 0 c rfl rfl tht (by rw [mtab, hszc.out]) honec.out ?_) | (refine Go.Great.wpList_runTo rfl (some 29) rfl _ _ (mbuildZ _ _ _ _ _ _) ?_) | (refine wpList_store_mid rfl 27 _ _ rfl w.heap.size 0 zerosM rfl rfl th (by rw [mtab, zszh.out]) zoneh.out ?_))
      refine bodyPost_ret (v := .tuple #[.agg zerosM, .int .i64 16]) (mresults_blk2 rfl _ _ w.heap.size zerosM _ _ rfl rfl (HBx.out.whole rfl) Try.underlying27 rfl (by rw [mtab, zszh.out])) rfl (EB.out hbad.out _ (below_cells Dx.out (Nat.le_refl _) _ _))
    | true =>
      subst hHB
      have K := hid (KB.out w1.heap.size c _ D3.out hgr' BG3.out HN.out)
      clear KB
      generalize mbAll (HF 0) L = MB at *
      go_wp2_with (first | (refine Go.Great.wpList_runTo rfl (some 4) rfl _ _ (mallocM _ _ _ _ _ _) ?_) | (refine wpList_store_mid rfl 27 _ _ rfl w1.heap.size 0 c rfl rfl tht (by rw [mtab, hszc.out]) honec.out ?_))
      refine K.out.mono ?_
      rintro e w4 ⟨rfl, S4, hM⟩
      have HB4 := hid (HB3.out.sole S4 hgr.symm)
      have D4 := hid (D3.out.trans (S4.below (B := w.heap.size) D3.out.size (fun k hk => by omega)))
      clear K HB3 D3 BG3 tht
      cases hMB : MB with
      | false =>
        subst hMB
        have hbad := hid (show mrB L = false by rw [hB.out]; simp)
        have HBx := HB4
        have Dx := D4
        clear hM S4
        have th := HBx.out.there (n := zerosM.size) rfl
        go_wp2_with (first | (refine Go.Great.wpList_runTo rfl (some 29) rfl _ _ (mbuildZ _ _ _ _ _ _) ?_) | (refine wpList_store_mid rfl 27 _ _ rfl w.heap.size 0 zerosM rfl rfl th (by rw [mtab, zszh.out]) zoneh.out ?_))
        refine bodyPost_ret (v := .tuple #[.agg zerosM, .int .i64 16]) (mresults_blk2 rfl _ _ w.heap.size zerosM _ _ rfl rfl (HBx.out.whole rfl) Try.underlying27 rfl (by rw [mtab, zszh.out])) rfl (EB.out hbad.out _ (below_cells Dx.out (Nat.le_refl _) _ _))
      | true =>
        obtain ⟨c5, B5, N5⟩ := hM hMB
        subst hMB
        have KC := hid (fun w => mcheck_any c5 RF N5 w)
        have HN5 := hid N5
        have hsz5 := hid (show c5.size = 292 from N5.size)
        have hal5 := hid (show c5.toList.length = 292 by simpa using N5.size)
        have one5 := hid N5.one
        have HB5 := hid B5
        have hr5 := hid B5.range
        clear hM S4 N5 B5
        go_wp2_with fail
        refine wp_load_mid 27 _ rfl w1.heap.size 0 rfl c5.toList _ hr5.out Try.underlying27 rfl (by rw [mtab, hal5.out]) ?_
        try simp only [Array.toArray_toList]
        go_wp2_with fail
        refine (KC.out _).mono ?_
        rintro e w6 ⟨rfl, hb6⟩
        have HB6 := hid (HB4.out.more hb6)
        have D6 := hid (below2 D4.out hb6 D4.out.size)
        have BG6 := hid (HB5.out.more hb6)
        clear hb6 KC HB4 D4 HB5 hr5
        cases hOk : mOk RF with
        | false =>
          have hC : mCk RF = 4 := by unfold mCk; rw [hOk]; rfl
          rw [hC]
          have hbad := hid (show mrB L = false by rw [hB.out, ← hFd.out, hOk]; simp)
          have HBx := HB6
          have Dx := D6
          clear hC hOk
          have th := HBx.out.there (n := zerosM.size) rfl
          go_wp2_with (first | (refine Go.Great.wpList_runTo rfl (some 29) rfl _ _ (mbuildZ _ _ _ _ _ _) ?_) | (refine wpList_store_mid rfl 27 _ _ rfl w.heap.size 0 zerosM rfl rfl th (by rw [mtab, zszh.out]) zoneh.out ?_))
          refine bodyPost_ret (v := .tuple #[.agg zerosM, .int .i64 16]) (mresults_blk2 rfl _ _ w.heap.size zerosM _ _ rfl rfl (HBx.out.whole rfl) Try.underlying27 rfl (by rw [mtab, zszh.out])) rfl (EB.out hbad.out _ (below_cells Dx.out (Nat.le_refl _) _ _))
        | true =>
          have hC : mCk RF = 0 := by unfold mCk; rw [hOk]; rfl
          rw [hC]
          have hgood := hid (show mrB L = true by rw [hB.out, ← hFd.out, hOk]; simp)
          have hr6 := hid BG6.out.range
          have th6 := HB6.out.there (n := c5.size) (by rw [hsz5.out, zszh.out])
          clear hC hOk
          go_wp2_with (first | (refine wpList_load_mid rfl 27 _ rfl w1.heap.size 0 rfl c5.toList _ hr6.out Try.underlying27 rfl (by rw [mtab, hal5.out]) ?_) | (refine wpList_store_mid rfl 27 _ _ rfl w.heap.size 0 c5 rfl rfl th6 (by rw [mtab, hsz5.out]) one5.out ?_))
          refine bodyPost_ret (v := .tuple #[.agg c5, .int .i64 0]) (mresults_blk2 rfl _ _ w.heap.size c5 _ _ rfl rfl (HB6.out.whole (by rw [hsz5.out, zszh.out])) Try.underlying27 rfl (by rw [mtab, hsz5.out])) rfl (EG.out hgood.out c5 _ (hFd.out ▸ HN5.out) (below_cells D6.out (Nat.le_refl _) _ _))
  · have hbad : mrB L = false := by rw [hB.out, decide_eq_false hlen]; rfl
    refine (mread_len L.length hlen p cap w).mono ?_
    rintro e w' ⟨rfl, hb⟩
    exact rdBad_of hbad hb
end Go.Proofs.Ytdagddahpccnkaa
