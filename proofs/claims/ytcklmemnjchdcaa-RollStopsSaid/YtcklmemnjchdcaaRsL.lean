/-
  RollStops answers true for any lists of entries and any number, and changes nothing that was there: one sector zeroed of a list that went to the log since a mark, Forward answers just what stood there ahead of that list. For every input, without a condition.
-/
import Derived.Test.YtcklmemnjchdcaaRsK
import Derived.Great.BuildSlice
import Derived.Test.YtcklmemnjchdcaaRsZ

/-
  RollStops: its mark; maps in a row; where a sector is lost.
-/


namespace Go.Proofs.Ytcklmemnjchdcaa
open Go.RowKit Go.Maps
set_option linter.unusedVariables false
set_option linter.unusedSimpArgs false

/-- Where a sector is lost, Forward knows no more than this map. -/
theorem LostAt.only {ep z : Int} {s0 : RSt} {R R2 : Int → List UInt8} {p : Plc} {fr : List Int} {x : Int} {c : Array Value} (h : LostAt ep z s0 R p fr x c) (hR : ∀ y, y ≠ x → R2 y = R y) (hx : R2 x = zerosN 256) {k : Nat} {t : RSt} (hr : reachR R2 8 z ep s0 k t) (hn : rollStep R2 8 z ep (k : Int) t = none ∨ k = 4294967295) : t.c = c := by
  obtain ⟨m, s, hm, hc, h⟩ := h
  obtain ⟨h1, h2⟩ := h R2 fun y _ hy => hR y hy
  have h3 := h2 hx
  rcases Nat.lt_trichotomy k m with hlt | rfl | hlt
  · obtain ⟨a, u, ha, hu⟩ := reach_lt _ _ h1 hlt
    rw [reach_fun _ _ _ ha hr] at hu
    rcases hn with hn | hn
    · rw [hn] at hu; cases hu
    · omega
  · rw [reach_fun _ _ _ hr h1]; exact hc
  · obtain ⟨a, u, ha, hu⟩ := reach_lt _ _ hr hlt
    rw [reach_fun _ _ _ ha h1, h3] at hu
    cases hu
def M3 : Array Value := #[.int .i64 3, .int .i64 0, .int .i64 0, .int .i64 1] ++ Array.replicate 288 (.int .i64 0)
def F3 (j : Nat) : Int := if j = 0 then 3 else if j = 3 then 1 else 0
set_option maxRecDepth 100000 in
theorem n3 : Nums M3 .i64 292 F3 := ⟨by unfold M3; rw [Array.size_append, Array.size_replicate]; rfl, fun j hj => by
  unfold M3
  by_cases h : j < 4
  · rw [Array.getElem?_append_left (by show j < 4; exact h)]
    have : j = 0 ∨ j = 1 ∨ j = 2 ∨ j = 3 := by omega
    rcases this with rfl | rfl | rfl | rfl <;> rfl
  · rw [Array.getElem?_append_right (by simp; omega)]
    unfold F3
    rw [if_neg (by omega), if_neg (by omega), Array.getElem?_replicate, if_pos (by show j - 4 < 288; omega)]⟩
theorem fit3 : fitsB 8 8 F3 = true := by
  have h3 : mOk F3 = true := by
    have h1 : (agesL F3).all (inB 4294967295) = true := by decide +kernel
    have h2 : (mapL F3).all (inB 65535) = true := by decide +kernel
    unfold mOk
    rw [h1, h2]
    decide
  have hok : okB 8 8 = true := by decide
  unfold fitsB
  rw [hok, h3]
  decide
set_option maxRecDepth 100000 in
theorem mb3 (ρ : Operand → Value) (dst : Option Tmp) (ty : TypeId) (pos : String) (af : Array Edge) (x y : Operand) (hx : ρ x = .int .i64 3) (hy : ρ y = .agg #[.int .i64 0, .int .i64 0, .int .i64 1]) (w : World) :
    (execOp ρ { dst := dst, op := .build 34 #[(0, x), (1, y)], type := ty, pos := pos, after := af, guard := none }).run Try.prog w = .ok (.value (.agg M3)) w := by
  have hb := run_build (P := Try.prog) w 34 #[(0, .int .i64 3), (1, .agg #[.int .i64 0, .int .i64 0, .int .i64 1])] M3 (by kernel_rfl)
  unfold execOp
  simp [hx, hy, hb]
theorem first3 {R : Int → List UInt8} {N : Nat} (hN : (N : Int) = 73) (hR : ∀ x : Int, 0 ≤ x → x < (N : Int) → R x = zerosN 256) {c : Array Value} : RollInv 3 8 R (rst0 c F3) ⟨0, 0, 1⟩ [2, 3, 4, 5, 6, 7] 0 (rst0 c F3) := by
  refine ⟨⟨by omega, by omega, by omega, by omega, by decide, by decide, by decide, by decide, by decide, by decide, by decide⟩, by decide, fun x hx => ?_, fun R' _ => rfl, rfl, fun x h0 h3 => by rw [hR x h0 (by omega), zerosN_len]⟩
  have hd : 0 ≤ (x - 9) / 8 ∧ (x - 9) / 8 ≤ 7 := by
    rcases hx with ⟨h, _⟩ | h
    · dsimp only at h; omega
    · simp only [List.mem_cons, List.not_mem_nil, or_false] at h
      omega
  exact hR x (by omega) (by omega)
/-- Maps in a row. -/
def mapT : RowT (Nat → Int) := { ty := 32, sl := 48, sz := 256, bytes := 2048, zero := .agg (Array.replicate 256 (.int .i64 0)), cells := fun G => (List.range 256).map fun j => .int .i64 (G j), dflt := fun _ => 0 }
theorem nums_cells {c : Array Value} {G : Nat → Int} (h : Nums c .i64 256 G) : c.toList = mapT.cells G := by
  apply List.ext_getElem?
  intro j
  by_cases hj : j < 256
  · rw [Array.getElem?_toList, h.get j hj]
    show _ = ((List.range 256).map fun j => Value.int .i64 (G j))[j]?
    rw [List.getElem?_map, List.getElem?_range hj]
    rfl
  · rw [Array.getElem?_toList, Array.getElem?_eq_none (by rw [h.size]; omega)]
    show _ = ((List.range 256).map fun j => Value.int .i64 (G j))[j]?
    rw [List.getElem?_eq_none (by simp; omega)]
set_option maxRecDepth 100000 in
theorem mapOk : mapT.Ok := ⟨Try.underlying48, by kernel_rfl, rfl, by decide, fun x => by simp [mapT], fun x u hu => by
  simp only [mapT, List.mem_map, List.mem_range] at hu
  obtain ⟨j, _, rfl⟩ := hu
  rfl⟩
theorem map_fill {c : Array Value} (h : c.size = 256) (Z : Array Value) (hZ : Z.size = 256) : Instr.fill (fun i => some (i * 256, 256)) Z [(0, .agg c)] = some c := by
  have e1 : (Value.agg c).cells = c := rfl
  unfold Instr.fill
  simp only [Nat.zero_mul]
  rw [e1, if_neg (by simp [h, hZ])]
  unfold Instr.fill
  refine congrArg some ?_
  refine Array.ext_getElem? fun k => ?_
  have f1 := fold_cells c 0 Z (by rw [hZ, h]; omega) k
  refine f1.trans ?_
  by_cases h4 : k < 256
  · rw [if_pos (by rw [h]; omega), Nat.sub_zero]
  · rw [if_neg (by rw [h]; omega), Array.getElem?_eq_none (by omega), Array.getElem?_eq_none (by omega)]
set_option maxRecDepth 100000 in
theorem mbs_run {c : Array Value} (h : c.size = 256) (ρ : Operand → Value) (dst : Option Tmp) (ty : TypeId) (pos : String) (af : Array Edge) (g : Option (Nat × Bool)) (x : Operand) (hx : ρ x = .agg c) (w : World) : (execOp ρ { dst := dst, op := .buildSlice 48 1 #[(0, x)], type := ty, pos := pos, after := af, guard := g }).run Try.prog w =
    .ok (.value (.slice (some ⟨w.heap.size, 0, none⟩) 1 1)) (w.alloc (.cells c 32)) := by
  have ht := mapOk.tab
  cases hie : Try.prog.info? 32 with
  | none =>
    rw [show mapT.ty = 32 from rfl, hie] at ht
    cases ht
  | some ie =>
    rw [show mapT.ty = 32 from rfl, hie] at ht
    simp only [Option.map_some, Option.some.injEq, Prod.mk.injEq] at ht
    obtain ⟨hz, hs, _⟩ := ht
    have hs' : ie.size = 256 := hs
    have hr := run_buildSlice (P := Try.prog) w 48 32 1 #[(0, .agg c)] c ie mapT.zero Try.underlying48 hie hz (by rw [hs']; decide) (by rw [hs']; decide) (by
      rw [hs']
      exact map_fill h _ (by simp))
    unfold execOp
    simp [hx, hr]
/-- What the law says was used. -/
def usedL (A : List Int) (z : Int) (q : Plc) : List Int := if A = [] then [9 + q.seg * z + (q.off - 1)] else A
end Go.Proofs.Ytcklmemnjchdcaa

/-
  Layer 20's own sectors: which a write used.
-/

namespace Go.Proofs.Ytcklmemnjchdcaa
open Go.RowKit Go.Maps
set_option linter.unusedVariables false
set_option linter.unusedSimpArgs false

set_option maxRecDepth 100000 in
set_option maxHeartbeats 4000000 in
theorem rsectors_any (z : Int) (hz : 4 ≤ z) (hz2 : z ≤ 32) (p q : Plc) (hs : 0 ≤ q.seg) (hs2 : q.seg < 8) (ho2 : q.off ≤ z) (ap : Option Addr) (ac : Nat) (A : List Int) (hq : A = [] → 1 ≤ q.off) (a1 : A.length ≤ ac) (a2 : ac ≤ maxLen) (hA : A.length ≤ 1000) (fp : Option Addr) (fn fc : Nat) (w : World) (RA : RowOf inT w ap A) :
    Calls Try.prog 13 #[geo 8 z, plv p.seg p.off p.next, plv q.seg q.off q.next, .slice ap A.length ac, .slice fp fn fc] w fun e w' => ∃ up uc, e = .returned (.slice up (usedL A z q).length uc) ∧ (usedL A z q).length ≤ uc ∧ uc ≤ maxLen ∧ RowOf inT w' up (usedL A z q) ∧ Below w.heap.size w w' := by
  obtain ⟨B5, B6, B7, hb⟩ := @boxed3 w _ #[.int .i64 8, .int .i64 z] #[.int .i64 p.seg, .int .i64 p.off, .int .i64 p.next] #[.int .i64 q.seg, .int .i64 q.off, .int .i64 q.next] 25 30 30 (Below.refl _ _)
  generalize hW0 : (((w.alloc (.cells #[.int .i64 8, .int .i64 z] 25)).alloc (.cells #[.int .i64 p.seg, .int .i64 p.off, .int .i64 p.next] 30)).alloc (.cells #[.int .i64 q.seg, .int .i64 q.off, .int .i64 q.next] 30)) = W0 at *
  replace hW0 := hid hW0
  have D0 := hid hb
  have RA0 := hid (RowOf.more RA hb)
  have B5h := hid B5
  clear hb RA B6
  by_cases hA0 : A = []
  · subst hA0
    have hu : usedL [] z q = [9 + q.seg * z + (q.off - 1)] := rfl
    have hof := hq rfl
    have KA := fun w => address_any 8 z q.seg (q.off - 1) w
    rw [ad_val hz hz2 hs hs2 (by omega) (by omega)] at KA
    have he : secP z ⟨q.seg, q.off - 1, 0⟩ = 9 + q.seg * z + (q.off - 1) := rfl
    rw [he] at KA
    rw [hu]
    clear hu he
    generalize adB 8 z q.seg (q.off - 1) = ab at *
    obtain ⟨x, hx⟩ : ∃ x, x = 9 + q.seg * z + (q.off - 1) := ⟨_, rfl⟩
    rw [← hx] at KA ⊢
    clear hx hq
    have hw1 : wrap64 (q.off - 1) = q.off - 1 := IntWalk.wrap64_in _ ⟨by omega, by omega⟩
    replace KA := hid KA
    obtain ⟨l5, m5, f5⟩ := B5
    obtain ⟨l7, m7, f7⟩ := B7
    go_enter Try.func13, Try.ntmps13
    go_upto_if 15 with (fail)
    rw [hW0.out]
    go_wp2_with fail
    refine (KA.out _).mono ?_
    rintro e w1 ⟨rfl, hb1⟩
    have D1 := hid (below2 D0.out hb1 D0.out.size)
    have b2 := below_al1 w1 (.cells #[.int .i64 x] 3)
    have R1 := hid (show RowOf inT _ (some ⟨w1.heap.size, 0, none⟩) [x] from rowOf_one inOk (Blk.new w1 #[.int .i64 x] 3) rfl)
    have D2 := hid (below2 D1.out b2 D1.out.size)
    clear l5 m5 f5 l7 m7 f7 hb1 b2
    go_wp2_with fail
    generalize w1.alloc (.cells #[.int .i64 x] 3) = w2 at *
    go_ret
    exact ⟨_, _, rfl, Nat.le_refl _, by unfold maxLen; decide, R1.out, D2.out⟩
  · have hu : usedL A z q = A := if_neg hA0
    rw [hu]
    have hl : (0 : Int) < (A.length : Int) := by
      cases A with
      | nil => exact absurd rfl hA0
      | cons x l => simp
    clear hu hq hA0
    go_enter Try.func13, Try.ntmps13
    go_wp2_with fail
    rw [hW0.out]
    go_ret
    exact ⟨_, _, rfl, a1, a2, RA0.out, D0.out⟩
end Go.Proofs.Ytcklmemnjchdcaa

/-
  RollStops: what its loop knows of the log.
-/

namespace Go.Proofs.Ytcklmemnjchdcaa
open Go.RowKit Go.Maps
set_option linter.unusedVariables false
set_option linter.unusedSimpArgs false

abbrev mapA (L : List (Nat → Int)) (i : Nat) : Nat → Int := atR mapT L i
/-- How many were used ahead of list j. -/
def endA (L : List Nat) (j : Nat) : Nat := L.getD j 0
structure SDat (S0 : RSt) (i : Nat) (R : Int → List UInt8) (p : Plc) (fr : List Int) (sq : Nat) (s : RSt) (Ms : List (Nat → Int)) (Us : List Int) (Es : List Nat) : Prop where
  inv : RollInv 3 8 R S0 p fr sq s
  c : Nums s.c .i64 256 (mapA Ms i)
  op : s.L = [] ∧ s.A = [] ∧ s.k = 0
  sqb : sq ≤ 40 * i
  frb : fr.length ≤ 6
  ml : Ms.length = i + 1
  el : Es.length = i + 1
  e0 : endA Es 0 = 0
  ei : endA Es i = Us.length
  em : ∀ j, j < i → endA Es j ≤ endA Es (j + 1)
  lost : ∀ t, t < Us.length → ∃ j, j < i ∧ endA Es j ≤ t ∧ t < endA Es (j + 1) ∧ ∃ c, Nums c .i64 256 (mapA Ms j) ∧ LostAt 3 8 S0 R p fr (inAt Us t) c
  rng : ∀ a ∈ Us, 0 ≤ a ∧ a < 73
  ub : Us.length ≤ 40 * i
theorem endA_old (L : List Nat) (x : Nat) {j : Nat} (h : j < L.length) : endA (L ++ [x]) j = endA L j := by
  unfold endA
  rw [List.getD_eq_getElem?_getD, List.getD_eq_getElem?_getD, List.getElem?_append_left h]
theorem endA_new (L : List Nat) (x : Nat) : endA (L ++ [x]) L.length = x := by
  unfold endA
  rw [List.getD_eq_getElem?_getD, List.getElem?_append_right (Nat.le_refl _), Nat.sub_self]
  rfl
theorem mapA_old (L : List (Nat → Int)) (x : Nat → Int) {j : Nat} (h : j < L.length) : mapA (L ++ [x]) j = mapA L j := by
  unfold mapA
  rw [atR_eq (T := mapT) _ j (by rw [List.length_append]; omega), atR_eq (T := mapT) L j h, List.getElem_append_left h]
theorem mapA_new (L : List (Nat → Int)) (x : Nat → Int) : mapA (L ++ [x]) L.length = x := by
  unfold mapA
  rw [atR_eq (T := mapT) _ L.length (by rw [List.length_append]; simp), List.getElem_append_right (Nat.le_refl _)]
  simp
theorem used_mem {A : List Int} {z : Int} {q : Plc} {a : Int} (h : a ∈ usedL A z q) : (a ∈ A ∧ A ≠ []) ∨ (A = [] ∧ a = 9 + q.seg * z + (q.off - 1)) := by
  unfold usedL at h
  split at h
  · rename_i h0
    exact .inr ⟨h0, List.mem_singleton.1 h⟩
  · rename_i h0
    exact .inl ⟨h, h0⟩
theorem used_len {A : List Int} {z : Int} {q : Plc} : 1 ≤ (usedL A z q).length ∧ ((usedL A z q).length ≤ A.length ∨ (usedL A z q).length = 1) := by
  unfold usedL
  split
  · exact ⟨Nat.le_refl _, .inr rfl⟩
  · rename_i h0
    refine ⟨?_, .inl (Nat.le_refl _)⟩
    cases A with
    | nil => exact absurd rfl h0
    | cons x l => simp
/-- The next list is in the log. -/
theorem SDat.next {S0 : RSt} {i : Nat} {R R2 : Int → List UInt8} {p q : Plc} {fr rest : List Int} {sq : Nat} {s t : RSt} {Ms : List (Nat → Int)} {Us : List Int} {Es : List Nat} {E : List En} {ps : List PtD} {A : List Int} (h : SDat S0 i R p fr sq s Ms Us Es) (hE : E ≠ []) (hp : planP 8 p fr E = some (ps, q, rest)) (hm : ps.length ≤ 40) (hA : A.length ≤ 40)
    (W : WrAt (fun x c => LostAt 3 8 S0 R p fr x c) 3 8 S0 s E true ps q rest sq ps.length R2 A q rest [] E t) :
    t.c = resA s.c (penAt E) (inAt A) A.length E.length ∧ (A = [] → 1 ≤ q.off) ∧ ∀ G, Nums t.c .i64 256 G →
    SDat S0 (i + 1) R2 q rest (sq + ps.length) t (Ms ++ [G]) (Us ++ usedL A 8 q) (Es ++ [(Us ++ usedL A 8 q).length]) := by
  have hpl := planP_cons hp hE
  obtain ⟨a1, a2, a3, a4, a5, a6⟩ := W.st.fin rfl rfl hpl
  have hof := W.off1 hpl
  have hG := W.inv.good
  have hlen := used_len (A := A) (z := 8) (q := q)
  have hUl : (Us ++ usedL A 8 q).length = Us.length + (usedL A 8 q).length := List.length_append
  refine ⟨a4, fun _ => hof, fun G hNG => ⟨W.inv, ?_, ⟨a1, a2, a3⟩, by have := h.sqb; omega, Nat.le_trans (planK_rest _ _ _ _ _ _ _ hp) h.frb, by rw [List.length_append, h.ml]; rfl, by rw [List.length_append, h.el]; rfl, ?_, ?_, fun j hj => ?_, fun u hu => ?_, fun a ha => ?_, by have := h.ub; omega⟩⟩
  · have := mapA_new Ms G
    rw [h.ml] at this
    rw [this]; exact hNG
  · rw [endA_old Es _ (by rw [h.el]; omega)]; exact h.e0
  · have := endA_new Es (Us ++ usedL A 8 q).length
    rw [h.el] at this
    exact this
  · by_cases hj2 : j < i
    · rw [endA_old Es _ (by rw [h.el]; omega), endA_old Es _ (by rw [h.el]; omega)]; exact h.em j hj2
    · obtain rfl : j = i := by omega
      have := endA_new Es (Us ++ usedL A 8 q).length
      rw [h.el] at this
      rw [this, endA_old Es _ (by rw [h.el]; omega), h.ei]
      omega
  · by_cases hu2 : u < Us.length
    · obtain ⟨j, hj, g1, g2, c, hc, hl⟩ := h.lost u hu2
      refine ⟨j, by omega, ?_, ?_, c, ?_, ?_⟩
      · rw [endA_old Es _ (by rw [h.el]; omega)]; exact g1
      · rw [endA_old Es _ (by rw [h.el]; omega)]; exact g2
      · rw [mapA_old Ms G (by rw [h.ml]; omega)]; exact hc
      · have e : inAt (Us ++ usedL A 8 q) u = inAt Us u := by
          rw [show inAt (Us ++ usedL A 8 q) u = (Us ++ usedL A 8 q)[u] from atR_eq (T := inT) _ u hu, show inAt Us u = Us[u] from atR_eq (T := inT) _ u hu2, List.getElem_append_left hu2]
        rw [e]
        exact W.carry _ _ hl
    · refine ⟨i, by omega, ?_, ?_, s.c, ?_, ?_⟩
      · rw [endA_old Es _ (by rw [h.el]; omega), h.ei]; omega
      · have := endA_new Es (Us ++ usedL A 8 q).length
        rw [h.el] at this
        rw [this]; exact hu
      · rw [mapA_old Ms G (by rw [h.ml]; omega)]; exact h.c
      · have hu3 : u - Us.length < (usedL A 8 q).length := by omega
        have e : inAt (Us ++ usedL A 8 q) u = (usedL A 8 q)[u - Us.length] := by
          rw [show inAt (Us ++ usedL A 8 q) u = (Us ++ usedL A 8 q)[u] from atR_eq (T := inT) _ u hu, List.getElem_append_right (by omega)]
        rw [e]
        rcases used_mem (List.getElem_mem hu3) with ⟨h1, _⟩ | ⟨h1, h2⟩
        · exact W.lost _ h1
        · rw [h2]; exact W.lost0 hpl h1
  · rcases List.mem_append.1 ha with ha | ha
    · exact h.rng a ha
    · rcases used_mem ha with ⟨h1, _⟩ | ⟨_, h2⟩
      · have := W.rng a h1; omega
      · have g1 := hG.s0
        have g2 := hG.sn
        have g3 := hG.oz
        rw [h2]; omega
theorem SDat.first {S0 : RSt} {R : Int → List UInt8} {p : Plc} {fr : List Int} {G : Nat → Int} (h : RollInv 3 8 R S0 p fr 0 S0) (hc : Nums S0.c .i64 256 G) (h1 : S0.L = []) (h2 : S0.A = []) (h3 : S0.k = 0) (hf : fr.length ≤ 6) : SDat S0 0 R p fr 0 S0 [G] [] [0] :=
  ⟨h, hc, ⟨h1, h2, h3⟩, Nat.zero_le _, hf, rfl, rfl, rfl, rfl, fun j hj => absurd hj (Nat.not_lt_zero _), fun t ht => absurd ht (Nat.not_lt_zero _), nofun, Nat.zero_le _⟩
end Go.Proofs.Ytcklmemnjchdcaa

/-
  RollStops: what its loop knows of memory.
-/

namespace Go.Proofs.Ytcklmemnjchdcaa
open Go.RowKit Go.Maps
set_option linter.unusedVariables false
set_option linter.unusedSimpArgs false

/-- The blocks of the four rows. -/
def rowB (fp : Option Addr) (vm vu ve : Value) (k : Nat) : Prop := (∃ o, fp = some ⟨k, o, none⟩) ∨ vm.ownBlock = some k ∨ vu.ownBlock = some k ∨ ve.ownBlock = some k
structure SMem (W wr : World) (KB : Nat → Prop) (b N c : Nat) (R : Int → List UInt8) (g8 g13 : Nat) (C : Array Value) (p : Plc) (fr : List Int) (fp : Option Addr) (fcap : Nat) (vm vu ve : Value) (Ms : List (Nat → Int)) (Us Es : List Int) : Prop where
  S : Sole (fun k => KB k ∨ k = g8 ∨ k = g13) W wr
  d : ∃ m K, DiskM wr b m K ∧ (∀ k, K k → KB k) ∧ Quiet m N R ∧ Soft m c ∧ (∀ k, rowB fp vm vu ve k → ¬ K k)
  b8 : Blk wr g8 #[.int .i64 p.seg, .int .i64 p.off, .int .i64 p.next]
  b13 : Blk wr g13 C
  row : RowOf inT wr fp fr
  fl : ∀ b' o, fp = some ⟨b', o, none⟩ → b' < wr.heap.size
  fb : ∀ b' o, fp = some ⟨b', o, none⟩ → b' ≠ g8 ∧ b' ≠ g13 ∧ vm.ownBlock ≠ some b' ∧ vu.ownBlock ≠ some b' ∧ ve.ownBlock ≠ some b'
  f1 : fr.length ≤ fcap
  f2 : fcap ≤ maxLen
  f4 : fp = none → fr = []
  m : RowOwn mapT wr W.heap.size vm Ms
  u : RowOwn inT wr W.heap.size vu Us
  e : RowOwn inT wr W.heap.size ve Es
  mu : ∀ k, vm.ownBlock = some k → vu.ownBlock ≠ some k ∧ ve.ownBlock ≠ some k
  ue : ∀ k, vu.ownBlock = some k → ve.ownBlock ≠ some k
structure SG (W : World) (KB : Nat → Prop) (g8 g13 : Nat) : Prop where
  n8 : ¬ KB g8
  n13 : ¬ KB g13
  a : g8 ≠ g13
  l8 : g8 < W.heap.size
  l13 : g13 < W.heap.size
  hi : ∀ k, W.heap.size ≤ k → KB k
section
variable {W wr w' : World} {KB : Nat → Prop} {b N c : Nat} {R : Int → List UInt8} {g8 g13 : Nat} {C : Array Value} {p : Plc} {fr : List Int} {fp : Option Addr} {fcap : Nat} {vm vu ve : Value} {Ms : List (Nat → Int)} {Us Es : List Int}
theorem SMem.more (h : SMem W wr KB b N c R g8 g13 C p fr fp fcap vm vu ve Ms Us Es) (hb : Below wr.heap.size wr w') : SMem W w' KB b N c R g8 g13 C p fr fp fcap vm vu ve Ms Us Es :=
  ⟨h.S.trans (Sole.made hb), h.d.elim fun m ⟨K, a, r⟩ => ⟨m, K, a.more hb, r⟩, h.b8.more hb, h.b13.more hb, RowOf.more h.row hb, fun b' o e => Nat.lt_of_lt_of_le (h.fl b' o e) hb.size, h.fb, h.f1, h.f2, h.f4, h.m.more hb, h.u.more hb, h.e.more hb, h.mu, h.ue⟩
theorem SMem.own_lt (h : SMem W wr KB b N c R g8 g13 C p fr fp fcap vm vu ve Ms Us Es) : ∀ k, rowB fp vm vu ve k → k < wr.heap.size := fun k hk => by
  rcases hk with ⟨o, e⟩ | e | e | e
  · exact h.fl k o e
  · exact (h.m.within k e).2
  · exact (h.u.within k e).2
  · exact (h.e.within k e).2
theorem SMem.set13 (G : SG W KB g8 g13) (h : SMem W wr KB b N c R g8 g13 C p fr fp fcap vm vu ve Ms Us Es) (d : Array Value) (hd : C.size = d.size) : SMem W (wr.setCells g13 0 d.toList) KB b N c R g8 g13 d p fr fp fcap vm vu ve Ms Us Es := by
  have S := sole_setCells (S := fun k => k = g13) rfl d.toList 0 wr
  exact ⟨h.S.trans' S (fun k _ hk => .inr (.inr hk)), h.d.elim fun m ⟨K, a, r⟩ => ⟨m, K, a.kept S (fun k hk (e : k = g13) => G.n13 (e ▸ r.1 k hk)), r⟩, h.b8.sole S G.a, h.b13.whole9 hd, r_rowp_sole h.row S (fun b' o e => (h.fb b' o e).2.1), fun b' o e => Nat.lt_of_lt_of_le (h.fl b' o e) S.size, h.fb, h.f1, h.f2, h.f4,
    h.m.sole S (fun k e (q : k = g13) => by have := (h.m.within k e).1; have := G.l13; omega), h.u.sole S (fun k e (q : k = g13) => by have := (h.u.within k e).1; have := G.l13; omega), h.e.sole S (fun k e (q : k = g13) => by have := (h.e.within k e).1; have := G.l13; omega), h.mu, h.ue⟩
theorem SMem.set8 (G : SG W KB g8 g13) (h : SMem W wr KB b N c R g8 g13 C p fr fp fcap vm vu ve Ms Us Es) (q : Plc) : SMem W (((wr.setCell ⟨g8, 0, none⟩ (.int .i64 q.seg)).setCell ⟨g8, 1, none⟩ (.int .i64 q.off)).setCell ⟨g8, 2, none⟩ (.int .i64 q.next)) KB b N c R g8 g13 C q fr fp fcap vm vu ve Ms Us Es := by
  have S := sole_setAll (S := fun k => k = g8) rfl [.int .i64 q.seg, .int .i64 q.off, .int .i64 q.next] 0 wr
  simp only [setAll, Nat.zero_add, Nat.reduceAdd] at S
  exact ⟨h.S.trans' S (fun k _ hk => .inr (.inl hk)), h.d.elim fun m ⟨K, a, r⟩ => ⟨m, K, a.kept S (fun k hk (e : k = g8) => G.n8 (e ▸ r.1 k hk)), r⟩, ((h.b8.set 0 (.int .i64 q.seg) (by simp)).set 1 (.int .i64 q.off) (by simp)).set 2 (.int .i64 q.next) (by simp), h.b13.sole S (fun e => G.a e.symm), r_rowp_sole h.row S (fun b' o e => (h.fb b' o e).1), fun b' o e => Nat.lt_of_lt_of_le (h.fl b' o e) S.size, h.fb, h.f1, h.f2, h.f4,
    h.m.sole S (fun k e (q : k = g8) => by have := (h.m.within k e).1; have := G.l8; omega), h.u.sole S (fun k e (q : k = g8) => by have := (h.u.within k e).1; have := G.l8; omega), h.e.sole S (fun k e (q : k = g8) => by have := (h.e.within k e).1; have := G.l8; omega), h.mu, h.ue⟩
/-- The used ones grow. -/
theorem SMem.growU (G : SG W KB g8 g13) (h : SMem W wr KB b N c R g8 g13 C p fr fp fcap vm vu ve Ms Us Es) {vu' : Value} {Us' : List Int} (O : RowOwn inT w' W.heap.size vu' Us') (gr : wr.grownBy w' vu.ownBlock) (mv : vu'.ownBlock = vu.ownBlock ∨ vu'.ownBlock = some wr.heap.size) : SMem W w' KB b N c R g8 g13 C p fr fp fcap vm vu' ve Ms Us' Es := by
  have S := Sole.grown (S := fun k => vu.ownBlock = some k) gr (fun k e => e)
  have hlo : ∀ k, vu.ownBlock = some k → W.heap.size ≤ k := fun k e => (h.u.within k e).1
  have key : ∀ k, k < wr.heap.size → vu.ownBlock ≠ some k → vu'.ownBlock ≠ some k := fun k hk hn e => by
    rcases mv with q | q
    · exact hn (q ▸ e)
    · rw [q] at e; cases e; omega
  refine ⟨h.S.trans' S (fun k _ hk => .inl (G.hi k (hlo k hk))), ?_, h.b8.sole S (fun e => by have := hlo _ e; have := G.l8; omega), h.b13.sole S (fun e => by have := hlo _ e; have := G.l13; omega), r_rowp_sole h.row S (fun b' o e => (h.fb b' o e).2.2.2.1), fun b' o e => Nat.lt_of_lt_of_le (h.fl b' o e) S.size, fun b' o e => by
    have q := h.fb b' o e
    exact ⟨q.1, q.2.1, q.2.2.1, key b' (h.fl b' o e) q.2.2.2.1, q.2.2.2.2⟩, h.f1, h.f2, h.f4, h.m.sole S (fun k e => (h.mu k e).1), O, h.e.sole S (fun k e q => h.ue k q e), fun k e => ⟨key k (h.m.within k e).2 (h.mu k e).1, (h.mu k e).2⟩, fun k e => ?_⟩
  · obtain ⟨m, K, a, r1, r2, r3, r4⟩ := h.d
    refine ⟨m, K, a.kept S (fun k hk e => r4 k (.inr (.inr (.inl e))) hk), r1, r2, r3, fun k hk hK => ?_⟩
    rcases hk with q | q | q | q
    · exact r4 k (.inl q) hK
    · exact r4 k (.inr (.inl q)) hK
    · rcases mv with q2 | q2
      · exact r4 k (.inr (.inr (.inl (q2 ▸ q)))) hK
      · rw [q2] at q; cases q; have := a.klt _ hK; omega
    · exact r4 k (.inr (.inr (.inr q))) hK
  · rcases mv with q | q
    · exact h.ue k (q ▸ e)
    · rw [q] at e; cases e; intro e2; have := (h.e.within _ e2).2; omega
/-- The maps grow. -/
theorem SMem.growM (G : SG W KB g8 g13) (h : SMem W wr KB b N c R g8 g13 C p fr fp fcap vm vu ve Ms Us Es) {vm' : Value} {Ms' : List (Nat → Int)} (O : RowOwn mapT w' W.heap.size vm' Ms') (gr : wr.grownBy w' vm.ownBlock) (mv : vm'.ownBlock = vm.ownBlock ∨ vm'.ownBlock = some wr.heap.size) : SMem W w' KB b N c R g8 g13 C p fr fp fcap vm' vu ve Ms' Us Es := by
  have S := Sole.grown (S := fun k => vm.ownBlock = some k) gr (fun k e => e)
  have hlo : ∀ k, vm.ownBlock = some k → W.heap.size ≤ k := fun k e => (h.m.within k e).1
  have key : ∀ k, k < wr.heap.size → vm.ownBlock ≠ some k → vm'.ownBlock ≠ some k := fun k hk hn e => by
    rcases mv with q | q
    · exact hn (q ▸ e)
    · rw [q] at e; cases e; omega
  refine ⟨h.S.trans' S (fun k _ hk => .inl (G.hi k (hlo k hk))), ?_, h.b8.sole S (fun e => by have := hlo _ e; have := G.l8; omega), h.b13.sole S (fun e => by have := hlo _ e; have := G.l13; omega), r_rowp_sole h.row S (fun b' o e => (h.fb b' o e).2.2.1), fun b' o e => Nat.lt_of_lt_of_le (h.fl b' o e) S.size, fun b' o e => by
    have q := h.fb b' o e
    exact ⟨q.1, q.2.1, key b' (h.fl b' o e) q.2.2.1, q.2.2.2⟩, h.f1, h.f2, h.f4, O, h.u.sole S (fun k e q => (h.mu k q).1 e), h.e.sole S (fun k e q => (h.mu k q).2 e), fun k e => ?_, h.ue⟩
  · obtain ⟨m, K, a, r1, r2, r3, r4⟩ := h.d
    refine ⟨m, K, a.kept S (fun k hk e => r4 k (.inr (.inl e)) hk), r1, r2, r3, fun k hk hK => ?_⟩
    rcases hk with q | q | q | q
    · exact r4 k (.inl q) hK
    · rcases mv with q2 | q2
      · exact r4 k (.inr (.inl (q2 ▸ q))) hK
      · rw [q2] at q; cases q; have := a.klt _ hK; omega
    · exact r4 k (.inr (.inr (.inl q))) hK
    · exact r4 k (.inr (.inr (.inr q))) hK
  · rcases mv with q | q
    · exact h.mu k (q ▸ e)
    · rw [q] at e; cases e
      exact ⟨fun e2 => by have := (h.u.within _ e2).2; omega, fun e2 => by have := (h.e.within _ e2).2; omega⟩
/-- The ends grow. -/
theorem SMem.growE (G : SG W KB g8 g13) (h : SMem W wr KB b N c R g8 g13 C p fr fp fcap vm vu ve Ms Us Es) {ve' : Value} {Es' : List Int} (O : RowOwn inT w' W.heap.size ve' Es') (gr : wr.grownBy w' ve.ownBlock) (mv : ve'.ownBlock = ve.ownBlock ∨ ve'.ownBlock = some wr.heap.size) : SMem W w' KB b N c R g8 g13 C p fr fp fcap vm vu ve' Ms Us Es' := by
  have S := Sole.grown (S := fun k => ve.ownBlock = some k) gr (fun k e => e)
  have hlo : ∀ k, ve.ownBlock = some k → W.heap.size ≤ k := fun k e => (h.e.within k e).1
  have key : ∀ k, k < wr.heap.size → ve.ownBlock ≠ some k → ve'.ownBlock ≠ some k := fun k hk hn e => by
    rcases mv with q | q
    · exact hn (q ▸ e)
    · rw [q] at e; cases e; omega
  refine ⟨h.S.trans' S (fun k _ hk => .inl (G.hi k (hlo k hk))), ?_, h.b8.sole S (fun e => by have := hlo _ e; have := G.l8; omega), h.b13.sole S (fun e => by have := hlo _ e; have := G.l13; omega), r_rowp_sole h.row S (fun b' o e => (h.fb b' o e).2.2.2.2), fun b' o e => Nat.lt_of_lt_of_le (h.fl b' o e) S.size, fun b' o e => by
    have q := h.fb b' o e
    exact ⟨q.1, q.2.1, q.2.2.1, q.2.2.2.1, key b' (h.fl b' o e) q.2.2.2.2⟩, h.f1, h.f2, h.f4, h.m.sole S (fun k e => (h.mu k e).2), h.u.sole S (fun k e => h.ue k e), O, fun k e => ⟨(h.mu k e).1, key k (h.m.within k e).2 (h.mu k e).2⟩, fun k e => key k (h.u.within k e).2 (h.ue k e)⟩
  obtain ⟨m, K, a, r1, r2, r3, r4⟩ := h.d
  refine ⟨m, K, a.kept S (fun k hk e => r4 k (.inr (.inr (.inr e))) hk), r1, r2, r3, fun k hk hK => ?_⟩
  rcases hk with q | q | q | q
  · exact r4 k (.inl q) hK
  · exact r4 k (.inr (.inl q)) hK
  · exact r4 k (.inr (.inr (.inl q))) hK
  · rcases mv with q2 | q2
    · exact r4 k (.inr (.inr (.inr (q2 ▸ q)))) hK
    · rw [q2] at q; cases q; have := a.klt _ hK; omega
/-- Entries went to the log. -/
theorem SMem.wrote (G : SG W KB g8 g13) (h : SMem W wr KB b N c R g8 g13 C p fr fp fcap vm vu ve Ms Us Es) {m : DM} {K : Nat → Prop} (hD : DiskM wr b m K) (hK : ∀ k, K k → KB k) (hrow : ∀ k, rowB fp vm vu ve k → ¬ K k) (S : Sole K wr w') {m2 : DM} {K2 : Nat → Prop} {R2 : Int → List UInt8} {c2 : Nat} (D2 : DiskM w' b m2 K2) (hK2 : ∀ k, K2 k → K k ∨ wr.heap.size ≤ k) (Q2 : Quiet m2 N R2) (T2 : Soft m2 c2)
    {rest : List Int} {rp : Option Addr} {rc : Nat} (OR : RowOwn inT w' wr.heap.size (.slice rp rest.length rc) rest) (hvr : ∀ k, (Value.slice rp rest.length rc).ownBlock = some k → ¬ K2 k) : SMem W w' KB b N c2 R2 g8 g13 C p rest rp rc vm vu ve Ms Us Es := by
  have hf := OR.form
  have hl8 := h.b8.lt
  have hl13 := h.b13.lt
  have hob : ∀ b' o, rp = some ⟨b', o, none⟩ → (Value.slice rp rest.length rc).ownBlock = some b' ∧ wr.heap.size ≤ b' ∧ b' < w'.heap.size := fun b' o e => by
    rcases hf with ⟨h1, _⟩ | ⟨g, cap, h1, h2, h3, _⟩
    · obtain ⟨rfl, _, _⟩ := Value.slice.inj h1
      cases e
    · obtain ⟨rfl, _, _⟩ := Value.slice.inj h1
      cases e
      exact ⟨rfl, h2, h3⟩
  obtain ⟨q, cap, hq, f1, f2, RO⟩ := RowOwn.open inOk OR
  obtain ⟨rfl, _, rfl⟩ := Value.slice.inj hq
  refine ⟨h.S.trans' S (fun k _ hk => .inl (hK k hk)), ⟨m2, K2, D2, fun k hk => (hK2 k hk).elim (hK k) (fun hk => G.hi k (Nat.le_trans h.S.size hk)), Q2, T2, fun k hk hk2 => ?_⟩, h.b8.sole S (fun hk => G.n8 (hK _ hk)), h.b13.sole S (fun hk => G.n13 (hK _ hk)), RO, fun b' o e => (hob b' o e).2.2, fun b' o e => ?_, f1, f2, fun e => ?_,
    h.m.sole S (fun k e => hrow k (.inr (.inl e))), h.u.sole S (fun k e => hrow k (.inr (.inr (.inl e)))), h.e.sole S (fun k e => hrow k (.inr (.inr (.inr e)))), h.mu, h.ue⟩
  · have old : rowB fp vm vu ve k → False := fun q => by
      rcases hK2 k hk2 with q2 | q2
      · exact hrow k q q2
      · have := h.own_lt k q; omega
    rcases hk with ⟨o, e⟩ | q | q | q
    · exact hvr k (hob k o e).1 hk2
    · exact old (.inr (.inl q))
    · exact old (.inr (.inr (.inl q)))
    · exact old (.inr (.inr (.inr q)))
  · have hb := (hob b' o e).2.1
    refine ⟨by omega, by omega, fun q => ?_, fun q => ?_, fun q => ?_⟩
    · have := (h.m.within _ q).2; omega
    · have := (h.u.within _ q).2; omega
    · have := (h.e.within _ q).2; omega
  · rcases hf with ⟨_, h2⟩ | ⟨g, cap, h1, _⟩
    · exact h2
    · obtain ⟨h3, _, _⟩ := Value.slice.inj h1
      rw [e] at h3; cases h3
end
end Go.Proofs.Ytcklmemnjchdcaa

/-
  RollStops: an empty list changes nothing; how its loop begins.
-/

namespace Go.Proofs.Ytcklmemnjchdcaa
open Go.RowKit Go.Maps
set_option linter.unusedVariables false
set_option linter.unusedSimpArgs false

theorem own_int1 (w : World) (x : Int) : RowOwn inT (w.alloc (.cells #[.int .i64 x] 3)) w.heap.size (.slice (some ⟨w.heap.size, 0, none⟩) 1 1) [x] :=
  ⟨rfl, .inr ⟨w.heap.size, 1, _, rfl, Nat.le_refl _, heap_alloc_new w _, Nat.le_refl _, by unfold maxLen; omega, rfl, rfl⟩⟩
/-- The ends as whole numbers. -/
def endsI (L : List Nat) : List Int := L.map fun (x : Nat) => (x : Int)
theorem endsI_len (L : List Nat) : (endsI L).length = L.length := List.length_map _
theorem endsI_add (L : List Nat) (x : Nat) : endsI L ++ [(x : Int)] = endsI (L ++ [x]) := by unfold endsI; rw [List.map_append]; rfl
theorem endsI_at (L : List Nat) (j : Nat) (h : j < L.length) : inAt (endsI L) j = ((endA L j : Nat) : Int) := by
  have e := atR_eq (T := inT) (endsI L) j (by rw [endsI_len]; exact h)
  refine e.trans ?_
  unfold endsI endA
  rw [List.getElem_map, List.getD_eq_getElem?_getD, List.getElem?_eq_getElem h]
  rfl
/-- An empty list: the log stands as it stood. -/
theorem SDat.same {S0 : RSt} {i : Nat} {R R2 : Int → List UInt8} {p q : Plc} {fr rest : List Int} {sq : Nat} {s t : RSt} {Ms : List (Nat → Int)} {Us : List Int} {Es : List Nat} {ps : List PtD} {A : List Int} (h : SDat S0 i R p fr sq s Ms Us Es) (hp : planP 8 p fr [] = some (ps, q, rest))
    (W : WrAt (fun x c => LostAt 3 8 S0 R p fr x c) 3 8 S0 s [] true ps q rest sq ps.length R2 A q rest [] [] t) :
    SDat S0 i R2 q rest sq t Ms Us Es ∧ t.c = s.c := by
  have h0 : ps.length = 0 := by rw [(planP_nil hp).1]; rfl
  obtain ⟨a1, a2, a3, a4, a5, a6⟩ := W.st.mid (fun hn => by have := hn.2; omega)
  have hal : A = [] := List.eq_nil_of_length_eq_zero (by rw [W.alen]; rfl)
  have hi := W.inv
  rw [h0, Nat.add_zero] at hi
  exact ⟨⟨hi, a4 ▸ h.c, ⟨a1, a2.trans hal, by rw [a3, h0]; rfl⟩, h.sqb, Nat.le_trans (planK_rest _ _ _ _ _ _ _ hp) h.frb, h.ml, h.el, h.e0, h.ei, h.em, fun u hu => by
    obtain ⟨j, g1, g2, g3, c, hc, hl⟩ := h.lost u hu
    exact ⟨j, g1, g2, g3, c, hc, W.carry _ _ hl⟩, h.rng, h.ub⟩, a4⟩
end Go.Proofs.Ytcklmemnjchdcaa

/-
  RollStops: the drawn region that makes a sector's zeros and finds its address.
-/

namespace Go.Proofs.Ytcklmemnjchdcaa
open Go.RowKit Go.Maps
set_option linter.unusedVariables false
set_option linter.unusedSimpArgs false

/-- Of six operations the last alone makes something. -/
structure IQ (W Wm : World) (V : Nat → Option Value) (D : Nat → Bool) (vs : Nat → Value) (w : World) : Prop where
  vals : Vals V D vs
  now : w = if D 5 = true then Wm else W
theorem IQ.quiet {W Wm : World} {V : Nat → Option Value} {D : Nat → Bool} {vs : Nat → Value} {w : World} (h : IQ W Wm V D vs w) (j : Nat) (v : Value) (hj : j ≠ 5) (hv : V j = some v) : IQ W Wm V (fset D j true) (fset vs j v) w :=
  ⟨h.vals.set j v (fun u hu => Option.some.inj (hv.symm.trans hu)), by rw [fset_ne D true (show 5 ≠ j from fun e => hj e.symm)]; exact h.now⟩
theorem IQ.made {W Wm : World} {V : Nat → Option Value} {D : Nat → Bool} {vs : Nat → Value} {w : World} (h : IQ W Wm V D vs w) (v : Value) (hv : V 5 = some v) : IQ W Wm V (fset D 5 true) (fset vs 5 v) Wm :=
  ⟨h.vals.set 5 v (fun u hu => Option.some.inj (hv.symm.trans hu)), by rw [fset_same]; rfl⟩
theorem IQ.ahead {W Wm : World} {V : Nat → Option Value} {D : Nat → Bool} {vs : Nat → Value} {w : World} (h : IQ W Wm V D vs w) (hD : D 5 = false) : w = W := by
  have := h.now
  rw [hD] at this
  exact this
theorem IQ.at {W Wm : World} {V : Nat → Option Value} {D : Nat → Bool} {vs : Nat → Value} {w : World} (h : IQ W Wm V D vs w) {p : Addr} {v : Value} (h1 : W.cell? p = some v) (h2 : Wm.cell? p = some v) : w.cell? p = some v := by
  rw [h.now]
  split
  · exact h2
  · exact h1
def tabS (bd : Nat) (vu : Value) (k : Int) (pa : Addr) (x : Int) (g : Nat) : Nat → Option Value
  | 0 => some (.pointer (some ⟨bd, 0, none⟩))
  | 1 => some vu
  | 2 => some (.int .i64 k)
  | 3 => some (.pointer (some pa))
  | 4 => some (.int .i64 x)
  | 5 => some (.slice (some ⟨g, 0, none⟩) 256 256)
  | _ => none
theorem SDat.mono {S0 : RSt} {i : Nat} {R : Int → List UInt8} {p : Plc} {fr : List Int} {sq : Nat} {s : RSt} {Ms : List (Nat → Int)} {Us : List Int} {Es : List Nat} (h : SDat S0 i R p fr sq s Ms Us Es) (a n : Nat) (hn : a + n ≤ i) : endA Es a ≤ endA Es (a + n) := by
  induction n with
  | zero => exact Nat.le_refl _
  | succ n ih => exact Nat.le_trans (ih (by omega)) (h.em (a + n) (by omega))
/-- In which list the k-th of the used ones is. -/
theorem SDat.which {S0 : RSt} {i : Nat} {R : Int → List UInt8} {p : Plc} {fr : List Int} {sq : Nat} {s : RSt} {Ms : List (Nat → Int)} {Us : List Int} {Es : List Nat} (H : SDat S0 i R p fr sq s Ms Us Es) {k j h : Nat} (hj : j < i) (hh : h < i) (j1 : endA Es j ≤ k) (j2 : k < endA Es (j + 1)) (h1 : endA Es h ≤ k) (h2 : ¬ endA Es (h + 1) ≤ k) : j = h := by
  rcases Nat.lt_trichotomy j h with q | q | q
  · have := H.mono (j + 1) (h - (j + 1)) (by omega)
    rw [show j + 1 + (h - (j + 1)) = h by omega] at this
    omega
  · exact q
  · have := H.mono (h + 1) (j - (h + 1)) (by omega)
    rw [show h + 1 + (j - (h + 1)) = j by omega] at this
    omega
end Go.Proofs.Ytcklmemnjchdcaa

/-
  RollStops: the last drawn region: the map that was found against the map that stood there ahead of the list.
-/

namespace Go.Proofs.Ytcklmemnjchdcaa
open Go.RowKit Go.Maps
set_option linter.unusedVariables false
set_option linter.unusedSimpArgs false

theorem wanted_if {ops : Array Oper} {o : Oper} {tm : Array Value} {j : Nat} {t : Tmp} (hg : o.guard = some (j, true)) (hd : (ops[j]?).bind (·.dst) = some t) (hv : tm[t]?.getD undef = .bool true) : Region.wanted o (yielded ops tm) = true := by
  have h : tm[t]? = some (.bool true) := by
    cases e : tm[t]? with
    | none => rw [e] at hv; cases hv
    | some v => rw [e] at hv; exact congrArg some hv
  simp [Region.wanted, hg, yielded, hd, h]
theorem Vals.put {V : Nat → Option Value} {D : Nat → Bool} {vs : Nat → Value} (h : Vals V D vs) (j : Nat) (v : Value) (hv : V j = some v) : Vals V (fset D j true) (fset vs j v) :=
  h.set j v (fun u hu => Option.some.inj (hv.symm.trans hu))
/-- Of eleven operations the values. -/
def tabL (g : Nat) (vm : Value) (j : Int) (pa : Addr) (c : Array Value) : Nat → Option Value
  | 0 => some (.int .i64 0)
  | 1 => some (.bool true)
  | 2 => some (.bool true)
  | 3 => some (.pointer (some ⟨g, 0, none⟩))
  | 4 => some (.agg c)
  | 5 => some vm
  | 6 => some (.int .i64 j)
  | 7 => some (.pointer (some pa))
  | 8 => some (.agg c)
  | 9 => some (.bool true)
  | 10 => some (.bool true)
  | _ => none
/-- The i-th map of a row, as it is loaded. -/
theorem map_range {w : World} {b o n : Nat} {Ms : List (Nat → Int)} (h : Row w b o 256 n (fun i => mapT.cells (mapA Ms i))) {i : Nat} (hi : i < n) {c : Array Value} (hc : Nums c .i64 256 (mapA Ms i)) : w.rangeAt b (o + i * 256) c.toList := by
  rw [nums_cells hc]
  exact fun j v hv => h.cell i hi j v hv
end Go.Proofs.Ytcklmemnjchdcaa

/-
  Layer 20: where a sector of the log is lost, what was whole ahead of it is found, and nothing behind it.
-/

namespace Go.Proofs.Ytcklmemnjchdcaa
open Go.RowKit Go.Maps
set_option linter.unusedVariables false
set_option linter.unusedSimpArgs false

set_option maxRecDepth 100000 in
set_option maxHeartbeats 16000000 in
theorem rollStops (lp : Option Addr) (lc : Nat) (Ls : List EnS) (h1 : Ls.length ≤ lc) (h2 : lc ≤ maxLen) (wh : Int) (hwh : (Lit.int .i64 wh).wf = true) (w : World) (RX : RowOf esT w lp Ls) (hX : ∀ x ∈ Ls, x.there w) :
    Calls Try.prog 4 #[.slice lp Ls.length lc, .int .i64 wh] w fun e w' => e = .returned (.bool true) ∧ Below w.heap.size w w' := by
  have KA := hid (fun w => alive20 w)
  have RXh := hid RX
  have hXh := hid hX
  have hl63 : (Ls.length : Int) ≤ 9223372036854775807 := by unfold maxLen at h2; omega
  have hcap := hid (And.intro h1 h2)
  replace hwh := hid hwh
  clear h1 h2 RX hX
  go_enter Try.func4, Try.ntmps4
  go_wp2_with fail
  refine (KA.out _).mono ?_
  rintro e w1 ⟨rfl, hb1⟩
  have D1 := hid hb1
  have RX1 := hid (RowOf.more RXh.out hb1)
  have hX1 := hid (fun x hx => (hXh.out x hx).more hb1)
  clear hb1 KA RXh hXh
  go_wp2_with fail
  have hsec : secI 8 8 = 73 := by decide
  have KS := fun w => lsectors_any 8 8 w
  rw [hsec] at KS
  have b2 := below_al1 w1 (.cells #[.int .i64 8, .int .i64 8] 25)
  have B7 := hid (Blk.new w1 #[.int .i64 8, .int .i64 8] 25)
  have D2 := hid (below2 D1.out b2 D1.out.size)
  have RX2 := hid (RowOf.more RX1.out b2)
  have hX2 := hid (fun x hx => (hX1.out x hx).more b2)
  have hg5 := hid D1.out.size
  clear b2 D1 RX1 hX1 hsec
  generalize w1.alloc (.cells #[.int .i64 8, .int .i64 8] 25) = W2 at *
  generalize w1.heap.size = g5 at *
  refine (KS _).mono ?_
  rintro e w3 ⟨rfl, hb3⟩
  have D3 := hid (below2 D2.out hb3 D2.out.size)
  have B73 := hid (B7.out.more hb3)
  have RX3 := hid (RowOf.more RX2.out hb3)
  have hX3 := hid (fun x hx => (hX2.out x hx).more hb3)
  have KN := hid (dnew_any 73 w3)
  clear hb3 D2 RX2 hX2 KS B7
  go_wp2_with fail
  refine KN.out.mono ?_
  rintro e w4 ⟨Lz, rfl, DD, ND, hb4⟩
  obtain ⟨N, hN⟩ : ∃ N, N = sectorsN 73 := ⟨_, rfl⟩
  have hNz : (N : Int) = 73 := by rw [hN]; unfold sectorsN; omega
  rw [← hN] at DD ND
  have D4 := hid (below2 D3.out hb4 D3.out.size)
  have B74 := hid (B73.out.more hb4)
  have RX4 := hid (RowOf.more RX3.out hb4)
  have hX4 := hid (fun x hx => (hX3.out x hx).more hb4)
  have hlo := hid (show g5 < w3.heap.size from B73.out.lt)
  have hR0 := hid (show ∀ x : Int, 0 ≤ x → x < (N : Int) → (((newM w3.heap.size N Lz).cur x).l) = zerosN 256 from fun x h0 h1 => by
    show (ocA Lz x.toNat).l = _
    exact ND.Z _ (ocA_mem Lz x.toNat (by have := ND.S; show x.toNat < Lz.length; have h3 : Lz.length = N := this; omega)))
  have hQ0 := hid (show Quiet (newM w3.heap.size N Lz) N (fun x => ((newM w3.heap.size N Lz).cur x).l) from ⟨rfl, rfl, ND.S, fun _ => rfl⟩)
  have hT0 := hid (show Soft (newM w3.heap.size N Lz) 0 from ⟨rfl, Nat.le_refl _, Nat.le_refl _⟩)
  have DDh := hid DD
  have hNh := hid hNz
  have lo3 := hid (show (∀ b' o, lp = some ⟨b', o, none⟩ → Ls.length ≠ 0 → b' < w3.heap.size) ∧ (∀ x ∈ Ls, ∀ b' o, x.a = some ⟨b', o, none⟩ → x.l ≠ [] → b' < w3.heap.size) from ⟨fun b' o e hn => by
    rcases RX3.out with h0 | ⟨b2, o2, e2, R2⟩
    · exact absurd h0 hn
    · rw [e] at e2; cases e2; exact R2.lt, fun x hx b' o e hne => by
    rcases (hX3.out x hx).row with h0 | ⟨b2, o2, e2, R2⟩
    · exact absurd (List.eq_nil_of_length_eq_zero h0) hne
    · rw [e] at e2; cases e2; exact R2.lt⟩)
  clear hb4 D3 B73 RX3 hX3 KN DD ND hN hNz
  obtain ⟨m0, hm0⟩ : ∃ m, m = newM w3.heap.size N Lz := ⟨_, rfl⟩
  rw [← hm0] at hQ0 hT0 DDh hR0
  clear hm0
  generalize w3.heap.size = H3 at *
  generalize H3 + 3 = bd at *
  -- the mark
  obtain ⟨M, hM⟩ : ∃ M, M = M3 := ⟨_, rfl⟩
  have hbu := hid (fun ρ dst ty pos af x y hx hy w => (hM ▸ mb3 ρ dst ty pos af x y hx hy w : (execOp ρ { dst := dst, op := .build 34 #[(0, x), (1, y)], type := ty, pos := pos, after := af, guard := none }).run Try.prog w = .ok (.value (.agg M)) w))
  have hMn := hid (show Nums M .i64 292 F3 from hM ▸ n3)
  clear hM
  obtain ⟨Zm, hZm⟩ : ∃ Z, Z = zerosM := ⟨_, rfl⟩
  have hal := hid (fun ρ dst ty pos af W => (hZm ▸ malloc7 ρ dst ty pos af W : (execOp ρ { dst := dst, op := .alloc 34, type := ty, pos := pos, after := af, guard := none }).run Try.prog W = .ok (.value (.pointer (some ⟨W.heap.size, 0, none⟩))) (W.alloc (.cells Zm 34))))
  have hms := hid (show M.size = 292 from hMn.out.size)
  have hmo := hid (show M.all (·.oneCell') = true from hMn.out.one)
  have BF := Blk.new w4 Zm 34
  have hzs : Zm.size = M.size := by rw [hms.out, hZm]; exact zm_size
  have th := BF.there (n := M.size) hzs.symm
  have BM := hid (BF.whole9 (C := M) hzs)
  have ba := below_al1 w4 (.cells Zm 34)
  have b5 := hid (below_cells (ba.mono (Nat.le_refl _)) (Nat.le_refl _) 0 M.toList)
  clear BF hzs ba hZm
  go_upto_region 6 with (first | (refine Go.Great.wpList_runTo rfl (some 34) rfl _ _ (hbu.out _ _ _ _ _ _ _ rfl rfl _) ?_) | (refine Go.Great.wpList_runTo rfl (some 7) rfl _ _ (hal.out _ _ _ _ _ _) ?_; refine wpList_store_mid rfl 34 _ _ rfl w4.heap.size 0 M rfl rfl th (by rw [marktab, hms.out]) hmo.out ?_; generalize World.setCells _ _ _ _ = W5 at *; clear th hal hbu))
  have D5 := hid (below2 D4.out b5.out D4.out.size)
  have B75 := hid (B74.out.more b5.out)
  have RX5 := hid (RowOf.more RX4.out b5.out)
  have hX5 := hid (fun x hx => (hX4.out x hx).more b5.out)
  have DD5 := hid (DDh.out.more b5.out)
  have hlo4 := hid (show H3 < w4.heap.size from by have := DDh.out.kk _ (.inl rfl); have h2 := DDh.out.klt _ this; have h3 := this.1; omega)
  have hw4 := hid D4.out.size
  clear D4 B74 RX4 hX4 DDh b5 hmo
  generalize w4.heap.size = g7 at *
  have NC := hMn
  obtain ⟨cm, hcm⟩ : ∃ cm, cm = M.extract 36 292 := ⟨_, rfl⟩
  have hcn := hid (show Nums cm .i64 256 (fun j => F3 (36 + j)) from hcm ▸ map_nums NC.out)
  have hcs := hid hcn.out.size
  have hrm := hid (fun (W : World) (B : Blk W g7 M) => show W.rangeAt g7 36 cm.toList from fun j v hv => by
    have hj : j < 256 := by
      have := (List.getElem?_eq_some_iff.1 hv).1
      simpa [hcs.out] using this
    have hv' : (M.extract 36 292)[j]? = some v := by rw [← hcm]; simpa using hv
    rw [Array.getElem?_extract, if_pos (by rw [NC.out.size]; omega)] at hv'
    rw [B.cell]
    exact hv')
  have hcm' := hid hcm
  have c1 : W5.cell? ⟨g7, 1, none⟩ = some (.int .i64 0) := (BM.out.cell 1).trans (hMn.out.get 1 (by omega))
  have c2 : W5.cell? ⟨g7, 2, none⟩ = some (.int .i64 0) := (BM.out.cell 2).trans (hMn.out.get 2 (by omega))
  have c3 : W5.cell? ⟨g7, 3, none⟩ = some (.int .i64 1) := (BM.out.cell 3).trans (hMn.out.get 3 (by omega))
  have hl7 := BM.out.lt
  clear hcm hMn hms
  have b6 := below_al1 W5 (.cells #[.int .i64 2, .int .i64 3, .int .i64 4, .int .i64 5, .int .i64 6, .int .i64 7] 3)
  have Bf := Blk.new W5 #[.int .i64 2, .int .i64 3, .int .i64 4, .int .i64 5, .int .i64 6, .int .i64 7] 3
  have b7 := below_al1 (W5.alloc (.cells #[.int .i64 2, .int .i64 3, .int .i64 4, .int .i64 5, .int .i64 6, .int .i64 7] 3)) (.cells #[.int .i64 0, .int .i64 0, .int .i64 1] 30)
  have B8 := Blk.new (W5.alloc (.cells #[.int .i64 2, .int .i64 3, .int .i64 4, .int .i64 5, .int .i64 6, .int .i64 7] 3)) #[.int .i64 0, .int .i64 0, .int .i64 1] 30
  rw [show (W5.alloc (.cells #[.int .i64 2, .int .i64 3, .int .i64 4, .int .i64 5, .int .i64 6, .int .i64 7] 3)).heap.size = W5.heap.size + 1 by simp] at B8
  have b67 := hid (below2 b6 b7 b6.size)
  have Bfh := hid (Bf.more b7)
  have B8h := hid B8
  clear b6 b7 Bf B8
  go_upto_region 9 with (fail)
  clear c1 c2 c3 hl7
  have BM6 := BM.out.more b67.out
  have D6 := hid (below2 D5.out b67.out D5.out.size)
  have B76 := hid (B75.out.more b67.out)
  have RX6 := hid (RowOf.more RX5.out b67.out)
  have hX6 := hid (fun x hx => (hX5.out x hx).more b67.out)
  have DD6 := hid (DD5.out.more b67.out)
  have hg7w := hid (show g7 < W5.heap.size from BM.out.lt)
  clear BM D5 B75 RX5 hX5 DD5 b67
  generalize (W5.alloc (.cells #[.int .i64 2, .int .i64 3, .int .i64 4, .int .i64 5, .int .i64 6, .int .i64 7] 3)).alloc (.cells #[.int .i64 0, .int .i64 0, .int .i64 1] 30) = W6 at *
  generalize W5.heap.size = gf at *
  have h86 := hid (show gf + 1 < W6.heap.size from B8h.out.lt)
  obtain ⟨Z2, hZ2⟩ : ∃ c : Array Value, c = Array.replicate 256 (.int .i64 0) := ⟨_, rfl⟩
  have hz2s := hid (show Z2.size = 256 by rw [hZ2]; simp)
  have hal2 := hid (fun ρ dst ty pos af W => (hZ2 ▸ alloc256n ρ dst ty pos af W : (execOp ρ { dst := dst, op := .alloc 32, type := ty, pos := pos, after := af, guard := none }).run Try.prog W = .ok (.value (.pointer (some ⟨W.heap.size, 0, none⟩))) (W.alloc (.cells Z2 32))))
  clear hZ2
  have hr6 := hid (hrm.out W6 BM6)
  have BZ := Blk.new W6 Z2 32
  have th := BZ.there (n := cm.size) (by rw [hcs.out, hz2s.out])
  have B13 := hid (BZ.whole9 (C := cm) (by rw [hcs.out, hz2s.out]))
  have ba := below_al1 W6 (.cells Z2 32)
  have b13 := hid (below_cells (ba.mono (Nat.le_refl _)) (Nat.le_refl _) 0 cm.toList)
  have BM6h := hid BM6
  clear BZ ba BM6
  go_upto_region 10 with (first | (refine rwpList_loadAt rfl 32 _ rfl g7 36 rfl cm _ hr6.out Try.underlying32 rfl (by rw [maptab, hcs.out]) ?_) | (refine Go.Great.wpList_runTo rfl (some 13) rfl _ _ (hal2.out _ _ _ _ _ _) ?_; refine wpList_store_mid rfl 32 _ _ rfl W6.heap.size 0 cm rfl rfl th (by rw [maptab, hcs.out]) hcn.out.one ?_; generalize World.setCells _ _ _ _ = W7 at *; clear th hal2))
  have D7 := hid (below2 D6.out b13.out D6.out.size)
  have B77 := hid (B76.out.more b13.out)
  have BM7 := hid (BM6h.out.more b13.out)
  have RX7 := hid (RowOf.more RX6.out b13.out)
  have hX7 := hid (fun x hx => (hX6.out x hx).more b13.out)
  have DD7 := hid (DD6.out.more b13.out)
  have B87 := hid (B8h.out.more b13.out)
  have Bf7 := hid (Bfh.out.more b13.out)
  have h137 := hid (show W6.heap.size < W7.heap.size from B13.out.lt)
  clear D6 B76 BM6h RX6 hX6 DD6 B8h Bfh b13 hr6 hrm
  generalize W6.heap.size = g13 at *
  have bm := below_al1 W7 (.cells cm 32)
  have RM : RowOf mapT _ (some ⟨W7.heap.size, 0, none⟩) [fun j => F3 (36 + j)] := rowOf_one mapOk (Blk.new W7 cm 32) (nums_cells hcn.out)
  obtain ⟨v9, w9, hr9, O9, gr9, mv9⟩ := append_row mapOk W7.heap.size 48 (W7.alloc (.cells cm 32)) (.slice none 0 0) [] (RowOwn.nil _ _) (some ⟨W7.heap.size, 0, none⟩) 1 [fun j => F3 (36 + j)] RM (by show (0 + 1) * 2048 ≤ _; omega) (by unfold maxLen; simp) bm.size
  have S9 := Sole.grown (S := fun _ => False) gr9 (fun k e => by cases e)
  have b79 := hid (below2 bm (S9.below (B := (W7.alloc (.cells cm 32)).heap.size) (Nat.le_refl _) (fun k h => h.elim)) bm.size)
  obtain ⟨p9, c9, hv9, m1, m2, _⟩ := RowOwn.open mapOk O9
  subst hv9
  have O9h := hid O9
  have hmb := hid (fun ρ dst ty pos af g x hx W => mbs_run hcs.out ρ dst ty pos af g x hx W)
  clear bm RM gr9 mv9 S9 O9 m1 m2
  go_upto_region 11 with (first | (refine rwpList_load rfl 32 _ rfl g13 rfl cm _ B13.out Try.underlying32 rfl (by rw [maptab, hcs.out]) ?_) | (refine Go.Great.wpList_runTo rfl (some 42) rfl _ _ (hmb.out _ _ _ _ _ _ _ rfl _) ?_) | (at_builtin; refine Lib.wpList_append_run _ rfl _ _ _ _ rfl _ _ rfl rfl _ _ hr9 ?_))
  have ba := below_al1 w9 (.cells #[.int .i64 0] 3)
  have OE := hid ((own_int1 w9 0).mono b79.out.size)
  have O9w := hid (O9h.out.more ba)
  have O9l := hid O9h.out.within
  have b7W := hid (below2 b79.out ba b79.out.size)
  have h914 := hid (show W7.heap.size ≤ w9.heap.size from b79.out.size)
  have hcmp := hid hcm'
  clear ba O9h b79
  go_upto_region 12 with (fail)
  generalize w9.heap.size = g14 at *
  generalize w9.alloc (.cells #[.int .i64 0] 3) = W8 at *
  obtain ⟨S0, hS0⟩ : ∃ S, S = rst0 M F3 := ⟨_, rfl⟩
  have hF3 : F3 0 = 3 := rfl
  have KF := hid (fun (m : DM) (K : Nat → Prop) (W : World) (D : DiskM W bd m K) (R : Int → List UInt8) (Q : Quiet m N R) (c : Nat) (T : Soft m c) (hR : ∀ x, 0 ≤ x → x < (N : Int) → (R x).length = 256) => rforward_any m bd K W D Q T hR 8 8 hNh.out (by have := hNh.out; omega) M F3 NC.out fit3)
  rw [hF3, ← hS0] at KF
  have hs0c : S0.c = cm := by rw [hS0, hcm'.out]; rfl
  have hst := hid (show SDat S0 0 (fun x => ((m0.cur x).l)) ⟨0, 0, 1⟩ [2, 3, 4, 5, 6, 7] 0 S0 [fun j => F3 (36 + j)] [] [0] from SDat.first (by rw [hS0]; exact first3 hNh.out hR0.out) (by rw [hs0c]; exact hcn.out) (by rw [hS0]; rfl) (by rw [hS0]; rfl) (by rw [hS0]; rfl) (by decide))
  obtain ⟨KB, hKB⟩ : ∃ KB : Nat → Prop, KB = fun k => (H3 ≤ k ∧ k < g7) ∨ W7.heap.size ≤ k := ⟨_, rfl⟩
  have hKBn := hid (fun k (h : KB k) => show (H3 ≤ k ∧ k < g7) ∨ W7.heap.size ≤ k by rw [hKB] at h; exact h)
  have hKBi := hid (fun k (h : (H3 ≤ k ∧ k < g7) ∨ W7.heap.size ≤ k) => show KB k by rw [hKB]; exact h)
  have h8w := hid (show gf + 1 < W7.heap.size from B87.out.lt)
  have h136 := hid (show gf + 1 < g13 from h86.out)
  have h7f := hid (show g7 < gf from hg7w.out)
  have hsm := hid (show SMem W7 W8 KB bd N 0 (fun x => ((m0.cur x).l)) (gf + 1) g13 S0.c ⟨0, 0, 1⟩ [2, 3, 4, 5, 6, 7] (some ⟨gf, 0, none⟩) 6 (.slice p9 1 c9) (.slice none 0 0) (.slice (some ⟨g14, 0, none⟩) 1 1) [fun j => F3 (36 + j)] [] [0] by
    have hD := DD7.out.more b7W.out
    have h8 := h8w.out
    have h13 := h137.out
    have h136' := h136.out
    have h7 := h7f.out
    have hw9 := h914.out
    have hwt := b7W.out.size
    refine ⟨Sole.made b7W.out, ⟨m0, _, hD, fun k hk => hKBi.out k (.inl hk), hQ0.out, hT0.out, fun k hk hk2 => ?_⟩, B87.out.more b7W.out, by rw [hs0c]; exact B13.out.more b7W.out, ?_, fun b' o e => by cases e; omega, fun b' o e => ?_, Nat.le_refl _, by unfold maxLen; omega, nofun, O9w.out, RowOwn.nil _ _, OE.out, fun k hk => ⟨by simp [Value.ownBlock], fun e => ?_⟩, fun k e => by simp [Value.ownBlock] at e⟩
    · have hk3 : k < g7 := hk2.2
      rcases hk with ⟨o, e⟩ | e | e | e
      · cases e; omega
      · have := (O9w.out.within k e).1; omega
      · simp [Value.ownBlock] at e
      · have e2 := own_g e; omega
    · refine .inr ⟨gf, 0, rfl, (Bf7.out.more b7W.out).lt, fun i hi j u hu => ?_⟩
      have hj : j = 0 := by
        rcases j with _ | j
        · rfl
        · simp [inT] at hu
      subst hj
      have hi4 : i < 6 := hi
      rw [show 0 + i * inT.sz + 0 = i by show 0 + i * 1 + 0 = i; omega, (Bf7.out.more b7W.out).cell i]
      rcases (show i = 0 ∨ i = 1 ∨ i = 2 ∨ i = 3 ∨ i = 4 ∨ i = 5 by omega) with rfl | rfl | rfl | rfl | rfl | rfl <;> exact hu
    · cases e
      refine ⟨by omega, by omega, fun e => ?_, by simp [Value.ownBlock], fun e => ?_⟩
      · have := (O9w.out.within _ e).1; omega
      · have e2 := own_g e; omega
    · have := O9l.out k hk
      have e2 := own_g e
      omega)
  have hFG := hid (show SG W7 KB (gf + 1) g13 by
    have h8 := h8w.out
    have h13 := h137.out
    have h136' := h136.out
    have h7 := h7f.out
    refine ⟨fun h => ?_, fun h => ?_, by omega, by omega, by omega, fun k hk => hKBi.out k (.inr hk)⟩ <;> rcases hKBn.out _ h with q | q <;> omega)
  clear hS0 hs0c hKB hR0 hQ0 hT0 DD7 B87 B13 Bf7 hcn OE O9w O9l hF3
  have hwH := hid (show w.heap.size ≤ H3 by have := hg5.out; have := hlo.out; omega)
  have hKBw := hid (fun k (h : KB k) => show w.heap.size ≤ k by have := hwH.out; have h2 := h914.out; have h3 := hw4.out; have h4 := h7f.out; have h5 := h8w.out; rcases hKBn.out k h with q | q <;> omega)
  have hKB9 := hid (fun k (h : KB k ∨ k = gf + 1 ∨ k = g13) => show (H3 ≤ k ∧ k ≠ g7) by
    have h3 := h7f.out
    have h4 := hlo4.out
    have h5 := h8w.out
    have h6 := h136.out
    rcases h with h | h | h
    · rcases hKBn.out k h with q | q <;> omega
    · omega
    · omega)
  go_wp2_with fail
  go_loopw [9, 10, 11, 12, 14, 15] (fun sf sn sm su se si wr => ∃ (i : Nat) (R : Int → List UInt8) (p : Plc) (fr : List Int) (sq : Nat) (s' : RSt) (fp : Option Addr) (fcap : Nat) (Ms : List (Nat → Int)) (Us : List Int) (Es : List Nat), i ≤ Ls.length ∧ i ≤ 4 ∧ si = .int .i64 (i : Int) ∧ sn = .int .i64 (sq : Int) ∧ sf = .slice fp fr.length fcap ∧ SDat S0 i R p fr sq s' Ms Us Es ∧ SMem W7 wr KB bd N (80 * i) R (gf + 1) g13 s'.c p fr fp fcap sm su se Ms Us (endsI Es)) (fun _ _ _ _ _ si _ => 5 - (intOf si).toNat)
  case atStart => exact ⟨0, _, ⟨0, 0, 1⟩, [2, 3, 4, 5, 6, 7], 0, S0, some ⟨gf, 0, none⟩, 6, _, _, _, Nat.zero_le _, by omega, rfl, rfl, rfl, hst.out, hsm.out⟩
  case round =>
    obtain ⟨i, R, p, fr, sq, s', fp, fcap, Ms, Us, Es, hi, hi5, rfl, rfl, rfl, DA, WM⟩ := hrel
    obtain ⟨WR, rfl⟩ : ∃ W, W = wr := ⟨_, rfl⟩
    have hi5h := hid hi5
    have hDA := hid DA
    have hWT := hid WM
    have Dt := hid (D7.out.trans (WM.S.below (B := w.heap.size) D7.out.size (fun k hk => by have := (hKB9.out k hk).1; have := hwH.out; omega)))
    have B7t := hid (B77.out.sole WM.S (fun hk => by have := (hKB9.out _ hk).1; have := hlo.out; omega))
    have BMt := hid (BM7.out.sole WM.S (fun hk => (hKB9.out _ hk).2 rfl))
    clear DA WM hst hsm
    by_cases hlt : i < Ls.length
    · have hlti : (i : Int) < (Ls.length : Int) := by omega
      by_cases hlt5 : i < 4
      · have hlt5i : (i : Int) < 4 := by omega
        have hn0 : Ls.length ≠ 0 := by omega
        obtain ⟨be, oe, hlp, re⟩ := RowP.row (RowP.apart RX7.out hWT.out.S (fun b' o e hn hk => by have h1 := lo3.out.1 b' o e hn; have h2 := (hKB9.out b' hk).1; omega)) hn0
        subst hlp
        have hxm : esA Ls i ∈ Ls := atR_mem (T := esT) Ls i hlt
        have hx : EnS.there WR (esA Ls i) := ⟨RowP.apart (hX7.out _ hxm).row hWT.out.S (fun b' o e hn hk => by have h1 := lo3.out.2 _ hxm b' o e (fun h0 => hn (by rw [h0]; rfl)); have h2 := (hKB9.out b' hk).1; omega), (hX7.out _ hxm).h1, (hX7.out _ hxm).h2⟩
        have z0 : WR.cell? ⟨be, oe + i, none⟩ = some (.slice (esA Ls i).a (esA Ls i).l.length (esA Ls i).cap) := by
          have := re.at0 hlt (v := .slice (esA Ls i).a (esA Ls i).l.length (esA Ls i).cap) rfl
          simpa [esT] using this
        have KE := hid (entries_any (esA Ls i).a (esA Ls i).cap (esA Ls i).l hx.h1 hx.h2 WR hx.row)
        have hlth := hid hlt
        have hlt5h := hid hlt5
        generalize esA Ls i = x at *
        clear hx hxm re hn0 hi hi5 hlt hlt5
        go_wp2_with fail
        refine KE.out.mono ?_
        rintro e w5 ⟨ve, E, rfl, OE, hE40, hEg, hb5⟩
        obtain ⟨ep, ec, rfl, e1, e2, RE⟩ := RowOwn.open enOk OE
        have WM5 := hid (hWT.out.more hb5)
        have hE63 : (E.length : Int) ≤ 40 := by omega
        have b16 := below_al1 w5 (.cells #[.int .i64 p.seg, .int .i64 p.off, .int .i64 p.next] 30)
        have B17 := hid (Blk.new w5 #[.int .i64 p.seg, .int .i64 p.off, .int .i64 p.next] 30)
        have WM6 := hid (WM5.out.more b16)
        have RE6 := hid (RowOf.more RE b16)
        have hb56 := hid (below2 hb5 b16 hb5.size)
        have B76 := hid (B7t.out.more hb56.out)
        have h517 := hid (show WR.heap.size ≤ w5.heap.size from hb5.size)
        have OEb := hid (fun b' o (e : ep = some ⟨b', o, none⟩) (hn : E.length ≠ 0) => show WR.heap.size ≤ b' by
          rcases OE.form with ⟨_, h0⟩ | ⟨g, cap, h1, h2, _⟩
          · exact absurd (by rw [h0]; rfl) hn
          · obtain ⟨h3, _, _⟩ := Value.slice.inj h1
            rw [e] at h3
            cases h3
            exact h2)
        have e12 := hid (And.intro e1 e2)
        have hE40h := hid (And.intro hE40 hEg)
        obtain ⟨l8, m8, f8⟩ := WM5.out.b8
        clear OE RE hEg z0 KE hb5 e1 e2 hE40 b16
        go_upto_region 17 with (fail)
        clear l8 m8 f8 WM5
        generalize hg17 : w5.heap.size = g17 at *
        generalize w5.alloc (.cells #[.int .i64 p.seg, .int .i64 p.off, .int .i64 p.next] 30) = w6 at *
        have KW1 := hid (fun (m : DM) (K : Nat → Prop) (D : DiskM w6 bd m K) (Q : Quiet m N R) (T : Soft m (80 * i)) => rwrite_any m bd K w6 D Q T (by have := hlt5h.out; omega) 8 (by decide) hNh.out 3 (by decide) (by decide) S0 s' p fr sq (by have := hDA.out.sqb; have := hlt5h.out; omega) hDA.out.inv hDA.out.op.1 hDA.out.op.2.1 hDA.out.op.2.2 (fun x c => LostAt 3 8 S0 R p fr x c) (fun _ _ h => h) fp fcap WM6.out.f1 WM6.out.f2 (by have := hDA.out.frb; omega) WM6.out.f4 WM6.out.row ep ec E e12.out.1 e12.out.2 hE40h.out.1 hE40h.out.2 RE6.out true)
        obtain ⟨m1, K1, hd0, hK1, hQ1, hT1, hrw1⟩ := hWT.out.d
        have hd1 := hd0.more hb56.out
        have klt1 := hid (fun k (hk : K1 k) => hd0.klt k hk)
        have KW := hid (KW1.out m1 K1 hd1 hQ1 hT1)
        have hK1h := hid hK1
        have hrwh := hid hrw1
        have hdh := hid hd1
        obtain ⟨l7, m7, f7⟩ := B76.out
        obtain ⟨l8, m8, f8⟩ := WM6.out.b8
        clear hd1 hd0 hK1 hQ1 hT1 KW1 hrw1
        go_wp2_with fail
        refine KW.out.mono ?_
        rintro e w10 hP
        clear l7 m7 f7 l8 m8 f8 KW
        rcases hP with ⟨hnone, rfl, hb10⟩ | ⟨ps, q, rest, va, vr, A, R2, t2, hsome, rfl, S10, WA, hm40, hA40, ⟨m2, K2, D2, hK2, Q2, T2, hva, hvr⟩, OA, OR⟩
        · have hWM6 := hid (WM6.out.more hb10)
          have hb610 := hid (below2 hb56.out hb10 hb56.out.size)
          clear hb10 WM6
          go_upto_region 18 with (fail)
          have b9 := below_al1 w10 (.cells #[.int .i64 p.seg, .int .i64 p.off, .int .i64 p.next] 30)
          have hWT9 := hid (hWM6.out.more b9)
          have hb9 := hid (below2 hb610.out b9 hb610.out.size)
          generalize w10.alloc (.cells #[.int .i64 p.seg, .int .i64 p.off, .int .i64 p.next] 30) = W9 at *
          have Dt9 := hid (below2 Dt.out hb9.out Dt.out.size)
          have B7t9 := hid (B7t.out.more hb9.out)
          have BMt9 := hid (BMt.out.more hb9.out)
          clear hWT Dt B7t BMt hWM6 b9 hb610 hb9 RE6 hb56 B76 B17
          have hWT := hWT9
          have Dt := Dt9
          have B7t := B7t9
          have BMt := BMt9
          clear hWT9 Dt9 B7t9 BMt9
          have hi4 := hid (show i ≤ 4 from hi5h.out)
          have hT := hid (show ∃ (R : Int → List UInt8) (p p2 : Plc) (fr : List Int) (sq : Nat) (s' : RSt) (fp : Option Addr) (fcap c : Nat), c ≤ 400 ∧ SDat S0 i R p fr sq s' Ms Us Es ∧ SMem W7 W9 KB bd N c R (gf + 1) g13 s'.c p2 fr fp fcap u11 u12 u14 Ms Us (endsI Es) from ⟨R, p, p, fr, sq, s', fp, fcap, 80 * i, by have := hi4.out; have := hlt5h.out; omega, hDA.out, hWT.out⟩)
          clear hDA hWT
          obtain ⟨R, p, p2, fr, sq, s', fp, fcap, c, hc, DA, WM⟩ := hT.out
          obtain ⟨pu, cu, rfl, u1, u2, RU⟩ := RowOwn.open inOk WM.u
          obtain ⟨pm, cmm, rfl, m1, m2, RMp⟩ := RowOwn.open mapOk WM.m
          obtain ⟨pe, ce, rfl, v1, v2, REn⟩ := RowOwn.open inOk WM.e
          have hUb : Us.length ≤ 160 := by have := DA.ub; have := hi4.out; omega
          have hDA := hid DA
          have hWT := hid WM
          have hRU := hid RU
          have hRM := hid RMp
          have hREn := hid REn
          have hc4 := hid hc
          have hmm := hid (And.intro m1 m2)
          have hvv := hid (And.intro v1 v2)
          have huu := hid (And.intro u1 u2)
          clear hT DA WM RU RMp REn hc m1 m2 v1 v2 u1 u2
          by_cases hU : Us.length = 0
          · have hU0 : (Us.length : Int) = 0 := by omega
            go_wp2_with fail
            go_ret
            exact ⟨rfl, Dt.out⟩
          · have hU0 : (Us.length : Int) ≠ 0 := by omega
            have hUf : ((Us.length : Int) == 0) = false := by rw [beq_eq_false_iff_ne]; exact hU0
            obtain ⟨k, hk, ek1, ek2, ek3, ek4⟩ := place_of wh Us.length (by omega) (by omega)
            have ek5 : wrap64 (wh.tmod Us.length + Us.length) = wh.tmod Us.length + Us.length := by rw [← IntWalk.i64_left]; exact ek1
            go_upto_region 26 with (fail)
            obtain ⟨bu, ou, hpu, ru⟩ := RowP.row hRU.out hU
            subst hpu
            have hki : (k : Int) < (Us.length : Int) := by omega
            have cu1 : W9.cell? ⟨bu, ou + k, none⟩ = some (.int .i64 (inAt Us k)) := by
              have := ru.at0 hk (v := .int .i64 (inAt Us k)) rfl
              simpa [inT] using this
            have hbu := ru.lt
            have cu2 : W9.drew.cell? ⟨bu, ou + k, none⟩ = some (.int .i64 (inAt Us k)) := cu1
            have bz := below_al1 W9.drew (.cells (madeCells #[.int .u8 0] 256) 5)
            have bz2 : Below W9.heap.size W9 (W9.drew.alloc (.cells (madeCells #[.int .u8 0] 256) 5)) := below2 ((Below.refl _ _).drew) bz (Nat.le_refl _)
            have cu3 : (W9.drew.alloc (.cells (madeCells #[.int .u8 0] 256) 5)).cell? ⟨bu, ou + k, none⟩ = some (.int .i64 (inAt Us k)) := by
              obtain ⟨bu2, ou2, e, ru3⟩ := RowP.row (RowOf.more hRU.out bz2) hU
              cases e
              have := ru3.at0 hk (v := .int .i64 (inAt Us k)) rfl
              simpa [inT] using this
            generalize hV : tabS bd (.slice (some ⟨bu, ou, none⟩) Us.length cu) (k : Int) ⟨bu, ou + k, none⟩ (inAt Us k) W9.heap.size = V
            refine wp_region_inv 6 (fun D vs wx => IQ W9.drew (W9.drew.alloc (.cells (madeCells #[.int .u8 0] 256) 5)) V D vs wx) (by kernel_rfl) (by kernel_rfl) ?h0 ?hstep ?hend
            case h0 => exact ⟨Vals.nil, rfl⟩
            case hstep =>
              intro j o hj ho D vs ax wx hDj hD hv hbase H
              rcases (show j = 0 ∨ j = 1 ∨ j = 2 ∨ j = 3 ∨ j = 4 ∨ j = 5 by omega) with rfl | rfl | rfl | rfl | rfl | rfl
              all_goals
                simp only [List.getElem?_cons_zero, List.getElem?_cons_succ, Option.some.injEq] at ho
                subst ho
              · have e6 := at_base hbase 6 (by kernel_rfl) (v := .pointer (some ⟨bd, 0, none⟩)) rfl
                exact StepOf.value (.pointer (some ⟨bd, 0, none⟩)) (wanted_plain rfl _) (by simp [execOp, Act.eval, e6, go_sem]) (H.quiet 0 _ (by omega) (by rw [← hV]; rfl))
              · have e12 := at_base hbase 12 (by kernel_rfl) (v := .slice (some ⟨bu, ou, none⟩) Us.length cu) rfl
                exact StepOf.value (.slice (some ⟨bu, ou, none⟩) Us.length cu) (wanted_plain rfl _) (by simp [execOp, Act.eval, e12, go_sem]) (H.quiet 1 _ (by omega) (by rw [← hV]; rfl))
              · have e23 := at_base hbase 23 (by kernel_rfl) (v := .int .i64 (k : Int)) rfl
                exact StepOf.value (.int .i64 (k : Int)) (wanted_plain rfl _) (by simp [execOp, Act.eval, e23, go_sem]) (H.quiet 2 _ (by omega) (by rw [← hV]; rfl))
              · have e122 := at_done H.vals hv (hD 1 (by kernel_rfl)) 122 (by kernel_rfl) (v := .slice (some ⟨bu, ou, none⟩) Us.length cu) (by rw [← hV]; rfl)
                have e123 := at_done H.vals hv (hD 2 (by kernel_rfl)) 123 (by kernel_rfl) (v := .int .i64 (k : Int)) (by rw [← hV]; rfl)
                exact StepOf.value (.pointer (some ⟨bu, ou + k, none⟩)) (wanted_plain rfl _) (by simp [execOp, Act.eval, e122, e123, go_sem, hki, hk]) (H.quiet 3 _ (by omega) (by rw [← hV]; rfl))
              · have e124 := at_done H.vals hv (hD 3 (by kernel_rfl)) 124 (by kernel_rfl) (v := .pointer (some ⟨bu, ou + k, none⟩)) (by rw [← hV]; rfl)
                have hc := H.at cu2 cu3
                exact StepOf.value (.int .i64 (inAt Us k)) (wanted_plain rfl _) (by simp [execOp, Act.eval, e124, go_sem, hc]) (H.quiet 4 _ (by omega) (by rw [← hV]; rfl))
              · have hw := H.ahead hDj
                have H2 := H.made (.slice (some ⟨W9.heap.size, 0, none⟩) 256 256) (by rw [← hV]; rfl)
                subst hw
                have mkz : (Instr.makeSlice 51 (.int .i64 256) (.int .i64 256)).run Try.prog W9.drew = .ok (.slice (some ⟨W9.heap.size, 0, none⟩) 256 256) (W9.drew.alloc (.cells (madeCells #[.int .u8 0] 256) 5)) := run_zeros 256 (by omega) W9.drew
                exact StepOf.value (.slice (some ⟨W9.heap.size, 0, none⟩) 256 256) (wanted_plain rfl _) (by unfold execOp; simp [Act.eval, mkz]) H2
            case hend =>
              intro D vs W7x hall H
              have v0 := H.vals 0 _ (hall 0 (by omega)) (by rw [← hV]; rfl)
              have v1 := H.vals 1 _ (hall 1 (by omega)) (by rw [← hV]; rfl)
              have v2 := H.vals 2 _ (hall 2 (by omega)) (by rw [← hV]; rfl)
              have v3 := H.vals 3 _ (hall 3 (by omega)) (by rw [← hV]; rfl)
              have v4 := H.vals 4 _ (hall 4 (by omega)) (by rw [← hV]; rfl)
              have v5 := H.vals 5 _ (hall 5 (by omega)) (by rw [← hV]; rfl)
              have hnow := H.now
              rw [hall 5 (by omega), if_pos rfl] at hnow
              simp only [puts, List.range, List.range.loop, List.foldl_cons, List.foldl_nil, List.getElem?_toArray, List.getElem?_cons_succ, List.getElem?_cons_zero, Option.bind_some, Option.bind_none, Act.put, List.setIfInBounds_toArray, List.set_cons_succ, List.set_cons_zero, v0, v1, v2, v3, v4, v5]
              simp only [List.drop_succ_cons, List.drop_zero]
              clear v0 v1 v2 v3 v4 v5 hall H hV
              subst hnow
              have hxr := hid (show 0 ≤ inAt Us k ∧ inAt Us k < 73 from hDA.out.rng _ (atR_mem (T := inT) Us k hk))
              have hxw : (Lit.int .i64 (inAt Us k)).wf = true := wf_small _ (by have := hxr.out.1; omega) (by have := hxr.out.2; omega)
              obtain ⟨m3, K3, hd3, hK3, hQ3, hT3, hrw3⟩ := hWT.out.d
              have hTz : (⟨some ⟨W9.heap.size, 0, none⟩, 256, zerosN 256⟩ : OcS).there (W9.drew.alloc (.cells (madeCells #[.int .u8 0] 256) 5)) := ⟨made_octs 5 256 W9.drew, by rw [zerosN_len]; exact Nat.le_refl _, by show 256 ≤ maxLen; unfold maxLen; omega⟩
              have KZ0 := wr_done m3 bd (inAt Us k) K3 _ (hd3.more bz2) hQ3 hT3 (by have := hc4.out; omega) hxw hxr.out.1 (by have := hxr.out.2; have := hNh.out; omega) ⟨some ⟨W9.heap.size, 0, none⟩, 256, zerosN 256⟩ hTz (fun b' o e h => by cases e; have := hd3.klt _ h; omega) (zerosN_len 256)
              rw [show (⟨some ⟨W9.heap.size, 0, none⟩, 256, zerosN 256⟩ : OcS).l.length = 256 from zerosN_len 256] at KZ0
              dsimp only at KZ0
              have KZ := hid KZ0
              have hK3h := hid hK3
              have hrwh3 := hid hrw3
              have RM1 := hid (RowOf.more hRM.out bz2)
              have RE1 := hid (RowOf.more hREn.out bz2)
              have B71 := hid (B7t.out.more bz2)
              have BM1 := hid (BMt.out.more bz2)
              have Dt1 := hid (below2 Dt.out bz2 Dt.out.size)
              have hlast := hid (show endA Es i = Us.length from hDA.out.ei)
              have hlen3 := hid (show Ms.length = i + 1 ∧ Es.length = i + 1 from ⟨hDA.out.ml, hDA.out.el⟩)
              have hkh := hid hk
              have hgz := hid (show W9.heap.size < (W9.drew.alloc (.cells (madeCells #[.int .u8 0] 256) 5)).heap.size by simp)
              generalize W9.drew.alloc (.cells (madeCells #[.int .u8 0] 256) 5) = Wz at *
              clear hd3 hQ3 hT3 hTz hxw KZ0 hK3 hrw3 bz bz2 cu1 cu2 cu3 ru hRM hREn hRU B7t BMt Dt
              go_wp2_with fail
              refine KZ.out.mono ?_
              rintro e w20 ⟨rfl, m4, K4, D4x, S4x, hK4, Q4, T4⟩
              have D20 := hid D4x
              have S20 := hid S4x
              have Q20 := hid Q4
              have T20 := hid T4
              have B720 := hid (B71.out.sole S4x (fun hk2 => by have := (hKB9.out _ (.inl (hK3h.out _ hk2))).1; have := hlo.out; omega))
              have BM20 := hid (BM1.out.sole S4x (fun hk2 => (hKB9.out _ (.inl (hK3h.out _ hk2))).2 rfl))
              have RM20 := hid (RowP.apart RM1.out S4x (fun b' o e hn hk2 => hrwh3.out b' (.inr (.inl (by rw [e]; rfl))) hk2))
              have RE20 := hid (RowP.apart RE1.out S4x (fun b' o e hn hk2 => hrwh3.out b' (.inr (.inr (.inr (by rw [e]; rfl)))) hk2))
              have Dt20 := hid (Dt1.out.trans (S4x.below (B := w.heap.size) Dt1.out.size (fun k2 hk2 => hKBw.out k2 (hK3h.out k2 hk2))))
              clear D4x S4x Q4 T4 KZ RM1 RE1 B71 BM1 Dt1
              go_wp2_with fail
              have hEl := hid (show (endsI Es).length = i + 1 by rw [endsI_len]; exact hlen3.out.2)
              obtain ⟨be9, oe9, hpe, re9⟩ := RowP.row RE20.out (by rw [hEl.out]; omega)
              subst hpe
              have re9h := hid re9
              clear re9
              go_loopw [24] (fun sw wr => wr = w20 ∧ ∃ h : Nat, h ≤ i ∧ endA Es h ≤ k ∧ sw = .int .i64 (h : Int)) (fun sw _ => 5 - (intOf sw).toNat)
              case atStart => exact ⟨rfl, 0, Nat.zero_le _, by rw [hDA.out.e0]; exact Nat.zero_le _, rfl⟩
              case round =>
                obtain ⟨hwr, h, hhi, hhk, rfl⟩ := hrel
                subst hwr
                have hl : h < i := by
                  rcases Nat.lt_or_ge h i with q | q
                  · exact q
                  · exfalso
                    obtain rfl : h = i := by omega
                    have h1 := hlast.out
                    have h2 := hkh.out
                    omega
                have hi4n := hi4.out
                have hl1 : (h : Int) < ((endsI Es).length : Int) - 1 := by have := hEl.out; omega
                have hl2 : (h : Int) + 1 < ((endsI Es).length : Int) := by have := hEl.out; omega
                have hl3 : ((endsI Es).length : Int) ≤ 5 := by have := hEl.out; omega
                have hl4 : h + 1 < (endsI Es).length := by have := hEl.out; omega
                have ce1 : wr.cell? ⟨be9, oe9 + (h + 1), none⟩ = some (.int .i64 ((endA Es (h + 1) : Nat) : Int)) := by
                  have := re9h.out.at0 hl4 (v := .int .i64 ((endA Es (h + 1) : Nat) : Int)) (by rw [← endsI_at Es (h + 1) (by have := hlen3.out.2; omega)]; rfl)
                  simpa [inT] using this
                by_cases hk2 : endA Es (h + 1) ≤ k
                · have hk3 : ((endA Es (h + 1) : Nat) : Int) ≤ (k : Int) := by omega
                  go_wp2_with fail
                  go_roundw
                  case rel => exact ⟨by trivial, h + 1, by omega, hk2, by simp⟩
                  case measure => simp [intOf]; omega
                · have hk3 : ¬ ((endA Es (h + 1) : Nat) : Int) ≤ (k : Int) := by omega
                  have hmi := hid (show (Try.prog.info? 34).map (·.size) = some M.size by rw [marktab, NC.out.size])
                  have KF1 := hid (KF.out m4 K4 wr D20.out _ Q20.out _ T20.out (fun x h0 h1 => by
                    split
                    · exact zerosN_len 256
                    · exact hDA.out.inv.len x h0 (by have := hNh.out; omega)))
                  have hlh := hid hl
                  have hhkh := hid hhk
                  have hk2h := hid hk2
                  obtain ⟨l7, m7, f7⟩ := B720.out
                  go_upto_region 30 with (fail)
                  clear hl1 hl2 hl3 hl4 ce1 hk2 hk3 hl hhk hhi
                  go_wp2_with (refine rwpList_load rfl 34 _ rfl g7 rfl M _ BM20.out Try.underlying34 rfl hmi.out ?_)
                  refine KF1.out.mono ?_
                  rintro e Wf ⟨_, Sf, kk, t, hr, hstop, _, _, rfl⟩
                  obtain ⟨j, hj, hj1, hj2, cc, hcc, hlost⟩ := hDA.out.lost k hkh.out
                  obtain rfl := hDA.out.which hj hlh.out hj1 hj2 hhkh.out hk2h.out
                  have htc : t.c = cc := hlost.only (fun y hy => if_neg (fun e => hy e.symm)) (if_pos rfl) hr hstop
                  have hsz := hid (show w.heap.size ≤ Wz.heap.size by have h1 := D7.out.size; have h2 := hWT.out.S.size; have h3 := hgz.out; omega)
                  have RMf := hid (RowP.apart RM20.out Sf (fun b' o e hn hk2 => by
                    have hb := hWT.out.own_lt b' (.inr (.inl (by rw [e]; rfl)))
                    have h3 := hgz.out
                    rcases hK4 _ hk2 with q | q
                    · exact hrwh3.out b' (.inr (.inl (by rw [e]; rfl))) q
                    · omega))
                  have Dtf := hid (Dt20.out.trans (Sf.below (B := w.heap.size) Dt20.out.size (fun k2 hk2 => by
                    have := hsz.out
                    rcases hK4 _ hk2 with q | q
                    · exact hKBw.out k2 (hK3h.out k2 q)
                    · omega)))
                  rw [htc]
                  have hcws := hid hcc.size
                  have NGh := hid hcc
                  obtain ⟨pb, hpb⟩ : ∃ x, x = t.fb := ⟨_, rfl⟩
                  obtain ⟨ef, hef⟩ : ∃ x, x = t.fp := ⟨_, rfl⟩
                  rw [← hpb, ← hef]
                  obtain ⟨ps', po', px'⟩ := ef
                  have hjm := hid (show j < Ms.length by have h1 := hlen3.out.1; have h2 := hlh.out; omega)
                  clear hpb hef htc hlost hr hstop hcc hj hj1 hj2
                  obtain ⟨CF, hCF⟩ : ∃ CF, CF = foundC cc ⟨ps', po', px'⟩ pb := ⟨_, rfl⟩
                  have hcf := hid (show CF.size = 260 by rw [hCF]; exact foundC_size NGh.out.size _ _)
                  have hce := hid (show CF.all (·.oneCell') = true by rw [hCF]; exact found_one NGh.out _ _)
                  obtain ⟨Z9, hZ9⟩ : ∃ Z, Z = zerosF := ⟨_, rfl⟩
                  have h9s : Z9.size = 260 := by rw [hZ9]; simp [zerosF]
                  have hal := hid (fun ρ dst ty pos af W => (hZ9 ▸ fallocF ρ dst ty pos af W : (execOp ρ { dst := dst, op := .alloc 43, type := ty, pos := pos, after := af, guard := none }).run Try.prog W = .ok (.value (.pointer (some ⟨W.heap.size, 0, none⟩))) (W.alloc (.cells Z9 43))))
                  have BF := Blk.new Wf Z9 43
                  have th := BF.there (n := CF.size) (by rw [hcf.out, h9s])
                  have FA0 := FoundAt.whole BF h9s NGh.out.size ⟨ps', po', px'⟩ pb
                  rw [← hCF] at FA0 ⊢
                  have FA := hid FA0
                  have ba := below_al1 Wf (.cells Z9 43)
                  have SZ := sole_setCells (S := fun k => k = Wf.heap.size) rfl CF.toList 0 (Wf.alloc (.cells Z9 43))
                  have Dz := hid (Dtf.out.trans ((below_cells (ba.mono (Nat.le_refl _)) (Nat.le_refl _) 0 CF.toList).mono Dtf.out.size))
                  obtain ⟨bm, om, hpm, rm⟩ := RowP.row (RowP.apart (RowOf.more RMf.out ba) SZ (fun b' o e hn hk2 => by
                    obtain ⟨bm, om, hpm, rm⟩ := RowP.row RMf.out hn
                    rw [hpm] at e
                    cases e
                    have h1 := rm.lt
                    have h2 : b' = Wf.heap.size := hk2
                    omega)) (by have := hjm.out; omega)
                  subst hpm
                  have hrg := hid (map_range rm hjm.out NGh.out)
                  clear BF FA0 ba SZ hZ9 h9s hCF Dtf RMf RM20 RE20 rm D20 S20 Q20 T20 B720 BM20 KF1 Sf hK4
                  go_upto_region 31 with (refine Go.Great.wpList_runTo rfl (some 25) rfl _ _ (hal.out _ _ _ _ _ _) ?_; refine wpList_store_mid rfl 43 _ _ rfl Wf.heap.size 0 CF rfl rfl th (by rw [foundtab, hcf.out]) hce.out ?_; generalize World.setCells _ _ _ _ = WZ at *; clear th hal)
                  generalize Wf.heap.size = g25 at *
                  have hjl : (j : Int) < (Ms.length : Int) := by have := hjm.out; omega
                  generalize hV : tabL g25 (.slice (some ⟨bm, om, none⟩) Ms.length cmm) (j : Int) ⟨bm, om + j * 256, none⟩ cc = V
                  refine wp_region_inv 11 (fun D vs wx => Vals V D vs ∧ wx = WZ.drew) (by kernel_rfl) (by kernel_rfl) ?h0 ?hstep ?hend
                  case h0 => exact ⟨Vals.nil, rfl⟩
                  case hstep =>
                    intro n o hj ho D vs ax wx hDj hD hv hbase HH
                    obtain ⟨H, hwx⟩ := HH
                    subst hwx
                    rcases (show n = 0 ∨ n = 1 ∨ n = 2 ∨ n = 3 ∨ n = 4 ∨ n = 5 ∨ n = 6 ∨ n = 7 ∨ n = 8 ∨ n = 9 ∨ n = 10 by omega) with rfl | rfl | rfl | rfl | rfl | rfl | rfl | rfl | rfl | rfl | rfl
                    all_goals
                      simp only [List.getElem?_cons_zero, List.getElem?_cons_succ, Option.some.injEq] at ho
                      subst ho
                    · have e26 := at_base hbase 26 (by kernel_rfl) (v := .int .i64 0) rfl
                      exact StepOf.value (.int .i64 0) (wanted_plain rfl _) (by simp [execOp, Act.eval, e26, go_sem]) ⟨H.put 0 _ (by rw [← hV]; rfl), rfl⟩
                    · have e0 := at_done H hv (hD 0 (by kernel_rfl)) 151 (by kernel_rfl) (v := .int .i64 0) (by rw [← hV]; rfl)
                      exact StepOf.value (.bool true) (wanted_plain rfl _) (by simp [execOp, Act.eval, e0, go_sem]) ⟨H.put 1 _ (by rw [← hV]; rfl), rfl⟩
                    · have e1 := at_done H hv (hD 1 (by kernel_rfl)) 152 (by kernel_rfl) (v := .bool true) (by rw [← hV]; rfl)
                      exact StepOf.value (.bool true) (wanted_plain rfl _) (by simp [execOp, Act.eval, e1, go_sem]) ⟨H.put 2 _ (by rw [← hV]; rfl), rfl⟩
                    · have e2 := at_done H hv (hD 2 (by kernel_rfl)) 153 (by kernel_rfl) (v := .bool true) (by rw [← hV]; rfl)
                      have e25 := at_base hbase 25 (by kernel_rfl) (v := .pointer (some ⟨g25, 0, none⟩)) rfl
                      exact StepOf.value (.pointer (some ⟨g25, 0, none⟩)) (wanted_if rfl (t := 153) rfl e2) (by simp [execOp, Act.eval, e25, go_sem]) ⟨H.put 3 _ (by rw [← hV]; rfl), rfl⟩
                    · have e2 := at_done H hv (hD 2 (by kernel_rfl)) 153 (by kernel_rfl) (v := .bool true) (by rw [← hV]; rfl)
                      have e3 := at_done H hv (hD 3 (by kernel_rfl)) 154 (by kernel_rfl) (v := .pointer (some ⟨g25, 0, none⟩)) (by rw [← hV]; rfl)
                      exact StepOf.value (.agg cc) (wanted_if rfl (t := 153) rfl e2) (run_load_at _ _ _ 32 _ rfl g25 0 (eval_get e3) cc _ FA.out.range Try.underlying32 rfl (by rw [maptab, hcws.out])) ⟨H.put 4 _ (by rw [← hV]; rfl), rfl⟩
                    · have e2 := at_done H hv (hD 2 (by kernel_rfl)) 153 (by kernel_rfl) (v := .bool true) (by rw [← hV]; rfl)
                      have e11 := at_base hbase 11 (by kernel_rfl) (v := .slice (some ⟨bm, om, none⟩) Ms.length cmm) rfl
                      exact StepOf.value (.slice (some ⟨bm, om, none⟩) Ms.length cmm) (wanted_if rfl (t := 153) rfl e2) (by simp [execOp, Act.eval, e11, go_sem]) ⟨H.put 5 _ (by rw [← hV]; rfl), rfl⟩
                    · have e2 := at_done H hv (hD 2 (by kernel_rfl)) 153 (by kernel_rfl) (v := .bool true) (by rw [← hV]; rfl)
                      have e24 := at_base hbase 24 (by kernel_rfl) (v := .int .i64 (j : Int)) rfl
                      exact StepOf.value (.int .i64 (j : Int)) (wanted_if rfl (t := 153) rfl e2) (by simp [execOp, Act.eval, e24, go_sem]) ⟨H.put 6 _ (by rw [← hV]; rfl), rfl⟩
                    · have e2 := at_done H hv (hD 2 (by kernel_rfl)) 153 (by kernel_rfl) (v := .bool true) (by rw [← hV]; rfl)
                      have e5 := at_done H hv (hD 5 (by kernel_rfl)) 156 (by kernel_rfl) (v := .slice (some ⟨bm, om, none⟩) Ms.length cmm) (by rw [← hV]; rfl)
                      have e6 := at_done H hv (hD 6 (by kernel_rfl)) 157 (by kernel_rfl) (v := .int .i64 (j : Int)) (by rw [← hV]; rfl)
                      have hjm' := hjm.out
                      exact StepOf.value (.pointer (some ⟨bm, om + j * 256, none⟩)) (wanted_if rfl (t := 153) rfl e2) (by simp [execOp, Act.eval, e5, e6, go_sem, hjl, hjm']) ⟨H.put 7 _ (by rw [← hV]; rfl), rfl⟩
                    · have e2 := at_done H hv (hD 2 (by kernel_rfl)) 153 (by kernel_rfl) (v := .bool true) (by rw [← hV]; rfl)
                      have e7 := at_done H hv (hD 7 (by kernel_rfl)) 158 (by kernel_rfl) (v := .pointer (some ⟨bm, om + j * 256, none⟩)) (by rw [← hV]; rfl)
                      exact StepOf.value (.agg cc) (wanted_if rfl (t := 153) rfl e2) (run_load_at _ _ _ 32 _ rfl bm (om + j * 256) (eval_get e7) cc _ hrg.out Try.underlying32 rfl (by rw [maptab, hcws.out])) ⟨H.put 8 _ (by rw [← hV]; rfl), rfl⟩
                    · have e2 := at_done H hv (hD 2 (by kernel_rfl)) 153 (by kernel_rfl) (v := .bool true) (by rw [← hV]; rfl)
                      have e4 := at_done H hv (hD 4 (by kernel_rfl)) 155 (by kernel_rfl) (v := .agg cc) (by rw [← hV]; rfl)
                      have e8 := at_done H hv (hD 8 (by kernel_rfl)) 159 (by kernel_rfl) (v := .agg cc) (by rw [← hV]; rfl)
                      exact StepOf.value (.bool true) (wanted_if rfl (t := 153) rfl e2) (aeql_run NGh.out _ _ _ _ _ _ _ _ (eval_get e4) (eval_get e8) _) ⟨H.put 9 _ (by rw [← hV]; rfl), rfl⟩
                    · have e2 := at_done H hv (hD 2 (by kernel_rfl)) 153 (by kernel_rfl) (v := .bool true) (by rw [← hV]; rfl)
                      have e9 := at_done H hv (hD 9 (by kernel_rfl)) 160 (by kernel_rfl) (v := .bool true) (by rw [← hV]; rfl)
                      exact StepOf.value (.bool true) (wanted_plain rfl _) (by simp [execOp, Act.eval, e2, e9, go_sem]) ⟨H.put 10 _ (by rw [← hV]; rfl), rfl⟩
                  case hend =>
                    intro D vs W7x hall HH
                    obtain ⟨H, hwx⟩ := HH
                    subst hwx
                    have v0 := H 0 _ (hall 0 (by omega)) (by rw [← hV]; rfl)
                    have v1 := H 1 _ (hall 1 (by omega)) (by rw [← hV]; rfl)
                    have v2 := H 2 _ (hall 2 (by omega)) (by rw [← hV]; rfl)
                    have v3 := H 3 _ (hall 3 (by omega)) (by rw [← hV]; rfl)
                    have v4 := H 4 _ (hall 4 (by omega)) (by rw [← hV]; rfl)
                    have v5 := H 5 _ (hall 5 (by omega)) (by rw [← hV]; rfl)
                    have v6 := H 6 _ (hall 6 (by omega)) (by rw [← hV]; rfl)
                    have v7 := H 7 _ (hall 7 (by omega)) (by rw [← hV]; rfl)
                    have v8 := H 8 _ (hall 8 (by omega)) (by rw [← hV]; rfl)
                    have v9 := H 9 _ (hall 9 (by omega)) (by rw [← hV]; rfl)
                    have v10 := H 10 _ (hall 10 (by omega)) (by rw [← hV]; rfl)
                    simp only [puts, List.range, List.range.loop, List.foldl_cons, List.foldl_nil, List.getElem?_toArray, List.getElem?_cons_succ, List.getElem?_cons_zero, Option.bind_some, Option.bind_none, Act.put, List.setIfInBounds_toArray, List.set_cons_succ, List.set_cons_zero, v0, v1, v2, v3, v4, v5, v6, v7, v8, v9, v10]
                    simp only [List.drop_succ_cons, List.drop_zero]
                    clear v0 v1 v2 v3 v4 v5 v6 v7 v8 v9 v10 hall H hV
                    go_wp2_with fail
                    go_ret
                    exact ⟨rfl, Dz.out.drew⟩
        · obtain ⟨ap, ac, rfl, a1, a2, RA⟩ := RowOwn.open inOk OA
          obtain ⟨rp, rc, rfl, r1, r2, _⟩ := RowOwn.open inOk OR
          have hWM10 := hid (WM6.out.wrote hFG.out hdh.out hK1h.out hrwh.out S10 D2 hK2 Q2 (show Soft m2 (80 * (i + 1)) from ⟨T2.tl, by have := T2.n; omega, by have := T2.q; omega⟩) OR hvr)
          have B1710 := hid (B17.out.sole S10 (fun hk => by have := klt1.out _ hk; have := h517.out; omega))
          have B710 := hid (B76.out.sole S10 (fun hk => by have := (hKB9.out _ (.inl (hK1h.out _ hk))).1; have := hlo.out; omega))
          have REw := hid (RowP.apart RE6.out S10 (fun b' o e hn hk => by
            have h1 := klt1.out b' hk
            have h2 := OEb.out b' o e hn
            omega))
          have OAb := hid (fun b' o (e : ap = some ⟨b', o, none⟩) (hn : A.length ≠ 0) => show w6.heap.size ≤ b' by
            rcases OA.form with ⟨_, h0⟩ | ⟨g, cap, h1, h2, _⟩
            · exact absurd (by rw [h0]; rfl) hn
            · obtain ⟨h3, _, _⟩ := Value.slice.inj h1
              rw [e] at h3
              cases h3
              exact h2)
          have b11 := below_al1 w10 (.cells #[.int .i64 q.seg, .int .i64 q.off, .int .i64 q.next] 30)
          have B18 := hid (Blk.new w10 #[.int .i64 q.seg, .int .i64 q.off, .int .i64 q.next] 30)
          have hWM11 := hid (hWM10.out.more b11)
          have RE11 := hid (RowP.more REw.out b11)
          have RA11 := hid (RowOf.more RA b11)
          have B1711 := hid (B1710.out.more b11)
          have B711 := hid (B710.out.more b11)
          have h618 := hid (show w6.heap.size ≤ w10.heap.size from S10.size)
          have hWRs := hid (show WR.heap.size ≤ w6.heap.size from hb56.out.size)
          have WAh := hid WA
          have hsomeh := hid hsome
          have ha12 := hid (And.intro a1 a2)
          have hA40h := hid (And.intro hm40 hA40)
          clear S10 WA D2 hK2 Q2 T2 hva hvr OA OR RA hsome hm40 hA40 a1 a2 r1 r2 hWM10 B1710 B710 REw WM6 RE6 B17 B76 b11
          go_upto_region 18 with (fail)
          generalize hg18 : w10.heap.size = g18 at *
          generalize w10.alloc (.cells #[.int .i64 q.seg, .int .i64 q.off, .int .i64 q.next] 30) = w11 at *
          clear hg18 hg17
          by_cases hE : E = []
          · subst hE
            obtain ⟨hSD, hcc⟩ := hDA.out.same hsomeh.out WAh.out
            have hDA2 := hid hSD
            rw [← hcc] at hWM11
            have Dt9 := hid (D7.out.trans (hWM11.out.S.below (B := w.heap.size) D7.out.size (fun k hk => by have := (hKB9.out k hk).1; have := hwH.out; omega)))
            have B7t9 := hid (B77.out.sole hWM11.out.S (fun hk => by have := (hKB9.out _ hk).1; have := hlo.out; omega))
            have BMt9 := hid (BM7.out.sole hWM11.out.S (fun hk => (hKB9.out _ hk).2 rfl))
            clear hWT Dt B7t BMt hDA hSD hcc hsomeh WAh RE11 RA11 B1711 B711 B18
            have hWT := hWM11
            have hDA := hDA2
            have Dt := Dt9
            have B7t := B7t9
            have BMt := BMt9
            clear hWM11 hDA2 Dt9 B7t9 BMt9
            have hi4 := hid (show i ≤ 4 from hi5h.out)
            have hT := hid (show ∃ (R : Int → List UInt8) (p p2 : Plc) (fr : List Int) (sq : Nat) (s' : RSt) (fp : Option Addr) (fcap c : Nat), c ≤ 400 ∧ SDat S0 i R p fr sq s' Ms Us Es ∧ SMem W7 w11 KB bd N c R (gf + 1) g13 s'.c p2 fr fp fcap u11 u12 u14 Ms Us (endsI Es) from ⟨R2, q, p, rest, sq, t2, rp, rc, 80 * (i + 1), by have := hi4.out; have := hlt5h.out; omega, hDA.out, hWT.out⟩)
            clear hDA hWT
            obtain ⟨R, p, p2, fr, sq, s', fp, fcap, c, hc, DA, WM⟩ := hT.out
            obtain ⟨pu, cu, rfl, u1, u2, RU⟩ := RowOwn.open inOk WM.u
            obtain ⟨pm, cmm, rfl, m1, m2, RMp⟩ := RowOwn.open mapOk WM.m
            obtain ⟨pe, ce, rfl, v1, v2, REn⟩ := RowOwn.open inOk WM.e
            have hUb : Us.length ≤ 160 := by have := DA.ub; have := hi4.out; omega
            have hDA := hid DA
            have hWT := hid WM
            have hRU := hid RU
            have hRM := hid RMp
            have hREn := hid REn
            have hc4 := hid hc
            have hmm := hid (And.intro m1 m2)
            have hvv := hid (And.intro v1 v2)
            have huu := hid (And.intro u1 u2)
            clear hT DA WM RU RMp REn hc m1 m2 v1 v2 u1 u2
            by_cases hU : Us.length = 0
            · have hU0 : (Us.length : Int) = 0 := by omega
              go_wp2_with fail
              go_ret
              exact ⟨rfl, Dt.out⟩
            · have hU0 : (Us.length : Int) ≠ 0 := by omega
              have hUf : ((Us.length : Int) == 0) = false := by rw [beq_eq_false_iff_ne]; exact hU0
              obtain ⟨k, hk, ek1, ek2, ek3, ek4⟩ := place_of wh Us.length (by omega) (by omega)
              have ek5 : wrap64 (wh.tmod Us.length + Us.length) = wh.tmod Us.length + Us.length := by rw [← IntWalk.i64_left]; exact ek1
              go_upto_region 26 with (fail)
              obtain ⟨bu, ou, hpu, ru⟩ := RowP.row hRU.out hU
              subst hpu
              have hki : (k : Int) < (Us.length : Int) := by omega
              have cu1 : w11.cell? ⟨bu, ou + k, none⟩ = some (.int .i64 (inAt Us k)) := by
                have := ru.at0 hk (v := .int .i64 (inAt Us k)) rfl
                simpa [inT] using this
              have hbu := ru.lt
              have cu2 : w11.drew.cell? ⟨bu, ou + k, none⟩ = some (.int .i64 (inAt Us k)) := cu1
              have bz := below_al1 w11.drew (.cells (madeCells #[.int .u8 0] 256) 5)
              have bz2 : Below w11.heap.size w11 (w11.drew.alloc (.cells (madeCells #[.int .u8 0] 256) 5)) := below2 ((Below.refl _ _).drew) bz (Nat.le_refl _)
              have cu3 : (w11.drew.alloc (.cells (madeCells #[.int .u8 0] 256) 5)).cell? ⟨bu, ou + k, none⟩ = some (.int .i64 (inAt Us k)) := by
                obtain ⟨bu2, ou2, e, ru3⟩ := RowP.row (RowOf.more hRU.out bz2) hU
                cases e
                have := ru3.at0 hk (v := .int .i64 (inAt Us k)) rfl
                simpa [inT] using this
              generalize hV : tabS bd (.slice (some ⟨bu, ou, none⟩) Us.length cu) (k : Int) ⟨bu, ou + k, none⟩ (inAt Us k) w11.heap.size = V
              refine wp_region_inv 6 (fun D vs wx => IQ w11.drew (w11.drew.alloc (.cells (madeCells #[.int .u8 0] 256) 5)) V D vs wx) (by kernel_rfl) (by kernel_rfl) ?h0 ?hstep ?hend
              case h0 => exact ⟨Vals.nil, rfl⟩
              case hstep =>
                intro j o hj ho D vs ax wx hDj hD hv hbase H
                rcases (show j = 0 ∨ j = 1 ∨ j = 2 ∨ j = 3 ∨ j = 4 ∨ j = 5 by omega) with rfl | rfl | rfl | rfl | rfl | rfl
                all_goals
                  simp only [List.getElem?_cons_zero, List.getElem?_cons_succ, Option.some.injEq] at ho
                  subst ho
                · have e6 := at_base hbase 6 (by kernel_rfl) (v := .pointer (some ⟨bd, 0, none⟩)) rfl
                  exact StepOf.value (.pointer (some ⟨bd, 0, none⟩)) (wanted_plain rfl _) (by simp [execOp, Act.eval, e6, go_sem]) (H.quiet 0 _ (by omega) (by rw [← hV]; rfl))
                · have e12 := at_base hbase 12 (by kernel_rfl) (v := .slice (some ⟨bu, ou, none⟩) Us.length cu) rfl
                  exact StepOf.value (.slice (some ⟨bu, ou, none⟩) Us.length cu) (wanted_plain rfl _) (by simp [execOp, Act.eval, e12, go_sem]) (H.quiet 1 _ (by omega) (by rw [← hV]; rfl))
                · have e23 := at_base hbase 23 (by kernel_rfl) (v := .int .i64 (k : Int)) rfl
                  exact StepOf.value (.int .i64 (k : Int)) (wanted_plain rfl _) (by simp [execOp, Act.eval, e23, go_sem]) (H.quiet 2 _ (by omega) (by rw [← hV]; rfl))
                · have e122 := at_done H.vals hv (hD 1 (by kernel_rfl)) 122 (by kernel_rfl) (v := .slice (some ⟨bu, ou, none⟩) Us.length cu) (by rw [← hV]; rfl)
                  have e123 := at_done H.vals hv (hD 2 (by kernel_rfl)) 123 (by kernel_rfl) (v := .int .i64 (k : Int)) (by rw [← hV]; rfl)
                  exact StepOf.value (.pointer (some ⟨bu, ou + k, none⟩)) (wanted_plain rfl _) (by simp [execOp, Act.eval, e122, e123, go_sem, hki, hk]) (H.quiet 3 _ (by omega) (by rw [← hV]; rfl))
                · have e124 := at_done H.vals hv (hD 3 (by kernel_rfl)) 124 (by kernel_rfl) (v := .pointer (some ⟨bu, ou + k, none⟩)) (by rw [← hV]; rfl)
                  have hc := H.at cu2 cu3
                  exact StepOf.value (.int .i64 (inAt Us k)) (wanted_plain rfl _) (by simp [execOp, Act.eval, e124, go_sem, hc]) (H.quiet 4 _ (by omega) (by rw [← hV]; rfl))
                · have hw := H.ahead hDj
                  have H2 := H.made (.slice (some ⟨w11.heap.size, 0, none⟩) 256 256) (by rw [← hV]; rfl)
                  subst hw
                  have mkz : (Instr.makeSlice 51 (.int .i64 256) (.int .i64 256)).run Try.prog w11.drew = .ok (.slice (some ⟨w11.heap.size, 0, none⟩) 256 256) (w11.drew.alloc (.cells (madeCells #[.int .u8 0] 256) 5)) := run_zeros 256 (by omega) w11.drew
                  exact StepOf.value (.slice (some ⟨w11.heap.size, 0, none⟩) 256 256) (wanted_plain rfl _) (by unfold execOp; simp [Act.eval, mkz]) H2
              case hend =>
                intro D vs W7x hall H
                have v0 := H.vals 0 _ (hall 0 (by omega)) (by rw [← hV]; rfl)
                have v1 := H.vals 1 _ (hall 1 (by omega)) (by rw [← hV]; rfl)
                have v2 := H.vals 2 _ (hall 2 (by omega)) (by rw [← hV]; rfl)
                have v3 := H.vals 3 _ (hall 3 (by omega)) (by rw [← hV]; rfl)
                have v4 := H.vals 4 _ (hall 4 (by omega)) (by rw [← hV]; rfl)
                have v5 := H.vals 5 _ (hall 5 (by omega)) (by rw [← hV]; rfl)
                have hnow := H.now
                rw [hall 5 (by omega), if_pos rfl] at hnow
                simp only [puts, List.range, List.range.loop, List.foldl_cons, List.foldl_nil, List.getElem?_toArray, List.getElem?_cons_succ, List.getElem?_cons_zero, Option.bind_some, Option.bind_none, Act.put, List.setIfInBounds_toArray, List.set_cons_succ, List.set_cons_zero, v0, v1, v2, v3, v4, v5]
                simp only [List.drop_succ_cons, List.drop_zero]
                clear v0 v1 v2 v3 v4 v5 hall H hV
                subst hnow
                have hxr := hid (show 0 ≤ inAt Us k ∧ inAt Us k < 73 from hDA.out.rng _ (atR_mem (T := inT) Us k hk))
                have hxw : (Lit.int .i64 (inAt Us k)).wf = true := wf_small _ (by have := hxr.out.1; omega) (by have := hxr.out.2; omega)
                obtain ⟨m3, K3, hd3, hK3, hQ3, hT3, hrw3⟩ := hWT.out.d
                have hTz : (⟨some ⟨w11.heap.size, 0, none⟩, 256, zerosN 256⟩ : OcS).there (w11.drew.alloc (.cells (madeCells #[.int .u8 0] 256) 5)) := ⟨made_octs 5 256 w11.drew, by rw [zerosN_len]; exact Nat.le_refl _, by show 256 ≤ maxLen; unfold maxLen; omega⟩
                have KZ0 := wr_done m3 bd (inAt Us k) K3 _ (hd3.more bz2) hQ3 hT3 (by have := hc4.out; omega) hxw hxr.out.1 (by have := hxr.out.2; have := hNh.out; omega) ⟨some ⟨w11.heap.size, 0, none⟩, 256, zerosN 256⟩ hTz (fun b' o e h => by cases e; have := hd3.klt _ h; omega) (zerosN_len 256)
                rw [show (⟨some ⟨w11.heap.size, 0, none⟩, 256, zerosN 256⟩ : OcS).l.length = 256 from zerosN_len 256] at KZ0
                dsimp only at KZ0
                have KZ := hid KZ0
                have hK3h := hid hK3
                have hrwh3 := hid hrw3
                have RM1 := hid (RowOf.more hRM.out bz2)
                have RE1 := hid (RowOf.more hREn.out bz2)
                have B71 := hid (B7t.out.more bz2)
                have BM1 := hid (BMt.out.more bz2)
                have Dt1 := hid (below2 Dt.out bz2 Dt.out.size)
                have hlast := hid (show endA Es i = Us.length from hDA.out.ei)
                have hlen3 := hid (show Ms.length = i + 1 ∧ Es.length = i + 1 from ⟨hDA.out.ml, hDA.out.el⟩)
                have hkh := hid hk
                have hgz := hid (show w11.heap.size < (w11.drew.alloc (.cells (madeCells #[.int .u8 0] 256) 5)).heap.size by simp)
                generalize w11.drew.alloc (.cells (madeCells #[.int .u8 0] 256) 5) = Wz at *
                clear hd3 hQ3 hT3 hTz hxw KZ0 hK3 hrw3 bz bz2 cu1 cu2 cu3 ru hRM hREn hRU B7t BMt Dt
                go_wp2_with fail
                refine KZ.out.mono ?_
                rintro e w20 ⟨rfl, m4, K4, D4x, S4x, hK4, Q4, T4⟩
                have D20 := hid D4x
                have S20 := hid S4x
                have Q20 := hid Q4
                have T20 := hid T4
                have B720 := hid (B71.out.sole S4x (fun hk2 => by have := (hKB9.out _ (.inl (hK3h.out _ hk2))).1; have := hlo.out; omega))
                have BM20 := hid (BM1.out.sole S4x (fun hk2 => (hKB9.out _ (.inl (hK3h.out _ hk2))).2 rfl))
                have RM20 := hid (RowP.apart RM1.out S4x (fun b' o e hn hk2 => hrwh3.out b' (.inr (.inl (by rw [e]; rfl))) hk2))
                have RE20 := hid (RowP.apart RE1.out S4x (fun b' o e hn hk2 => hrwh3.out b' (.inr (.inr (.inr (by rw [e]; rfl)))) hk2))
                have Dt20 := hid (Dt1.out.trans (S4x.below (B := w.heap.size) Dt1.out.size (fun k2 hk2 => hKBw.out k2 (hK3h.out k2 hk2))))
                clear D4x S4x Q4 T4 KZ RM1 RE1 B71 BM1 Dt1
                go_wp2_with fail
                have hEl := hid (show (endsI Es).length = i + 1 by rw [endsI_len]; exact hlen3.out.2)
                obtain ⟨be9, oe9, hpe, re9⟩ := RowP.row RE20.out (by rw [hEl.out]; omega)
                subst hpe
                have re9h := hid re9
                clear re9
                go_loopw [24] (fun sw wr => wr = w20 ∧ ∃ h : Nat, h ≤ i ∧ endA Es h ≤ k ∧ sw = .int .i64 (h : Int)) (fun sw _ => 5 - (intOf sw).toNat)
                case atStart => exact ⟨rfl, 0, Nat.zero_le _, by rw [hDA.out.e0]; exact Nat.zero_le _, rfl⟩
                case round =>
                  obtain ⟨hwr, h, hhi, hhk, rfl⟩ := hrel
                  subst hwr
                  have hl : h < i := by
                    rcases Nat.lt_or_ge h i with q | q
                    · exact q
                    · exfalso
                      obtain rfl : h = i := by omega
                      have h1 := hlast.out
                      have h2 := hkh.out
                      omega
                  have hi4n := hi4.out
                  have hl1 : (h : Int) < ((endsI Es).length : Int) - 1 := by have := hEl.out; omega
                  have hl2 : (h : Int) + 1 < ((endsI Es).length : Int) := by have := hEl.out; omega
                  have hl3 : ((endsI Es).length : Int) ≤ 5 := by have := hEl.out; omega
                  have hl4 : h + 1 < (endsI Es).length := by have := hEl.out; omega
                  have ce1 : wr.cell? ⟨be9, oe9 + (h + 1), none⟩ = some (.int .i64 ((endA Es (h + 1) : Nat) : Int)) := by
                    have := re9h.out.at0 hl4 (v := .int .i64 ((endA Es (h + 1) : Nat) : Int)) (by rw [← endsI_at Es (h + 1) (by have := hlen3.out.2; omega)]; rfl)
                    simpa [inT] using this
                  by_cases hk2 : endA Es (h + 1) ≤ k
                  · have hk3 : ((endA Es (h + 1) : Nat) : Int) ≤ (k : Int) := by omega
                    go_wp2_with fail
                    go_roundw
                    case rel => exact ⟨by trivial, h + 1, by omega, hk2, by simp⟩
                    case measure => simp [intOf]; omega
                  · have hk3 : ¬ ((endA Es (h + 1) : Nat) : Int) ≤ (k : Int) := by omega
                    have hmi := hid (show (Try.prog.info? 34).map (·.size) = some M.size by rw [marktab, NC.out.size])
                    have KF1 := hid (KF.out m4 K4 wr D20.out _ Q20.out _ T20.out (fun x h0 h1 => by
                      split
                      · exact zerosN_len 256
                      · exact hDA.out.inv.len x h0 (by have := hNh.out; omega)))
                    have hlh := hid hl
                    have hhkh := hid hhk
                    have hk2h := hid hk2
                    obtain ⟨l7, m7, f7⟩ := B720.out
                    go_upto_region 30 with (fail)
                    clear hl1 hl2 hl3 hl4 ce1 hk2 hk3 hl hhk hhi
                    go_wp2_with (refine rwpList_load rfl 34 _ rfl g7 rfl M _ BM20.out Try.underlying34 rfl hmi.out ?_)
                    refine KF1.out.mono ?_
                    rintro e Wf ⟨_, Sf, kk, t, hr, hstop, _, _, rfl⟩
                    obtain ⟨j, hj, hj1, hj2, cc, hcc, hlost⟩ := hDA.out.lost k hkh.out
                    obtain rfl := hDA.out.which hj hlh.out hj1 hj2 hhkh.out hk2h.out
                    have htc : t.c = cc := hlost.only (fun y hy => if_neg (fun e => hy e.symm)) (if_pos rfl) hr hstop
                    have hsz := hid (show w.heap.size ≤ Wz.heap.size by have h1 := D7.out.size; have h2 := hWT.out.S.size; have h3 := hgz.out; omega)
                    have RMf := hid (RowP.apart RM20.out Sf (fun b' o e hn hk2 => by
                      have hb := hWT.out.own_lt b' (.inr (.inl (by rw [e]; rfl)))
                      have h3 := hgz.out
                      rcases hK4 _ hk2 with q | q
                      · exact hrwh3.out b' (.inr (.inl (by rw [e]; rfl))) q
                      · omega))
                    have Dtf := hid (Dt20.out.trans (Sf.below (B := w.heap.size) Dt20.out.size (fun k2 hk2 => by
                      have := hsz.out
                      rcases hK4 _ hk2 with q | q
                      · exact hKBw.out k2 (hK3h.out k2 q)
                      · omega)))
                    rw [htc]
                    have hcws := hid hcc.size
                    have NGh := hid hcc
                    obtain ⟨pb, hpb⟩ : ∃ x, x = t.fb := ⟨_, rfl⟩
                    obtain ⟨ef, hef⟩ : ∃ x, x = t.fp := ⟨_, rfl⟩
                    rw [← hpb, ← hef]
                    obtain ⟨ps', po', px'⟩ := ef
                    have hjm := hid (show j < Ms.length by have h1 := hlen3.out.1; have h2 := hlh.out; omega)
                    clear hpb hef htc hlost hr hstop hcc hj hj1 hj2
                    obtain ⟨CF, hCF⟩ : ∃ CF, CF = foundC cc ⟨ps', po', px'⟩ pb := ⟨_, rfl⟩
                    have hcf := hid (show CF.size = 260 by rw [hCF]; exact foundC_size NGh.out.size _ _)
                    have hce := hid (show CF.all (·.oneCell') = true by rw [hCF]; exact found_one NGh.out _ _)
                    obtain ⟨Z9, hZ9⟩ : ∃ Z, Z = zerosF := ⟨_, rfl⟩
                    have h9s : Z9.size = 260 := by rw [hZ9]; simp [zerosF]
                    have hal := hid (fun ρ dst ty pos af W => (hZ9 ▸ fallocF ρ dst ty pos af W : (execOp ρ { dst := dst, op := .alloc 43, type := ty, pos := pos, after := af, guard := none }).run Try.prog W = .ok (.value (.pointer (some ⟨W.heap.size, 0, none⟩))) (W.alloc (.cells Z9 43))))
                    have BF := Blk.new Wf Z9 43
                    have th := BF.there (n := CF.size) (by rw [hcf.out, h9s])
                    have FA0 := FoundAt.whole BF h9s NGh.out.size ⟨ps', po', px'⟩ pb
                    rw [← hCF] at FA0 ⊢
                    have FA := hid FA0
                    have ba := below_al1 Wf (.cells Z9 43)
                    have SZ := sole_setCells (S := fun k => k = Wf.heap.size) rfl CF.toList 0 (Wf.alloc (.cells Z9 43))
                    have Dz := hid (Dtf.out.trans ((below_cells (ba.mono (Nat.le_refl _)) (Nat.le_refl _) 0 CF.toList).mono Dtf.out.size))
                    obtain ⟨bm, om, hpm, rm⟩ := RowP.row (RowP.apart (RowOf.more RMf.out ba) SZ (fun b' o e hn hk2 => by
                      obtain ⟨bm, om, hpm, rm⟩ := RowP.row RMf.out hn
                      rw [hpm] at e
                      cases e
                      have h1 := rm.lt
                      have h2 : b' = Wf.heap.size := hk2
                      omega)) (by have := hjm.out; omega)
                    subst hpm
                    have hrg := hid (map_range rm hjm.out NGh.out)
                    clear BF FA0 ba SZ hZ9 h9s hCF Dtf RMf RM20 RE20 rm D20 S20 Q20 T20 B720 BM20 KF1 Sf hK4
                    go_upto_region 31 with (refine Go.Great.wpList_runTo rfl (some 25) rfl _ _ (hal.out _ _ _ _ _ _) ?_; refine wpList_store_mid rfl 43 _ _ rfl Wf.heap.size 0 CF rfl rfl th (by rw [foundtab, hcf.out]) hce.out ?_; generalize World.setCells _ _ _ _ = WZ at *; clear th hal)
                    generalize Wf.heap.size = g25 at *
                    have hjl : (j : Int) < (Ms.length : Int) := by have := hjm.out; omega
                    generalize hV : tabL g25 (.slice (some ⟨bm, om, none⟩) Ms.length cmm) (j : Int) ⟨bm, om + j * 256, none⟩ cc = V
                    refine wp_region_inv 11 (fun D vs wx => Vals V D vs ∧ wx = WZ.drew) (by kernel_rfl) (by kernel_rfl) ?h0 ?hstep ?hend
                    case h0 => exact ⟨Vals.nil, rfl⟩
                    case hstep =>
                      intro n o hj ho D vs ax wx hDj hD hv hbase HH
                      obtain ⟨H, hwx⟩ := HH
                      subst hwx
                      rcases (show n = 0 ∨ n = 1 ∨ n = 2 ∨ n = 3 ∨ n = 4 ∨ n = 5 ∨ n = 6 ∨ n = 7 ∨ n = 8 ∨ n = 9 ∨ n = 10 by omega) with rfl | rfl | rfl | rfl | rfl | rfl | rfl | rfl | rfl | rfl | rfl
                      all_goals
                        simp only [List.getElem?_cons_zero, List.getElem?_cons_succ, Option.some.injEq] at ho
                        subst ho
                      · have e26 := at_base hbase 26 (by kernel_rfl) (v := .int .i64 0) rfl
                        exact StepOf.value (.int .i64 0) (wanted_plain rfl _) (by simp [execOp, Act.eval, e26, go_sem]) ⟨H.put 0 _ (by rw [← hV]; rfl), rfl⟩
                      · have e0 := at_done H hv (hD 0 (by kernel_rfl)) 151 (by kernel_rfl) (v := .int .i64 0) (by rw [← hV]; rfl)
                        exact StepOf.value (.bool true) (wanted_plain rfl _) (by simp [execOp, Act.eval, e0, go_sem]) ⟨H.put 1 _ (by rw [← hV]; rfl), rfl⟩
                      · have e1 := at_done H hv (hD 1 (by kernel_rfl)) 152 (by kernel_rfl) (v := .bool true) (by rw [← hV]; rfl)
                        exact StepOf.value (.bool true) (wanted_plain rfl _) (by simp [execOp, Act.eval, e1, go_sem]) ⟨H.put 2 _ (by rw [← hV]; rfl), rfl⟩
                      · have e2 := at_done H hv (hD 2 (by kernel_rfl)) 153 (by kernel_rfl) (v := .bool true) (by rw [← hV]; rfl)
                        have e25 := at_base hbase 25 (by kernel_rfl) (v := .pointer (some ⟨g25, 0, none⟩)) rfl
                        exact StepOf.value (.pointer (some ⟨g25, 0, none⟩)) (wanted_if rfl (t := 153) rfl e2) (by simp [execOp, Act.eval, e25, go_sem]) ⟨H.put 3 _ (by rw [← hV]; rfl), rfl⟩
                      · have e2 := at_done H hv (hD 2 (by kernel_rfl)) 153 (by kernel_rfl) (v := .bool true) (by rw [← hV]; rfl)
                        have e3 := at_done H hv (hD 3 (by kernel_rfl)) 154 (by kernel_rfl) (v := .pointer (some ⟨g25, 0, none⟩)) (by rw [← hV]; rfl)
                        exact StepOf.value (.agg cc) (wanted_if rfl (t := 153) rfl e2) (run_load_at _ _ _ 32 _ rfl g25 0 (eval_get e3) cc _ FA.out.range Try.underlying32 rfl (by rw [maptab, hcws.out])) ⟨H.put 4 _ (by rw [← hV]; rfl), rfl⟩
                      · have e2 := at_done H hv (hD 2 (by kernel_rfl)) 153 (by kernel_rfl) (v := .bool true) (by rw [← hV]; rfl)
                        have e11 := at_base hbase 11 (by kernel_rfl) (v := .slice (some ⟨bm, om, none⟩) Ms.length cmm) rfl
                        exact StepOf.value (.slice (some ⟨bm, om, none⟩) Ms.length cmm) (wanted_if rfl (t := 153) rfl e2) (by simp [execOp, Act.eval, e11, go_sem]) ⟨H.put 5 _ (by rw [← hV]; rfl), rfl⟩
                      · have e2 := at_done H hv (hD 2 (by kernel_rfl)) 153 (by kernel_rfl) (v := .bool true) (by rw [← hV]; rfl)
                        have e24 := at_base hbase 24 (by kernel_rfl) (v := .int .i64 (j : Int)) rfl
                        exact StepOf.value (.int .i64 (j : Int)) (wanted_if rfl (t := 153) rfl e2) (by simp [execOp, Act.eval, e24, go_sem]) ⟨H.put 6 _ (by rw [← hV]; rfl), rfl⟩
                      · have e2 := at_done H hv (hD 2 (by kernel_rfl)) 153 (by kernel_rfl) (v := .bool true) (by rw [← hV]; rfl)
                        have e5 := at_done H hv (hD 5 (by kernel_rfl)) 156 (by kernel_rfl) (v := .slice (some ⟨bm, om, none⟩) Ms.length cmm) (by rw [← hV]; rfl)
                        have e6 := at_done H hv (hD 6 (by kernel_rfl)) 157 (by kernel_rfl) (v := .int .i64 (j : Int)) (by rw [← hV]; rfl)
                        have hjm' := hjm.out
                        exact StepOf.value (.pointer (some ⟨bm, om + j * 256, none⟩)) (wanted_if rfl (t := 153) rfl e2) (by simp [execOp, Act.eval, e5, e6, go_sem, hjl, hjm']) ⟨H.put 7 _ (by rw [← hV]; rfl), rfl⟩
                      · have e2 := at_done H hv (hD 2 (by kernel_rfl)) 153 (by kernel_rfl) (v := .bool true) (by rw [← hV]; rfl)
                        have e7 := at_done H hv (hD 7 (by kernel_rfl)) 158 (by kernel_rfl) (v := .pointer (some ⟨bm, om + j * 256, none⟩)) (by rw [← hV]; rfl)
                        exact StepOf.value (.agg cc) (wanted_if rfl (t := 153) rfl e2) (run_load_at _ _ _ 32 _ rfl bm (om + j * 256) (eval_get e7) cc _ hrg.out Try.underlying32 rfl (by rw [maptab, hcws.out])) ⟨H.put 8 _ (by rw [← hV]; rfl), rfl⟩
                      · have e2 := at_done H hv (hD 2 (by kernel_rfl)) 153 (by kernel_rfl) (v := .bool true) (by rw [← hV]; rfl)
                        have e4 := at_done H hv (hD 4 (by kernel_rfl)) 155 (by kernel_rfl) (v := .agg cc) (by rw [← hV]; rfl)
                        have e8 := at_done H hv (hD 8 (by kernel_rfl)) 159 (by kernel_rfl) (v := .agg cc) (by rw [← hV]; rfl)
                        exact StepOf.value (.bool true) (wanted_if rfl (t := 153) rfl e2) (aeql_run NGh.out _ _ _ _ _ _ _ _ (eval_get e4) (eval_get e8) _) ⟨H.put 9 _ (by rw [← hV]; rfl), rfl⟩
                      · have e2 := at_done H hv (hD 2 (by kernel_rfl)) 153 (by kernel_rfl) (v := .bool true) (by rw [← hV]; rfl)
                        have e9 := at_done H hv (hD 9 (by kernel_rfl)) 160 (by kernel_rfl) (v := .bool true) (by rw [← hV]; rfl)
                        exact StepOf.value (.bool true) (wanted_plain rfl _) (by simp [execOp, Act.eval, e2, e9, go_sem]) ⟨H.put 10 _ (by rw [← hV]; rfl), rfl⟩
                    case hend =>
                      intro D vs W7x hall HH
                      obtain ⟨H, hwx⟩ := HH
                      subst hwx
                      have v0 := H 0 _ (hall 0 (by omega)) (by rw [← hV]; rfl)
                      have v1 := H 1 _ (hall 1 (by omega)) (by rw [← hV]; rfl)
                      have v2 := H 2 _ (hall 2 (by omega)) (by rw [← hV]; rfl)
                      have v3 := H 3 _ (hall 3 (by omega)) (by rw [← hV]; rfl)
                      have v4 := H 4 _ (hall 4 (by omega)) (by rw [← hV]; rfl)
                      have v5 := H 5 _ (hall 5 (by omega)) (by rw [← hV]; rfl)
                      have v6 := H 6 _ (hall 6 (by omega)) (by rw [← hV]; rfl)
                      have v7 := H 7 _ (hall 7 (by omega)) (by rw [← hV]; rfl)
                      have v8 := H 8 _ (hall 8 (by omega)) (by rw [← hV]; rfl)
                      have v9 := H 9 _ (hall 9 (by omega)) (by rw [← hV]; rfl)
                      have v10 := H 10 _ (hall 10 (by omega)) (by rw [← hV]; rfl)
                      simp only [puts, List.range, List.range.loop, List.foldl_cons, List.foldl_nil, List.getElem?_toArray, List.getElem?_cons_succ, List.getElem?_cons_zero, Option.bind_some, Option.bind_none, Act.put, List.setIfInBounds_toArray, List.set_cons_succ, List.set_cons_zero, v0, v1, v2, v3, v4, v5, v6, v7, v8, v9, v10]
                      simp only [List.drop_succ_cons, List.drop_zero]
                      clear v0 v1 v2 v3 v4 v5 v6 v7 v8 v9 v10 hall H hV
                      go_wp2_with fail
                      go_ret
                      exact ⟨rfl, Dz.out.drew⟩
          · obtain ⟨n1, n2, n3⟩ := hDA.out.next hE hsomeh.out hA40h.out.1 hA40h.out.2 WAh.out
            obtain ⟨Gd, NGd⟩ := resA_nums hDA.out.c (penAt E) (inAt A) A.length E.length
            rw [← n1] at NGd
            have hEl : (0 : Int) < (E.length : Int) := by
              cases E with
              | nil => exact absurd rfl hE
              | cons x l => simp
            have NXg := hid (n3 Gd NGd)
            have hul := used_len (A := A) (z := 8) (q := q)
            have KS := hid (rsectors_any 8 (by decide) (by decide) p q NXg.out.inv.good.s0 NXg.out.inv.good.sn NXg.out.inv.good.oz ap ac A n2 ha12.out.1 ha12.out.2 (by have := hA40h.out.2; omega) fp fr.length fcap w11 RA11.out)
            generalize usedL A 8 q = ul at *
            obtain ⟨U2, hU2⟩ : ∃ l, l = Us ++ ul := ⟨_, rfl⟩
            rw [← hU2] at NXg
            have NGh := hid NGd
            have n1h := hid n1
            have hds := hid NGd.size
            have hcs2 := hid hDA.out.c.size
            have hulh := hid hul
            have hU2h := hid hU2
            clear n1 n2 n3 NGd hul hU2 WAh hsomeh hE
            obtain ⟨l7, m7, f7⟩ := B711.out
            obtain ⟨l17, m17, f17⟩ := B1711.out
            obtain ⟨l18, m18, f18⟩ := B18.out
            go_upto_region 19 with (fail)
            go_wp2_with fail
            refine KS.out.mono ?_
            clear l7 m7 f7 l17 m17 f17 l18 m18 f18
            rintro e w12 ⟨up, uc, rfl, u1, u2, RU, hb12⟩
            have hWM12 := hid (hWM11.out.more hb12)
            have RE12 := hid (RowP.more RE11.out hb12)
            have RA12 := hid (RowOf.more RA11.out hb12)
            have B1812 := hid (B18.out.more hb12)
            have hsu := hid hWT.out.u.within
            have hsv := hid hWT.out.m.within
            have hsw := hid hWT.out.e.within
            obtain ⟨vu, w13, hr13, O13, gr13, mv13⟩ := append_row inOk W7.heap.size 35 w12 u12 Us hWM12.out.u up uc ul RU (by have := hDA.out.ub; have := hulh.out; have := hA40h.out.2; have := hlt5h.out; show (Us.length + ul.length) * 8 ≤ _; omega) (by have := hDA.out.ub; have := hulh.out; have := hA40h.out.2; have := hlt5h.out; unfold maxLen; omega) hWM12.out.S.size
            rw [← hU2h.out] at O13
            have hWM13 := hid (hWM12.out.growU hFG.out O13 gr13 mv13)
            have S13 := Sole.grown (S := fun k => u12.ownBlock = some k) gr13 (fun k e => e)
            have RE13 := hid (RowP.apart RE12.out S13 (fun b' o e hn hk => by have := OEb.out b' o e hn; have := (hsu.out b' hk).2; omega))
            have RA13 := hid (RowP.apart RA12.out S13 (fun b' o e hn hk => by have := OAb.out b' o e hn; have := (hsu.out b' hk).2; have := hWRs.out; omega))
            have B1813 := hid (B1812.out.sole S13 (fun hk => by have := (hsu.out _ hk).2; have := hWRs.out; have := h618.out; omega))
            obtain ⟨pu, cu, rfl, _, _, _⟩ := RowOwn.open inOk O13
            clear O13 gr13 mv13 S13 RE11 RE12 RA11 RA12 B18 B1812 hWM11 hWM12 RU hb12 B711 B1711
            go_upto_region 20 with (at_builtin; refine Lib.wpList_append_run _ rfl _ _ _ _ rfl _ _ rfl rfl _ _ hr13 ?_)
            clear hr13
            have KA0 := napply_any s'.c (mapA Ms i) hDA.out.c ep E.length ec (penAt E) e12.out.1 e12.out.2 ap A.length ac (inAt A) ha12.out.1 ha12.out.2 w13 (en_rowp RE13.out) (in_rowp RA13.out)
            rw [← n1h.out] at KA0
            generalize finA (penAt E) A.length E.length = fa at *
            have KA := hid KA0
            have B13h := hid hWM13.out.b13
            have hdo := hid NGh.out.one
            clear KA0
            go_wp2_with (refine rwpList_load rfl 32 _ rfl g13 rfl s'.c _ B13h.out Try.underlying32 rfl (by rw [maptab, hcs2.out]) ?_)
            refine KA.out.mono ?_
            rintro e w14 ⟨rfl, hb14⟩
            have hWM14 := hWM13.out.more hb14
            have hWMa := hid (hWM14.set13 hFG.out t2.c (by rw [hcs2.out, hds.out]))
            have th := hWM14.b13.there (n := t2.c.size) (by rw [hcs2.out, hds.out])
            have B18a := hid ((B1813.out.more hb14).sole (sole_setCells (S := fun k => k = g13) rfl t2.c.toList 0 w14) (by show ¬ g18 = g13; have := h618.out; have := hWRs.out; have := hWT.out.S.size; have := h137.out; omega))
            clear KA hb14 hWM14 hWM13 B1813 B13h RE13 RA13
            go_upto_region 21 with (refine wpList_store_mid rfl 32 _ _ rfl g13 0 t2.c rfl rfl th (by rw [maptab, hds.out]) hdo.out ?_; generalize World.setCells _ _ _ _ = Wa at *; clear th)
            have bb := below_al1 Wa (.cells t2.c 32)
            have RM2 : RowOf mapT _ (some ⟨Wa.heap.size, 0, none⟩) [Gd] := rowOf_one mapOk (Blk.new Wa t2.c 32) (nums_cells NGh.out)
            have hWMb := hWMa.out.more bb
            obtain ⟨vm, wc, hrc, Oc, grc, mvc⟩ := append_row mapOk W7.heap.size 48 (Wa.alloc (.cells t2.c 32)) u11 Ms hWMb.m (some ⟨Wa.heap.size, 0, none⟩) 1 [Gd] RM2 (by have := hDA.out.ml; have := hlt5h.out; show (Ms.length + 1) * 2048 ≤ _; omega) (by have := hDA.out.ml; have := hlt5h.out; unfold maxLen; show Ms.length + 1 ≤ _; omega) hWMb.S.size
            have hWMc := hWMb.growM hFG.out Oc grc mvc
            have Sc := Sole.grown (S := fun k => u11.ownBlock = some k) grc (fun k e => e)
            have B18c := (B18a.out.more bb).sole Sc (fun hk => by have := (hsv.out _ hk).2; have := hWRs.out; have := h618.out; omega)
            obtain ⟨pm, cmm, rfl, _, _, _⟩ := RowOwn.open mapOk Oc
            have be2 := below_al1 wc (.cells #[.int .i64 (U2.length : Int)] 3)
            have RN : RowOf inT _ (some ⟨wc.heap.size, 0, none⟩) [(U2.length : Int)] := rowOf_one inOk (Blk.new wc #[.int .i64 (U2.length : Int)] 3) rfl
            have hWMd := hWMc.more be2
            obtain ⟨ve2, we, hre, Oe, gre, mve⟩ := append_row inOk W7.heap.size 35 (wc.alloc (.cells #[.int .i64 (U2.length : Int)] 3)) u14 (endsI Es) hWMd.e (some ⟨wc.heap.size, 0, none⟩) 1 [(U2.length : Int)] RN (by rw [endsI_len]; have := hDA.out.el; have := hlt5h.out; show (Es.length + 1) * 8 ≤ _; omega) (by rw [endsI_len]; have := hDA.out.el; have := hlt5h.out; unfold maxLen; show Es.length + 1 ≤ _; omega) hWMd.S.size
            rw [endsI_add] at Oe
            have hWMe := hid (hWMd.growE hFG.out Oe gre mve)
            have Se := Sole.grown (S := fun k => u14.ownBlock = some k) gre (fun k e => e)
            have B18e := hid ((B18c.more be2).sole Se (fun hk => by have := (hsw.out _ hk).2; have := hWRs.out; have := h618.out; omega))
            obtain ⟨pe, ce, rfl, _, _, _⟩ := RowOwn.open inOk Oe
            have hmb2 := hid (fun ρ dst ty pos af g x hx W => mbs_run hds.out ρ dst ty pos af g x hx W)
            have hrch := hid hrc
            have hreh := hid hre
            have B13a := hid hWMa.out.b13
            clear bb RM2 hWMb grc mvc hWMc Sc B18c be2 RN hWMd gre mve Se Oe Oc hWMa hrc hre
            go_upto_region 22 with (first | (refine rwpList_load rfl 32 _ rfl g13 rfl t2.c _ B13a.out Try.underlying32 rfl (by rw [maptab, hds.out]) ?_) | (refine Go.Great.wpList_runTo rfl (some 98) rfl _ _ (hmb2.out _ _ _ _ _ _ _ rfl _) ?_) | (at_builtin; refine Lib.wpList_append_run _ rfl _ _ _ _ rfl _ _ rfl rfl _ _ hrch.out ?_) | (at_builtin; refine Lib.wpList_append_run _ rfl _ _ _ _ rfl _ _ rfl rfl _ _ hreh.out ?_))
            clear hrch hreh hmb2
            have c180 := B18e.out.cell 0
            have c181 := B18e.out.cell 1
            have c182 := B18e.out.cell 2
            obtain ⟨l8, m8, f8⟩ := hWMe.out.b8
            have hWMf := hid (hWMe.out.set8 hFG.out q)
            go_wp2_with fail
            clear c180 c181 c182 l8 m8 f8 hWMe
            generalize World.setCell _ _ _ = Wf at *
            have hf := hWMf.out
            rw [show (Ms ++ [Gd]).length = Ms.length + 1 from by simp] at hf
            go_roundw
            case rel => exact ⟨i + 1, R2, q, rest, sq + ps.length, t2, rp, rc, Ms ++ [Gd], U2, Es ++ [U2.length], by have := hlth.out; omega, by have := hlt5h.out; omega, by simp, by simp, rfl, NXg.out, hf⟩
            case measure => have := hlt5h.out; simp [intOf]; omega
      · have hlt5i : ¬ (i : Int) < 4 := by omega
        have hi4 := hid (show i ≤ 4 from hi5h.out)
        have hT := hid (show ∃ (R : Int → List UInt8) (p p2 : Plc) (fr : List Int) (sq : Nat) (s' : RSt) (fp : Option Addr) (fcap c : Nat), c ≤ 400 ∧ SDat S0 i R p fr sq s' Ms Us Es ∧ SMem W7 WR KB bd N c R (gf + 1) g13 s'.c p2 fr fp fcap u11 u12 u14 Ms Us (endsI Es) from ⟨R, p, p, fr, sq, s', fp, fcap, 80 * i, by have := hi4.out; omega, hDA.out, hWT.out⟩)
        clear hDA hWT
        obtain ⟨R, p, p2, fr, sq, s', fp, fcap, c, hc, DA, WM⟩ := hT.out
        obtain ⟨pu, cu, rfl, u1, u2, RU⟩ := RowOwn.open inOk WM.u
        obtain ⟨pm, cmm, rfl, m1, m2, RMp⟩ := RowOwn.open mapOk WM.m
        obtain ⟨pe, ce, rfl, v1, v2, REn⟩ := RowOwn.open inOk WM.e
        have hUb : Us.length ≤ 160 := by have := DA.ub; have := hi4.out; omega
        have hDA := hid DA
        have hWT := hid WM
        have hRU := hid RU
        have hRM := hid RMp
        have hREn := hid REn
        have hc4 := hid hc
        have hmm := hid (And.intro m1 m2)
        have hvv := hid (And.intro v1 v2)
        have huu := hid (And.intro u1 u2)
        clear hT DA WM RU RMp REn hc m1 m2 v1 v2 u1 u2
        by_cases hU : Us.length = 0
        · have hU0 : (Us.length : Int) = 0 := by omega
          go_wp2_with fail
          go_ret
          exact ⟨rfl, Dt.out⟩
        · have hU0 : (Us.length : Int) ≠ 0 := by omega
          have hUf : ((Us.length : Int) == 0) = false := by rw [beq_eq_false_iff_ne]; exact hU0
          obtain ⟨k, hk, ek1, ek2, ek3, ek4⟩ := place_of wh Us.length (by omega) (by omega)
          have ek5 : wrap64 (wh.tmod Us.length + Us.length) = wh.tmod Us.length + Us.length := by rw [← IntWalk.i64_left]; exact ek1
          go_upto_region 26 with (fail)
          obtain ⟨bu, ou, hpu, ru⟩ := RowP.row hRU.out hU
          subst hpu
          have hki : (k : Int) < (Us.length : Int) := by omega
          have cu1 : WR.cell? ⟨bu, ou + k, none⟩ = some (.int .i64 (inAt Us k)) := by
            have := ru.at0 hk (v := .int .i64 (inAt Us k)) rfl
            simpa [inT] using this
          have hbu := ru.lt
          have cu2 : WR.drew.cell? ⟨bu, ou + k, none⟩ = some (.int .i64 (inAt Us k)) := cu1
          have bz := below_al1 WR.drew (.cells (madeCells #[.int .u8 0] 256) 5)
          have bz2 : Below WR.heap.size WR (WR.drew.alloc (.cells (madeCells #[.int .u8 0] 256) 5)) := below2 ((Below.refl _ _).drew) bz (Nat.le_refl _)
          have cu3 : (WR.drew.alloc (.cells (madeCells #[.int .u8 0] 256) 5)).cell? ⟨bu, ou + k, none⟩ = some (.int .i64 (inAt Us k)) := by
            obtain ⟨bu2, ou2, e, ru3⟩ := RowP.row (RowOf.more hRU.out bz2) hU
            cases e
            have := ru3.at0 hk (v := .int .i64 (inAt Us k)) rfl
            simpa [inT] using this
          generalize hV : tabS bd (.slice (some ⟨bu, ou, none⟩) Us.length cu) (k : Int) ⟨bu, ou + k, none⟩ (inAt Us k) WR.heap.size = V
          refine wp_region_inv 6 (fun D vs wx => IQ WR.drew (WR.drew.alloc (.cells (madeCells #[.int .u8 0] 256) 5)) V D vs wx) (by kernel_rfl) (by kernel_rfl) ?h0 ?hstep ?hend
          case h0 => exact ⟨Vals.nil, rfl⟩
          case hstep =>
            intro j o hj ho D vs ax wx hDj hD hv hbase H
            rcases (show j = 0 ∨ j = 1 ∨ j = 2 ∨ j = 3 ∨ j = 4 ∨ j = 5 by omega) with rfl | rfl | rfl | rfl | rfl | rfl
            all_goals
              simp only [List.getElem?_cons_zero, List.getElem?_cons_succ, Option.some.injEq] at ho
              subst ho
            · have e6 := at_base hbase 6 (by kernel_rfl) (v := .pointer (some ⟨bd, 0, none⟩)) rfl
              exact StepOf.value (.pointer (some ⟨bd, 0, none⟩)) (wanted_plain rfl _) (by simp [execOp, Act.eval, e6, go_sem]) (H.quiet 0 _ (by omega) (by rw [← hV]; rfl))
            · have e12 := at_base hbase 12 (by kernel_rfl) (v := .slice (some ⟨bu, ou, none⟩) Us.length cu) rfl
              exact StepOf.value (.slice (some ⟨bu, ou, none⟩) Us.length cu) (wanted_plain rfl _) (by simp [execOp, Act.eval, e12, go_sem]) (H.quiet 1 _ (by omega) (by rw [← hV]; rfl))
            · have e23 := at_base hbase 23 (by kernel_rfl) (v := .int .i64 (k : Int)) rfl
              exact StepOf.value (.int .i64 (k : Int)) (wanted_plain rfl _) (by simp [execOp, Act.eval, e23, go_sem]) (H.quiet 2 _ (by omega) (by rw [← hV]; rfl))
            · have e122 := at_done H.vals hv (hD 1 (by kernel_rfl)) 122 (by kernel_rfl) (v := .slice (some ⟨bu, ou, none⟩) Us.length cu) (by rw [← hV]; rfl)
              have e123 := at_done H.vals hv (hD 2 (by kernel_rfl)) 123 (by kernel_rfl) (v := .int .i64 (k : Int)) (by rw [← hV]; rfl)
              exact StepOf.value (.pointer (some ⟨bu, ou + k, none⟩)) (wanted_plain rfl _) (by simp [execOp, Act.eval, e122, e123, go_sem, hki, hk]) (H.quiet 3 _ (by omega) (by rw [← hV]; rfl))
            · have e124 := at_done H.vals hv (hD 3 (by kernel_rfl)) 124 (by kernel_rfl) (v := .pointer (some ⟨bu, ou + k, none⟩)) (by rw [← hV]; rfl)
              have hc := H.at cu2 cu3
              exact StepOf.value (.int .i64 (inAt Us k)) (wanted_plain rfl _) (by simp [execOp, Act.eval, e124, go_sem, hc]) (H.quiet 4 _ (by omega) (by rw [← hV]; rfl))
            · have hw := H.ahead hDj
              have H2 := H.made (.slice (some ⟨WR.heap.size, 0, none⟩) 256 256) (by rw [← hV]; rfl)
              subst hw
              have mkz : (Instr.makeSlice 51 (.int .i64 256) (.int .i64 256)).run Try.prog WR.drew = .ok (.slice (some ⟨WR.heap.size, 0, none⟩) 256 256) (WR.drew.alloc (.cells (madeCells #[.int .u8 0] 256) 5)) := run_zeros 256 (by omega) WR.drew
              exact StepOf.value (.slice (some ⟨WR.heap.size, 0, none⟩) 256 256) (wanted_plain rfl _) (by unfold execOp; simp [Act.eval, mkz]) H2
          case hend =>
            intro D vs W7x hall H
            have v0 := H.vals 0 _ (hall 0 (by omega)) (by rw [← hV]; rfl)
            have v1 := H.vals 1 _ (hall 1 (by omega)) (by rw [← hV]; rfl)
            have v2 := H.vals 2 _ (hall 2 (by omega)) (by rw [← hV]; rfl)
            have v3 := H.vals 3 _ (hall 3 (by omega)) (by rw [← hV]; rfl)
            have v4 := H.vals 4 _ (hall 4 (by omega)) (by rw [← hV]; rfl)
            have v5 := H.vals 5 _ (hall 5 (by omega)) (by rw [← hV]; rfl)
            have hnow := H.now
            rw [hall 5 (by omega), if_pos rfl] at hnow
            simp only [puts, List.range, List.range.loop, List.foldl_cons, List.foldl_nil, List.getElem?_toArray, List.getElem?_cons_succ, List.getElem?_cons_zero, Option.bind_some, Option.bind_none, Act.put, List.setIfInBounds_toArray, List.set_cons_succ, List.set_cons_zero, v0, v1, v2, v3, v4, v5]
            simp only [List.drop_succ_cons, List.drop_zero]
            clear v0 v1 v2 v3 v4 v5 hall H hV
            subst hnow
            have hxr := hid (show 0 ≤ inAt Us k ∧ inAt Us k < 73 from hDA.out.rng _ (atR_mem (T := inT) Us k hk))
            have hxw : (Lit.int .i64 (inAt Us k)).wf = true := wf_small _ (by have := hxr.out.1; omega) (by have := hxr.out.2; omega)
            obtain ⟨m3, K3, hd3, hK3, hQ3, hT3, hrw3⟩ := hWT.out.d
            have hTz : (⟨some ⟨WR.heap.size, 0, none⟩, 256, zerosN 256⟩ : OcS).there (WR.drew.alloc (.cells (madeCells #[.int .u8 0] 256) 5)) := ⟨made_octs 5 256 WR.drew, by rw [zerosN_len]; exact Nat.le_refl _, by show 256 ≤ maxLen; unfold maxLen; omega⟩
            have KZ0 := wr_done m3 bd (inAt Us k) K3 _ (hd3.more bz2) hQ3 hT3 (by have := hc4.out; omega) hxw hxr.out.1 (by have := hxr.out.2; have := hNh.out; omega) ⟨some ⟨WR.heap.size, 0, none⟩, 256, zerosN 256⟩ hTz (fun b' o e h => by cases e; have := hd3.klt _ h; omega) (zerosN_len 256)
            rw [show (⟨some ⟨WR.heap.size, 0, none⟩, 256, zerosN 256⟩ : OcS).l.length = 256 from zerosN_len 256] at KZ0
            dsimp only at KZ0
            have KZ := hid KZ0
            have hK3h := hid hK3
            have hrwh3 := hid hrw3
            have RM1 := hid (RowOf.more hRM.out bz2)
            have RE1 := hid (RowOf.more hREn.out bz2)
            have B71 := hid (B7t.out.more bz2)
            have BM1 := hid (BMt.out.more bz2)
            have Dt1 := hid (below2 Dt.out bz2 Dt.out.size)
            have hlast := hid (show endA Es i = Us.length from hDA.out.ei)
            have hlen3 := hid (show Ms.length = i + 1 ∧ Es.length = i + 1 from ⟨hDA.out.ml, hDA.out.el⟩)
            have hkh := hid hk
            have hgz := hid (show WR.heap.size < (WR.drew.alloc (.cells (madeCells #[.int .u8 0] 256) 5)).heap.size by simp)
            generalize WR.drew.alloc (.cells (madeCells #[.int .u8 0] 256) 5) = Wz at *
            clear hd3 hQ3 hT3 hTz hxw KZ0 hK3 hrw3 bz bz2 cu1 cu2 cu3 ru hRM hREn hRU B7t BMt Dt
            go_wp2_with fail
            refine KZ.out.mono ?_
            rintro e w20 ⟨rfl, m4, K4, D4x, S4x, hK4, Q4, T4⟩
            have D20 := hid D4x
            have S20 := hid S4x
            have Q20 := hid Q4
            have T20 := hid T4
            have B720 := hid (B71.out.sole S4x (fun hk2 => by have := (hKB9.out _ (.inl (hK3h.out _ hk2))).1; have := hlo.out; omega))
            have BM20 := hid (BM1.out.sole S4x (fun hk2 => (hKB9.out _ (.inl (hK3h.out _ hk2))).2 rfl))
            have RM20 := hid (RowP.apart RM1.out S4x (fun b' o e hn hk2 => hrwh3.out b' (.inr (.inl (by rw [e]; rfl))) hk2))
            have RE20 := hid (RowP.apart RE1.out S4x (fun b' o e hn hk2 => hrwh3.out b' (.inr (.inr (.inr (by rw [e]; rfl)))) hk2))
            have Dt20 := hid (Dt1.out.trans (S4x.below (B := w.heap.size) Dt1.out.size (fun k2 hk2 => hKBw.out k2 (hK3h.out k2 hk2))))
            clear D4x S4x Q4 T4 KZ RM1 RE1 B71 BM1 Dt1
            go_wp2_with fail
            have hEl := hid (show (endsI Es).length = i + 1 by rw [endsI_len]; exact hlen3.out.2)
            obtain ⟨be9, oe9, hpe, re9⟩ := RowP.row RE20.out (by rw [hEl.out]; omega)
            subst hpe
            have re9h := hid re9
            clear re9
            go_loopw [24] (fun sw wr => wr = w20 ∧ ∃ h : Nat, h ≤ i ∧ endA Es h ≤ k ∧ sw = .int .i64 (h : Int)) (fun sw _ => 5 - (intOf sw).toNat)
            case atStart => exact ⟨rfl, 0, Nat.zero_le _, by rw [hDA.out.e0]; exact Nat.zero_le _, rfl⟩
            case round =>
              obtain ⟨hwr, h, hhi, hhk, rfl⟩ := hrel
              subst hwr
              have hl : h < i := by
                rcases Nat.lt_or_ge h i with q | q
                · exact q
                · exfalso
                  obtain rfl : h = i := by omega
                  have h1 := hlast.out
                  have h2 := hkh.out
                  omega
              have hi4n := hi4.out
              have hl1 : (h : Int) < ((endsI Es).length : Int) - 1 := by have := hEl.out; omega
              have hl2 : (h : Int) + 1 < ((endsI Es).length : Int) := by have := hEl.out; omega
              have hl3 : ((endsI Es).length : Int) ≤ 5 := by have := hEl.out; omega
              have hl4 : h + 1 < (endsI Es).length := by have := hEl.out; omega
              have ce1 : wr.cell? ⟨be9, oe9 + (h + 1), none⟩ = some (.int .i64 ((endA Es (h + 1) : Nat) : Int)) := by
                have := re9h.out.at0 hl4 (v := .int .i64 ((endA Es (h + 1) : Nat) : Int)) (by rw [← endsI_at Es (h + 1) (by have := hlen3.out.2; omega)]; rfl)
                simpa [inT] using this
              by_cases hk2 : endA Es (h + 1) ≤ k
              · have hk3 : ((endA Es (h + 1) : Nat) : Int) ≤ (k : Int) := by omega
                go_wp2_with fail
                go_roundw
                case rel => exact ⟨by trivial, h + 1, by omega, hk2, by simp⟩
                case measure => simp [intOf]; omega
              · have hk3 : ¬ ((endA Es (h + 1) : Nat) : Int) ≤ (k : Int) := by omega
                have hmi := hid (show (Try.prog.info? 34).map (·.size) = some M.size by rw [marktab, NC.out.size])
                have KF1 := hid (KF.out m4 K4 wr D20.out _ Q20.out _ T20.out (fun x h0 h1 => by
                  split
                  · exact zerosN_len 256
                  · exact hDA.out.inv.len x h0 (by have := hNh.out; omega)))
                have hlh := hid hl
                have hhkh := hid hhk
                have hk2h := hid hk2
                obtain ⟨l7, m7, f7⟩ := B720.out
                go_upto_region 30 with (fail)
                clear hl1 hl2 hl3 hl4 ce1 hk2 hk3 hl hhk hhi
                go_wp2_with (refine rwpList_load rfl 34 _ rfl g7 rfl M _ BM20.out Try.underlying34 rfl hmi.out ?_)
                refine KF1.out.mono ?_
                rintro e Wf ⟨_, Sf, kk, t, hr, hstop, _, _, rfl⟩
                obtain ⟨j, hj, hj1, hj2, cc, hcc, hlost⟩ := hDA.out.lost k hkh.out
                obtain rfl := hDA.out.which hj hlh.out hj1 hj2 hhkh.out hk2h.out
                have htc : t.c = cc := hlost.only (fun y hy => if_neg (fun e => hy e.symm)) (if_pos rfl) hr hstop
                have hsz := hid (show w.heap.size ≤ Wz.heap.size by have h1 := D7.out.size; have h2 := hWT.out.S.size; have h3 := hgz.out; omega)
                have RMf := hid (RowP.apart RM20.out Sf (fun b' o e hn hk2 => by
                  have hb := hWT.out.own_lt b' (.inr (.inl (by rw [e]; rfl)))
                  have h3 := hgz.out
                  rcases hK4 _ hk2 with q | q
                  · exact hrwh3.out b' (.inr (.inl (by rw [e]; rfl))) q
                  · omega))
                have Dtf := hid (Dt20.out.trans (Sf.below (B := w.heap.size) Dt20.out.size (fun k2 hk2 => by
                  have := hsz.out
                  rcases hK4 _ hk2 with q | q
                  · exact hKBw.out k2 (hK3h.out k2 q)
                  · omega)))
                rw [htc]
                have hcws := hid hcc.size
                have NGh := hid hcc
                obtain ⟨pb, hpb⟩ : ∃ x, x = t.fb := ⟨_, rfl⟩
                obtain ⟨ef, hef⟩ : ∃ x, x = t.fp := ⟨_, rfl⟩
                rw [← hpb, ← hef]
                obtain ⟨ps', po', px'⟩ := ef
                have hjm := hid (show j < Ms.length by have h1 := hlen3.out.1; have h2 := hlh.out; omega)
                clear hpb hef htc hlost hr hstop hcc hj hj1 hj2
                obtain ⟨CF, hCF⟩ : ∃ CF, CF = foundC cc ⟨ps', po', px'⟩ pb := ⟨_, rfl⟩
                have hcf := hid (show CF.size = 260 by rw [hCF]; exact foundC_size NGh.out.size _ _)
                have hce := hid (show CF.all (·.oneCell') = true by rw [hCF]; exact found_one NGh.out _ _)
                obtain ⟨Z9, hZ9⟩ : ∃ Z, Z = zerosF := ⟨_, rfl⟩
                have h9s : Z9.size = 260 := by rw [hZ9]; simp [zerosF]
                have hal := hid (fun ρ dst ty pos af W => (hZ9 ▸ fallocF ρ dst ty pos af W : (execOp ρ { dst := dst, op := .alloc 43, type := ty, pos := pos, after := af, guard := none }).run Try.prog W = .ok (.value (.pointer (some ⟨W.heap.size, 0, none⟩))) (W.alloc (.cells Z9 43))))
                have BF := Blk.new Wf Z9 43
                have th := BF.there (n := CF.size) (by rw [hcf.out, h9s])
                have FA0 := FoundAt.whole BF h9s NGh.out.size ⟨ps', po', px'⟩ pb
                rw [← hCF] at FA0 ⊢
                have FA := hid FA0
                have ba := below_al1 Wf (.cells Z9 43)
                have SZ := sole_setCells (S := fun k => k = Wf.heap.size) rfl CF.toList 0 (Wf.alloc (.cells Z9 43))
                have Dz := hid (Dtf.out.trans ((below_cells (ba.mono (Nat.le_refl _)) (Nat.le_refl _) 0 CF.toList).mono Dtf.out.size))
                obtain ⟨bm, om, hpm, rm⟩ := RowP.row (RowP.apart (RowOf.more RMf.out ba) SZ (fun b' o e hn hk2 => by
                  obtain ⟨bm, om, hpm, rm⟩ := RowP.row RMf.out hn
                  rw [hpm] at e
                  cases e
                  have h1 := rm.lt
                  have h2 : b' = Wf.heap.size := hk2
                  omega)) (by have := hjm.out; omega)
                subst hpm
                have hrg := hid (map_range rm hjm.out NGh.out)
                clear BF FA0 ba SZ hZ9 h9s hCF Dtf RMf RM20 RE20 rm D20 S20 Q20 T20 B720 BM20 KF1 Sf hK4
                go_upto_region 31 with (refine Go.Great.wpList_runTo rfl (some 25) rfl _ _ (hal.out _ _ _ _ _ _) ?_; refine wpList_store_mid rfl 43 _ _ rfl Wf.heap.size 0 CF rfl rfl th (by rw [foundtab, hcf.out]) hce.out ?_; generalize World.setCells _ _ _ _ = WZ at *; clear th hal)
                generalize Wf.heap.size = g25 at *
                have hjl : (j : Int) < (Ms.length : Int) := by have := hjm.out; omega
                generalize hV : tabL g25 (.slice (some ⟨bm, om, none⟩) Ms.length cmm) (j : Int) ⟨bm, om + j * 256, none⟩ cc = V
                refine wp_region_inv 11 (fun D vs wx => Vals V D vs ∧ wx = WZ.drew) (by kernel_rfl) (by kernel_rfl) ?h0 ?hstep ?hend
                case h0 => exact ⟨Vals.nil, rfl⟩
                case hstep =>
                  intro n o hj ho D vs ax wx hDj hD hv hbase HH
                  obtain ⟨H, hwx⟩ := HH
                  subst hwx
                  rcases (show n = 0 ∨ n = 1 ∨ n = 2 ∨ n = 3 ∨ n = 4 ∨ n = 5 ∨ n = 6 ∨ n = 7 ∨ n = 8 ∨ n = 9 ∨ n = 10 by omega) with rfl | rfl | rfl | rfl | rfl | rfl | rfl | rfl | rfl | rfl | rfl
                  all_goals
                    simp only [List.getElem?_cons_zero, List.getElem?_cons_succ, Option.some.injEq] at ho
                    subst ho
                  · have e26 := at_base hbase 26 (by kernel_rfl) (v := .int .i64 0) rfl
                    exact StepOf.value (.int .i64 0) (wanted_plain rfl _) (by simp [execOp, Act.eval, e26, go_sem]) ⟨H.put 0 _ (by rw [← hV]; rfl), rfl⟩
                  · have e0 := at_done H hv (hD 0 (by kernel_rfl)) 151 (by kernel_rfl) (v := .int .i64 0) (by rw [← hV]; rfl)
                    exact StepOf.value (.bool true) (wanted_plain rfl _) (by simp [execOp, Act.eval, e0, go_sem]) ⟨H.put 1 _ (by rw [← hV]; rfl), rfl⟩
                  · have e1 := at_done H hv (hD 1 (by kernel_rfl)) 152 (by kernel_rfl) (v := .bool true) (by rw [← hV]; rfl)
                    exact StepOf.value (.bool true) (wanted_plain rfl _) (by simp [execOp, Act.eval, e1, go_sem]) ⟨H.put 2 _ (by rw [← hV]; rfl), rfl⟩
                  · have e2 := at_done H hv (hD 2 (by kernel_rfl)) 153 (by kernel_rfl) (v := .bool true) (by rw [← hV]; rfl)
                    have e25 := at_base hbase 25 (by kernel_rfl) (v := .pointer (some ⟨g25, 0, none⟩)) rfl
                    exact StepOf.value (.pointer (some ⟨g25, 0, none⟩)) (wanted_if rfl (t := 153) rfl e2) (by simp [execOp, Act.eval, e25, go_sem]) ⟨H.put 3 _ (by rw [← hV]; rfl), rfl⟩
                  · have e2 := at_done H hv (hD 2 (by kernel_rfl)) 153 (by kernel_rfl) (v := .bool true) (by rw [← hV]; rfl)
                    have e3 := at_done H hv (hD 3 (by kernel_rfl)) 154 (by kernel_rfl) (v := .pointer (some ⟨g25, 0, none⟩)) (by rw [← hV]; rfl)
                    exact StepOf.value (.agg cc) (wanted_if rfl (t := 153) rfl e2) (run_load_at _ _ _ 32 _ rfl g25 0 (eval_get e3) cc _ FA.out.range Try.underlying32 rfl (by rw [maptab, hcws.out])) ⟨H.put 4 _ (by rw [← hV]; rfl), rfl⟩
                  · have e2 := at_done H hv (hD 2 (by kernel_rfl)) 153 (by kernel_rfl) (v := .bool true) (by rw [← hV]; rfl)
                    have e11 := at_base hbase 11 (by kernel_rfl) (v := .slice (some ⟨bm, om, none⟩) Ms.length cmm) rfl
                    exact StepOf.value (.slice (some ⟨bm, om, none⟩) Ms.length cmm) (wanted_if rfl (t := 153) rfl e2) (by simp [execOp, Act.eval, e11, go_sem]) ⟨H.put 5 _ (by rw [← hV]; rfl), rfl⟩
                  · have e2 := at_done H hv (hD 2 (by kernel_rfl)) 153 (by kernel_rfl) (v := .bool true) (by rw [← hV]; rfl)
                    have e24 := at_base hbase 24 (by kernel_rfl) (v := .int .i64 (j : Int)) rfl
                    exact StepOf.value (.int .i64 (j : Int)) (wanted_if rfl (t := 153) rfl e2) (by simp [execOp, Act.eval, e24, go_sem]) ⟨H.put 6 _ (by rw [← hV]; rfl), rfl⟩
                  · have e2 := at_done H hv (hD 2 (by kernel_rfl)) 153 (by kernel_rfl) (v := .bool true) (by rw [← hV]; rfl)
                    have e5 := at_done H hv (hD 5 (by kernel_rfl)) 156 (by kernel_rfl) (v := .slice (some ⟨bm, om, none⟩) Ms.length cmm) (by rw [← hV]; rfl)
                    have e6 := at_done H hv (hD 6 (by kernel_rfl)) 157 (by kernel_rfl) (v := .int .i64 (j : Int)) (by rw [← hV]; rfl)
                    have hjm' := hjm.out
                    exact StepOf.value (.pointer (some ⟨bm, om + j * 256, none⟩)) (wanted_if rfl (t := 153) rfl e2) (by simp [execOp, Act.eval, e5, e6, go_sem, hjl, hjm']) ⟨H.put 7 _ (by rw [← hV]; rfl), rfl⟩
                  · have e2 := at_done H hv (hD 2 (by kernel_rfl)) 153 (by kernel_rfl) (v := .bool true) (by rw [← hV]; rfl)
                    have e7 := at_done H hv (hD 7 (by kernel_rfl)) 158 (by kernel_rfl) (v := .pointer (some ⟨bm, om + j * 256, none⟩)) (by rw [← hV]; rfl)
                    exact StepOf.value (.agg cc) (wanted_if rfl (t := 153) rfl e2) (run_load_at _ _ _ 32 _ rfl bm (om + j * 256) (eval_get e7) cc _ hrg.out Try.underlying32 rfl (by rw [maptab, hcws.out])) ⟨H.put 8 _ (by rw [← hV]; rfl), rfl⟩
                  · have e2 := at_done H hv (hD 2 (by kernel_rfl)) 153 (by kernel_rfl) (v := .bool true) (by rw [← hV]; rfl)
                    have e4 := at_done H hv (hD 4 (by kernel_rfl)) 155 (by kernel_rfl) (v := .agg cc) (by rw [← hV]; rfl)
                    have e8 := at_done H hv (hD 8 (by kernel_rfl)) 159 (by kernel_rfl) (v := .agg cc) (by rw [← hV]; rfl)
                    exact StepOf.value (.bool true) (wanted_if rfl (t := 153) rfl e2) (aeql_run NGh.out _ _ _ _ _ _ _ _ (eval_get e4) (eval_get e8) _) ⟨H.put 9 _ (by rw [← hV]; rfl), rfl⟩
                  · have e2 := at_done H hv (hD 2 (by kernel_rfl)) 153 (by kernel_rfl) (v := .bool true) (by rw [← hV]; rfl)
                    have e9 := at_done H hv (hD 9 (by kernel_rfl)) 160 (by kernel_rfl) (v := .bool true) (by rw [← hV]; rfl)
                    exact StepOf.value (.bool true) (wanted_plain rfl _) (by simp [execOp, Act.eval, e2, e9, go_sem]) ⟨H.put 10 _ (by rw [← hV]; rfl), rfl⟩
                case hend =>
                  intro D vs W7x hall HH
                  obtain ⟨H, hwx⟩ := HH
                  subst hwx
                  have v0 := H 0 _ (hall 0 (by omega)) (by rw [← hV]; rfl)
                  have v1 := H 1 _ (hall 1 (by omega)) (by rw [← hV]; rfl)
                  have v2 := H 2 _ (hall 2 (by omega)) (by rw [← hV]; rfl)
                  have v3 := H 3 _ (hall 3 (by omega)) (by rw [← hV]; rfl)
                  have v4 := H 4 _ (hall 4 (by omega)) (by rw [← hV]; rfl)
                  have v5 := H 5 _ (hall 5 (by omega)) (by rw [← hV]; rfl)
                  have v6 := H 6 _ (hall 6 (by omega)) (by rw [← hV]; rfl)
                  have v7 := H 7 _ (hall 7 (by omega)) (by rw [← hV]; rfl)
                  have v8 := H 8 _ (hall 8 (by omega)) (by rw [← hV]; rfl)
                  have v9 := H 9 _ (hall 9 (by omega)) (by rw [← hV]; rfl)
                  have v10 := H 10 _ (hall 10 (by omega)) (by rw [← hV]; rfl)
                  simp only [puts, List.range, List.range.loop, List.foldl_cons, List.foldl_nil, List.getElem?_toArray, List.getElem?_cons_succ, List.getElem?_cons_zero, Option.bind_some, Option.bind_none, Act.put, List.setIfInBounds_toArray, List.set_cons_succ, List.set_cons_zero, v0, v1, v2, v3, v4, v5, v6, v7, v8, v9, v10]
                  simp only [List.drop_succ_cons, List.drop_zero]
                  clear v0 v1 v2 v3 v4 v5 v6 v7 v8 v9 v10 hall H hV
                  go_wp2_with fail
                  go_ret
                  exact ⟨rfl, Dz.out.drew⟩
    · have hlti : ¬ (i : Int) < (Ls.length : Int) := by omega
      have hi4 := hid (show i ≤ 4 from hi5h.out)
      have hT := hid (show ∃ (R : Int → List UInt8) (p p2 : Plc) (fr : List Int) (sq : Nat) (s' : RSt) (fp : Option Addr) (fcap c : Nat), c ≤ 400 ∧ SDat S0 i R p fr sq s' Ms Us Es ∧ SMem W7 WR KB bd N c R (gf + 1) g13 s'.c p2 fr fp fcap u11 u12 u14 Ms Us (endsI Es) from ⟨R, p, p, fr, sq, s', fp, fcap, 80 * i, by have := hi4.out; omega, hDA.out, hWT.out⟩)
      clear hDA hWT
      obtain ⟨R, p, p2, fr, sq, s', fp, fcap, c, hc, DA, WM⟩ := hT.out
      obtain ⟨pu, cu, rfl, u1, u2, RU⟩ := RowOwn.open inOk WM.u
      obtain ⟨pm, cmm, rfl, m1, m2, RMp⟩ := RowOwn.open mapOk WM.m
      obtain ⟨pe, ce, rfl, v1, v2, REn⟩ := RowOwn.open inOk WM.e
      have hUb : Us.length ≤ 160 := by have := DA.ub; have := hi4.out; omega
      have hDA := hid DA
      have hWT := hid WM
      have hRU := hid RU
      have hRM := hid RMp
      have hREn := hid REn
      have hc4 := hid hc
      have hmm := hid (And.intro m1 m2)
      have hvv := hid (And.intro v1 v2)
      have huu := hid (And.intro u1 u2)
      clear hT DA WM RU RMp REn hc m1 m2 v1 v2 u1 u2
      by_cases hU : Us.length = 0
      · have hU0 : (Us.length : Int) = 0 := by omega
        go_wp2_with fail
        go_ret
        exact ⟨rfl, Dt.out⟩
      · have hU0 : (Us.length : Int) ≠ 0 := by omega
        have hUf : ((Us.length : Int) == 0) = false := by rw [beq_eq_false_iff_ne]; exact hU0
        obtain ⟨k, hk, ek1, ek2, ek3, ek4⟩ := place_of wh Us.length (by omega) (by omega)
        have ek5 : wrap64 (wh.tmod Us.length + Us.length) = wh.tmod Us.length + Us.length := by rw [← IntWalk.i64_left]; exact ek1
        go_upto_region 26 with (fail)
        obtain ⟨bu, ou, hpu, ru⟩ := RowP.row hRU.out hU
        subst hpu
        have hki : (k : Int) < (Us.length : Int) := by omega
        have cu1 : WR.cell? ⟨bu, ou + k, none⟩ = some (.int .i64 (inAt Us k)) := by
          have := ru.at0 hk (v := .int .i64 (inAt Us k)) rfl
          simpa [inT] using this
        have hbu := ru.lt
        have cu2 : WR.drew.cell? ⟨bu, ou + k, none⟩ = some (.int .i64 (inAt Us k)) := cu1
        have bz := below_al1 WR.drew (.cells (madeCells #[.int .u8 0] 256) 5)
        have bz2 : Below WR.heap.size WR (WR.drew.alloc (.cells (madeCells #[.int .u8 0] 256) 5)) := below2 ((Below.refl _ _).drew) bz (Nat.le_refl _)
        have cu3 : (WR.drew.alloc (.cells (madeCells #[.int .u8 0] 256) 5)).cell? ⟨bu, ou + k, none⟩ = some (.int .i64 (inAt Us k)) := by
          obtain ⟨bu2, ou2, e, ru3⟩ := RowP.row (RowOf.more hRU.out bz2) hU
          cases e
          have := ru3.at0 hk (v := .int .i64 (inAt Us k)) rfl
          simpa [inT] using this
        generalize hV : tabS bd (.slice (some ⟨bu, ou, none⟩) Us.length cu) (k : Int) ⟨bu, ou + k, none⟩ (inAt Us k) WR.heap.size = V
        refine wp_region_inv 6 (fun D vs wx => IQ WR.drew (WR.drew.alloc (.cells (madeCells #[.int .u8 0] 256) 5)) V D vs wx) (by kernel_rfl) (by kernel_rfl) ?h0 ?hstep ?hend
        case h0 => exact ⟨Vals.nil, rfl⟩
        case hstep =>
          intro j o hj ho D vs ax wx hDj hD hv hbase H
          rcases (show j = 0 ∨ j = 1 ∨ j = 2 ∨ j = 3 ∨ j = 4 ∨ j = 5 by omega) with rfl | rfl | rfl | rfl | rfl | rfl
          all_goals
            simp only [List.getElem?_cons_zero, List.getElem?_cons_succ, Option.some.injEq] at ho
            subst ho
          · have e6 := at_base hbase 6 (by kernel_rfl) (v := .pointer (some ⟨bd, 0, none⟩)) rfl
            exact StepOf.value (.pointer (some ⟨bd, 0, none⟩)) (wanted_plain rfl _) (by simp [execOp, Act.eval, e6, go_sem]) (H.quiet 0 _ (by omega) (by rw [← hV]; rfl))
          · have e12 := at_base hbase 12 (by kernel_rfl) (v := .slice (some ⟨bu, ou, none⟩) Us.length cu) rfl
            exact StepOf.value (.slice (some ⟨bu, ou, none⟩) Us.length cu) (wanted_plain rfl _) (by simp [execOp, Act.eval, e12, go_sem]) (H.quiet 1 _ (by omega) (by rw [← hV]; rfl))
          · have e23 := at_base hbase 23 (by kernel_rfl) (v := .int .i64 (k : Int)) rfl
            exact StepOf.value (.int .i64 (k : Int)) (wanted_plain rfl _) (by simp [execOp, Act.eval, e23, go_sem]) (H.quiet 2 _ (by omega) (by rw [← hV]; rfl))
          · have e122 := at_done H.vals hv (hD 1 (by kernel_rfl)) 122 (by kernel_rfl) (v := .slice (some ⟨bu, ou, none⟩) Us.length cu) (by rw [← hV]; rfl)
            have e123 := at_done H.vals hv (hD 2 (by kernel_rfl)) 123 (by kernel_rfl) (v := .int .i64 (k : Int)) (by rw [← hV]; rfl)
            exact StepOf.value (.pointer (some ⟨bu, ou + k, none⟩)) (wanted_plain rfl _) (by simp [execOp, Act.eval, e122, e123, go_sem, hki, hk]) (H.quiet 3 _ (by omega) (by rw [← hV]; rfl))
          · have e124 := at_done H.vals hv (hD 3 (by kernel_rfl)) 124 (by kernel_rfl) (v := .pointer (some ⟨bu, ou + k, none⟩)) (by rw [← hV]; rfl)
            have hc := H.at cu2 cu3
            exact StepOf.value (.int .i64 (inAt Us k)) (wanted_plain rfl _) (by simp [execOp, Act.eval, e124, go_sem, hc]) (H.quiet 4 _ (by omega) (by rw [← hV]; rfl))
          · have hw := H.ahead hDj
            have H2 := H.made (.slice (some ⟨WR.heap.size, 0, none⟩) 256 256) (by rw [← hV]; rfl)
            subst hw
            have mkz : (Instr.makeSlice 51 (.int .i64 256) (.int .i64 256)).run Try.prog WR.drew = .ok (.slice (some ⟨WR.heap.size, 0, none⟩) 256 256) (WR.drew.alloc (.cells (madeCells #[.int .u8 0] 256) 5)) := run_zeros 256 (by omega) WR.drew
            exact StepOf.value (.slice (some ⟨WR.heap.size, 0, none⟩) 256 256) (wanted_plain rfl _) (by unfold execOp; simp [Act.eval, mkz]) H2
        case hend =>
          intro D vs W7x hall H
          have v0 := H.vals 0 _ (hall 0 (by omega)) (by rw [← hV]; rfl)
          have v1 := H.vals 1 _ (hall 1 (by omega)) (by rw [← hV]; rfl)
          have v2 := H.vals 2 _ (hall 2 (by omega)) (by rw [← hV]; rfl)
          have v3 := H.vals 3 _ (hall 3 (by omega)) (by rw [← hV]; rfl)
          have v4 := H.vals 4 _ (hall 4 (by omega)) (by rw [← hV]; rfl)
          have v5 := H.vals 5 _ (hall 5 (by omega)) (by rw [← hV]; rfl)
          have hnow := H.now
          rw [hall 5 (by omega), if_pos rfl] at hnow
          simp only [puts, List.range, List.range.loop, List.foldl_cons, List.foldl_nil, List.getElem?_toArray, List.getElem?_cons_succ, List.getElem?_cons_zero, Option.bind_some, Option.bind_none, Act.put, List.setIfInBounds_toArray, List.set_cons_succ, List.set_cons_zero, v0, v1, v2, v3, v4, v5]
          simp only [List.drop_succ_cons, List.drop_zero]
          clear v0 v1 v2 v3 v4 v5 hall H hV
          subst hnow
          have hxr := hid (show 0 ≤ inAt Us k ∧ inAt Us k < 73 from hDA.out.rng _ (atR_mem (T := inT) Us k hk))
          have hxw : (Lit.int .i64 (inAt Us k)).wf = true := wf_small _ (by have := hxr.out.1; omega) (by have := hxr.out.2; omega)
          obtain ⟨m3, K3, hd3, hK3, hQ3, hT3, hrw3⟩ := hWT.out.d
          have hTz : (⟨some ⟨WR.heap.size, 0, none⟩, 256, zerosN 256⟩ : OcS).there (WR.drew.alloc (.cells (madeCells #[.int .u8 0] 256) 5)) := ⟨made_octs 5 256 WR.drew, by rw [zerosN_len]; exact Nat.le_refl _, by show 256 ≤ maxLen; unfold maxLen; omega⟩
          have KZ0 := wr_done m3 bd (inAt Us k) K3 _ (hd3.more bz2) hQ3 hT3 (by have := hc4.out; omega) hxw hxr.out.1 (by have := hxr.out.2; have := hNh.out; omega) ⟨some ⟨WR.heap.size, 0, none⟩, 256, zerosN 256⟩ hTz (fun b' o e h => by cases e; have := hd3.klt _ h; omega) (zerosN_len 256)
          rw [show (⟨some ⟨WR.heap.size, 0, none⟩, 256, zerosN 256⟩ : OcS).l.length = 256 from zerosN_len 256] at KZ0
          dsimp only at KZ0
          have KZ := hid KZ0
          have hK3h := hid hK3
          have hrwh3 := hid hrw3
          have RM1 := hid (RowOf.more hRM.out bz2)
          have RE1 := hid (RowOf.more hREn.out bz2)
          have B71 := hid (B7t.out.more bz2)
          have BM1 := hid (BMt.out.more bz2)
          have Dt1 := hid (below2 Dt.out bz2 Dt.out.size)
          have hlast := hid (show endA Es i = Us.length from hDA.out.ei)
          have hlen3 := hid (show Ms.length = i + 1 ∧ Es.length = i + 1 from ⟨hDA.out.ml, hDA.out.el⟩)
          have hkh := hid hk
          have hgz := hid (show WR.heap.size < (WR.drew.alloc (.cells (madeCells #[.int .u8 0] 256) 5)).heap.size by simp)
          generalize WR.drew.alloc (.cells (madeCells #[.int .u8 0] 256) 5) = Wz at *
          clear hd3 hQ3 hT3 hTz hxw KZ0 hK3 hrw3 bz bz2 cu1 cu2 cu3 ru hRM hREn hRU B7t BMt Dt
          go_wp2_with fail
          refine KZ.out.mono ?_
          rintro e w20 ⟨rfl, m4, K4, D4x, S4x, hK4, Q4, T4⟩
          have D20 := hid D4x
          have S20 := hid S4x
          have Q20 := hid Q4
          have T20 := hid T4
          have B720 := hid (B71.out.sole S4x (fun hk2 => by have := (hKB9.out _ (.inl (hK3h.out _ hk2))).1; have := hlo.out; omega))
          have BM20 := hid (BM1.out.sole S4x (fun hk2 => (hKB9.out _ (.inl (hK3h.out _ hk2))).2 rfl))
          have RM20 := hid (RowP.apart RM1.out S4x (fun b' o e hn hk2 => hrwh3.out b' (.inr (.inl (by rw [e]; rfl))) hk2))
          have RE20 := hid (RowP.apart RE1.out S4x (fun b' o e hn hk2 => hrwh3.out b' (.inr (.inr (.inr (by rw [e]; rfl)))) hk2))
          have Dt20 := hid (Dt1.out.trans (S4x.below (B := w.heap.size) Dt1.out.size (fun k2 hk2 => hKBw.out k2 (hK3h.out k2 hk2))))
          clear D4x S4x Q4 T4 KZ RM1 RE1 B71 BM1 Dt1
          go_wp2_with fail
          have hEl := hid (show (endsI Es).length = i + 1 by rw [endsI_len]; exact hlen3.out.2)
          obtain ⟨be9, oe9, hpe, re9⟩ := RowP.row RE20.out (by rw [hEl.out]; omega)
          subst hpe
          have re9h := hid re9
          clear re9
          go_loopw [24] (fun sw wr => wr = w20 ∧ ∃ h : Nat, h ≤ i ∧ endA Es h ≤ k ∧ sw = .int .i64 (h : Int)) (fun sw _ => 5 - (intOf sw).toNat)
          case atStart => exact ⟨rfl, 0, Nat.zero_le _, by rw [hDA.out.e0]; exact Nat.zero_le _, rfl⟩
          case round =>
            obtain ⟨hwr, h, hhi, hhk, rfl⟩ := hrel
            subst hwr
            have hl : h < i := by
              rcases Nat.lt_or_ge h i with q | q
              · exact q
              · exfalso
                obtain rfl : h = i := by omega
                have h1 := hlast.out
                have h2 := hkh.out
                omega
            have hi4n := hi4.out
            have hl1 : (h : Int) < ((endsI Es).length : Int) - 1 := by have := hEl.out; omega
            have hl2 : (h : Int) + 1 < ((endsI Es).length : Int) := by have := hEl.out; omega
            have hl3 : ((endsI Es).length : Int) ≤ 5 := by have := hEl.out; omega
            have hl4 : h + 1 < (endsI Es).length := by have := hEl.out; omega
            have ce1 : wr.cell? ⟨be9, oe9 + (h + 1), none⟩ = some (.int .i64 ((endA Es (h + 1) : Nat) : Int)) := by
              have := re9h.out.at0 hl4 (v := .int .i64 ((endA Es (h + 1) : Nat) : Int)) (by rw [← endsI_at Es (h + 1) (by have := hlen3.out.2; omega)]; rfl)
              simpa [inT] using this
            by_cases hk2 : endA Es (h + 1) ≤ k
            · have hk3 : ((endA Es (h + 1) : Nat) : Int) ≤ (k : Int) := by omega
              go_wp2_with fail
              go_roundw
              case rel => exact ⟨by trivial, h + 1, by omega, hk2, by simp⟩
              case measure => simp [intOf]; omega
            · have hk3 : ¬ ((endA Es (h + 1) : Nat) : Int) ≤ (k : Int) := by omega
              have hmi := hid (show (Try.prog.info? 34).map (·.size) = some M.size by rw [marktab, NC.out.size])
              have KF1 := hid (KF.out m4 K4 wr D20.out _ Q20.out _ T20.out (fun x h0 h1 => by
                split
                · exact zerosN_len 256
                · exact hDA.out.inv.len x h0 (by have := hNh.out; omega)))
              have hlh := hid hl
              have hhkh := hid hhk
              have hk2h := hid hk2
              obtain ⟨l7, m7, f7⟩ := B720.out
              go_upto_region 30 with (fail)
              clear hl1 hl2 hl3 hl4 ce1 hk2 hk3 hl hhk hhi
              go_wp2_with (refine rwpList_load rfl 34 _ rfl g7 rfl M _ BM20.out Try.underlying34 rfl hmi.out ?_)
              refine KF1.out.mono ?_
              rintro e Wf ⟨_, Sf, kk, t, hr, hstop, _, _, rfl⟩
              obtain ⟨j, hj, hj1, hj2, cc, hcc, hlost⟩ := hDA.out.lost k hkh.out
              obtain rfl := hDA.out.which hj hlh.out hj1 hj2 hhkh.out hk2h.out
              have htc : t.c = cc := hlost.only (fun y hy => if_neg (fun e => hy e.symm)) (if_pos rfl) hr hstop
              have hsz := hid (show w.heap.size ≤ Wz.heap.size by have h1 := D7.out.size; have h2 := hWT.out.S.size; have h3 := hgz.out; omega)
              have RMf := hid (RowP.apart RM20.out Sf (fun b' o e hn hk2 => by
                have hb := hWT.out.own_lt b' (.inr (.inl (by rw [e]; rfl)))
                have h3 := hgz.out
                rcases hK4 _ hk2 with q | q
                · exact hrwh3.out b' (.inr (.inl (by rw [e]; rfl))) q
                · omega))
              have Dtf := hid (Dt20.out.trans (Sf.below (B := w.heap.size) Dt20.out.size (fun k2 hk2 => by
                have := hsz.out
                rcases hK4 _ hk2 with q | q
                · exact hKBw.out k2 (hK3h.out k2 q)
                · omega)))
              rw [htc]
              have hcws := hid hcc.size
              have NGh := hid hcc
              obtain ⟨pb, hpb⟩ : ∃ x, x = t.fb := ⟨_, rfl⟩
              obtain ⟨ef, hef⟩ : ∃ x, x = t.fp := ⟨_, rfl⟩
              rw [← hpb, ← hef]
              obtain ⟨ps', po', px'⟩ := ef
              have hjm := hid (show j < Ms.length by have h1 := hlen3.out.1; have h2 := hlh.out; omega)
              clear hpb hef htc hlost hr hstop hcc hj hj1 hj2
              obtain ⟨CF, hCF⟩ : ∃ CF, CF = foundC cc ⟨ps', po', px'⟩ pb := ⟨_, rfl⟩
              have hcf := hid (show CF.size = 260 by rw [hCF]; exact foundC_size NGh.out.size _ _)
              have hce := hid (show CF.all (·.oneCell') = true by rw [hCF]; exact found_one NGh.out _ _)
              obtain ⟨Z9, hZ9⟩ : ∃ Z, Z = zerosF := ⟨_, rfl⟩
              have h9s : Z9.size = 260 := by rw [hZ9]; simp [zerosF]
              have hal := hid (fun ρ dst ty pos af W => (hZ9 ▸ fallocF ρ dst ty pos af W : (execOp ρ { dst := dst, op := .alloc 43, type := ty, pos := pos, after := af, guard := none }).run Try.prog W = .ok (.value (.pointer (some ⟨W.heap.size, 0, none⟩))) (W.alloc (.cells Z9 43))))
              have BF := Blk.new Wf Z9 43
              have th := BF.there (n := CF.size) (by rw [hcf.out, h9s])
              have FA0 := FoundAt.whole BF h9s NGh.out.size ⟨ps', po', px'⟩ pb
              rw [← hCF] at FA0 ⊢
              have FA := hid FA0
              have ba := below_al1 Wf (.cells Z9 43)
              have SZ := sole_setCells (S := fun k => k = Wf.heap.size) rfl CF.toList 0 (Wf.alloc (.cells Z9 43))
              have Dz := hid (Dtf.out.trans ((below_cells (ba.mono (Nat.le_refl _)) (Nat.le_refl _) 0 CF.toList).mono Dtf.out.size))
              obtain ⟨bm, om, hpm, rm⟩ := RowP.row (RowP.apart (RowOf.more RMf.out ba) SZ (fun b' o e hn hk2 => by
                obtain ⟨bm, om, hpm, rm⟩ := RowP.row RMf.out hn
                rw [hpm] at e
                cases e
                have h1 := rm.lt
                have h2 : b' = Wf.heap.size := hk2
                omega)) (by have := hjm.out; omega)
              subst hpm
              have hrg := hid (map_range rm hjm.out NGh.out)
              clear BF FA0 ba SZ hZ9 h9s hCF Dtf RMf RM20 RE20 rm D20 S20 Q20 T20 B720 BM20 KF1 Sf hK4
              go_upto_region 31 with (refine Go.Great.wpList_runTo rfl (some 25) rfl _ _ (hal.out _ _ _ _ _ _) ?_; refine wpList_store_mid rfl 43 _ _ rfl Wf.heap.size 0 CF rfl rfl th (by rw [foundtab, hcf.out]) hce.out ?_; generalize World.setCells _ _ _ _ = WZ at *; clear th hal)
              generalize Wf.heap.size = g25 at *
              have hjl : (j : Int) < (Ms.length : Int) := by have := hjm.out; omega
              generalize hV : tabL g25 (.slice (some ⟨bm, om, none⟩) Ms.length cmm) (j : Int) ⟨bm, om + j * 256, none⟩ cc = V
              refine wp_region_inv 11 (fun D vs wx => Vals V D vs ∧ wx = WZ.drew) (by kernel_rfl) (by kernel_rfl) ?h0 ?hstep ?hend
              case h0 => exact ⟨Vals.nil, rfl⟩
              case hstep =>
                intro n o hj ho D vs ax wx hDj hD hv hbase HH
                obtain ⟨H, hwx⟩ := HH
                subst hwx
                rcases (show n = 0 ∨ n = 1 ∨ n = 2 ∨ n = 3 ∨ n = 4 ∨ n = 5 ∨ n = 6 ∨ n = 7 ∨ n = 8 ∨ n = 9 ∨ n = 10 by omega) with rfl | rfl | rfl | rfl | rfl | rfl | rfl | rfl | rfl | rfl | rfl
                all_goals
                  simp only [List.getElem?_cons_zero, List.getElem?_cons_succ, Option.some.injEq] at ho
                  subst ho
                · have e26 := at_base hbase 26 (by kernel_rfl) (v := .int .i64 0) rfl
                  exact StepOf.value (.int .i64 0) (wanted_plain rfl _) (by simp [execOp, Act.eval, e26, go_sem]) ⟨H.put 0 _ (by rw [← hV]; rfl), rfl⟩
                · have e0 := at_done H hv (hD 0 (by kernel_rfl)) 151 (by kernel_rfl) (v := .int .i64 0) (by rw [← hV]; rfl)
                  exact StepOf.value (.bool true) (wanted_plain rfl _) (by simp [execOp, Act.eval, e0, go_sem]) ⟨H.put 1 _ (by rw [← hV]; rfl), rfl⟩
                · have e1 := at_done H hv (hD 1 (by kernel_rfl)) 152 (by kernel_rfl) (v := .bool true) (by rw [← hV]; rfl)
                  exact StepOf.value (.bool true) (wanted_plain rfl _) (by simp [execOp, Act.eval, e1, go_sem]) ⟨H.put 2 _ (by rw [← hV]; rfl), rfl⟩
                · have e2 := at_done H hv (hD 2 (by kernel_rfl)) 153 (by kernel_rfl) (v := .bool true) (by rw [← hV]; rfl)
                  have e25 := at_base hbase 25 (by kernel_rfl) (v := .pointer (some ⟨g25, 0, none⟩)) rfl
                  exact StepOf.value (.pointer (some ⟨g25, 0, none⟩)) (wanted_if rfl (t := 153) rfl e2) (by simp [execOp, Act.eval, e25, go_sem]) ⟨H.put 3 _ (by rw [← hV]; rfl), rfl⟩
                · have e2 := at_done H hv (hD 2 (by kernel_rfl)) 153 (by kernel_rfl) (v := .bool true) (by rw [← hV]; rfl)
                  have e3 := at_done H hv (hD 3 (by kernel_rfl)) 154 (by kernel_rfl) (v := .pointer (some ⟨g25, 0, none⟩)) (by rw [← hV]; rfl)
                  exact StepOf.value (.agg cc) (wanted_if rfl (t := 153) rfl e2) (run_load_at _ _ _ 32 _ rfl g25 0 (eval_get e3) cc _ FA.out.range Try.underlying32 rfl (by rw [maptab, hcws.out])) ⟨H.put 4 _ (by rw [← hV]; rfl), rfl⟩
                · have e2 := at_done H hv (hD 2 (by kernel_rfl)) 153 (by kernel_rfl) (v := .bool true) (by rw [← hV]; rfl)
                  have e11 := at_base hbase 11 (by kernel_rfl) (v := .slice (some ⟨bm, om, none⟩) Ms.length cmm) rfl
                  exact StepOf.value (.slice (some ⟨bm, om, none⟩) Ms.length cmm) (wanted_if rfl (t := 153) rfl e2) (by simp [execOp, Act.eval, e11, go_sem]) ⟨H.put 5 _ (by rw [← hV]; rfl), rfl⟩
                · have e2 := at_done H hv (hD 2 (by kernel_rfl)) 153 (by kernel_rfl) (v := .bool true) (by rw [← hV]; rfl)
                  have e24 := at_base hbase 24 (by kernel_rfl) (v := .int .i64 (j : Int)) rfl
                  exact StepOf.value (.int .i64 (j : Int)) (wanted_if rfl (t := 153) rfl e2) (by simp [execOp, Act.eval, e24, go_sem]) ⟨H.put 6 _ (by rw [← hV]; rfl), rfl⟩
                · have e2 := at_done H hv (hD 2 (by kernel_rfl)) 153 (by kernel_rfl) (v := .bool true) (by rw [← hV]; rfl)
                  have e5 := at_done H hv (hD 5 (by kernel_rfl)) 156 (by kernel_rfl) (v := .slice (some ⟨bm, om, none⟩) Ms.length cmm) (by rw [← hV]; rfl)
                  have e6 := at_done H hv (hD 6 (by kernel_rfl)) 157 (by kernel_rfl) (v := .int .i64 (j : Int)) (by rw [← hV]; rfl)
                  have hjm' := hjm.out
                  exact StepOf.value (.pointer (some ⟨bm, om + j * 256, none⟩)) (wanted_if rfl (t := 153) rfl e2) (by simp [execOp, Act.eval, e5, e6, go_sem, hjl, hjm']) ⟨H.put 7 _ (by rw [← hV]; rfl), rfl⟩
                · have e2 := at_done H hv (hD 2 (by kernel_rfl)) 153 (by kernel_rfl) (v := .bool true) (by rw [← hV]; rfl)
                  have e7 := at_done H hv (hD 7 (by kernel_rfl)) 158 (by kernel_rfl) (v := .pointer (some ⟨bm, om + j * 256, none⟩)) (by rw [← hV]; rfl)
                  exact StepOf.value (.agg cc) (wanted_if rfl (t := 153) rfl e2) (run_load_at _ _ _ 32 _ rfl bm (om + j * 256) (eval_get e7) cc _ hrg.out Try.underlying32 rfl (by rw [maptab, hcws.out])) ⟨H.put 8 _ (by rw [← hV]; rfl), rfl⟩
                · have e2 := at_done H hv (hD 2 (by kernel_rfl)) 153 (by kernel_rfl) (v := .bool true) (by rw [← hV]; rfl)
                  have e4 := at_done H hv (hD 4 (by kernel_rfl)) 155 (by kernel_rfl) (v := .agg cc) (by rw [← hV]; rfl)
                  have e8 := at_done H hv (hD 8 (by kernel_rfl)) 159 (by kernel_rfl) (v := .agg cc) (by rw [← hV]; rfl)
                  exact StepOf.value (.bool true) (wanted_if rfl (t := 153) rfl e2) (aeql_run NGh.out _ _ _ _ _ _ _ _ (eval_get e4) (eval_get e8) _) ⟨H.put 9 _ (by rw [← hV]; rfl), rfl⟩
                · have e2 := at_done H hv (hD 2 (by kernel_rfl)) 153 (by kernel_rfl) (v := .bool true) (by rw [← hV]; rfl)
                  have e9 := at_done H hv (hD 9 (by kernel_rfl)) 160 (by kernel_rfl) (v := .bool true) (by rw [← hV]; rfl)
                  exact StepOf.value (.bool true) (wanted_plain rfl _) (by simp [execOp, Act.eval, e2, e9, go_sem]) ⟨H.put 10 _ (by rw [← hV]; rfl), rfl⟩
              case hend =>
                intro D vs W7x hall HH
                obtain ⟨H, hwx⟩ := HH
                subst hwx
                have v0 := H 0 _ (hall 0 (by omega)) (by rw [← hV]; rfl)
                have v1 := H 1 _ (hall 1 (by omega)) (by rw [← hV]; rfl)
                have v2 := H 2 _ (hall 2 (by omega)) (by rw [← hV]; rfl)
                have v3 := H 3 _ (hall 3 (by omega)) (by rw [← hV]; rfl)
                have v4 := H 4 _ (hall 4 (by omega)) (by rw [← hV]; rfl)
                have v5 := H 5 _ (hall 5 (by omega)) (by rw [← hV]; rfl)
                have v6 := H 6 _ (hall 6 (by omega)) (by rw [← hV]; rfl)
                have v7 := H 7 _ (hall 7 (by omega)) (by rw [← hV]; rfl)
                have v8 := H 8 _ (hall 8 (by omega)) (by rw [← hV]; rfl)
                have v9 := H 9 _ (hall 9 (by omega)) (by rw [← hV]; rfl)
                have v10 := H 10 _ (hall 10 (by omega)) (by rw [← hV]; rfl)
                simp only [puts, List.range, List.range.loop, List.foldl_cons, List.foldl_nil, List.getElem?_toArray, List.getElem?_cons_succ, List.getElem?_cons_zero, Option.bind_some, Option.bind_none, Act.put, List.setIfInBounds_toArray, List.set_cons_succ, List.set_cons_zero, v0, v1, v2, v3, v4, v5, v6, v7, v8, v9, v10]
                simp only [List.drop_succ_cons, List.drop_zero]
                clear v0 v1 v2 v3 v4 v5 v6 v7 v8 v9 v10 hall H hV
                go_wp2_with fail
                go_ret
                exact ⟨rfl, Dz.out.drew⟩
end Go.Proofs.Ytcklmemnjchdcaa

namespace Go.Proofs.Ytcklmemnjchdcaa
open Go.ChangeShapes Go.WideShapes Go.ChangeAt Go.RowKit
set_option linter.unusedVariables false
set_option maxRecDepth 100000

theorem rollStops_lifted (os : Os) (started : os.Started) (H : Type) (enc : TypeId × Value → H) :
    ReturnsInHanded {} Try.checked os 4 .any (Rows.rollStopsSpec.pre6 enc Try.prog Try.f4 [] false) (Rows.rollStopsSpec.post enc Try.prog Try.f4 false true false false) :=
  lift (C := Try.checked) (s := Rows.rollStopsSpec) own (by kernel_rfl) Try.func4 laidOut rfl rfl Try.underlying4 (by kernel_rfl)
    (fun H ds hd => by match ds, hd with | [d1, d2], _ => rfl) os started H enc
    (ChangeSpec.witness6 (enc := enc) (C := Try.checked) false ⟨#[], #[.slice none 0 0, .int .i64 0], []⟩ 8 (by kernel_rfl) (by kernel_rfl) (by kernel_rfl) (by kernel_rfl))
    (fun W base args ds ps hval0 hA0 => by
      have hval : ∀ (j : Nat) t v, Try.f4.params[j]? = some t → args[j]? = some v → Value.okWide Try.prog W .any base t v := hval0
      have hA : DataW.TrodAll enc Try.prog W 0 (fun _ => true) true Try.f4.params.toList args.toList ds ps := hA0
      rw [Try.params4] at hA hval
      obtain ⟨v0, s0, d0, e0, p0, q0, g0, h0, r0⟩ := args_cons hA
      obtain ⟨v1, s1, d1, e1, p1, q1, rfl, h1, r1⟩ := args_cons r0
      obtain ⟨rfl, _, _⟩ := trodAll_nil r1
      obtain rfl : args = #[v0, v1] := by cases args; simp_all
      obtain ⟨L0, a0, k0, rfl, c0, m0, R0, T0⟩ := entll_of (hval 0 22 v0 rfl rfl) h0
      obtain ⟨wh, rfl, _, _, wwh⟩ := open_int Try.underlying3 (hval 1 3 v1 rfl rfl) h1
      exact rollStops a0 k0 L0 c0 m0 wh wwh W R0 T0)

theorem rollStops_holds : Rows.RollStopsSaid :=
  OpenClaim.holds_of_wide 4 Try.f4 rfl rfl rfl rfl rfl rfl rfl ⟨rfl, rfl, rfl, rfl, rfl⟩ rfl rfl rfl rfl rfl (by kernel_rfl) Try.func4 (by kernel_rfl)
    (of_decide_eq_true (by kernel_rfl)) (by unfold Func.isWrapper; rw [if_neg (of_decide_eq_false (by kernel_rfl))]; exact ⟨rfl, rfl⟩)
    (fun os started H enc _ => rollStops_lifted os started H enc)
#print axioms rollStops_holds
end Go.Proofs.Ytcklmemnjchdcaa
