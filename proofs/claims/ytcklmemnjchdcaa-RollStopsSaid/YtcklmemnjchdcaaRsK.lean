/-
  RollFinds: its mark; what it makes of it, in any order.
-/
import Derived.Test.YtcklmemnjchdcaaRsM
import Derived.Test.YtcklmemnjchdcaaRsE
import Derived.Test.YtcklmemnjchdcaaRsP
import Derived.Test.YtcklmemnjchdcaaRsZ
import Derived.Deep.Slices
import Derived.Test.YtcklmemnjchdcaaRsH

/-
  Package roll: a part that stands on a disk is the next batch.
-/


namespace Go.Proofs.Ytcklmemnjchdcaa
open Go.RowKit Go.Maps
set_option linter.unusedVariables false
set_option linter.unusedSimpArgs false

theorem oct_reads (d : NdS) (hok : ∀ i, i < d.n → (d.f i).ok) (h : d.good = true) : ((leafR d.oct).isSome || otherR d.oct) = true := by
  have hl : d.oct = nodeO d.lf d.n d.f d.nx d.k d.c := by
    show nodeL d.lf d.n d.f d.nx d.k d.c = _
    unfold nodeL
    rw [show nodeB d.lf d.n d.f d.nx d.k d.c = true from h, if_pos rfl]
  rw [hl]
  have h' : nodeB d.lf d.n d.f d.nx d.k d.c = true := h
  cases hf : d.lf with
  | true =>
    rw [hf] at h'
    obtain ⟨L, h1, _⟩ := leaf_back d.nx d.n d.f d.k d.c hok h'
    rw [show nodeO true d.n d.f d.nx d.k d.c = leafO d.nx d.n d.f from rfl, h1]
    rfl
  | false =>
    rw [hf] at h'
    have h3 : otherB 0 0 d.k d.c = true := by
      have h2 : otherB d.n d.nx d.k d.c = true := h'
      unfold otherB at h2 ⊢
      simp only [Bool.and_eq_true, decide_eq_true_eq] at h2
      rw [h2.2.2]
      rfl
    rw [show nodeO false d.n d.f d.nx d.k d.c = otherO d.k d.c from rfl, (other_back d.k d.c h3).2.1, Bool.or_true]
theorem sec_reads {l : List UInt8} {t : Stp} {id : Int} {d : NdS} (H : NodeSec l t id d) : nodeG l = true ∧ nodeI l = id ∧ isB l 5 t = true := by
  have h0 := H.id0
  have h1 := H.id1
  have hc : (UInt8.ofNat id.toNat).toNat = id.toNat := by
    rw [UInt8.toNat_ofNat']
    omega
  refine ⟨?_, ?_, ?_⟩
  · unfold nodeG
    rw [H.good, H.kind, H.txt]
    have h2 : ¬ id.toNat = 0 := by omega
    simp only [hc, oct_reads d H.ok H.nd, decide_eq_true_eq, Bool.and_true, Bool.true_and]
    simpa using h2
  · unfold nodeI
    rw [H.txt]
    show (((UInt8.ofNat id.toNat).toNat : Nat) : Int) = id
    rw [hc]
    omega
  · unfold isB
    rw [H.good, H.kind, H.st, (stEq_iff t t).2 rfl]
    rfl
theorem cntW_congr (f g : Nat → En) : ∀ n, (∀ i, i < n → f i = g i) → cntW f n = cntW g n
  | 0, _ => rfl
  | n + 1, h => by
    rw [cntW_succ, cntW_succ, cntW_congr f g n (fun i hi => h i (by omega)), h n (by omega)]
theorem part_bat {R : Int → List UInt8} {z ep sq nx left : Int} {la : Bool} {n : Nat} {f : Nat → En} (P : Part R z ⟨ep, sq, 0⟩ nx la n f (fun _ => false)) (hl : 1 + (cntW f n : Int) ≤ left) :
    batG R z left ep sq = true ∧ smNx (R z) = nx ∧ smLa (R z) = la ∧ smN (R z) = n ∧ ∀ i, i < n → smF (R z) i = f i := by
  obtain ⟨_, g1, g2, g3, g4, _⟩ := seal_good 4 ⟨ep, sq, 0⟩ (smB nx la n f) P.fits P.room
  rw [← P.head] at g1 g2 g3 g4
  obtain ⟨h0, h1, _, h3, h4⟩ := sm_back nx la n f P.good
  have e1 : smNx (R z) = nx := by unfold smNx; rw [g4]; exact h0
  have e2 : smLa (R z) = la := by unfold smLa; rw [g4]; exact h1
  have e3 : smN (R z) = n := by unfold smN; rw [g4]; exact h3
  have e4 : ∀ i, i < n → smF (R z) i = f i := fun i hi => by unfold smF; rw [g4]; exact h4 i hi
  have ec : ∀ k, k ≤ n → cntW (smF (R z)) k = cntW f k := fun k hk => cntW_congr _ _ k fun i hi => e4 i (by omega)
  have ew : ∀ k, k ≤ n → wrGood R z ep sq (smF (R z)) k = true := by
    intro k
    induction k with
    | zero => intro _; rfl
    | succ k ih =>
      intro hk
      unfold wrGood
      rw [ih (by omega), Bool.true_and, e4 k (by omega), ec k (by omega)]
      by_cases hk1 : (f k).k = 1
      · rw [if_pos hk1]
        obtain ⟨d, ND⟩ := P.node k (by omega) hk1 rfl
        obtain ⟨a1, a2, a3⟩ := sec_reads ND
        rw [show z + ((cntW f k : Int) + 1) = z + ((cntW f k + 1 : Nat) : Int) by omega, show (cntW f k : Int) + 1 = ((cntW f k + 1 : Nat) : Int) by omega, a1, a2, a3]
        simp
      · rw [if_neg hk1]
  have hs : sumG (R z) ⟨ep, sq, 0⟩ = true := by
    unfold sumG isB
    rw [g1, g2, g3, g4, sm_readG nx la n f P.good, (stEq_iff _ _).2 rfl]
    rfl
  refine ⟨?_, e1, e2, e3, e4⟩
  unfold batG
  rw [hs, e3, ec n (Nat.le_refl _), ew n (Nat.le_refl _), decide_eq_true hl]
  rfl
/-- As the disk that it stands on, where it stands. -/
theorem Part.eq {R R' : Int → List UInt8} {z nx : Int} {t : Stp} {la : Bool} {n : Nat} {f : Nat → En} (P : Part R z t nx la n f (fun _ => false)) (h : ∀ j : Nat, j ≤ cntW f n → R' (z + (j : Int)) = R (z + (j : Int))) : Part R' z t nx la n f (fun _ => false) := by
  refine ⟨?_, P.good, P.fits, P.room, P.t0a, fun k _ _ h => (by cases h), fun k hk h1 hb => ?_⟩
  · have := h 0 (Nat.zero_le _)
    simp only [Int.ofNat_eq_natCast, Int.cast_ofNat_Int, Int.add_zero] at this
    rw [this]; exact P.head
  · have hm := cntW_mono f (show k + 1 ≤ n by omega)
    rw [cntW_succ, if_pos h1] at hm
    obtain ⟨d, ND⟩ := P.node k hk h1 hb
    exact ⟨d, by rw [h _ hm]; exact ND⟩
theorem esL_at (f : Nat → En) (es : List En) (h : ∀ i, i < es.length → f i = penAt es i) : esL f es.length = es := by
  apply List.ext_getElem
  · rw [esL_len]
  · intro i h1 h2
    have e : penAt es i = es[i] := atR_eq es i h2
    simp only [esL, List.getElem_map, List.getElem_range]
    rw [h i h2, e]
theorem wrN_cnt (es : List En) : cntW (penAt es) es.length = wrN es := by
  have key : ∀ k, k ≤ es.length → cntW (penAt es) k = wrN (es.take k) := by
    intro k
    induction k with
    | zero => intro _; rfl
    | succ k ih =>
      intro hk
      rw [cntW_succ, ih (by omega), wrN_take es k (by omega)]
  rw [key _ (Nat.le_refl _), List.take_length]

/-- Behind a part. -/
def stepState (z : Int) (s : RSt) (la : Bool) (q : Plc) (es : List En) : RSt :=
  let L := s.L ++ es
  let A := s.A ++ atL (secP z ⟨q.seg, q.off, q.next⟩) (wrN es)
  let p : Pc := ⟨q.seg, q.off + 1 + (wrN es : Int), q.next⟩
  if la then ⟨[], [], 0, p, resA s.c (penAt L) (inAt A) A.length L.length, p, s.fb + (s.k + 1)⟩ else ⟨L, A, s.k + 1, p, s.c, s.fp, s.fb⟩
theorem roll_part {R : Int → List UInt8} {n z ep sq : Int} {s : RSt} {la : Bool} {q : Plc} {es : List En} (P : Part R (secP z ⟨q.seg, q.off, q.next⟩) ⟨ep, sq, 0⟩ q.next la es.length (penAt es) (fun _ => false))
    (hs : (onP z s.p).s = q.seg) (ho : (onP z s.p).o = q.off) (hx : z - s.p.o < 2 ∨ q.next = s.p.x) (hn : q.next < n) (hd : q.next ≠ q.seg) (hz : q.off + 1 + (wrN es : Int) ≤ z) :
    rollStep R n z ep sq s = some (stepState z s la q es) := by
  obtain ⟨e0, e1, e2, e3, e4⟩ := part_bat (left := z - q.off) P (by rw [wrN_cnt]; omega)
  have hsec : secP z (onP z s.p) = secP z ⟨q.seg, q.off, q.next⟩ := by unfold secP; rw [hs, ho]
  have hG : nextG R n z s.p ep sq = true := by
    unfold nextG
    rw [hsec, hs, ho, e0, e1, decide_eq_true hn, show (q.next == q.seg) = false from by rw [beq_eq_false_iff_ne]; exact hd]
    rcases hx with h | h
    · rw [decide_eq_true h]; rfl
    · rw [h]; simp
  rw [roll_step hG, hsec, hs, ho]
  have ec : cntW (smF (R (secP z ⟨q.seg, q.off, q.next⟩))) es.length = wrN es := by
    rw [cntW_congr _ _ es.length e4, wrN_cnt]
  rw [e1, e2, e3, ec, esL_at _ es e4]
  unfold stepState
  cases la <;> rfl
end Go.Proofs.Ytcklmemnjchdcaa

/-
  Package roll: what went to the log since a mark, part by part, and what Forward knows of it.
-/



namespace Go.Proofs.Ytcklmemnjchdcaa
open Go.RowKit Go.Maps
set_option linter.unusedVariables false
set_option linter.unusedSimpArgs false

/-- A sector of the log in which nothing stands yet. -/
def inA (z : Int) (p : Plc) (fr : List Int) (x : Int) : Prop := ((x - 9) / z = p.seg ∧ p.off ≤ (x - 9) % z) ∨ (x - 9) / z ∈ p.next :: fr
theorem at_div {z s o : Int} (h0 : 0 ≤ o) (h1 : o < z) : (9 + s * z + o - 9) / z = s ∧ (9 + s * z + o - 9) % z = o := by
  have e : 9 + s * z + o - 9 = o + z * s := by rw [Int.mul_comm z s]; omega
  rw [e, Int.add_mul_ediv_left _ _ (by omega), Int.add_mul_emod_self_left, Int.ediv_eq_zero_of_lt h0 h1, Int.emod_eq_of_lt h0 h1]
  exact ⟨by omega, rfl⟩
abbrev Plc.pc (p : Plc) : Pc := ⟨p.seg, p.off, p.next⟩
structure RollInv (ep z : Int) (R : Int → List UInt8) (s0 : RSt) (p : Plc) (fr : List Int) (sq : Nat) (s : RSt) : Prop where
  good : GoodP 8 z p fr
  nod : (p.seg :: p.next :: fr).Nodup
  zero : ∀ x, inA z p fr x → R x = zerosN 256
  reach : ∀ R', (∀ x, ¬ inA z p fr x → R' x = R x) → reachR R' 8 z ep s0 sq s
  sp : s.p = p.pc
  len : ∀ x, 0 ≤ x → x < 9 + 8 * z → (R x).length = 256
theorem zeros_none {R : Int → List UInt8} {x left ep sq : Int} (h : R x = zerosN 256) : batG R x left ep sq = false := by
  unfold batG sumG isB
  rw [h, goodB_zeros]
  rfl
theorem RollInv.noMore {ep z : Int} {R : Int → List UInt8} {s0 : RSt} {p : Plc} {fr : List Int} {sq : Nat} {s : RSt} (h : RollInv ep z R s0 p fr sq s) : rollStep R 8 z ep (sq : Int) s = none := by
  have g := h.good
  have hA : inA z p fr (secP z (onP z s.p)) := by
    rw [h.sp]
    unfold onP
    by_cases h2 : 2 ≤ z - p.off
    · rw [if_pos h2]
      have := at_div (s := p.seg) g.o0 (show p.off < z by omega)
      exact .inl ⟨this.1, Int.le_of_eq this.2.symm⟩
    · rw [if_neg h2]
      have := at_div (z := z) (s := p.next) (Int.le_refl 0) (by have := g.z4; omega)
      exact .inr (by rw [show (secP z ⟨p.pc.x, 0, 0⟩ - 9) / z = p.next from this.1]; exact List.mem_cons_self)
  have hG : nextG R 8 z s.p ep (sq : Int) = false := by
    unfold nextG
    rw [zeros_none (h.zero _ hA)]
    rfl
  unfold rollStep
  rw [hG]
  rfl
theorem reach_fun {R : Int → List UInt8} {n z ep : Int} {s0 : RSt} : ∀ k s t, reachR R n z ep s0 k s → reachR R n z ep s0 k t → s = t
  | 0, s, t, h, g => by
    have e1 : s = s0 := h
    have e2 : t = s0 := g
    rw [e1, e2]
  | k + 1, s, t, ⟨a, ha, hs⟩, ⟨b, hb, ht⟩ => by
    rw [reach_fun k a b ha hb, ht] at hs
    exact (Option.some.inj hs).symm
theorem reach_lt {R : Int → List UInt8} {n z ep : Int} {s0 : RSt} {m : Nat} : ∀ k s, reachR R n z ep s0 k s → m < k → ∃ t u, reachR R n z ep s0 m t ∧ rollStep R n z ep (m : Int) t = some u
  | 0, _, _, h => absurd h (Nat.not_lt_zero _)
  | k + 1, s, ⟨a, ha, hs⟩, h => by
    rcases Nat.lt_succ_iff_lt_or_eq.1 h with h1 | rfl
    · exact reach_lt k a ha h1
    · exact ⟨a, s, ha, hs⟩
theorem RollInv.only {ep z : Int} {R : Int → List UInt8} {s0 : RSt} {p : Plc} {fr : List Int} {sq : Nat} {s : RSt} (h : RollInv ep z R s0 p fr sq s) (hsq : sq < 4294967295) {k : Nat} {t : RSt} (hr : reachR R 8 z ep s0 k t) (hn : rollStep R 8 z ep (k : Int) t = none ∨ k = 4294967295) : t = s := by
  have h1 := h.reach R fun _ _ => rfl
  have h2 := h.noMore
  rcases Nat.lt_trichotomy k sq with hlt | rfl | hlt
  · obtain ⟨a, u, ha, hu⟩ := reach_lt _ _ h1 hlt
    rw [reach_fun _ _ _ ha hr] at hu
    rcases hn with hn | hn
    · rw [hn] at hu; cases hu
    · omega
  · exact reach_fun _ _ _ hr h1
  · obtain ⟨a, u, ha, hu⟩ := reach_lt _ _ hr hlt
    rw [reach_fun _ _ _ ha h1, h2] at hu
    cases hu

theorem stepP_rest {z : Int} {p q : Plc} {fr f : List Int} (h : stepP z p fr = some (q, f)) : f.length ≤ fr.length := by
  unfold stepP at h
  split at h
  · cases fr with
    | nil => simp at h
    | cons x xs =>
      simp only [Option.some.injEq, Prod.mk.injEq] at h
      obtain ⟨_, rfl⟩ := h
      simp
  · simp only [Option.some.injEq, Prod.mk.injEq] at h
    obtain ⟨_, rfl⟩ := h
    exact Nat.le_refl _
theorem planK_rest {z : Int} : ∀ (k : Nat) (p : Plc) (fr : List Int) (l : List En) (ps : List PtD) (q : Plc) (rest : List Int), planK z k p fr l = some (ps, q, rest) → rest.length ≤ fr.length
  | 0, p, fr, l, ps, q, rest, h => by cases h; exact Nat.le_refl _
  | k + 1, p, fr, l, ps, q, rest, h => by
    by_cases hl : l = []
    · subst hl
      rw [planK_nil] at h
      cases h
      exact Nat.le_refl _
    · cases hs : stepP z p fr with
      | none =>
        have : planK z (k + 1) p fr l = none := by simp [planK, hl, hs]
        rw [this] at h; cases h
      | some r =>
        obtain ⟨q', f'⟩ := r
        rw [planK_step hl hs] at h
        cases hm : planK z k (behindP z q' l) f' (l.drop (fit l (z - q'.off - 1))) with
        | none => rw [hm] at h; cases h
        | some r =>
          obtain ⟨r1, r2, r3⟩ := r
          rw [hm] at h
          simp only [Option.map_some, Option.some.injEq, Prod.mk.injEq] at h
          obtain ⟨_, _, rfl⟩ := h
          exact Nat.le_trans (planK_rest k _ _ _ _ _ _ hm) (stepP_rest hs)
/-- So the rest is planned. -/
def PlanAt (z : Int) (p : Plc) (fr : List Int) (l : List En) (ps : List PtD) (q : Plc) (rest : List Int) : Prop := ∃ k, l.length ≤ k ∧ planK z k p fr l = some (ps, q, rest)
theorem PlanAt.nil {z : Int} {p q : Plc} {fr rest : List Int} {l : List En} (h : PlanAt z p fr l [] q rest) : l = [] ∧ q = p ∧ rest = fr := by
  obtain ⟨k, hk, h⟩ := h
  by_cases hl : l = []
  · subst hl
    rw [planK_nil] at h
    cases h
    exact ⟨rfl, rfl, rfl⟩
  · cases k with
    | zero => exact absurd (List.eq_nil_of_length_eq_zero (by omega)) hl
    | succ k =>
      cases hs : stepP z p fr with
      | none => rw [planK_none hl hk hs] at h; cases h
      | some r =>
        obtain ⟨q', f'⟩ := r
        rw [planK_step hl hs] at h
        cases hm : planK z k (behindP z q' l) f' (l.drop (fit l (z - q'.off - 1))) with
        | none => rw [hm] at h; cases h
        | some r => rw [hm] at h; cases h
theorem PlanAt.cons {z : Int} {p q : Plc} {fr rest : List Int} {l : List En} {d : PtD} {ps : List PtD} (h : PlanAt z p fr l (d :: ps) q rest) (G : GoodP 8 z p fr) :
    l ≠ [] ∧ ∃ q' f', stepP z p fr = some (q', f') ∧ d = partP z q' l ∧ PlanAt z (behindP z q' l) f' (l.drop (fit l (z - q'.off - 1))) ps q rest := by
  obtain ⟨k, hk, h⟩ := h
  by_cases hl : l = []
  · subst hl
    rw [planK_nil] at h
    cases h
  · refine ⟨hl, ?_⟩
    cases k with
    | zero => exact absurd (List.eq_nil_of_length_eq_zero (by omega)) hl
    | succ k =>
      cases hs : stepP z p fr with
      | none => rw [planK_none hl hk hs] at h; cases h
      | some r =>
        obtain ⟨q', f'⟩ := r
        rw [planK_step hl hs] at h
        refine ⟨q', f', rfl, ?_⟩
        have hp := fit_pos hl (show 1 ≤ z - q'.off - 1 by have := (G.step hs).2.1; omega)
        cases hm : planK z k (behindP z q' l) f' (l.drop (fit l (z - q'.off - 1))) with
        | none => rw [hm] at h; cases h
        | some r =>
          obtain ⟨r1, r2, r3⟩ := r
          rw [hm] at h
          simp only [Option.map_some, Option.some.injEq, Prod.mk.injEq, List.cons.injEq] at h
          obtain ⟨⟨rfl, rfl⟩, rfl, rfl⟩ := h
          exact ⟨rfl, k, by rw [List.length_drop]; omega, hm⟩
theorem step_nod {z : Int} {p q : Plc} {fr f : List Int} (h : stepP z p fr = some (q, f)) (hn : (p.seg :: p.next :: fr).Nodup) :
    (q.seg :: q.next :: f).Nodup ∧ ((z - p.off < 2 ∧ q.seg = p.next ∧ q.off = 0 ∧ q.next :: f = fr) ∨ (2 ≤ z - p.off ∧ q = p ∧ f = fr)) := by
  unfold stepP at h
  split at h
  · rename_i h2
    cases fr with
    | nil => simp at h
    | cons x xs =>
      simp only [Option.some.injEq, Prod.mk.injEq] at h
      obtain ⟨rfl, rfl⟩ := h
      exact ⟨(List.nodup_cons.1 hn).2, .inl ⟨h2, rfl, rfl, rfl⟩⟩
  · rename_i h2
    simp only [Option.some.injEq, Prod.mk.injEq] at h
    obtain ⟨rfl, rfl⟩ := h
    exact ⟨hn, .inr ⟨by omega, rfl, rfl⟩⟩
structure StepA (z : Int) (p : Plc) (fr : List Int) (q : Plc) (f : List Int) (n : Nat) : Prop where
  area : ∀ j : Nat, j < 1 + n → inA z p fr (secP z q.pc + (j : Int))
  out : ∀ j : Nat, j < 1 + n → ¬ inA z ⟨q.seg, q.off + (1 + n), q.next⟩ f (secP z q.pc + (j : Int))
  sub : ∀ x, inA z ⟨q.seg, q.off + (1 + n), q.next⟩ f x → inA z p fr x
theorem step_area {z : Int} {p q : Plc} {fr f : List Int} (G : GoodP 8 z p fr) (hn : (p.seg :: p.next :: fr).Nodup) (hs : stepP z p fr = some (q, f)) (n : Nat) (hw : (n : Int) ≤ z - q.off - 1) : StepA z p fr q f n := by
  obtain ⟨Gq, ho2, _⟩ := G.step hs
  obtain ⟨hnq, hway⟩ := step_nod hs hn
  have ho0 := Gq.o0
  have hz4 := Gq.z4
  have hdv : ∀ j : Nat, j < 1 + n → (secP z q.pc + (j : Int) - 9) / z = q.seg ∧ (secP z q.pc + (j : Int) - 9) % z = q.off + (j : Int) := fun j hj => by
    have := at_div (z := z) (s := q.seg) (o := q.off + (j : Int)) (by omega) (by omega)
    rw [show secP z q.pc + (j : Int) = 9 + q.seg * z + (q.off + (j : Int)) by show 9 + q.seg * z + q.off + (j : Int) = _; omega]
    exact this
  refine ⟨fun j hj => ?_, fun j hj hA => ?_, fun x hA => ?_⟩
  · obtain ⟨d1, d2⟩ := hdv j hj
    rcases hway with ⟨_, e1, _, _⟩ | ⟨_, rfl, _⟩
    · exact .inr (by rw [d1, e1]; exact List.mem_cons_self)
    · exact .inl ⟨d1, by rw [d2]; omega⟩
  · obtain ⟨d1, d2⟩ := hdv j hj
    rcases hA with ⟨_, h2⟩ | h2
    · rw [d2] at h2
      dsimp only at h2
      omega
    · rw [d1] at h2
      exact (List.nodup_cons.1 hnq).1 h2
  · rcases hA with ⟨h1, h2⟩ | h2
    · rcases hway with ⟨_, e1, _, _⟩ | ⟨_, rfl, _⟩
      · exact .inr (by rw [h1]; dsimp only; rw [e1]; exact List.mem_cons_self)
      · exact .inl ⟨h1, by dsimp only at h2; omega⟩
    · rcases hway with ⟨_, _, _, e2⟩ | ⟨_, rfl, rfl⟩
      · exact .inr (List.mem_cons_of_mem _ (by rw [← e2]; exact h2))
      · exact .inr h2
theorem on_seg {z : Int} {p q : Plc} {fr f : List Int} (hn : (p.seg :: p.next :: fr).Nodup) (hs : stepP z p fr = some (q, f)) : (onP z p.pc).s = q.seg ∧ (onP z p.pc).o = q.off ∧ (z - p.off < 2 ∨ q.next = p.next) := by
  obtain ⟨_, hway⟩ := step_nod hs hn
  unfold onP
  rcases hway with ⟨h2, e1, e2, _⟩ | ⟨h2, rfl, _⟩
  · rw [if_neg (by dsimp only; omega), e1, e2]
    exact ⟨rfl, rfl, .inl h2⟩
  · rw [if_pos (by dsimp only; omega)]
    exact ⟨rfl, rfl, .inr rfl⟩
theorem part_len {R : Int → List UInt8} {z nx : Int} {t : Stp} {la : Bool} {n : Nat} {f : Nat → En} (P : Part R z t nx la n f (fun _ => false)) (j : Nat) (hj : j ≤ cntW f n) : (R (z + (j : Int))).length = 256 := by
  by_cases h0 : j = 0
  · subst h0
    rw [show z + ((0 : Nat) : Int) = z by omega, P.head]
    exact sealB_length _ _ _ P.room
  · obtain ⟨k, hk, hk1, hc⟩ := cntW_inv f n j (by omega) hj
    obtain ⟨d, ND⟩ := P.node k hk hk1 rfl
    rw [show z + (j : Int) = z + ((cntW f k + 1 : Nat) : Int) by omega]
    exact ND.len
/-- A part more. -/
theorem RollInv.step {ep z : Int} {R R2 : Int → List UInt8} {s0 : RSt} {p q : Plc} {fr f : List Int} {sq : Nat} {s : RSt} (h : RollInv ep z R s0 p fr sq s) (hs : stepP z p fr = some (q, f)) (es : List En) (hw : (wrN es : Int) ≤ z - q.off - 1) (la : Bool)
    (hR : ∀ x, (∀ j : Nat, j < 1 + wrN es → x ≠ secP z q.pc + (j : Int)) → R2 x = R x)
    (hP : Part R2 (secP z q.pc) ⟨ep, (sq : Int), 0⟩ q.next la es.length (penAt es) (fun _ => false)) :
    RollInv ep z R2 s0 ⟨q.seg, q.off + (1 + wrN es), q.next⟩ f (sq + 1) (stepState z s la q es) := by
  obtain ⟨Gq, ho2, _⟩ := h.good.step hs
  obtain ⟨hnq, _⟩ := step_nod hs h.nod
  have A := step_area h.good h.nod hs (wrN es) hw
  have ho0 := Gq.o0
  have hRn : ∀ x, inA z ⟨q.seg, q.off + (1 + wrN es), q.next⟩ f x ∨ ¬ inA z p fr x → R2 x = R x := fun x hx => hR x fun j hj e => by
    subst e
    rcases hx with hx | hx
    · exact A.out j hj hx
    · exact hx (A.area j hj)
  obtain ⟨o1, o2, o3⟩ := on_seg h.nod hs
  refine ⟨⟨Gq.n6, Gq.n32, Gq.z4, Gq.z32, Gq.s0, Gq.sn, by dsimp only; omega, by dsimp only; omega, Gq.x0, Gq.xn, Gq.fr⟩, hnq, fun x hx => by rw [hRn x (.inl hx)]; exact h.zero x (A.sub x hx), fun R' hR' => ⟨s, h.reach R' fun x hx => ?_, ?_⟩, ?_, fun x h0 h1 => ?_⟩
  · rw [hR' x fun hA => hx (A.sub x hA)]
    exact hRn x (.inr hx)
  · exact roll_part (hP.eq fun j hj => hR' _ (A.out j (by rw [wrN_cnt] at hj; omega))) (by rw [h.sp]; exact o1) (by rw [h.sp]; exact o2) (by rw [h.sp]; exact o3) Gq.xn (fun e => (List.nodup_cons.1 hnq).1 (by rw [e]; exact List.mem_cons_self)) (by omega)
  · show (stepState z s la q es).p = _
    unfold stepState
    cases la <;> simp only [Bool.false_eq_true, if_false, if_true] <;> rw [Int.add_assoc] <;> rfl
  · by_cases hx : ∃ j : Nat, j < 1 + wrN es ∧ x = secP z q.pc + (j : Int)
    · obtain ⟨j, hj, rfl⟩ := hx
      exact part_len hP j (by rw [wrN_cnt]; omega)
    · rw [hR x fun j hj e => hx ⟨j, hj, e⟩]
      exact h.len x h0 h1
theorem RollInv.frame {ep z : Int} {R R2 : Int → List UInt8} {s0 : RSt} {p q : Plc} {fr f : List Int} {sq : Nat} {s : RSt} (h : RollInv ep z R s0 p fr sq s) (hs : stepP z p fr = some (q, f)) (es : List En) (hw : (wrN es : Int) ≤ z - q.off - 1)
    (hR : ∀ x, (∀ j : Nat, j < 1 + wrN es → x ≠ secP z q.pc + (j : Int)) → R2 x = R x) :
    (∀ y, ¬ inA z p fr y → R2 y = R y) ∧ (∀ y, inA z ⟨q.seg, q.off + (1 + wrN es), q.next⟩ f y → inA z p fr y) := by
  have A := step_area h.good h.nod hs (wrN es) hw
  exact ⟨fun y hy => hR y fun j hj e => hy (by rw [e]; exact A.area j hj), A.sub⟩
theorem head_reads {R : Int → List UInt8} {z nx : Int} {t : Stp} {la : Bool} {n : Nat} {f : Nat → En} {bad : Nat → Bool} (P : Part R z t nx la n f bad) : smN (R z) = n ∧ ∀ i, i < n → smF (R z) i = f i := by
  obtain ⟨_, _, _, _, g4, _⟩ := seal_good 4 t (smB nx la n f) P.fits P.room
  rw [← P.head] at g4
  obtain ⟨_, _, _, h3, h4⟩ := sm_back nx la n f P.good
  exact ⟨by unfold smN; rw [g4]; exact h3, fun i hi => by unfold smF; rw [g4]; exact h4 i hi⟩
/-- A node's sector is lost. -/
theorem bat_lost {R R' : Int → List UInt8} {z nx left ep sq : Int} {t : Stp} {la : Bool} {n : Nat} {f : Nat → En} {bad : Nat → Bool} (P : Part R z t nx la n f bad) (h0 : R' z = R z) {j : Nat} (h1 : 1 ≤ j) (h2 : j ≤ cntW f n) (hx : R' (z + (j : Int)) = zerosN 256) : batG R' z left ep sq = false := by
  obtain ⟨e3, e4⟩ := head_reads P
  rw [← h0] at e3 e4
  obtain ⟨k, hk, hk1, hc⟩ := cntW_inv f n j h1 h2
  have hw : wrGood R' z ep sq (smF (R' z)) (smN (R' z)) = false := by
    cases hw : wrGood R' z ep sq (smF (R' z)) (smN (R' z)) with
    | false => rfl
    | true =>
      rw [e3] at hw
      have h5 := wrGood_le R' z ep sq (smF (R' z)) (show k + 1 ≤ n by omega) hw
      unfold wrGood at h5
      rw [e4 k hk, if_pos hk1, cntW_congr _ f k (fun i hi => e4 i (by omega)), show z + ((cntW f k : Int) + 1) = z + (j : Int) by omega, hx] at h5
      have : nodeG (zerosN 256) = false := by unfold nodeG; rw [goodB_zeros]; rfl
      rw [this] at h5
      simp at h5
  unfold batG
  rw [hw, Bool.and_false, Bool.and_false]
/-- Where a sector is lost, and nothing else but what is free has turned, no more than this map is found. -/
def LostAt (ep z : Int) (s0 : RSt) (R : Int → List UInt8) (p : Plc) (fr : List Int) (x : Int) (c : Array Value) : Prop :=
  ∃ (k : Nat) (s : RSt), k ≤ 4294967295 ∧ s.c = c ∧ ∀ R', (∀ y, ¬ inA z p fr y → y ≠ x → R' y = R y) → reachR R' 8 z ep s0 k s ∧ (R' x = zerosN 256 → rollStep R' 8 z ep (k : Int) s = none)
theorem LostAt.later {ep z : Int} {s0 : RSt} {R R2 : Int → List UInt8} {p p2 : Plc} {fr f2 : List Int} {x : Int} {c : Array Value} (h : LostAt ep z s0 R p fr x c) (hR : ∀ y, ¬ inA z p fr y → R2 y = R y) (hs : ∀ y, inA z p2 f2 y → inA z p fr y) : LostAt ep z s0 R2 p2 f2 x c := by
  obtain ⟨k, s, hk, hc, h⟩ := h
  exact ⟨k, s, hk, hc, fun R' hR' => h R' fun y h1 h2 => (hR' y (fun h3 => h1 (hs y h3)) h2).trans (hR y h1)⟩
/-- Each sector of a part may be lost. -/
theorem RollInv.lost {ep z : Int} {R R2 : Int → List UInt8} {s0 : RSt} {p q : Plc} {fr f : List Int} {sq : Nat} {s : RSt} (h : RollInv ep z R s0 p fr sq s) (hsq : sq ≤ 4294967295) (hs : stepP z p fr = some (q, f)) (es : List En) (hw : (wrN es : Int) ≤ z - q.off - 1) (la : Bool)
    (hR : ∀ x, (∀ j : Nat, j < 1 + wrN es → x ≠ secP z q.pc + (j : Int)) → R2 x = R x)
    (hP : Part R2 (secP z q.pc) ⟨ep, (sq : Int), 0⟩ q.next la es.length (penAt es) (fun _ => false)) (j : Nat) (hj : j < 1 + wrN es) :
    LostAt ep z s0 R2 ⟨q.seg, q.off + (1 + wrN es), q.next⟩ f (secP z q.pc + (j : Int)) s.c := by
  have A := step_area h.good h.nod hs (wrN es) hw
  obtain ⟨o1, o2, _⟩ := on_seg h.nod hs
  have hsec : secP z (onP z s.p) = secP z q.pc := by rw [h.sp]; unfold secP; rw [o1, o2]
  refine ⟨sq, s, hsq, rfl, fun R' hR' => ⟨h.reach R' fun x hx => ?_, fun h0 => ?_⟩⟩
  · rw [hR' x (fun hA => hx (A.sub x hA)) (fun e => hx (by rw [e]; exact A.area j hj))]
    exact hR x fun i hi e => hx (by rw [e]; exact A.area i hi)
  · have hb : batG R' (secP z (onP z s.p)) (z - (onP z s.p).o) ep (sq : Int) = false := by
      rw [hsec]
      by_cases h1 : j = 0
      · subst h1
        exact zeros_none (by simpa using h0)
      · exact bat_lost hP (by
          have := hR' (secP z q.pc + ((0 : Nat) : Int)) (A.out 0 (by omega)) (by omega)
          simpa using this) (by omega) (by rw [wrN_cnt]; omega) h0
    have hG : nextG R' 8 z s.p ep (sq : Int) = false := by
      unfold nextG
      rw [hb]
      rfl
    unfold rollStep
    rw [hG]
    rfl
end Go.Proofs.Ytcklmemnjchdcaa

/-
  Layer 20: a list of entries as it goes to the log, part by part, as data.
-/

namespace Go.Proofs.Ytcklmemnjchdcaa
open Go.RowKit Go.Maps
set_option linter.unusedVariables false
set_option linter.unusedSimpArgs false

/-- What Forward knows where so many parts stand there. -/
structure WrSt (s : RSt) (E : List En) (la : Bool) (m i : Nat) (p : Plc) (L : List En) (A : List Int) (t : RSt) : Prop where
  fin : la = true → i = m → 0 < i → t.L = [] ∧ t.A = [] ∧ t.k = 0 ∧ t.c = resA s.c (penAt E) (inAt A) A.length E.length ∧ t.fp = p.pc ∧ t.fb = s.fb + (i : Int)
  mid : ¬ (la = true ∧ i = m ∧ 0 < i) → t.L = L ∧ t.A = A ∧ t.k = (i : Int) ∧ t.c = s.c ∧ t.fp = s.fp ∧ t.fb = s.fb
structure WrAt (Lo : Int → Array Value → Prop) (ep z : Int) (s0 s : RSt) (E : List En) (la : Bool) (ps : List PtD) (q : Plc) (rest : List Int) (sq i : Nat) (R : Int → List UInt8) (A : List Int) (p : Plc) (fr : List Int) (l L : List En) (t : RSt) : Prop where
  plan : PlanAt z p fr l (ps.drop i) q rest
  inv : RollInv ep z R s0 p fr (sq + i) t
  app : L ++ l = E
  lost : ∀ a ∈ A, LostAt ep z s0 R p fr a s.c
  lost0 : 0 < i → A = [] → LostAt ep z s0 R p fr (9 + p.seg * z + (p.off - 1)) s.c
  st : WrSt s E la ps.length i p L A t
  alen : A.length = wrN L
  carry : ∀ x c, Lo x c → LostAt ep z s0 R p fr x c
  ilen : i ≤ L.length
  rng : ∀ a ∈ A, 0 ≤ a ∧ a < 9 + 8 * z
  off1 : 0 < i → 1 ≤ p.off
theorem WrAt.start {Lo : Int → Array Value → Prop} {ep z : Int} {s0 s : RSt} {E : List En} {la : Bool} {ps : List PtD} {p q : Plc} {fr rest : List Int} {sq : Nat} {R : Int → List UInt8} (hp : planP z p fr E = some (ps, q, rest)) (h : RollInv ep z R s0 p fr sq s) (h1 : s.L = []) (h2 : s.A = []) (h3 : s.k = 0) (hLo : ∀ x c, Lo x c → LostAt ep z s0 R p fr x c) :
    WrAt Lo ep z s0 s E la ps q rest sq 0 R [] p fr E [] s :=
  ⟨⟨E.length, Nat.le_refl _, hp⟩, h, rfl, nofun, fun h => absurd h (Nat.lt_irrefl _), ⟨fun _ _ h => absurd h (Nat.lt_irrefl _), fun _ => ⟨h1, h2, h3, rfl, rfl, rfl⟩⟩, rfl, hLo, Nat.le_refl _, nofun, fun h => absurd h (Nat.lt_irrefl _)⟩
theorem PlanAt.empty {z : Int} {p q : Plc} {fr rest : List Int} {ps : List PtD} (h : PlanAt z p fr [] ps q rest) : ps = [] := by
  obtain ⟨k, _, h⟩ := h
  rw [planK_nil] at h
  cases h
  rfl
/-- The next part. -/
structure WrPart (z : Int) (E : List En) (d : PtD) : Prop where
  s0 : 0 ≤ d.pl.seg
  s1 : d.pl.seg < 8
  o0 : 0 ≤ d.pl.off
  o1 : d.pl.off + 1 + (wrN d.es : Int) ≤ z
  x0 : 0 ≤ d.pl.next
  x1 : d.pl.next < 8
  n64 : d.es.length ≤ 64
  mem : ∀ x ∈ d.es, x ∈ E
theorem WrAt.part {Lo : Int → Array Value → Prop} {ep z : Int} {s0 s : RSt} {E : List En} {la : Bool} {ps : List PtD} {q : Plc} {rest : List Int} {sq i : Nat} {R : Int → List UInt8} {A : List Int} {p : Plc} {fr : List Int} {l L : List En} {t : RSt} (h : WrAt Lo ep z s0 s E la ps q rest sq i R A p fr l L t) (hi : i < ps.length) : WrPart z E ps[i] := by
  have hp := h.plan
  rw [List.drop_eq_getElem_cons hi] at hp
  obtain ⟨hl, q', f', hs, hd, _⟩ := hp.cons h.inv.good
  obtain ⟨G, ho, _⟩ := h.inv.good.step hs
  rw [hd]
  have hw := fit_wr l (z - q'.off - 1) (by omega)
  refine ⟨G.s0, G.sn, G.o0, ?_, G.x0, G.xn, ?_, fun x hx => ?_⟩
  · show q'.off + 1 + (wrN (l.take (fit l (z - q'.off - 1))) : Int) ≤ z
    omega
  · show (l.take (fit l (z - q'.off - 1))).length ≤ 64
    rw [List.length_take]
    have := fit_64 l (z - q'.off - 1)
    omega
  · rw [← h.app]
    exact List.mem_append_right _ (List.mem_of_mem_take hx)
theorem WrAt.next {Lo : Int → Array Value → Prop} {ep z : Int} {s0 s : RSt} {E : List En} {la : Bool} {ps : List PtD} {q : Plc} {rest : List Int} {sq i : Nat} {R R2 : Int → List UInt8} {A : List Int} {p : Plc} {fr : List Int} {l L : List En} {t : RSt} (h : WrAt Lo ep z s0 s E la ps q rest sq i R A p fr l L t) (hi : i < ps.length) (hsq : sq + i ≤ 4294967295)
    (hR : ∀ x, (∀ j : Nat, j < 1 + wrN ps[i].es → x ≠ secP z ps[i].pl.pc + (j : Int)) → R2 x = R x)
    (hP : Part R2 (secP z ps[i].pl.pc) ⟨ep, ((sq + i : Nat) : Int), 0⟩ ps[i].pl.next (ps[i].last && la) ps[i].es.length (penAt ps[i].es) (fun _ => false)) :
    ∃ p2 f2 l2 L2 t2, WrAt Lo ep z s0 s E la ps q rest sq (i + 1) R2 (A ++ atL (secP z ps[i].pl.pc) (wrN ps[i].es)) p2 f2 l2 L2 t2 := by
  have hp := h.plan
  rw [List.drop_eq_getElem_cons hi] at hp
  obtain ⟨hl, q', f', hs, hd, hp2⟩ := hp.cons h.inv.good
  obtain ⟨G, ho, _⟩ := h.inv.good.step hs
  have hw := fit_wr l (z - q'.off - 1) (by omega)
  obtain ⟨e1, e2, e3, e4, e5, e6⟩ := h.st.mid (by omega)
  have hlast : ps[i].last = decide (fit l (z - q'.off - 1) = l.length) := by rw [hd]; rfl
  have hes : ps[i].es = l.take (fit l (z - q'.off - 1)) := by rw [hd]; rfl
  have hpl : ps[i].pl = q' := by rw [hd]; rfl
  rw [hes, hpl] at hR hP ⊢
  have hbe : behindP z q' l = ⟨q'.seg, q'.off + (1 + wrN (l.take (fit l (z - q'.off - 1)))), q'.next⟩ := rfl
  rw [hbe] at hp2
  have fit_le1 := fit_le l (z - q'.off - 1)
  have hla : (i + 1 = ps.length → ps[i].last = true ∧ l.take (fit l (z - q'.off - 1)) = l) ∧ (i + 1 ≠ ps.length → ps[i].last = false) := by
    constructor
    · intro e
      rw [show ps.drop (i + 1) = [] from List.drop_eq_nil_of_le (by omega)] at hp2
      have h0 := hp2.nil.1
      have h1 := congrArg List.length h0
      rw [List.length_drop, List.length_nil] at h1
      have h2 : fit l (z - q'.off - 1) = l.length := by omega
      rw [hlast, h2]
      simp
    · intro e
      rw [hlast]
      refine decide_eq_false fun h2 => ?_
      rw [h2, List.drop_length] at hp2
      have h3 := congrArg List.length hp2.empty
      rw [List.length_drop, List.length_nil] at h3
      omega
  have hF := h.inv.frame hs (l.take (fit l (z - q'.off - 1))) hw hR
  have hLo := fun j hj => h.inv.lost hsq hs (l.take (fit l (z - q'.off - 1))) hw (ps[i].last && la) hR hP j hj
  rw [e4] at hLo
  have hI := h.inv.step hs (l.take (fit l (z - q'.off - 1))) hw (ps[i].last && la) hR hP
  have happ : (L ++ l.take (fit l (z - q'.off - 1))) ++ l.drop (fit l (z - q'.off - 1)) = E := by
    rw [List.append_assoc, List.take_append_drop]
    exact h.app
  have hone : 1 ≤ (l.take (fit l (z - q'.off - 1))).length := by
    have := fit_pos hl (show 1 ≤ z - q'.off - 1 by omega)
    rw [List.length_take]
    omega
  generalize l.take (fit l (z - q'.off - 1)) = es at *
  refine ⟨_, _, _, L ++ es, _, hp2, hI, happ, fun a ha => ?_, fun _ hA => ?_, ⟨fun hl1 hm _ => ?_, fun hn => ?_⟩, ?_, fun x c hx => (h.carry x c hx).later hF.1 hF.2, ?_, fun a ha => ?_, fun _ => by have := G.o0; show 1 ≤ q'.off + (1 + (wrN es : Int)); omega⟩
  · rcases List.mem_append.1 ha with ha | ha
    · exact (h.lost a ha).later hF.1 hF.2
    · obtain ⟨j, hj, rfl⟩ := List.mem_map.1 ha
      have hj' := List.mem_range.1 hj
      have := hLo (j + 1) (by omega)
      rw [show secP z q'.pc + ((j : Int) + 1) = secP z q'.pc + ((j + 1 : Nat) : Int) by omega]
      exact this
  · have h1 := congrArg List.length hA
    rw [List.length_append, atL_len, List.length_nil] at h1
    have := hLo 0 (by omega)
    rw [show 9 + q'.seg * z + (q'.off + (1 + (wrN es : Int)) - 1) = secP z q'.pc + ((0 : Nat) : Int) by show _ = 9 + q'.seg * z + q'.off + _; omega]
    exact this
  · obtain ⟨g1, g2⟩ := hla.1 hm
    have hE : L ++ es = E := by rw [g2]; exact h.app
    rw [g1, hl1]
    unfold stepState
    simp only [Bool.and_self, if_true, e1, e2, e3, e4, e6, hE]
    refine ⟨trivial, trivial, trivial, trivial, ?_, by omega⟩
    rw [Int.add_assoc]
  · have hf : (ps[i].last && la) = false := by
      by_cases hm : i + 1 = ps.length
      · have : la = false := by
          cases la with
          | false => rfl
          | true => exact absurd ⟨rfl, hm, Nat.succ_pos _⟩ hn
        rw [this, Bool.and_false]
      · rw [hla.2 hm, Bool.false_and]
    rw [hf]
    unfold stepState
    simp only [Bool.false_eq_true, if_false, e1, e2, e3, e4, e5, e6]
    exact ⟨trivial, trivial, by omega, trivial, trivial, trivial⟩
  · rw [List.length_append, atL_len, wrN_append, h.alen]
  · rw [List.length_append]
    have := h.ilen
    omega
  · rcases List.mem_append.1 ha with ha | ha
    · exact h.rng a ha
    · obtain ⟨j, hj, rfl⟩ := List.mem_map.1 ha
      have hj' := List.mem_range.1 hj
      have h0 := G.o0
      have hs0 := G.s0
      have hs1 := G.sn
      have h1 : 0 ≤ q'.seg * z := Int.mul_nonneg hs0 (by omega)
      have h2 : (q'.seg + 1) * z ≤ 8 * z := Int.mul_le_mul_of_nonneg_right (by omega) (by omega)
      rw [Int.add_mul, Int.one_mul] at h2
      show 0 ≤ 9 + q'.seg * z + q'.off + ((j : Int) + 1) ∧ 9 + q'.seg * z + q'.off + ((j : Int) + 1) < 9 + 8 * z
      omega
/-- All parts stand there. -/
theorem WrAt.done {Lo : Int → Array Value → Prop} {ep z : Int} {s0 s : RSt} {E : List En} {la : Bool} {ps : List PtD} {q : Plc} {rest : List Int} {sq : Nat} {R : Int → List UInt8} {A : List Int} {p : Plc} {fr : List Int} {l L : List En} {t : RSt} (h : WrAt Lo ep z s0 s E la ps q rest sq ps.length R A p fr l L t) :
    WrAt Lo ep z s0 s E la ps q rest sq ps.length R A q rest [] E t := by
  have hp := h.plan
  rw [List.drop_length] at hp
  obtain ⟨rfl, rfl, rfl⟩ := hp.nil
  have : L = E := by rw [← h.app, List.append_nil]
  subst this
  exact ⟨h.plan, h.inv, h.app, h.lost, h.lost0, h.st, h.alen, h.carry, h.ilen, h.rng, h.off1⟩
theorem planP_nil {z : Int} {p q : Plc} {fr rest : List Int} {ps : List PtD} (h : planP z p fr [] = some (ps, q, rest)) : ps = [] ∧ q = p ∧ rest = fr := by
  unfold planP at h
  rw [planK_nil] at h
  cases h
  exact ⟨rfl, rfl, rfl⟩
theorem planP_cons {z : Int} {p q : Plc} {fr rest : List Int} {E : List En} {ps : List PtD} (h : planP z p fr E = some (ps, q, rest)) (hE : E ≠ []) : 0 < ps.length := by
  cases ps with
  | nil => exact absurd (PlanAt.nil ⟨E.length, Nat.le_refl _, h⟩).1 hE
  | cons d ps => exact Nat.succ_pos _
end Go.Proofs.Ytcklmemnjchdcaa

/-
  Layer 20's own helpers: entries that may be; an empty leaf.
-/


namespace Go.Proofs.Ytcklmemnjchdcaa
open Go.RowKit
set_option linter.unusedVariables false
set_option linter.unusedSimpArgs false

set_option maxRecDepth 100000 in
set_option maxHeartbeats 4000000 in
theorem entries_any (p : Option Addr) (cap : Nat) (E : List En) (h1 : E.length ≤ cap) (h2 : cap ≤ maxLen) (w : World) (RE : RowOf enT w p E) :
    Calls Try.prog 9 #[.slice p E.length cap] w fun e w' => ∃ v X, e = .returned v ∧ RowOwn enT w' w.heap.size v X ∧ X.length ≤ 40 ∧ X.all goodE = true ∧ Below w.heap.size w w' := by
  have hn63 : (E.length : Int) ≤ 9223372036854775807 := by unfold maxLen at h2; omega
  have RH := hid RE
  clear RE h1 h2
  go_enter Try.func9, Try.ntmps9
  go_wp2_with fail
  go_loopw [3, 4] (fun v i wr => ∃ (k : Nat) (X : List En), k ≤ E.length ∧ i = .int .i64 (k : Int) ∧ RowOwn enT wr w.heap.size v X ∧ X.length ≤ 40 ∧ X.all goodE = true ∧ Below w.heap.size w wr) (fun _ i _ => E.length - (intOf i).toNat)
  case atStart => exact ⟨0, [], Nat.zero_le _, rfl, RowOwn.nil _ _, by simp, rfl, Below.refl _ _⟩
  case round =>
    obtain ⟨k, X, hk, rfl, OX, hX40, hXg, Hb⟩ := hrel
    obtain ⟨pv, cv, rfl, c1, c2, _⟩ := RowOwn.open enOk OX
    have OXh := hid OX
    have hXgh := hid hXg
    have Hbh := hid Hb
    have hX40h := hid hX40
    by_cases hlt : k < E.length
    · have hlt' : (k : Int) < (E.length : Int) := by omega
      obtain ⟨be, oe, rfl, re⟩ := RowP.row (RH.out.more Hb) (by omega)
      have z0 : wr.cell? ⟨be, oe + k * 2, none⟩ = some (.int .i64 (penAt E k).k) := re.at0 hlt rfl
      have z1 : wr.cell? ⟨be, oe + k * 2 + 1, none⟩ = some (.int .i64 (penAt E k).i) := re.at1 hlt rfl
      have hlth := hid hlt
      have hgw := good_ways (penAt E k)
      generalize penAt E k = x at *
      obtain ⟨xk, xi⟩ := x
      dsimp only at z0 z1 hgw
      clear re OX hXg Hb hk c1 c2
      by_cases h40 : X.length < 40
      · have h40' : (X.length : Int) < 40 := by omega
        have hne : goodE ⟨xk, xi⟩ = false → True := fun _ => trivial
        rcases hgw with ⟨hg, hkk, hi0, hi1⟩ | ⟨hg, hb⟩ | ⟨hg, hb⟩ | ⟨hg, hkk, hb⟩ | ⟨hg, hkk, hi0, hb⟩
        · have hk1 : (1 : Int) ≤ xk := by omega
          have hk2 : xk ≤ 2 := by omega
          have b6 := below_al1 wr (.cells #[.int .i64 xk, .int .i64 xi] 70)
          have RN : RowOf enT _ (some ⟨wr.heap.size, 0, none⟩) [(⟨xk, xi⟩ : En)] := rowOf_one enOk (Blk.new wr #[.int .i64 xk, .int .i64 xi] 70) rfl
          obtain ⟨v9, w9, hr, O9, gr, mv⟩ := append_row enOk w.heap.size 36 _ _ X (OXh.out.more b6) (some ⟨wr.heap.size, 0, none⟩) 1 [(⟨xk, xi⟩ : En)] RN (by show (X.length + 1) * 16 ≤ _; omega) (by unfold maxLen; simp; omega) (Nat.le_trans Hbh.out.size b6.size)
          have S9 := Sole.grown (S := fun i => (Value.slice pv X.length cv).ownBlock = some i) gr (fun _ e => e)
          have D9 := hid ((below2 Hbh.out b6 Hbh.out.size).trans (S9.below (B := w.heap.size) (Nat.le_trans Hbh.out.size b6.size) fun j e => (OXh.out.within j e).1))
          have O9h := hid O9
          have hall := hid (show (X ++ [(⟨xk, xi⟩ : En)]).all goodE = true by rw [List.all_append, hXgh.out]; simp [hg])
          have hlen := hid (show (X ++ [(⟨xk, xi⟩ : En)]).length ≤ 40 by rw [List.length_append]; simp; omega)
          clear gr mv S9 O9 b6 RN hkk hg
          go_wp2_with (at_builtin; refine Lib.wpList_append_run _ rfl _ _ _ _ rfl _ _ rfl rfl _ _ hr ?_)
          go_roundw
          case rel => exact ⟨k + 1, X ++ [⟨xk, xi⟩], by have := hlth.out; omega, by simp, O9h.out, hlen.out, hall.out, D9.out⟩
          case measure => have := hlth.out; simp [intOf]; omega
        · have hk1 : decide ((1 : Int) ≤ xk) = false := decide_eq_false (by omega)
          go_wp2_with fail
          go_roundw
          case rel => exact ⟨k + 1, X, by have := hlth.out; omega, by simp, OXh.out, hX40h.out, hXgh.out, Hbh.out⟩
          case measure => have := hlth.out; simp [intOf]; omega
        · have hk1 : (1 : Int) ≤ xk := by omega
          have hk2 : decide (xk ≤ 2) = false := decide_eq_false (by omega)
          go_wp2_with fail
          go_roundw
          case rel => exact ⟨k + 1, X, by have := hlth.out; omega, by simp, OXh.out, hX40h.out, hXgh.out, Hbh.out⟩
          case measure => have := hlth.out; simp [intOf]; omega
        · have hk1 : (1 : Int) ≤ xk := by omega
          have hk2 : xk ≤ 2 := by omega
          have hi1 : decide ((1 : Int) ≤ xi) = false := decide_eq_false (by omega)
          clear hkk
          go_wp2_with fail
          go_roundw
          case rel => exact ⟨k + 1, X, by have := hlth.out; omega, by simp, OXh.out, hX40h.out, hXgh.out, Hbh.out⟩
          case measure => have := hlth.out; simp [intOf]; omega
        · have hk1 : (1 : Int) ≤ xk := by omega
          have hk2 : xk ≤ 2 := by omega
          have hi1 : decide (xi ≤ 255) = false := decide_eq_false (by omega)
          clear hkk
          go_wp2_with fail
          go_roundw
          case rel => exact ⟨k + 1, X, by have := hlth.out; omega, by simp, OXh.out, hX40h.out, hXgh.out, Hbh.out⟩
          case measure => have := hlth.out; simp [intOf]; omega
      · have h40' : ¬ (X.length : Int) < 40 := by omega
        clear hgw z0 z1
        go_wp2_with fail
        go_ret
        exact ⟨_, rfl, X, OXh.out, hX40h.out, List.all_eq_true.1 hXgh.out, Hbh.out⟩
    · obtain rfl : k = E.length := by omega
      have hlt' : ¬ (E.length : Int) < (E.length : Int) := by omega
      clear OX hXg Hb hk c1 c2 hlt
      go_wp2_with fail
      go_ret
      exact ⟨_, rfl, X, OXh.out, hX40h.out, List.all_eq_true.1 hXgh.out, Hbh.out⟩
/-- An empty leaf. -/
def lfI (id : Int) : ItS := ⟨id, ⟨true, none, 0, 0, fun _ => ⟨0, 0, 0, ByteArray.empty⟩, 0, fun _ => 0, fun _ => 0⟩⟩
set_option maxRecDepth 100000 in
theorem rleaf_any (id : Int) (w : World) : Calls Try.prog 20 #[.int .i64 id] w fun e w' => e = .returned (.agg #[.int .i64 id, .bool true, .slice none 0 0, .int .i64 0, .int .i64 0, .int .i64 0, .int .i64 0, .int .i64 0, .int .i64 0, .int .i64 0, .int .i64 0, .int .i64 0]) ∧ Below w.heap.size w w' := by
  have HB := Blk.new w #[.int .i64 id, .bool true, .slice none 0 0, .int .i64 0, .int .i64 0, .int .i64 0, .int .i64 0, .int .i64 0, .int .i64 0, .int .i64 0, .int .i64 0, .int .i64 0] 80
  have D4 := hid (below_al1 w (.cells #[.int .i64 id, .bool true, .slice none 0 0, .int .i64 0, .int .i64 0, .int .i64 0, .int .i64 0, .int .i64 0, .int .i64 0, .int .i64 0, .int .i64 0, .int .i64 0] 80))
  go_enter Try.func20, Try.ntmps20
  go_wp2
  generalize w.alloc _ = W3 at *
  obtain ⟨l3, k3, f3⟩ := HB
  refine bodyPost_ret (v := .agg #[.int .i64 id, .bool true, .slice none 0 0, .int .i64 0, .int .i64 0, .int .i64 0, .int .i64 0, .int .i64 0, .int .i64 0, .int .i64 0, .int .i64 0, .int .i64 0]) (by simp [results, Try.results20, go_sem, k3]) rfl ⟨rfl, D4.out⟩
end Go.Proofs.Ytcklmemnjchdcaa

/-
  Layer 20: the items of a list of entries (empty leaves), and that a part of them can be written.
-/



namespace Go.Proofs.Ytcklmemnjchdcaa
open Go.RowKit Go.Maps
set_option linter.unusedVariables false
set_option linter.unusedSimpArgs false

theorem itOk : itT.Ok := ⟨Try.underlying74, by kernel_rfl, rfl, by decide, fun _ => rfl, fun x u hu => by
  simp [itT] at hu
  rcases hu with rfl | rfl | rfl | rfl | rfl | rfl | rfl | rfl | rfl | rfl | rfl | rfl <;> rfl⟩
def itL (E : List En) : List ItS := E.map fun e => lfI e.i
theorem itL_len (E : List En) : (itL E).length = E.length := by simp [itL]
theorem itL_there {w : World} {E : List En} : ∀ x ∈ itL E, x.nd.there w := fun x hx => by
  obtain ⟨e, _, rfl⟩ := List.mem_map.1 hx
  exact ⟨.inl rfl, Nat.le_refl _, Nat.zero_le _, fun i hi => absurd hi (Nat.not_lt_zero _)⟩
theorem lf_good (id : Int) : (lfI id).nd.good = true := by
  show nodeB true 0 _ 0 _ _ = true
  unfold nodeB
  rw [if_pos rfl]
  unfold leafB
  simp [zeroA, allL]
  exact ⟨by simp [eqA, lfI], by simp [eqA, lfI]⟩
theorem lf_len (x : ItS) (h : x.nd.good = true) (id : Int) : (nsT x id).length ≤ 238 := by
  have hl : x.nd.oct = nodeO x.nd.lf x.nd.n x.nd.f x.nd.nx x.nd.k x.nd.c := by
    show nodeL x.nd.lf x.nd.n x.nd.f x.nd.nx x.nd.k x.nd.c = _
    unfold nodeL
    rw [show nodeB x.nd.lf x.nd.n x.nd.f x.nd.nx x.nd.k x.nd.c = true from h, if_pos rfl]
  have := (nodeO_length h).1
  unfold nsT
  rw [List.length_cons, hl]
  omega
theorem it_found {E : List En} {e : En} (he : e ∈ E) (t : Stp) (ht : stFits 5 t) : nsC (itL E) e.i t = 0 := by
  rcases fx_ways (itL E) e.i with ⟨_, _, hn⟩ | ⟨k, hk, _, hf, hid⟩
  · obtain ⟨j, hj, e2⟩ := List.getElem_of_mem he
    have hj2 : j < (itL E).length := by rw [itL_len]; exact hj
    refine absurd ?_ (hn j hj2)
    rw [itA_eq _ j hj2]
    simp [itL, lfI, e2]
  · have hg : (itA (itL E) k).nd.good = true := by
      obtain ⟨x, _, hx⟩ := List.mem_map.1 (show itA (itL E) k ∈ itL E from atR_mem (T := itT) _ _ hk)
      rw [← hx]
      exact lf_good x.i
    unfold nsC
    rw [hf, if_neg (by omega), if_pos hg]
    exact sealC_ok ht (lf_len _ hg _)
theorem sects_can {ep sq nx : Int} {la : Bool} {E es : List En} (h1 : 1 ≤ ep) (h2 : ep ≤ 4294967295) (h3 : 0 ≤ sq) (h4 : sq ≤ 4294967295) (h5 : 0 ≤ nx) (h6 : nx ≤ 31) (hm : ∀ x ∈ es, x ∈ E) (hg : E.all goodE = true) (hn : es.length ≤ 64) : SectsCan nx la es.length (penAt es) ep sq (itL E) := by
  have hge : ∀ i, i < es.length → goodE (penAt es i) = true := fun i hi => List.all_eq_true.1 hg _ (hm _ (atR_mem (T := enT) es i hi))
  refine ⟨?_, fun j hj _ => ?_, ⟨by decide, by decide, by show 0 ≤ ep; omega, h2, h3, h4, Int.le_refl 0, by show (0 : Int) ≤ 65535; decide⟩, ?_⟩
  · unfold bCk
    rw [if_neg (by omega), if_neg (by omega), if_pos ((allG_iff _ _).2 hge)]
  · have hc := cntW_le (penAt es) j
    exact it_found (hm _ (atR_mem (T := enT) es j hj)) _ ⟨by decide, by decide, by show 0 ≤ ep; omega, h2, h3, h4, by show (0 : Int) ≤ ((1 + cntW (penAt es) j : Nat) : Int); omega, by show ((1 + cntW (penAt es) j : Nat) : Int) ≤ 65535; omega⟩
  · rw [smB_length]; omega
theorem wrote_out {R : Int → List UInt8} {z : Int} {Xs : List OcS} (x : Int) (h : ∀ j : Nat, j < Xs.length → x ≠ z + (j : Int)) : wrote R z Xs Xs.length x = R x := by
  unfold wrote
  by_cases h1 : z ≤ x ∧ x < z + (Xs.length : Int)
  · exact absurd (show x = z + ((x - z).toNat : Int) by omega) (h (x - z).toNat (by omega))
  · rw [if_neg h1]
theorem ad_val {z s o : Int} (h1 : 4 ≤ z) (h2 : z ≤ 32) (h3 : 0 ≤ s) (h4 : s < 8) (h5 : 0 ≤ o) (h6 : o < z) : adI 8 z s o = secP z ⟨s, o, 0⟩ := by
  have hok : okB 8 z = true := by unfold okB; simp; omega
  have hs : segB 8 z s = true := by unfold segB; rw [hok, decide_eq_true h3, decide_eq_true h4]; rfl
  have ha : adB 8 z s o = true := by unfold adB; rw [hs]; simp; omega
  unfold adI
  rw [ha, if_pos rfl]
  rfl
theorem nodesL_256 {L : List ItS} {f : Nat → En} {ep sq : Int} : ∀ n, nodesOk L f ep sq n → ∀ y ∈ nodesL L f ep sq n, y.length = 256
  | 0, _, y, hy => (by cases hy)
  | n + 1, h, y, hy => by
    unfold nodesL at hy
    split at hy
    · rename_i hk
      rcases List.mem_append.1 hy with hy | hy
      · exact nodesL_256 n (fun j hj => h j (by omega)) y hy
      · rw [List.mem_singleton.1 hy]
        exact nsL_len (h n (Nat.lt_succ_self n) hk)
    · exact nodesL_256 n (fun j hj => h j (by omega)) y hy
theorem sects_256 {w w' : World} {v : Value} {nx : Int} {la : Bool} {n : Nat} {f : Nat → En} {ep sq : Int} {L : List ItS} (O : SectsOk w w' v nx la n f ep sq L) {Xs : List OcS} (h : Xs.map OcS.l = sealB 4 ⟨ep, sq, 0⟩ (smB nx la n f) :: nodesL L f ep sq n) : ∀ x ∈ Xs, x.l.length = 256 := fun x hx => by
  have : x.l ∈ Xs.map OcS.l := List.mem_map_of_mem hx
  rw [h] at this
  rcases List.mem_cons.1 this with e | e
  · rw [e]; exact sealB_length _ _ _ O.room
  · exact nodesL_256 n O.nodes _ e
theorem sects_len {Xs : List OcS} {nx : Int} {la : Bool} {es : List En} {ep sq : Int} {L : List ItS} (h : Xs.map OcS.l = sealB 4 ⟨ep, sq, 0⟩ (smB nx la es.length (penAt es)) :: nodesL L (penAt es) ep sq es.length) : Xs.length = 1 + wrN es := by
  have := congrArg List.length h
  rw [List.length_map, List.length_cons, nodesL_len, wrN_cnt] at this
  omega
end Go.Proofs.Ytcklmemnjchdcaa

/-
  Layer 20's own write: entries go to the log, as from a place on.
-/




namespace Go.Proofs.Ytcklmemnjchdcaa
open Go.RowKit Go.Maps
set_option linter.unusedVariables false
set_option linter.unusedSimpArgs false

/-- What write leaves. -/
def WrPost (Lo : Int → Array Value → Prop) (ep z : Int) (s0 s : RSt) (E : List En) (la : Bool) (sq c0 : Nat) (b N : Nat) (K : Nat → Prop) (p : Plc) (fr : List Int) (vf : Value) (w : World) (e : Ending) (w' : World) : Prop :=
  (planP z p fr E = none ∧ e = .returned (.tuple #[plv p.seg p.off p.next, vf, .int .i64 (sq : Int), .slice none 0 0, .bool false]) ∧ Below w.heap.size w w') ∨
  ∃ ps q rest va vr A R' t, planP z p fr E = some (ps, q, rest) ∧ e = .returned (.tuple #[plv q.seg q.off q.next, vr, .int .i64 ((sq + ps.length : Nat) : Int), va, .bool true]) ∧ Sole K w w' ∧
    WrAt Lo ep z s0 s E la ps q rest sq ps.length R' A q rest [] E t ∧ ps.length ≤ 40 ∧ A.length ≤ 40 ∧
    (∃ m' K', DiskM w' b m' K' ∧ (∀ k, K' k → K k ∨ w.heap.size ≤ k) ∧ Quiet m' N R' ∧ Soft m' (c0 + 80) ∧ (∀ k, va.ownBlock = some k → ¬ K' k) ∧ (∀ k, vr.ownBlock = some k → ¬ K' k)) ∧
    RowOwn inT w' w.heap.size va A ∧ RowOwn inT w' w.heap.size vr rest

/-- Its memory, as it goes. -/
structure WrM (W wr : World) (K : Nat → Prop) (b N c0 : Nat) (R : Int → List UInt8) (n : Nat) (va : Value) (A : List Int) : Prop where
  S : Sole (fun k => K k ∨ W.heap.size ≤ k) W wr
  d : ∃ m' K', DiskM wr b m' K' ∧ (∀ k, K' k → K k ∨ W.heap.size ≤ k) ∧ Quiet m' N R ∧ Soft m' (c0 + n) ∧ (∀ k, va.ownBlock = some k → ¬ K' k)
  a : RowOwn inT wr W.heap.size va A
theorem row_blk1' {w : World} {b o i : Nat} {V : List PtV} (R : Row w b o 6 V.length (fun i => ptcells (prAt V i))) (hi : i < V.length) {sg of nx : Int} {dl : Bool} {eq : Option Addr} {ec : Nat} {es : List En} (hx : prAt V i = ⟨⟨sg, of, nx⟩, dl, eq, ec, es⟩) :
    w.cell? ⟨b, o + i * 6, none⟩ = some (.int .i64 sg) ∧ w.cell? ⟨b, o + i * 6 + 1, none⟩ = some (.int .i64 of) ∧ w.cell? ⟨b, o + i * 6 + 3, none⟩ = some (.int .i64 nx) ∧ w.cell? ⟨b, o + i * 6 + 4, none⟩ = some (.bool dl) ∧ w.cell? ⟨b, o + i * 6 + 5, none⟩ = some (.slice eq es.length ec) := by
  have h := R.cell i hi
  simp only [hx] at h
  exact ⟨h 0 _ rfl, h 1 _ rfl, h 3 _ rfl, h 4 _ rfl, h 5 _ rfl⟩

set_option maxRecDepth 100000 in
set_option maxHeartbeats 16000000 in
theorem rwrite_any (m : DM) (b : Nat) (K : Nat → Prop) (w : World) (D : DiskM w b m K) {N : Nat} {R : Int → List UInt8} (Qm : Quiet m N R) {c0 : Nat} (Sm : Soft m c0) (hc0 : c0 ≤ 800) (z : Int) (hz : z ≤ 9) (hN : (N : Int) = 9 + 8 * z) (ep : Int) (hep : 1 ≤ ep) (hep2 : ep ≤ 4294967295) (s0 s : RSt) (p : Plc) (fr : List Int) (sq : Nat) (hsq : sq ≤ 1000) (I : RollInv ep z R s0 p fr sq s) (hs1 : s.L = []) (hs2 : s.A = []) (hs3 : s.k = 0) (Lo : Int → Array Value → Prop) (hLo : ∀ x c, Lo x c → LostAt ep z s0 R p fr x c)
    (fp : Option Addr) (fcap : Nat) (f1 : fr.length ≤ fcap) (f2 : fcap ≤ maxLen) (f3 : fr.length ≤ 1000) (f4 : fp = none → fr = []) (RF : RowOf inT w fp fr) (lp : Option Addr) (lcap : Nat) (E : List En) (l1 : E.length ≤ lcap) (l2 : lcap ≤ maxLen) (l3 : E.length ≤ 40) (hE : E.all goodE = true) (RE : RowOf enT w lp E) (la : Bool) :
    Calls Try.prog 10 #[.pointer (some ⟨b, 0, none⟩), geo 8 z, plv p.seg p.off p.next, .slice fp fr.length fcap, .int .i64 ep, .int .i64 (sq : Int), .slice lp E.length lcap, .bool la] w (WrPost Lo ep z s0 s E la sq c0 b N K p fr (.slice fp fr.length fcap) w) := by
  have hok : okB 8 z = true := by have := I.good.z4; have := I.good.z32; unfold okB; simp; omega
  have hpl : placedB 8 z p fr = true := by
    have g := I.good
    have hsg : ∀ x : Int, 0 ≤ x → x < 8 → segB 8 z x = true := fun x h0 h1 => by unfold segB; rw [hok, decide_eq_true h0, decide_eq_true h1]; rfl
    unfold placedB
    rw [hok, hsg _ g.s0 g.sn, hsg _ g.x0 g.xn, decide_eq_true g.o0, decide_eq_true g.oz, List.all_eq_true.2 (fun x hx => hsg x (g.fr x hx).1 (g.fr x hx).2)]
    rfl
  have b1 := below_al1 w (.cells #[.int .i64 8, .int .i64 z] 25)
  have b2 := below_al1 (w.alloc (.cells #[.int .i64 8, .int .i64 z] 25)) (.cells #[.int .i64 p.seg, .int .i64 p.off, .int .i64 p.next] 30)
  have b3 := below_al1 ((w.alloc (.cells #[.int .i64 8, .int .i64 z] 25)).alloc (.cells #[.int .i64 p.seg, .int .i64 p.off, .int .i64 p.next] 30)) (.cells #[.int .i64 0, .int .i64 0, .int .i64 0] 30)
  have D0 := hid (below2 (below2 b1 b2 b1.size) b3 (Nat.le_trans b1.size b2.size))
  obtain ⟨B9, B10, B16, _⟩ := @boxed3 w _ #[.int .i64 8, .int .i64 z] #[.int .i64 p.seg, .int .i64 p.off, .int .i64 p.next] #[.int .i64 0, .int .i64 0, .int .i64 0] 25 30 30 (Below.refl _ _)
  have hs0 : (((w.alloc (.cells #[.int .i64 8, .int .i64 z] 25)).alloc (.cells #[.int .i64 p.seg, .int .i64 p.off, .int .i64 p.next] 30)).alloc (.cells #[.int .i64 0, .int .i64 0, .int .i64 0] 30)).heap.size = w.heap.size + 3 := by simp
  generalize hW0 : (((w.alloc (.cells #[.int .i64 8, .int .i64 z] 25)).alloc (.cells #[.int .i64 p.seg, .int .i64 p.off, .int .i64 p.next] 30)).alloc (.cells #[.int .i64 0, .int .i64 0, .int .i64 0] 30)) = W0 at *
  have KP := hid (parts_any 8 z p.seg p.off p.next fp fcap fr lp lcap E f1 f2 (by omega) f4 l1 l2 (by omega) W0 (RowOf.more RF D0.out) (RowOf.more RE D0.out))
  have HB9 := hid B9
  have HB10 := hid B10
  have HB16 := hid B16
  have hs0h := hid hs0
  have Dh := hid D
  have Qh := hid Qm
  have Sh := hid Sm
  have Ih := hid I
  have REh := hid RE
  have hplh := hid hpl
  have hEh := hid hE
  have hss := hid (And.intro hs1 (And.intro hs2 hs3))
  replace hW0 := hid hW0
  replace f4 := hid f4
  clear b1 b2 b3 hs0 D Qm Sm RF RE I hpl hE hs1 hs2 hs3
  obtain ⟨l9, m9, f9⟩ := B9
  obtain ⟨l10, m10, f10⟩ := B10
  clear B16
  go_enter Try.func10, Try.ntmps10
  go_wp2_with fail
  rw [hW0.out]
  refine KP.out.mono ?_
  intro e w1 hP
  replace hP := hP.ok hplh.out hEh.out
  obtain ⟨hb1, hP⟩ := hP
  rcases hP with ⟨hnone, rfl⟩ | ⟨V, q, f, v, vf, hsome, rfl, PV, RV⟩
  · have B101 := hid (HB10.out.more hb1)
    have B161 := hid (HB16.out.more hb1)
    have D1 := hid (below2 D0.out hb1 D0.out.size)
    have B3 := Blk.fill [.int .i64 p.seg, .int .i64 p.off, .int .i64 p.next] 0 B161.out (by simp)
    have D3 := hid (below_fill (b := w.heap.size + 1 + 1) (by omega) [.int .i64 p.seg, .int .i64 p.off, .int .i64 p.next] 0 D1.out)
    simp only [setAll, Nat.zero_add, Nat.reduceAdd] at B3 D3
    replace B3 := hid B3
    obtain ⟨l10, m10, f10⟩ := B101.out
    obtain ⟨l16, m16, f16⟩ := B161.out
    have hnh := hid hnone
    clear KP l9 m9 f9 HB9 HB10 HB16 hb1 D0 B101 B161 D1 hnone
    go_wp2_with fail
    clear l10 m10 f10 l16 m16 f16
    generalize World.setCell _ _ _ = W3 at *
    have B4 := B3.out.more (below_al1 W3 (.cells #[.int .i64 0, .int .i64 0, .int .i64 0] 30))
    have D4 := hid (below2 D3.out (below_al1 W3 (.cells #[.int .i64 0, .int .i64 0, .int .i64 0] 30)) D3.out.size)
    generalize W3.alloc _ = W4 at *
    obtain ⟨l3, k3, f3⟩ := B4
    refine bodyPost_ret (v := .tuple #[plv p.seg p.off p.next, .slice fp fr.length fcap, .int .i64 (sq : Int), .slice none 0 0, .bool false]) (by simp [results, Try.results10, go_sem, k3, fillC]) rfl (.inl ⟨hnh.out, rfl, D4.out⟩)
  · obtain ⟨vp, vc, rfl, v1, v2, _⟩ := RowOwn.open ptOk PV.row
    obtain ⟨rp, rc, rfl, r1, r2, _⟩ := RowOwn.open inOk RV
    have B91 := HB9.out.more hb1
    have B161 := HB16.out.more hb1
    have D1 := hid (below2 D0.out hb1 D0.out.size)
    have b4 := below_al1 w1 (.cells #[.int .i64 q.seg, .int .i64 q.off, .int .i64 q.next] 30)
    have B22 := Blk.new w1 #[.int .i64 q.seg, .int .i64 q.off, .int .i64 q.next] 30
    have hsz := hid (show w.heap.size + 3 ≤ w1.heap.size by rw [← hs0h.out]; exact hb1.size)
    have HPV := hid (PV.more b4)
    have HRV := hid (RV.more b4)
    have B9a := hid (B91.more b4)
    have B16a := hid (B161.more b4)
    have D2 := hid (below2 D1.out b4 D1.out.size)
    have B22a := hid B22
    have hsome' := hid hsome
    clear hsome KP l9 m9 f9 l10 m10 f10 HB9 HB10 HB16 hb1 D0 D1 PV RV B22
    go_wp2_with fail
    generalize w1.alloc (.cells #[.int .i64 q.seg, .int .i64 q.off, .int .i64 q.next] 30) = W2 at *
    generalize w1.heap.size = g22 at *
    have hE63 : (E.length : Int) ≤ 9223372036854775807 := by omega
    clear B91 B161
    go_loopw [25, 26] (fun v i wr => ∃ k : Nat, k ≤ E.length ∧ i = .int .i64 (k : Int) ∧ RowOwn itT wr W2.heap.size v (itL (E.take k)) ∧ Below W2.heap.size W2 wr) (fun _ i _ => E.length - (intOf i).toNat)
    case atStart => exact ⟨0, Nat.zero_le _, rfl, RowOwn.nil _ _, Below.refl _ _⟩
    case round =>
      obtain ⟨k, hk, rfl, OI, Hb⟩ := hrel
      by_cases hlt : k < E.length
      · obtain ⟨X, hX⟩ : ∃ X, X = itL (E.take k) := ⟨_, rfl⟩
        have hXl : X.length ≤ 40 := by rw [hX, itL_len, List.length_take]; omega
        rw [← hX] at OI
        have hX2 := hid (show X ++ [lfI (penAt E k).i] = itL (E.take (k + 1)) by
          rw [hX, List.take_add_one, List.getElem?_eq_getElem hlt, ← atR_eq (T := enT) E k hlt]
          simp [itL])
        replace hX := hid hX
        obtain ⟨iv, ic, rfl, c1, c2, _⟩ := RowOwn.open itOk OI
        have hlt' : (k : Int) < (E.length : Int) := by omega
        obtain ⟨be, oe, rfl, re⟩ := RowP.row (RowOf.more REh.out (below2 D2.out Hb D2.out.size)) (by omega)
        have z1 : wr.cell? ⟨be, oe + k * 2 + 1, none⟩ = some (.int .i64 (penAt E k).i) := re.at1 hlt rfl
        have KL := hid (rleaf_any (penAt E k).i wr)
        have OIh := hid OI
        have Hbh := hid Hb
        have hlth := hid hlt
        generalize (penAt E k).i = id at *
        clear re OI Hb hk c1 c2 hlt
        go_wp2_with fail
        refine KL.out.mono ?_
        rintro e w3 ⟨rfl, hb3⟩
        have b6 := below_al1 w3 (.cells #[.int .i64 id, .bool true, .slice none 0 0, .int .i64 0, .int .i64 0, .int .i64 0, .int .i64 0, .int .i64 0, .int .i64 0, .int .i64 0, .int .i64 0, .int .i64 0] 80)
        have RN : RowOf itT _ (some ⟨w3.heap.size, 0, none⟩) [lfI id] := rowOf_one itOk (Blk.new w3 #[.int .i64 id, .bool true, .slice none 0 0, .int .i64 0, .int .i64 0, .int .i64 0, .int .i64 0, .int .i64 0, .int .i64 0, .int .i64 0, .int .i64 0, .int .i64 0] 80) rfl
        have H36 := below2 (below2 Hbh.out hb3 Hbh.out.size) b6 (Nat.le_trans Hbh.out.size hb3.size)
        obtain ⟨v9, w9, hr, O9, gr, mv⟩ := append_row itOk W2.heap.size 74 _ _ X ((OIh.out.more hb3).more b6) (some ⟨w3.heap.size, 0, none⟩) 1 [lfI id] RN (by show (X.length + 1) * 112 ≤ _; omega) (by unfold maxLen; simp; omega) H36.size
        have S9 := Sole.grown (S := fun i => (Value.slice iv X.length ic).ownBlock = some i) gr (fun _ e => e)
        have D9 := hid (H36.trans (S9.below (B := W2.heap.size) H36.size fun j e => (OIh.out.within j e).1))
        rw [hX2.out] at O9
        have O9h := hid O9
        clear gr mv S9 O9 b6 RN H36 hb3 KL z1
        go_wp2_with (at_builtin; refine Lib.wpList_append_run _ rfl _ _ _ _ rfl _ _ rfl rfl _ _ hr ?_)
        go_roundw
        case rel => exact ⟨k + 1, by have := hlth.out; omega, by simp, O9h.out, D9.out⟩
        case measure => have := hlth.out; simp [intOf]; omega
      · obtain rfl : k = E.length := by omega
        have hlt' : ¬ (E.length : Int) < (E.length : Int) := by omega
        rw [List.take_length] at OI
        obtain ⟨iv, ic, rfl, i1, i2, _⟩ := RowOwn.open itOk OI
        rw [itL_len]
        have OIh := hid OI
        have Hbh := hid Hb
        clear OI Hb hlt hk
        go_wp2_with fail
        have hV63 : (V.length : Int) ≤ 9223372036854775807 := by unfold maxLen at v2; omega
        have HPV3 := hid (HPV.out.more Hbh.out)
        have HRV3 := hid (HRV.out.more Hbh.out)
        have B93 := hid (B9a.out.more Hbh.out)
        have B163 := hid (B16a.out.more Hbh.out)
        have B223 := hid (B22a.out.more Hbh.out)
        have OI3 := hid (OIh.out.mono (show w.heap.size ≤ W2.heap.size from D2.out.size))
        have D3 := hid (below2 D2.out Hbh.out D2.out.size)
        obtain ⟨W3, rfl⟩ : ∃ W, W = wr := ⟨_, rfl⟩
        have inW := hid (fun k (h0 : w.heap.size ≤ k) (h1 : k < W3.heap.size) => show ¬ (K k ∨ W3.heap.size ≤ k) from fun h => by
          rcases h with h | h
          · have := Dh.out.klt k h; omega
          · omega)
        have hst := hid (WrAt.start (Lo := Lo) (la := la) hsome'.out Ih.out hss.out.1 hss.out.2.1 hss.out.2.2 hLo)
        have hlw : w.heap.size ≤ W3.heap.size := D3.out.size
        have hmap := hid (show (V.map PtV.data).length = V.length from List.length_map _)
        clear HPV HRV B9a B16a B22a OIh D2 Hbh hlt'
        go_loopw [5, 27, 28] (fun s5 va vi wr => ∃ (i : Nat) (R' : Int → List UInt8) (A : List Int) (p' : Plc) (fr' : List Int) (l' L' : List En) (t' : RSt), i ≤ V.length ∧ vi = .int .i64 (i : Int) ∧ s5 = .int .i64 ((sq + i : Nat) : Int) ∧ WrAt Lo ep z s0 s E la (V.map PtV.data) q f sq i R' A p' fr' l' L' t' ∧ WrM W3 wr K b N c0 R' (i + A.length) va A) (fun _ _ vi _ => V.length - (intOf vi).toNat)
        case atStart => exact ⟨0, R, [], p, fr, E, [], s, Nat.zero_le _, rfl, rfl, hst.out, Sole.refl _ _, ⟨m, K, Dh.out.more D3.out, fun k h => .inl h, Qh.out, ⟨Sh.out.tl, Sh.out.n, Sh.out.q⟩, nofun⟩, RowOwn.nil _ _⟩
        case round =>
          obtain ⟨i, R', A, p', fr', l', L', t', hi, rfl, rfl, WA, WM⟩ := hrel
          have hL40 : L'.length ≤ 40 := by
            have := congrArg List.length WA.app
            rw [List.length_append] at this
            omega
          have hA40 : A.length ≤ 40 := by have := WA.alen; have := wrN_le L'; omega
          have hi40 : i ≤ 40 := by have := WA.ilen; omega
          obtain ⟨av, ac, rfl, a1, a2, _⟩ := RowOwn.open inOk WM.a
          by_cases hlt : i < V.length
          · have hips : i < (V.map PtV.data).length := by rw [hmap.out]; exact hlt
            have WP := WA.part hips
            have hdat : (V.map PtV.data)[i] = (prAt V i).data := by rw [List.getElem_map, ← atR_eq (T := ptT) V i hlt]
            have hnx := fun (R2 : Int → List UInt8) => WA.next (R2 := R2) hips (by omega)
            rw [hdat] at WP
            rw [hdat] at hnx
            clear hdat
            have PVr := HPV3.out.row.sole WM.S (fun k e => inW.out k (by have := (HPV3.out.row.within k e).1; have := hs0h.out; omega) (HPV3.out.row.within k e).2)
            obtain ⟨pv, cv, hpv, _, _, RP⟩ := RowOwn.open ptOk PVr
            obtain ⟨rfl, _, rfl⟩ := Value.slice.inj hpv
            obtain ⟨pb, po, rfl, RV0⟩ := RowP.row (show RowP wr vp 6 V.length (fun i => ptcells (prAt V i)) from RP) (by omega)
            have hmem : prAt V i ∈ V := atR_mem (T := ptT) V i hlt
            have ESr := (HPV3.out.es _ hmem).sole WM.S (fun k e => inW.out k (by have := ((HPV3.out.es _ hmem).within k e).1; have := hs0h.out; omega) ((HPV3.out.es _ hmem).within k e).2)
            have OIr := OI3.out.sole WM.S (fun k e => inW.out k (OI3.out.within k e).1 (OI3.out.within k e).2)
            have B9r := hid (B93.out.sole WM.S (inW.out w.heap.size (Nat.le_refl _) (by have := B93.out.lt; omega)))
            obtain ⟨x, hx⟩ : ∃ x, prAt V i = x := ⟨_, rfl⟩
            rw [hx] at ESr WP hnx
            obtain ⟨⟨sg, of, nx⟩, dl, eq, ec, es⟩ := x
            obtain ⟨z0, z1, z3, z4, z5⟩ := row_blk1' RV0 hlt hx
            obtain ⟨y0, y1, y2, y3, y4, y5, y6, y7⟩ := WP
            dsimp only [PtV.data] at y0 y1 y2 y3 y4 y5 y6 y7 hnx
            have hlti : (i : Int) < (V.length : Int) := by omega
            have hlth := hid hlt
            have WMh := hid WM
            have hnxh := hid hnx
            have ESh := hid ESr
            have OIrh := hid OIr
            have hyy := hid (And.intro y0 (And.intro y1 (And.intro y2 (And.intro y3 (And.intro y4 (And.intro y5 (And.intro y6 y7)))))))
            have BS := Blk.new wr #[.int .i64 nx, .bool dl, .slice eq es.length ec] 83
            have bS := below_al1 wr (.cells #[.int .i64 nx, .bool dl, .slice eq es.length ec] 83)
            have BSh := hid BS
            have bSh := hid bS
            have zz := hid (And.intro z0 z1)
            have hlp := hid RV0.lt
            clear WA WM hnx PVr hpv RP RV0 hmem ESr OIr hx y0 y1 y2 y3 y4 y5 y6 y7 a1 a2 hlt BS bS hips hi
            go_upto_region 14 with (fail)
            obtain ⟨g29, hg29⟩ : ∃ g, wr.heap.size = g := ⟨_, rfl⟩
            rw [hg29] at BSh
            rw [hg29]
            have hgle := hid (Nat.le_of_eq hg29)
            clear hg29
            generalize wr.alloc (.cells #[.int .i64 nx, .bool dl, .slice eq es.length ec] 83) = W4 at *
            clear z0 z1 z3 z4 z5
            go_cut [77, 78, 79, 80] (fun s77 s78 s79 s80 wx => Blk wx g29 #[.int .i64 nx, .bool (dl && la), .slice eq es.length ec] ∧ Below wr.heap.size wr wx)
            case first =>
              obtain ⟨lS, mS, fS⟩ := BSh.out
              have m1 : W4.cell? ⟨g29, 1, none⟩ = some (.bool dl) := mS 1
              cases dl with
              | false =>
                go_wp2_with fail
                go_meet
                case rel => exact ⟨BSh.out.set 1 (.bool false) (by simp), Below.setCell (p := ⟨g29, 1, none⟩) bSh.out hgle.out _⟩
              | true =>
                go_wp2_with fail
                go_meet
                case rel => exact ⟨BSh.out.set 1 (.bool la) (by simp), Below.setCell (p := ⟨g29, 1, none⟩) bSh.out hgle.out _⟩
            case rest =>
              obtain ⟨BS5, b5⟩ := hcut
              obtain ⟨y0, y1, y2, y3, y4, y5, y6, y7⟩ := hyy.out
              have hCan := sects_can (la := dl && la) hep hep2 (show (0 : Int) ≤ (sq : Int) + (i : Int) by omega) (by omega) y4 (by omega) (fun x hx => y7 x hx) hEh.out y6
              obtain ⟨ev, evc, hev, e1, e2, RE5⟩ := RowOwn.open enOk (ESh.out.more b5)
              obtain ⟨rfl, _, rfl⟩ := Value.slice.inj hev
              have OI5 := OIrh.out.more b5
              obtain ⟨iw, iwc, hiw, i3, i4, RI5⟩ := RowOwn.open itOk OI5
              rw [itL_len] at hiw
              obtain ⟨rfl, _, rfl⟩ := Value.slice.inj hiw
              have KS := sectors_can nx (dl && la) eq es.length ec (penAt es) e1 e2 (fun j hj => wf_small _ (by have := (bCk_zero hCan.good).2.2.2 j hj; omega) (by have := (bCk_zero hCan.good).2.2.2 j hj; omega)) ep ((sq : Int) + (i : Int)) (itL E) iv ic wc (en_rowp RE5) ⟨RI5, i3, i4, itL_there⟩
              have HI5 := hid (show ItsOk wc iv ic (itL E) from ⟨RI5, i3, i4, itL_there⟩)
              rw [itL_len] at KS
              replace KS := hid KS
              have hCanh := hid hCan
              obtain ⟨lS, mS, fS⟩ := BS5
              have b5h := hid b5
              have hhi := hid hi40
              clear b5 hCan hev hiw RE5 RI5 e1 e2 i3 i4 OI5 y0 y1 y2 y3 y4 y5 y6 y7
              go_wp2_with fail
              refine KS.out.mono ?_
              rintro e w5 ⟨v5, C, rfl, hb5, hS5, hC5⟩
              obtain rfl : C = 0 := hC5 hCanh.out
              have SO := hid (hS5 rfl)
              obtain ⟨g5, c5, Xs, rfl, OX, hXl, hXt⟩ := SO.out.ex
              have b55 := below2 b5h.out hb5 b5h.out.size
              have hwc := hid (show wr.heap.size ≤ wc.heap.size from b5h.out.size)
              have OXh := hid OX
              have hXth := hid hXt
              have hXlh := hid hXl
              have hXnh := hid (sects_len hXl)
              have B95 := B9r.out.more b55
              have B95h := hid B95
              have z0 := (b55.cell (p := ⟨pb, po + i * 6, none⟩) hlp.out).trans zz.out.1
              have z1 := (b55.cell (p := ⟨pb, po + i * 6 + 1, none⟩) hlp.out).trans zz.out.2
              have KA := fun w => address_any 8 z sg of w
              obtain ⟨y0, y1, y2, y3, y4, y5, y6, y7⟩ := hyy.out
              have hsb := sec_bd hok hN (p := ⟨sg, of, nx⟩) ⟨y0, y1, y2, by show of ≤ z; omega, y4, y5⟩
              rw [ad_val (by have := Ih.out.good.z4; omega) (by omega) y0 y1 y2 (by omega)] at KA
              have hsec : secP z ⟨sg, of, 0⟩ = secP z ⟨sg, of, nx⟩ := rfl
              rw [hsec] at KA
              obtain ⟨fs, hfs⟩ : ∃ fs, fs = secP z ⟨sg, of, nx⟩ := ⟨_, rfl⟩
              rw [← hfs] at KA hsb
              dsimp only at hsb
              obtain ⟨hb0, hb1, _, _⟩ := hsb
              have hfs9 := hid (show 0 ≤ fs ∧ fs + ((1 + wrN es : Nat) : Int) ≤ (N : Int) ∧ fs ≤ 4096 from ⟨hb0, by omega, by omega⟩)
              replace hfs := hid hfs
              replace KA := hid KA
              have hw64 := hid (show wrN es ≤ 64 from by have := wrN_le es; omega)
              have b55h := hid b55
              have q0 := fun u : Later w5 => u.blk B95
              have cc : ∀ (c oo : Nat) (v : Value), w5.cell? ⟨c, oo, none⟩ = some v → ∀ u : Later w5, u.val.cell? ⟨c, oo, none⟩ = some v := fun c oo v hv u => (u.cell c oo (cell_lt hv)).trans hv
              have a0 := cc _ _ _ z0
              have a1 := cc _ _ _ z1
              clear cc z0 z1 hb0 hb1 hsec y0 y1 y2 y3 y4 y5 y6 y7 OX hXl hXt KS hb5 hS5 hC5 lS mS fS b55 B95 zz
              generalize adB 8 z sg of = ab at *
              go_wp2_with fail
              refine wp_region_late 18 (by kernel_rfl) (by kernel_rfl) ?_
              simp only [List.take_succ_cons, List.take_zero, List.drop_succ_cons, List.drop_zero]
              iterate 18 (go_big_quiet_step ((go_at_call 22; (with_reducible exact late_call (KA.out _)))))
              refine wpQuiet_nil ?_
              intro w7 h7'
              have h7 := late_out h7'
              have b57 := below2 b55h.out h7 b55h.out.size
              obtain ⟨m1, K1, hd1, hK1, hQ1, hT1, hva1⟩ := WMh.out.d
              have D7 := hd1.more b57
              obtain ⟨xw, xwc, hxw, i3, i4, RX5⟩ := RowOwn.open ocOk OXh.out
              obtain ⟨rfl, _, rfl⟩ := Value.slice.inj hxw
              have RX7 := RowOf.more RX5 h7
              have hg5 := (OXh.out.within g5 rfl).1
              have hhA := hid hA40
              have hX7 : ∀ x ∈ Xs, x.there w7 ∧ x.l.length = 256 ∧ ∀ b' o, x.a = some ⟨b', o, none⟩ → ¬ K1 b' := fun x hx => ⟨(hXth.out x hx).1.more h7, sects_256 SO.out hXlh.out x hx, fun b' o e hk => by
                have h1 := (hXth.out x hx).2 b' o e
                have h2 := hd1.klt b' hk
                have h3 := hwc.out
                omega⟩
              have KW := segwrite_far m1 b K1 w7 D7 hQ1 hT1 (by have := hhA.out; have := hhi.out; omega) fs hfs9.out.1 (some ⟨g5, 0, none⟩) c5 Xs (by have := hw64.out; have := hXnh.out; omega) (by have := hfs9.out; have := hXnh.out; omega) (by omega) RX7 (fun b' o e _ hk => by cases e; have h2 := hd1.klt g5 hk; have h3 := hwc.out; omega) hX7
              replace KW := hid KW
              have b57h := hid b57
              have hx63 : (Xs.length : Int) ≤ 100 := by have := hw64.out; have := hXnh.out; omega
              have hva1h := hid hva1
              have hK1h := hid hK1
              have hd1h := hid hd1.klt
              clear q0 a0 a1 h7' h7 b57 hd1 hK1 hQ1 hT1 hva1 D7 hxw RX5 RX7 hX7 hg5 i3 i4 B95h KA OXh hXth
              go_wp2_with fail
              refine KW.out.mono ?_
              rintro e w8 ⟨rfl, m2, K2, D8, S8, hK2, Q8, T8⟩
              have hva8 : ∀ k, (Value.slice av A.length ac).ownBlock = some k → ¬ K2 k := fun k e hk => by
                rcases hK2 k hk with h | h
                · exact hva1h.out k e h
                · have h1 := (WMh.out.a.within k e).2
                  have h2 := b57h.out.size
                  omega
              have OA8 := (WMh.out.a.more b57h.out).sole S8 (fun k e => hva1h.out k e)
              have S38 := hid ((WMh.out.S.trans (Sole.made b57h.out)).trans' S8 (fun k _ h => hK1h.out k h))
              have hK28 := hid (fun k (h : K2 k) => show K k ∨ W3.heap.size ≤ k from (hK2 k h).elim (hK1h.out k) (fun h => .inr (by have h1 := WMh.out.S.size; have h2 := b57h.out.size; omega)))
              have D8h := hid D8
              have Q8h := hid Q8
              have T8h := hid T8
              have hva8h := hid hva8
              have OA8h := hid OA8
              clear D8 S8 hK2 Q8 T8 hva8 OA8 KW
              obtain ⟨WR, rfl⟩ : ∃ W, W = wr := ⟨_, rfl⟩
              go_wp2_with fail
              obtain ⟨hf0, _, hf1⟩ := hfs9.out
              have hjw := hid (fun j : Nat => (show (Xs.length : Int) = 1 + (wrN es : Int) by have := hXnh.out; omega))
              clear hx63
              go_loopw [27, 34] (fun va vk wx => ∃ j : Nat, j + 1 ≤ Xs.length ∧ vk = .int .i64 ((j : Int) + 1) ∧ RowOwn inT wx W3.heap.size va (A ++ atL fs j) ∧ (∀ k, va.ownBlock = some k → ¬ K2 k) ∧ DiskM wx b m2 K2 ∧ Sole (fun k => W3.heap.size ≤ k) w8 wx) (fun _ vk _ => Xs.length + 1 - (intOf vk).toNat)
              case atStart => exact ⟨0, by have := hXnh.out; omega, rfl, by rw [show atL fs 0 = [] from rfl, List.append_nil]; exact OA8h.out, hva8h.out, D8h.out, Sole.refl _ _⟩
              case round =>
                obtain ⟨j, hj, rfl, OA, hva, Dx, Sx⟩ := hrel
                obtain ⟨X, hX⟩ : ∃ X, X = A ++ atL fs j := ⟨_, rfl⟩
                have hj64 : j ≤ 64 := by have := hXnh.out; have := hw64.out; omega
                have hXl : X.length ≤ 200 := by rw [hX, List.length_append, atL_len]; have := hhA.out; omega
                rw [← hX] at OA
                have hX2 := hid (show X ++ [fs + ((j : Int) + 1)] = A ++ atL fs (j + 1) by rw [hX, atL_succ, List.append_assoc])
                replace hX := hid hX
                obtain ⟨xv, xc, rfl, x1, x2, _⟩ := RowOwn.open inOk OA
                by_cases hlt : j + 1 < Xs.length
                · have hlt' : (j : Int) + 1 < (Xs.length : Int) := by omega
                  have b6 := below_al1 wr (.cells #[.int .i64 (fs + ((j : Int) + 1))] 3)
                  have RN : RowOf inT _ (some ⟨wr.heap.size, 0, none⟩) [fs + ((j : Int) + 1)] := rowOf_one inOk (Blk.new wr #[.int .i64 (fs + ((j : Int) + 1))] 3) rfl
                  have hHx : W3.heap.size ≤ wr.heap.size := by have := S38.out.size; have := Sx.size; omega
                  obtain ⟨v9, w9, hr, O9, gr, mv⟩ := append_row inOk W3.heap.size 35 _ _ X (OA.more b6) (some ⟨wr.heap.size, 0, none⟩) 1 [fs + ((j : Int) + 1)] RN (by show (X.length + 1) * 8 ≤ _; omega) (by unfold maxLen; simp; omega) (Nat.le_trans hHx b6.size)
                  have S9 := Sole.grown (S := fun k => (Value.slice xv X.length xc).ownBlock = some k) gr (fun _ e => e)
                  have hva9 := hid (fun k (e : v9.ownBlock = some k) => show ¬ K2 k from fun hk => by
                    rcases mv with h | h
                    · exact hva k (h ▸ e) hk
                    · rw [h] at e
                      cases e
                      have h1 := Dx.klt _ hk
                      have h2 := b6.size
                      omega)
                  have D9 := hid ((Dx.more b6).kept S9 (fun k hk e => hva k e hk))
                  have SX9 := hid ((Sx.trans (Sole.made b6)).trans' S9 (fun k _ e => (OA.within k e).1))
                  rw [hX2.out] at O9
                  have O9h := hid O9
                  have hlth2 := hid hlt
                  clear gr mv S9 O9 b6 RN hHx OA hva Dx Sx x1 x2 hj hlt
                  go_wp2_with (at_builtin; refine Lib.wpList_append_run _ rfl _ _ _ _ rfl _ _ rfl rfl _ _ hr ?_)
                  go_roundw
                  case rel => exact ⟨j + 1, by have := hlth2.out; omega, by simp, O9h.out, hva9.out, D9.out, SX9.out⟩
                  case measure => have := hlth2.out; simp [intOf]; omega
                · have hjn := hid (show j = wrN es by have := hXnh.out; omega)
                  have hlt' : ¬ (j : Int) + 1 < (Xs.length : Int) := by omega
                  rw [hX.out, hjn.out] at OA
                  have hsc := hid (show ((sq + i : Nat) : Int) = (sq : Int) + (i : Int) from Int.natCast_add sq i)
                  obtain ⟨p2, f2, l2, L2, t2, WA2⟩ := hnxh.out (wrote R' fs Xs Xs.length) (fun x hx => wrote_out x fun jj hjj => by rw [hfs.out]; exact hx jj (by have := hXnh.out; omega)) (by
                    rw [hsc.out]
                    have := part_whole (stands_of R' fs ep ((sq : Int) + (i : Int)) nx (dl && la) es.length (penAt es) (itL E) Xs hXlh.out) SO.out HI5.out
                    rw [hfs.out] at this ⊢
                    exact this)
                  have hfs' : secP z ⟨sg, of, nx⟩ = fs := hfs.out.symm
                  rw [show secP z (Plc.pc ⟨sg, of, nx⟩) = fs from hfs'] at WA2
                  have WA2h := hid WA2
                  have hxv := hid (show X.length = (A ++ atL fs (wrN es)).length by rw [hX.out, hjn.out])
                  have WM2 := hid (show WrM W3 wr K b N c0 (wrote R' fs Xs Xs.length) (i + 1 + (A ++ atL fs (wrN es)).length) (.slice xv X.length xc) (A ++ atL fs (wrN es)) from
                    ⟨S38.out.trans' Sx (fun k _ h => .inr h), ⟨m2, K2, Dx, hK28.out, Q8h.out, ⟨T8h.out.tl, by have h1 := T8h.out.n; have h2 := hXnh.out; rw [List.length_append, atL_len]; omega, by have h1 := T8h.out.q; have h2 := hXnh.out; rw [List.length_append, atL_len]; omega⟩, hva⟩, by rw [hxv.out]; exact OA⟩)
                  clear WA2 hfs' OA hva Dx Sx x1 x2 hj hlt
                  go_wp2_with fail
                  go_roundw
                  case rel => exact ⟨i + 1, _, _, p2, f2, l2, L2, t2, by have := hlth.out; omega, by simp, by simp; omega, WA2h.out, WM2.out⟩
                  case measure => have := hlth.out; simp [intOf]; omega
          · obtain rfl : i = V.length := by omega
            have hlt' : ¬ (V.length : Int) < (V.length : Int) := by omega
            have hW0 := hs0h.out
            have hg := hsz.out
            have hg3 := B223.out.lt
            have B16r := B163.out.sole WM.S (inW.out (w.heap.size + 1 + 1) (by omega) (by omega))
            have B22r := B223.out.sole WM.S (inW.out g22 (by omega) hg3)
            have SF := sole_setAll (S := fun k => k = w.heap.size + 1 + 1) rfl [.int .i64 q.seg, .int .i64 q.off, .int .i64 q.next] 0 wr
            have B3 := Blk.fill [.int .i64 q.seg, .int .i64 q.off, .int .i64 q.next] 0 B16r (by simp)
            simp only [setAll, Nat.zero_add, Nat.reduceAdd] at B3 SF
            have RVr := HRV3.out.sole WM.S (fun k e => inW.out k (by have := (HRV3.out.within k e).1; omega) (HRV3.out.within k e).2)
            obtain ⟨m', K', hd, hK', hQ, hS, hva⟩ := WM.d
            have fin : ∀ wx, Sole (fun k => k = w.heap.size + 1 + 1) wr wx → WrPost Lo ep z s0 s E la sq c0 b N K p fr (.slice fp fr.length fcap) w (.returned (.tuple #[plv q.seg q.off q.next, .slice rp f.length rc, .int .i64 ((sq + V.length : Nat) : Int), .slice av A.length ac, .bool true])) wx := fun wx SF => by
              have hKn : ∀ k, K' k → ¬ k = w.heap.size + 1 + 1 := fun k hk e => by
                rcases hK' k hk with h | h
                · have := Dh.out.klt k h; omega
                · omega
              refine .inr ⟨V.map PtV.data, q, f, _, _, A, R', t', hsome'.out, by rw [hmap.out], ((Sole.made D3.out).trans' WM.S (fun k hk h => h.resolve_right (by omega))).trans' SF (fun k hk e => by omega), ?_, by rw [hmap.out]; omega, hA40, ⟨m', K', hd.kept SF hKn, fun k hk => (hK' k hk).elim .inl (fun h => .inr (by omega)), hQ, ⟨hS.tl, by have := hS.n; omega, by have := hS.q; omega⟩, hva, fun k e hk => ?_⟩, ?_, ?_⟩
              · have := WA
                rw [← hmap.out] at this
                exact this.done
              · rcases hK' k hk with h | h
                · have := Dh.out.klt k h; have := (HRV3.out.within k e).1; omega
                · have := (HRV3.out.within k e).2; omega
              · exact (WM.a.sole SF (fun k e => by have := (WM.a.within k e).1; omega)).mono hlw
              · exact (RVr.sole SF (fun k e => by have := (HRV3.out.within k e).1; omega)).mono (by omega)
            replace fin := hid (fin _ SF)
            replace B3 := hid B3
            obtain ⟨l16, m16, f16⟩ := B16r
            obtain ⟨l22, m22, f22⟩ := B22r
            clear WA WM SF RVr hd hK' hQ hS hva hW0 hg hg3 hlt a1 a2 hi
            go_wp2_with fail
            clear l16 m16 f16 l22 m22 f22
            generalize World.setCell _ _ _ = W4 at *
            obtain ⟨l3, k3, f3⟩ := B3.out
            refine bodyPost_ret (v := .tuple #[plv q.seg q.off q.next, .slice rp f.length rc, .int .i64 ((sq + V.length : Nat) : Int), .slice av A.length ac, .bool true]) (by simp [results, Try.results10, go_sem, k3, fillC]) rfl fin.out
end Go.Proofs.Ytcklmemnjchdcaa

/-
  What an argument that comes in is: a slice of slices of entries.
-/



namespace Go.Proofs.Ytcklmemnjchdcaa
open Go.ChangeShapes Go.WideShapes Go.ChangeAt Go.RowKit Go.Joins Go.Deep
set_option linter.unusedVariables false

/-- Entries in a slice. -/
structure EnS where
  a : Option Addr
  cap : Nat
  l : List En
structure EnS.there (w : World) (s : EnS) : Prop where
  row : RowOf enT w s.a s.l
  h1 : s.l.length ≤ s.cap
  h2 : s.cap ≤ maxLen
theorem EnS.there.more {w w' : World} {s : EnS} (h : s.there w) (hb : Below w.heap.size w w') : s.there w' := ⟨RowOf.more h.row hb, h.h1, h.h2⟩
def esT : RowT EnS := { ty := 36, sl := 22, sz := 1, bytes := 24, zero := .slice none 0 0, cells := fun x => [.slice x.a x.l.length x.cap], dflt := ⟨none, 0, []⟩ }
abbrev esA (L : List EnS) (i : Nat) : EnS := atR esT L i
section
variable {H : Type} {enc : TypeId × Value → H} {P : Program} {w : World} {base : Nat} {spare : Nat → Bool} {held : Bool}
/-- A slice of structs of one-cell fields, in a cell. -/
theorem sl_in {t e : TypeId} {fs : Array Field} {v : Value} {fuel : Nat} {x : DataW H × List MemPlace} (ht : P.underlying t = some (.slice e)) (he : P.underlying e = some (.struct fs))
    (hone : oneCellFields P fs = true) (hC : P.cellsOf e = fs.size) (hpos : 0 < fs.size) (hf : DataW.trod enc P w base spare held fuel t [v] = some x) :
    ∃ (n : Nat) (F : Nat → Nat → Value), (∃ p cap, v = .slice p n cap ∧ n ≤ cap ∧ cap ≤ maxLen ∧ (n = 0 ∨ ∃ b o, p = some ⟨b, o, none⟩ ∧ b < w.heap.size ∧ ∀ i, i < n → ∀ j, j < fs.size → w.cell? ⟨b, o + i * fs.size + j, none⟩ = some (F i j))) ∧
      ∀ i, i < n → ∀ j f, fs[j]? = some f → ∃ m y, DataW.trod enc P w base spare held m f.type [F i j] = some y := by
  rcases open_slice_fields ht he hone hC hf with hcs | ⟨a, len, cap, m, hcs, hl, hm, hmm, hi⟩
  · simp at hcs
    subst hcs
    exact ⟨0, fun _ _ => undef, ⟨none, 0, rfl, by omega, by unfold maxLen; omega, .inl rfl⟩, fun i hi => absurd hi (Nat.not_lt_zero _)⟩
  · simp at hcs
    subst hcs
    have hlm : len ≤ m := by rw [hmm]; split <;> omega
    by_cases h0 : len = 0
    · subst h0
      exact ⟨0, fun _ _ => undef, ⟨some a, cap, rfl, by omega, hm, .inl rfl⟩, fun i hi => absurd hi (Nat.not_lt_zero _)⟩
    · have hex : ∀ i j, i < len → j < fs.size → ∃ v, w.cell? (a.add (i * fs.size + j)) = some v ∧ ∀ f, fs[j]? = some f → ∃ m y, DataW.trod enc P w base spare held m f.type [v] = some y := by
        intro i j h1 h2
        obtain ⟨v, n, y, hc, hy⟩ := hi i (by omega) j fs[j] (Array.getElem?_eq_getElem h2)
        refine ⟨v, hc, fun f hfj => ?_⟩
        rw [Array.getElem?_eq_getElem h2] at hfj
        cases hfj
        exact ⟨n, y, hy⟩
      have hexF : ∃ F : Nat → Nat → Value, ∀ i j, i < len → j < fs.size → w.cell? (a.add (i * fs.size + j)) = some (F i j) ∧ ∀ f, fs[j]? = some f → ∃ m y, DataW.trod enc P w base spare held m f.type [F i j] = some y := by
        haveI : Nonempty Value := ⟨undef⟩
        exact ⟨fun i j => Classical.epsilon fun v => w.cell? (a.add (i * fs.size + j)) = some v ∧ ∀ f, fs[j]? = some f → ∃ m y, DataW.trod enc P w base spare held m f.type [v] = some y, fun i j h1 h2 => Classical.epsilon_spec (hex i j h1 h2)⟩
      obtain ⟨F, hF⟩ := hexF
      have c0 := (hF 0 0 (by omega) hpos).1
      have hsp : a.spot = none := by
        have := World.cell?_spot c0
        simpa [Addr.add] using this
      obtain ⟨b, o, sp⟩ := a
      simp only at hsp
      subst hsp
      have hadd : ∀ k, Addr.add ⟨b, o, none⟩ k = ⟨b, o + k, none⟩ := by
        intro k
        unfold Addr.add
        split
        · subst k; rfl
        · rfl
      refine ⟨len, F, ⟨_, cap, rfl, hl, hm, .inr ⟨b, o, rfl, ?_, fun i h1 j h2 => ?_⟩⟩, fun i h1 j f hfj => ?_⟩
      · have := cell_lt c0
        rwa [hadd] at this
      · have := (hF i j h1 h2).1
        rw [hadd, ← Nat.add_assoc] at this
        exact this
      · exact (hF i j h1 (Array.getElem?_eq_some_iff.1 hfj).1).2 f hfj
end

set_option maxRecDepth 100000 in
/-- Entries in a cell. -/
theorem ents_in {H : Type} {enc : TypeId × Value → H} {W : World} {v : Value} {fuel : Nat} {x : DataW H × List MemPlace} (hf : DataW.trod enc Try.prog W 0 (fun _ => true) true fuel 36 [v] = some x) :
    ∃ s : EnS, v = .slice s.a s.l.length s.cap ∧ s.there W := by
  obtain ⟨n, F, ⟨q, cap, hv, h1, h2, h3⟩, hF⟩ := sl_in Try.underlying36 Try.underlying70 (by kernel_rfl) (by kernel_rfl) (by decide) hf
  have each : ∀ i, i < n → ∃ e : En, [F i 0, F i 1] = ecells e := by
    intro i hi
    obtain ⟨m0, z0, t0⟩ := hF i hi 0 _ rfl
    obtain ⟨m1, z1, t1⟩ := hF i hi 1 _ rfl
    obtain ⟨a', e0, _, _⟩ := DataW.trod_int Try.underlying3 t0
    obtain ⟨b', e1, _, _⟩ := DataW.trod_int Try.underlying3 t1
    simp at e0 e1
    exact ⟨⟨a', b'⟩, by rw [e0, e1]; rfl⟩
  have hg : ∃ g : Nat → En, ∀ i, i < n → [F i 0, F i 1] = ecells (g i) := by
    haveI : Nonempty En := ⟨⟨0, 0⟩⟩
    exact ⟨fun i => Classical.epsilon fun e => [F i 0, F i 1] = ecells e, fun i hi => Classical.epsilon_spec (each i hi)⟩
  obtain ⟨g, hg⟩ := hg
  have hlen : ((List.range n).map g).length = n := by simp
  refine ⟨⟨q, cap, (List.range n).map g⟩, by show _ = Value.slice q ((List.range n).map g).length cap; rw [hlen]; exact hv, ?_, by show ((List.range n).map g).length ≤ cap; rw [hlen]; exact h1, h2⟩
  show RowOf enT W q ((List.range n).map g)
  unfold RowOf
  rw [hlen]
  rcases h3 with h3 | ⟨b, o, rfl, hb, hc⟩
  · exact .inl h3
  · refine .inr ⟨b, o, rfl, hb, fun i hi j u hu => ?_⟩
    have e1 : atR enT ((List.range n).map g) i = g i := by rw [atR_eq _ i (by rw [hlen]; exact hi)]; simp
    rw [e1] at hu
    have hu' : (ecells (g i))[j]? = some u := hu
    rw [← hg i hi] at hu'
    have hj : j < 2 := by
      have := (List.getElem?_eq_some_iff.1 hu').1
      simpa using this
    have h4 := hc i hi j hj
    have e2 : u = F i j := by
      rcases j with _ | _ | j
      · exact (Option.some.inj hu').symm
      · exact (Option.some.inj hu').symm
      · omega
    rw [e2]
    exact h4

set_option maxRecDepth 100000 in
/-- A slice of slices of entries that comes in. -/
theorem entll_of {H : Type} {enc : TypeId × Value → H} {W : World} {b0 : Nat} {v : Value} {d : DataW H} {p : List MemPlace} (hv : Value.okWide Try.prog W .any b0 22 v) (h : DataW.Trod enc Try.prog W 0 (fun _ => true) true 22 v d p) :
    ∃ (L : List EnS) (a : Option Addr) (cap : Nat), v = .slice a L.length cap ∧ L.length ≤ cap ∧ cap ≤ maxLen ∧ RowOf esT W a L ∧ ∀ x ∈ L, x.there W := by
  obtain ⟨fuel, hf⟩ := h
  obtain ⟨a0, len, cap, rfl⟩ := okWide_slice Try.underlying22 hv
  rcases open_slice Try.underlying22 hf with ⟨h0, _⟩ | ⟨a, len', cap', m, n, D, Pl, hcs, hb, hl, hm, hmm, hx, hi⟩
  · simp [Value.cells] at h0
    obtain ⟨rfl, rfl, rfl⟩ := h0
    exact ⟨[], none, 0, rfl, Nat.le_refl _, Nat.zero_le _, .inl rfl, fun x hx => by cases hx⟩
  · simp [Value.cells] at hcs
    obtain ⟨rfl, rfl, rfl⟩ := hcs
    have hlm : len ≤ m := by rw [hmm]; split <;> omega
    have each : ∀ i, i < len → ∃ s : EnS, W.cell? (a.add i) = some (.slice s.a s.l.length s.cap) ∧ s.there W := by
      intro i hil
      obtain ⟨cs', hc, ht'⟩ := hi i (by omega)
      have hC : Try.prog.cellsOf 36 = 1 := by kernel_rfl
      rw [hC, Nat.mul_one] at hc
      obtain ⟨_, hcl, hat⟩ := World.cells?_some hc
      have hc0 := hat 0 (by omega)
      match cs', hcl, hc0, ht' with
      | [u], _, hc0, ht' =>
        obtain ⟨s, rfl, hs⟩ := ents_in ht'
        refine ⟨s, ?_, hs⟩
        have : Addr.add (a.add i) 0 = a.add i := by unfold Addr.add; simp
        rw [this] at hc0
        simpa using hc0
    have hg : ∃ g : Nat → EnS, ∀ i, i < len → W.cell? (a.add i) = some (.slice (g i).a (g i).l.length (g i).cap) ∧ (g i).there W := by
      haveI : Nonempty EnS := ⟨⟨none, 0, []⟩⟩
      exact ⟨fun i => Classical.epsilon fun s : EnS => W.cell? (a.add i) = some (.slice s.a s.l.length s.cap) ∧ s.there W, fun i hi => Classical.epsilon_spec (each i hi)⟩
    obtain ⟨g, hg⟩ := hg
    have hlen : ((List.range len).map g).length = len := by simp
    refine ⟨(List.range len).map g, some a, cap, by rw [hlen], by rw [hlen]; exact hl, hm, ?_, fun s hs => ?_⟩
    · by_cases h0 : len = 0
      · exact .inl (by rw [hlen]; exact h0)
      · have c0 := (hg 0 (by omega)).1
        have hsp : a.spot = none := by
          have := World.cell?_spot c0
          simpa [Addr.add] using this
        obtain ⟨b, o, sp⟩ := a
        simp only at hsp
        subst hsp
        have hadd : ∀ k, Addr.add ⟨b, o, none⟩ k = ⟨b, o + k, none⟩ := by
          intro k
          unfold Addr.add
          split
          · subst k; rfl
          · rfl
        refine .inr ⟨b, o, rfl, ?_, fun i hi j u hu => ?_⟩
        · have := cell_lt c0
          rwa [hadd] at this
        · rw [hlen] at hi
          have hj : j = 0 := by
            rcases j with _ | j
            · rfl
            · simp [esT] at hu
          subst hj
          have e1 : atR esT ((List.range len).map g) i = g i := by rw [atR_eq _ i (by rw [hlen]; exact hi)]; simp
          have hc := (hg i hi).1
          rw [hadd] at hc
          have hu2 : Value.slice (atR esT ((List.range len).map g) i).a (atR esT ((List.range len).map g) i).l.length (atR esT ((List.range len).map g) i).cap = u := Option.some.inj hu
          show W.cell? ⟨b, o + i * 1 + 0, none⟩ = _
          rw [show o + i * 1 + 0 = o + i by omega, hc, ← hu2, e1]
    · obtain ⟨i, hi, rfl⟩ := List.mem_map.1 hs
      exact (hg i (List.mem_range.1 hi)).2
end Go.Proofs.Ytcklmemnjchdcaa

namespace Go.Proofs.Ytcklmemnjchdcaa
open Go.RowKit Go.Maps
set_option linter.unusedVariables false
set_option linter.unusedSimpArgs false

def M7 : Array Value := #[.int .i64 7, .int .i64 2, .int .i64 1, .int .i64 0] ++ Array.replicate 288 (.int .i64 0)
def F7a (j : Nat) : Int := if j = 0 then 7 else if j = 1 then 2 else if j = 2 then 1 else 0
def F7 (j : Nat) : Int := if j = 45 then 9 else F7a j
def C7 : Array Value := M7.setIfInBounds 45 (.int .i64 9)
def zerosM : Array Value := Array.replicate 292 (.int .i64 0)
set_option maxRecDepth 100000 in
theorem malloc7 (ρ : Operand → Value) (dst : Option Tmp) (ty : TypeId) (pos : String) (af : Array Edge) (w : World) : (execOp ρ { dst := dst, op := .alloc 34, type := ty, pos := pos, after := af, guard := none }).run Try.prog w =
    .ok (.value (.pointer (some ⟨w.heap.size, 0, none⟩))) (w.alloc (.cells zerosM 34)) := by kernel_rfl
theorem zm_size : zerosM.size = 292 := by simp [zerosM]
/-- Whole values, from and to a block: as equations. -/
theorem run_load_at {P : Program} (ρ : Operand → Value) (op : Oper) (w : World) (ty : TypeId) (x : Operand) (ho : op.op = .load ty x)
    (b o : Nat) (hx : ρ x = .pointer (some ⟨b, o, none⟩)) (c : Array Value) (d : TypeDesc) (B : w.rangeAt b o c.toList)
    (hu : P.underlying ty = some d) (hd : d.isRow = true) (hi : (P.info? ty).map (·.size) = some c.size) :
    (execOp ρ op).run P w = .ok (.value (.agg c)) w := by
  unfold execOp
  simp only [ho, hx, Instr.loadAt, Instr.sureAddr, Sem.run_bind, Sem.run_pure, Result.andThen_ok, run_loadVar_mid w b o ty c.toList d B hu hd (by rw [hi]; simp), Array.toArray_toList]
/-- What is known as it is made. -/
structure IF7 (W : World) (cm cp Z3 Z256 : Array Value) (V : Nat → Option Value) (D : Nat → Bool) (vs : Nat → Value) (w : World) : Prop where
  vals : Vals V D vs
  low : Below W.heap.size W w
  b4 : D 4 = true → ∃ g, vs 4 = .slice (some ⟨g, 0, none⟩) 4 4 ∧ W.heap.size ≤ g ∧ Blk w g #[.int .i64 5, .int .i64 1, .int .i64 3, .int .i64 4]
  b5 : D 5 = true → ∃ g, vs 5 = .pointer (some ⟨g, 0, none⟩) ∧ W.heap.size ≤ g ∧ Blk w g (if D 7 then cm else Z256)
  b6 : D 6 = true → ∃ g, vs 6 = .pointer (some ⟨g, 0, none⟩) ∧ W.heap.size ≤ g ∧ Blk w g (if D 8 then cp else Z3)
  f7 : D 7 = true → D 5 = true
  f8 : D 8 = true → D 6 = true
def tab7 (g9 : Nat) (cm cp : Array Value) : Nat → Option Value
  | 0 => some (.pointer (some ⟨g9, 36, none⟩))
  | 1 => some (.agg cm)
  | 2 => some (.pointer (some ⟨g9, 1, none⟩))
  | 3 => some (.agg cp)
  | _ => none
theorem IF7.quiet {W : World} {cm cp Z3 Z256 : Array Value} {V : Nat → Option Value} {D : Nat → Bool} {vs : Nat → Value} {w : World} (h : IF7 W cm cp Z3 Z256 V D vs w) (j : Nat) (v : Value) (hj : j < 4) (hv : V j = some v) :
    IF7 W cm cp Z3 Z256 V (fset D j true) (fset vs j v) w := by
  refine ⟨h.vals.set j v (fun u hu => Option.some.inj (hv.symm.trans hu)), h.low, ?_, ?_, ?_, ?_, ?_⟩
  · rw [fset_ne D true (show 4 ≠ j by omega), fset_ne vs v (show 4 ≠ j by omega)]; exact h.b4
  · rw [fset_ne D true (show 5 ≠ j by omega), fset_ne vs v (show 5 ≠ j by omega), fset_ne D true (show 7 ≠ j by omega)]; exact h.b5
  · rw [fset_ne D true (show 6 ≠ j by omega), fset_ne vs v (show 6 ≠ j by omega), fset_ne D true (show 8 ≠ j by omega)]; exact h.b6
  · rw [fset_ne D true (show 7 ≠ j by omega), fset_ne D true (show 5 ≠ j by omega)]; exact h.f7
  · rw [fset_ne D true (show 8 ≠ j by omega), fset_ne D true (show 6 ≠ j by omega)]; exact h.f8
theorem IF7.made {W : World} {cm cp Z3 Z256 : Array Value} {V : Nat → Option Value} {D : Nat → Bool} {vs : Nat → Value} {w w' : World} (h : IF7 W cm cp Z3 Z256 V D vs w) (hb : Below w.heap.size w w') : IF7 W cm cp Z3 Z256 V D vs w' :=
  ⟨h.vals, below2 h.low hb h.low.size, fun e => (h.b4 e).elim fun g ⟨a, b, c⟩ => ⟨g, a, b, c.more hb⟩, fun e => (h.b5 e).elim fun g ⟨a, b, c⟩ => ⟨g, a, b, c.more hb⟩, fun e => (h.b6 e).elim fun g ⟨a, b, c⟩ => ⟨g, a, b, c.more hb⟩, h.f7, h.f8⟩
theorem blk_size {w : World} {g : Nat} {c d : Array Value} (h : Blk w g c) (k : Blk w g d) : c.size = d.size := by
  rcases Nat.lt_trichotomy c.size d.size with e | e | e
  · have h1 := h.cell c.size
    rw [k.cell, Array.getElem?_eq_none (Nat.le_refl _), Array.getElem?_eq_getElem e] at h1
    cases h1
  · exact e
  · have h1 := k.cell d.size
    rw [h.cell, Array.getElem?_eq_none (Nat.le_refl _), Array.getElem?_eq_getElem e] at h1
    cases h1
theorem ite_size {b : Bool} {c d : Array Value} {n : Nat} (h1 : c.size = n) (h2 : d.size = n) : (if b = true then c else d).size = n := by cases b <;> simp [h1, h2]
theorem IF7.set8 {W : World} {cm cp Z3 Z256 : Array Value} {V : Nat → Option Value} {D : Nat → Bool} {vs : Nat → Value} {w : World} (h : IF7 W cm cp Z3 Z256 V D vs w) (hV : V 8 = none) (h6 : D 6 = true) (hm : cm.size = 256) (hz : Z256.size = 256) (hp : cp.size = 3) (hz3 : Z3.size = 3) {g : Nat} (hg : vs 6 = .pointer (some ⟨g, 0, none⟩)) :
    IF7 W cm cp Z3 Z256 V (fset D 8 true) (fset vs 8 undef) (w.setCells g 0 cp.toList) := by
  obtain ⟨g', e, hlo, B⟩ := h.b6 h6
  rw [hg] at e
  cases e
  have S := sole_setCells (S := fun k => k = g) rfl cp.toList 0 w
  have hB := ite_size (b := D 8) hp hz3
  refine ⟨h.vals.set 8 _ (fun u hu => by rw [hV] at hu; cases hu), below_cells h.low hlo 0 cp.toList, ?_, ?_, fun _ => ⟨g, ?_, hlo, ?_⟩, ?_, fun _ => ?_⟩
  · rw [fset_ne D true (show 4 ≠ 8 by omega), fset_ne vs _ (show 4 ≠ 8 by omega)]
    exact fun e4 => (h.b4 e4).elim fun g4 ⟨a, b, c⟩ => ⟨g4, a, b, c.sole S (fun e => by
      have e' : g4 = g := e
      subst e'
      have := blk_size c B
      rw [hB] at this
      cases this)⟩
  · rw [fset_ne D true (show 5 ≠ 8 by omega), fset_ne vs _ (show 5 ≠ 8 by omega), fset_ne D true (show 7 ≠ 8 by omega)]
    exact fun e5 => (h.b5 e5).elim fun g5 ⟨a, b, c⟩ => ⟨g5, a, b, c.sole S (fun e => by
      have e' : g5 = g := e
      subst e'
      have := blk_size c B
      rw [hB, ite_size hm hz] at this
      cases this)⟩
  · rw [fset_ne vs _ (show 6 ≠ 8 by omega)]; exact hg
  · rw [fset_same, if_pos rfl]; exact B.whole9 (by rw [hB, hp])
  · rw [fset_ne D true (show 7 ≠ 8 by omega), fset_ne D true (show 5 ≠ 8 by omega)]; exact h.f7
  · rw [fset_ne D true (show 6 ≠ 8 by omega)]; exact h6
set_option maxRecDepth 100000 in
theorem aeql_run {d : Array Value} {F : Nat → Int} (hd : Nums d .i64 256 F) (ρ : Operand → Value) (dst : Option Tmp) (ty : TypeId) (pos : String) (af : Array Edge) (g : Option (Nat × Bool)) (x y : Operand) (hx : ρ x = .agg d) (hy : ρ y = .agg d) (w : World) : (execOp ρ { dst := dst, op := .binOp .eql 32 x y 32, type := ty, pos := pos, after := af, guard := g }).run Try.prog w =
    .ok (.value (.bool true)) w := by
  have heq := fun w => eql_numsn Try.underlying32 hd w
  simp [execOp, hx, hy, go_sem, heq]
/-- What the loop knows: of the log; of memory. -/
structure FDat (z : Int) (s0 : RSt) (n i : Nat) (R : Int → List UInt8) (p : Plc) (fr : List Int) (sq : Nat) (s : RSt) : Prop where
  inv : RollInv 7 z R s0 p fr sq s
  c : ∃ G, Nums s.c .i64 256 G
  op : (s.L = [] ∧ s.A = [] ∧ s.k = 0 ∧ s.fb = (sq : Int)) ∨ n ≤ i ∨ 5 ≤ i
  sqb : sq ≤ 40 * i
  frb : fr.length ≤ 4
structure FMem (W wr : World) (KB : Nat → Prop) (b N c : Nat) (R : Int → List UInt8) (g10 g11 g15 : Nat) (C : Array Value) (p : Plc) (e : Pc) (fr : List Int) (fp : Option Addr) (fcap : Nat) : Prop where
  S : Sole (fun k => KB k ∨ k = g10 ∨ k = g11 ∨ k = g15) W wr
  d : ∃ m K, DiskM wr b m K ∧ (∀ k, K k → KB k) ∧ Quiet m N R ∧ Soft m c ∧ (∀ b' o, fp = some ⟨b', o, none⟩ → ¬ K b')
  b10 : Blk wr g10 C
  b11 : Blk wr g11 #[.int .i64 p.seg, .int .i64 p.off, .int .i64 p.next]
  b15 : Blk wr g15 e.cells
  row : RowOf inT wr fp fr
  fb : ∀ b' o, fp = some ⟨b', o, none⟩ → b' ≠ g10 ∧ b' ≠ g11 ∧ b' ≠ g15
  f1 : fr.length ≤ fcap
  f2 : fcap ≤ maxLen
  f4 : fp = none → fr = []
structure FG (KB : Nat → Prop) (g10 g11 g15 : Nat) : Prop where
  n10 : ¬ KB g10
  n11 : ¬ KB g11
  n15 : ¬ KB g15
  a : g10 ≠ g11
  b : g10 ≠ g15
  c : g11 ≠ g15
section
variable {W wr w' : World} {KB : Nat → Prop} {b N c : Nat} {R : Int → List UInt8} {g10 g11 g15 : Nat} {C : Array Value} {p : Plc} {e : Pc} {fr : List Int} {fp : Option Addr} {fcap : Nat}
theorem FMem.more (h : FMem W wr KB b N c R g10 g11 g15 C p e fr fp fcap) (hb : Below wr.heap.size wr w') : FMem W w' KB b N c R g10 g11 g15 C p e fr fp fcap :=
  ⟨h.S.trans (Sole.made hb), h.d.elim fun m ⟨K, a, r⟩ => ⟨m, K, a.more hb, r⟩, h.b10.more hb, h.b11.more hb, h.b15.more hb, RowOf.more h.row hb, h.fb, h.f1, h.f2, h.f4⟩
theorem FMem.turned {T : Nat → Prop} (h : FMem W wr KB b N c R g10 g11 g15 C p e fr fp fcap) (S : Sole T wr w') (hT : ∀ k, T k → k = g10 ∨ k = g11 ∨ k = g15) (hK : ∀ k, T k → ¬ KB k) {C' : Array Value} {p' : Plc} {e' : Pc} (b10 : Blk w' g10 C') (b11 : Blk w' g11 #[.int .i64 p'.seg, .int .i64 p'.off, .int .i64 p'.next]) (b15 : Blk w' g15 e'.cells) : FMem W w' KB b N c R g10 g11 g15 C' p' e' fr fp fcap :=
  ⟨h.S.trans' S (fun k _ hk => .inr (hT k hk)), h.d.elim fun m ⟨K, a, r⟩ => ⟨m, K, a.kept S (fun k hk ht => hK k ht (r.1 k hk)), r⟩, b10, b11, b15, r_rowp_sole h.row S (fun b' o e ht => by
    have := h.fb b' o e
    rcases hT b' ht with q | q | q
    · exact this.1 q
    · exact this.2.1 q
    · exact this.2.2 q), h.fb, h.f1, h.f2, h.f4⟩
/-- Entries went to the log. -/
theorem FMem.wrote {K : Nat → Prop} (G : FG KB g10 g11 g15) (h : FMem W wr KB b N c R g10 g11 g15 C p e fr fp fcap) (S : Sole K wr w') (hK : ∀ k, K k → KB k) (hW : ∀ k, wr.heap.size ≤ k → KB k) {m2 : DM} {K2 : Nat → Prop} {R2 : Int → List UInt8} {c2 : Nat} (D2 : DiskM w' b m2 K2) (hK2 : ∀ k, K2 k → K k ∨ wr.heap.size ≤ k) (Q2 : Quiet m2 N R2) (T2 : Soft m2 c2)
    {rest : List Int} {rp : Option Addr} {rc : Nat} (OR : RowOwn inT w' wr.heap.size (.slice rp rest.length rc) rest) (hvr : ∀ k, (Value.slice rp rest.length rc).ownBlock = some k → ¬ K2 k) : FMem W w' KB b N c2 R2 g10 g11 g15 C p e rest rp rc := by
  have hlt := h.b10.lt
  have hlt1 := h.b11.lt
  have hlt5 := h.b15.lt
  have hf := OR.form
  have hob : ∀ b' o, rp = some ⟨b', o, none⟩ → (Value.slice rp rest.length rc).ownBlock = some b' ∧ wr.heap.size ≤ b' := fun b' o e => by
    rcases hf with ⟨h1, _⟩ | ⟨g, cap, h1, h2, _⟩
    · obtain ⟨rfl, _, _⟩ := Value.slice.inj h1
      cases e
    · obtain ⟨rfl, _, _⟩ := Value.slice.inj h1
      cases e
      exact ⟨rfl, h2⟩
  obtain ⟨q, cap, hq, f1, f2, RO⟩ := RowOwn.open inOk OR
  obtain ⟨rfl, _, rfl⟩ := Value.slice.inj hq
  refine ⟨h.S.trans' S (fun k _ hk => .inl (hK k hk)), ⟨m2, K2, D2, fun k hk => (hK2 k hk).elim (hK k) (hW k), Q2, T2, fun b' o e hk => hvr b' (hob b' o e).1 hk⟩, h.b10.sole S (fun hk => G.n10 (hK _ hk)), h.b11.sole S (fun hk => G.n11 (hK _ hk)), h.b15.sole S (fun hk => G.n15 (hK _ hk)), RO, fun b' o e => by have := (hob b' o e).2; refine ⟨?_, ?_, ?_⟩ <;> omega, f1, f2, fun e => ?_⟩
  rcases hf with ⟨_, h2⟩ | ⟨g, cap, h1, _⟩
  · exact h2
  · obtain ⟨h3, _, _⟩ := Value.slice.inj h1
    rw [e] at h3; cases h3
end
theorem resA_nums {c : Array Value} {F : Nat → Int} (hc : Nums c .i64 256 F) (f : Nat → En) (g : Nat → Int) (m n : Nat) : ∃ G, Nums (resA c f g m n) .i64 256 G := by
  unfold resA
  split
  · exact cellA_nums hc f g n
  · exact ⟨F, hc⟩
/-- The next list is in the log. -/
theorem FDat.next {Lo : Int → Array Value → Prop} {z : Int} {s0 : RSt} {n i : Nat} {R R2 : Int → List UInt8} {p q : Plc} {fr rest : List Int} {sq : Nat} {s t : RSt} {E : List En} {la : Bool} {ps : List PtD} {A : List Int} (h : FDat z s0 n i R p fr sq s) (hi : i < n) (hi5 : i < 5) (hp : planP z p fr E = some (ps, q, rest)) (hm : ps.length ≤ 40) (hla : la = true ∨ n ≤ i + 1 ∨ 5 ≤ i + 1)
    (W : WrAt Lo 7 z s0 s E la ps q rest sq ps.length R2 A q rest [] E t) :
    FDat z s0 n (i + 1) R2 q rest (sq + ps.length) t ∧ (la = true → E ≠ [] → t.c = resA s.c (penAt E) (inAt A) A.length E.length ∧ t.fp = q.pc ∧ t.fb = ((sq + ps.length : Nat) : Int)) ∧ ((la = false ∨ E = []) → t.c = s.c ∧ t.fp = s.fp ∧ t.fb = s.fb) := by
  obtain ⟨o1, o2, o3, o4⟩ := h.op.resolve_right (by omega)
  have hpl : E ≠ [] → 0 < ps.length := fun hE => planP_cons hp hE
  have hA0 : E = [] → ps.length = 0 := fun hE => by rw [hE] at hp; rw [(planP_nil hp).1]; rfl
  have hfin := fun (h1 : la = true) (hE : E ≠ []) => W.st.fin h1 rfl (hpl hE)
  have hmid := fun (h1 : la = false ∨ E = []) => W.st.mid (fun hn => by
    rcases h1 with h1 | h1
    · rw [h1] at hn; cases hn.1
    · have := hA0 h1; omega)
  have hrest : rest.length ≤ fr.length := planK_rest _ _ _ _ _ _ _ hp
  refine ⟨⟨W.inv, ?_, ?_, by have := h.sqb; omega, by have := h.frb; omega⟩, fun h1 hE => ?_, fun h1 => ?_⟩
  · obtain ⟨G, hG⟩ := h.c
    by_cases hE : E = []
    · rw [(hmid (.inr hE)).2.2.2.1]; exact ⟨G, hG⟩
    · cases hl : la with
      | false => rw [(hmid (.inl hl)).2.2.2.1]; exact ⟨G, hG⟩
      | true => rw [(hfin hl hE).2.2.2.1]; exact resA_nums hG _ _ _ _
  · rcases hla with hl | hl
    · left
      by_cases hE : E = []
      · obtain ⟨a1, a2, a3, _, _, a6⟩ := hmid (.inr hE)
        have h0 := hA0 hE
        have hal := W.alen
        rw [hE] at hal a1
        have : A = [] := List.eq_nil_of_length_eq_zero (by rw [hal]; rfl)
        refine ⟨a1, a2.trans this, by rw [a3, h0]; rfl, by rw [a6, o4, h0]; rfl⟩
      · obtain ⟨a1, a2, a3, _, _, a6⟩ := hfin hl hE
        exact ⟨a1, a2, a3, by rw [a6, o4]; omega⟩
    · exact .inr hl
  · obtain ⟨_, _, _, a4, a5, a6⟩ := hfin h1 hE
    exact ⟨a4, a5, by rw [a6, o4]; omega⟩
  · obtain ⟨_, _, _, a4, a5, a6⟩ := hmid h1
    exact ⟨a4, a5, a6⟩
end Go.Proofs.Ytcklmemnjchdcaa
