/-
  Layer 18: parts are within their segments, and no two have a sector in common.
-/
import Derived.Test.YtibjccfillhfpaaPlanGot
import Derived.Test.YtibjccfillhfpaaPlanRoomMath
import Derived.Deep.RegionWith
import Derived.Deep.DeepCutAuto
namespace Go.Proofs.Ytibjccfillhfpaa
open Go.RowKit
set_option linter.unusedVariables false
set_option linter.unusedSimpArgs false

theorem planK_cons {z : Int} {K : Nat} {p : Plc} {fr : List Int} {l : List En} {d : PtD} {D : List PtD} {r : Plc × List Int} (h : planK z K p fr l = some (d :: D, r)) :
    ∃ K' q f, K = K' + 1 ∧ l ≠ [] ∧ stepP z p fr = some (q, f) ∧ d = partP z q l ∧ planK z K' (behindP z q l) f (l.drop (fit l (z - q.off - 1))) = some (D, r) := by
  cases K with
  | zero => simp [planK] at h
  | succ K =>
    by_cases hl : l = []
    · subst hl; rw [planK_nil] at h; simp at h
    · cases hst : stepP z p fr with
      | none => simp [planK, hl, hst] at h
      | some qf =>
        obtain ⟨q, f⟩ := qf
        rw [planK_step hl hst] at h
        cases hq : planK z K (behindP z q l) f (l.drop (fit l (z - q.off - 1))) with
        | none => rw [hq] at h; simp at h
        | some r' =>
          rw [hq] at h
          obtain ⟨r1, r2⟩ := r'
          simp only [Option.map_some, Option.some.injEq, Prod.mk.injEq, List.cons.injEq] at h
          exact ⟨K, q, f, rfl, hl, rfl, h.1.1.symm, by rw [hq, h.1.2, h.2]⟩
theorem planK_done {z : Int} {K : Nat} {p : Plc} {fr : List Int} {l : List En} {r : Plc × List Int} (h : planK z K p fr l = some ([], r)) (hK : l.length ≤ K) : l = [] ∧ r = (p, fr) := by
  cases K with
  | zero =>
    have : l = [] := List.eq_nil_of_length_eq_zero (by omega)
    subst this
    simp [planK] at h
    exact ⟨rfl, h.symm⟩
  | succ K =>
    by_cases hl : l = []
    · subst hl
      rw [planK_nil] at h
      simp at h
      exact ⟨rfl, h.symm⟩
    · cases hst : stepP z p fr with
      | none => simp [planK, hl, hst] at h
      | some qf =>
        obtain ⟨q, f⟩ := qf
        rw [planK_step hl hst] at h
        cases hq : planK z K (behindP z q l) f (l.drop (fit l (z - q.off - 1))) with
        | none => rw [hq] at h; simp at h
        | some r' => rw [hq] at h; simp at h

/-- Which sectors are behind: none of what is to come. -/
structure PastP (z : Int) (p : Plc) (fr : List Int) (u : Nat → Bool) : Prop where
  sn : p.seg ≠ p.next
  sf : p.seg ∉ fr
  xf : p.next ∉ fr
  nd : fr.Nodup
  used : ∀ t : Nat, u t = true → ∃ (c : Int) (j : Int), (t : Int) = c * z + j ∧ 0 ≤ j ∧ j < z ∧ c ≠ p.next ∧ c ∉ fr ∧ (c = p.seg → j < p.off)
theorem PastP.step {z : Int} {p q : Plc} {fr f : List Int} {u : Nat → Bool} (P : PastP z p fr u) (h : stepP z p fr = some (q, f)) : PastP z q f u := by
  unfold stepP at h
  split at h
  · cases fr with
    | nil => simp at h
    | cons x xs =>
      simp at h
      obtain ⟨rfl, rfl⟩ := h
      have hx := P.xf
      have hn := List.nodup_cons.1 P.nd
      simp only [List.mem_cons, not_or] at hx
      refine ⟨hx.1, hx.2, hn.1, hn.2, fun t ht => ?_⟩
      obtain ⟨c, j, h1, h2, h3, h4, h5, h6⟩ := P.used t ht
      simp only [List.mem_cons, not_or] at h5
      exact ⟨c, j, h1, h2, h3, h5.1, h5.2, fun e => absurd e h4⟩
  · simp at h
    obtain ⟨rfl, rfl⟩ := h
    exact P
theorem same_sector {z c c' j j' : Int} (hz : 0 < z) (h : c * z + j = c' * z + j') (h1 : 0 ≤ j) (h2 : j < z) (h3 : 0 ≤ j') (h4 : j' < z) : c = c' ∧ j = j' := by
  have e1 : (c * z + j) / z = c := by rw [Int.add_comm, Int.add_mul_ediv_right _ _ (by omega), Int.ediv_eq_zero_of_lt h1 h2]; omega
  have e2 : (c' * z + j') / z = c' := by rw [Int.add_comm, Int.add_mul_ediv_right _ _ (by omega), Int.ediv_eq_zero_of_lt h3 h4]; omega
  have : c = c' := by rw [← e1, ← e2, h]
  subst this
  exact ⟨rfl, by omega⟩
/-- What is to come is not yet used. -/
theorem PastP.free {z : Int} {q : Plc} {f : List Int} {u : Nat → Bool} (P : PastP z q f u) (hz : 0 < z) (t : Nat) (j : Int) (ht : (t : Int) = q.seg * z + j) (h1 : q.off ≤ j) (h2 : j < z) (h0 : 0 ≤ q.off) : u t = false := by
  cases hu : u t with
  | false => rfl
  | true =>
    obtain ⟨c, j', e, a1, a2, a3, a4, a5⟩ := P.used t hu
    obtain ⟨rfl, rfl⟩ := same_sector hz (e.symm.trans ht) a1 a2 (by omega) h2
    have := a5 rfl
    omega
/-- One more sector. -/
theorem PastP.take {z : Int} {q : Plc} {f : List Int} {u : Nat → Bool} (P : PastP z q f u) (t : Nat) (ht : (t : Int) = q.seg * z + q.off) (h1 : 0 ≤ q.off) (h2 : q.off < z) : PastP z ⟨q.seg, q.off + 1, q.next⟩ f (fun k => if k = t then true else u k) := by
  refine ⟨P.sn, P.sf, P.xf, P.nd, fun k hk => ?_⟩
  by_cases e : k = t
  · subst e
    exact ⟨q.seg, q.off, ht, h1, h2, P.sn, P.sf, fun _ => by simp only; omega⟩
  · rw [if_neg e] at hk
    obtain ⟨c, j, a1, a2, a3, a4, a5, a6⟩ := P.used k hk
    exact ⟨c, j, a1, a2, a3, a4, a5, fun h => by have := a6 h; simp only; omega⟩

/-- What is handed back, where the log can go on. -/
def GotA (z : Int) (p : Plc) (F : List Int) (L : List En) (B : Nat) (w' : World) (pv : Option Addr) (nv cv : Nat) (qs qo qx : Int) (nf : Nat) (code : Int) : Prop :=
  (code ≠ 0 ∧ nv = 0) ∨ (code = 0 ∧ ∃ V f, planP z p F L = some (V.map PtV.data, ⟨qs, qo, qx⟩, f) ∧ nv = V.length ∧ nf = f.length ∧ PartsOwn w' B (.slice pv nv cv) V)
theorem PartsPost.gotA {n z : Int} {p : Plc} {F : List Int} {L : List En} {w w' : World} {e : Ending} (h : PartsPost n z p F L w e w') (hp : placedB n z p F = true) :
    ∃ pv nv cv qs qo qx pf nf cf code, e = .returned (.tuple #[.slice pv nv cv, plv qs qo qx, .slice pf nf cf, .int .i64 code]) ∧ Below w.heap.size w w' ∧ GotA z p F L w.heap.size w' pv nv cv qs qo qx nf code := by
  obtain ⟨hb, ⟨h1, rfl⟩ | ⟨h1, h2, rfl⟩ | ⟨h1, h2, h3, rfl⟩ | ⟨h1, h2, V, q, f, v, vf, h3, rfl, hV, hf⟩⟩ := h
  · rw [hp] at h1; cases h1
  · exact ⟨none, 0, 0, 0, 0, 0, none, 0, 0, 12, rfl, hb, .inl ⟨by omega, rfl⟩⟩
  · exact ⟨none, 0, 0, 0, 0, 0, none, 0, 0, 10, rfl, hb, .inl ⟨by omega, rfl⟩⟩
  · obtain ⟨pv, cv, rfl, c1, c2, RV⟩ := hV.row.open ptOk
    obtain ⟨pf, cf, rfl, d1, d2, RF⟩ := hf.open inOk
    exact ⟨pv, V.length, cv, q.seg, q.off, q.next, pf, f.length, cf, 0, rfl, hb, .inr ⟨rfl, V, f, h3, rfl, rfl, hV⟩⟩

/-- A row of Bools. -/
structure BoolsOf (c : Array Value) (n : Nat) (u : Nat → Bool) : Prop where
  size : c.size = n
  get : ∀ t, t < n → c[t]? = some (.bool (u t))
theorem BoolsOf.set {c : Array Value} {n : Nat} {u : Nat → Bool} (h : BoolsOf c n u) {t : Nat} (ht : t < n) : BoolsOf (c.setIfInBounds t (.bool true)) n (fun k => if k = t then true else u k) :=
  ⟨by simp [h.size], fun k hk => by
    by_cases e : k = t
    · subst e
      have hs : k < c.size := by rw [h.size]; exact hk
      simp [hs]
    · simp only [if_neg e]; rw [Array.getElem?_setIfInBounds_ne (fun h => e h.symm)]; exact h.get k hk⟩
theorem bools_made (c : Array Value) (n : Nat) (h : c.toList = (madeCells #[.bool false] n).toList) : BoolsOf c n (fun _ => false) := by
  rw [toList_madeCells_one] at h
  refine ⟨by have := congrArg List.length h; simpa using this, fun t ht => ?_⟩
  rw [← Array.getElem?_toList, h]
  simp [ht]

theorem placed12 {z o : Int} (h1 : 4 ≤ z) (h2 : z ≤ 11) (h3 : 0 ≤ o) (h4 : o ≤ z) : placedB 12 z ⟨3, o, 7⟩ [0, 1, 2, 4, 5, 6, 8, 9, 10, 11] = true := by
  have e1 : okB 12 z = true := by simp [okB]; omega
  simp [placedB, segB, e1, h3, h4]

set_option maxRecDepth 100000 in
set_option maxHeartbeats 16000000 in
theorem planApart (a b : Int) (lp : Option Addr) (lcap : Nat) (L0 : List En) (a0 : 0 ≤ a) (a1 : a ≤ 255) (b0 : 0 ≤ b) (b1 : b ≤ 255) (l1 : L0.length ≤ lcap) (l2 : lcap ≤ maxLen) (w : World) (RL0 : RowOf enT w lp L0) :
    Calls Try.prog 5 #[.int .u8 a, .int .u8 b, .slice lp L0.length lcap] w fun e w' => e = .returned (.bool true) ∧ Below w.heap.size w w' := by
  have RLh := hid RL0
  obtain ⟨z, hz⟩ : ∃ z, 4 + a % 8 = z := ⟨_, rfl⟩
  have hz4 : 4 ≤ z ∧ z ≤ 11 := by omega
  have ht8 : a.tmod 8 = z - 4 := by rw [Int.tmod_eq_emod_of_nonneg a0]; omega
  have hm8 : a % 8 = z - 4 := by omega
  have hwz : IntKind.i64.wrap (4 + (z - 4)) = z := by rw [show 4 + (z - 4) = z by omega]; exact IntWalk.i64_in _ ⟨by omega, by omega⟩
  have hwz0 : IntKind.i64.wrap (z - 4) = z - 4 := IntWalk.i64_in _ ⟨by omega, by omega⟩
  have hwa : IntKind.i64.wrap a = a := IntWalk.i64_in _ ⟨by omega, by omega⟩
  have hwb : IntKind.i64.wrap b = b := IntWalk.i64_in _ ⟨by omega, by omega⟩
  have hz44 : (4 + (z - 4)) = z := by omega
  have hl63 : (L0.length : Int) ≤ 9223372036854775807 := by unfold maxLen at l2; omega
  have hlc : (L0.length : Int) ≤ (lcap : Int) := by omega
  replace hz := hid hz
  clear RL0
  go_enter Try.func5, Try.ntmps5
  go_wp2_with fail
  refine (alive18 _).mono ?_
  rintro e w1 ⟨rfl, hb1⟩
  have D1 := hid hb1
  clear hb1
  go_upto_if 29 with (fail)
  obtain ⟨W1, hW1⟩ : ∃ W1, w1.alloc (.cells #[.int .i64 12, .int .i64 z] 23) = W1 := ⟨_, rfl⟩
  have B1 : Hid (Blk W1 w1.heap.size #[.int .i64 12, .int .i64 z]) := hid (hW1 ▸ Blk.new w1 _ _)
  have D2 : Hid (Below w.heap.size w W1) := hid (hW1 ▸ D1.out.alloc D1.out.size _)
  replace hW1 := hid hW1
  rw [hW1.out]
  generalize hgb : w1.heap.size = gb at *
  go_cut [2] (fun s2 wx => ∃ L : List En, s2 = .slice lp L.length lcap ∧ L.length ≤ 60 ∧ L.length ≤ lcap ∧ RowOf enT w lp L ∧ wx = W1)
  case first =>
    by_cases g : 60 < (L0.length : Int)
    · have gc : (60 : Int) ≤ (lcap : Int) := by omega
      have ht : (L0.take 60).length = 60 := by rw [List.length_take]; omega
      have hT := hid (RowOf.take RLh.out 60 (by omega))
      replace ht := hid ht
      go_wp2_with fail
      go_meet
      case rel => exact ⟨L0.take 60, by rw [ht.out], by have := ht.out; omega, by have := ht.out; omega, hT.out, rfl⟩
    · go_wp2_with fail
      go_meet
      case rel => exact ⟨L0, rfl, by omega, l1, RLh.out, rfl⟩
  case rest =>
    obtain ⟨L, rfl, hL2, hLc, RL, rfl⟩ := hcut
    have RLL := hid RL
    obtain ⟨off, hoff⟩ : ∃ off, b % z = off := ⟨_, rfl⟩
    have ho0 : 0 ≤ off := by rw [← hoff]; exact Int.emod_nonneg _ (by omega)
    have hoz : off < z := by rw [← hoff]; exact Int.emod_lt_of_pos _ (by omega)
    have hbt : b.tmod z = off := by rw [Int.tmod_eq_emod_of_nonneg b0]; exact hoff
    have hz0 : (z == 0) = false := by simp; omega
    have hz0' : ¬ z = 0 := by omega
    have hwo : IntKind.i64.wrap off = off := IntWalk.i64_in _ ⟨by omega, by omega⟩
    have KP : Hid (∀ (W : World) (rb : Nat), Below w.heap.size w W → Blk W rb #[.int .i64 0, .int .i64 1, .int .i64 2, .int .i64 4, .int .i64 5, .int .i64 6, .int .i64 8, .int .i64 9, .int .i64 10, .int .i64 11] → Calls Try.prog 8 #[geo 12 z, plv 3 off 7, .slice (some ⟨rb, 0, none⟩) 10 10, .slice lp L.length lcap] W fun e w' => ∃ pv nv cv qs qo qx pf nf cf code, e = .returned (.tuple #[.slice pv nv cv, plv qs qo qx, .slice pf nf cf, .int .i64 code]) ∧ Below W.heap.size W w' ∧ GotA z ⟨3, off, 7⟩ [0, 1, 2, 4, 5, 6, 8, 9, 10, 11] L W.heap.size w' pv nv cv qs qo qx nf code) := hid (fun W rb hb B =>
      (parts_any 12 z 3 off 7 (some ⟨rb, 0, none⟩) 10 [0, 1, 2, 4, 5, 6, 8, 9, 10, 11] lp lcap L (by simp) (by unfold maxLen; omega) (by simp) (fun e => by cases e) hLc l2 (by omega) W (rowOf_blk inOk B rfl) (RowOf.more RLL.out hb)).mono fun e w' h => h.gotA (placed12 hz4.1 hz4.2 ho0 (by omega)))
    have hlg : gb < wc.heap.size := B1.out.lt
    have hne0 : ¬ wc.heap.size = gb := by omega
    have hne0' : ¬ gb = wc.heap.size := by omega
    have hne1 : ¬ wc.heap.size + 1 = gb := by omega
    have hne1' : ¬ gb = wc.heap.size + 1 := by omega
    have belA := ((D2.out.alloc D2.out.size (.cells #[.int .i64 0, .int .i64 0, .int .i64 0] 25)).alloc (by simp; have := D2.out.size; omega) (.cells #[.int .i64 0, .int .i64 1, .int .i64 2, .int .i64 4, .int .i64 5, .int .i64 6, .int .i64 8, .int .i64 9, .int .i64 10, .int .i64 11] 3)).drew
    have belB := ((D2.out.alloc D2.out.size (.cells #[.int .i64 0, .int .i64 1, .int .i64 2, .int .i64 4, .int .i64 5, .int .i64 6, .int .i64 8, .int .i64 9, .int .i64 10, .int .i64 11] 3)).alloc (by simp; have := D2.out.size; omega) (.cells #[.int .i64 0, .int .i64 0, .int .i64 0] 25)).drew
    have belC := (D2.out.alloc D2.out.size (.cells #[.int .i64 0, .int .i64 1, .int .i64 2, .int .i64 4, .int .i64 5, .int .i64 6, .int .i64 8, .int .i64 9, .int .i64 10, .int .i64 11] 3)).drew
    have bRA := (Blk.new (wc.alloc (.cells #[.int .i64 0, .int .i64 0, .int .i64 0] 25)) #[.int .i64 0, .int .i64 1, .int .i64 2, .int .i64 4, .int .i64 5, .int .i64 6, .int .i64 8, .int .i64 9, .int .i64 10, .int .i64 11] 3).drew
    have bZA := ((Blk.new wc #[.int .i64 0, .int .i64 0, .int .i64 0] 25).alloc (.cells #[.int .i64 0, .int .i64 1, .int .i64 2, .int .i64 4, .int .i64 5, .int .i64 6, .int .i64 8, .int .i64 9, .int .i64 10, .int .i64 11] 3)).drew
    have bRB := ((Blk.new wc #[.int .i64 0, .int .i64 1, .int .i64 2, .int .i64 4, .int .i64 5, .int .i64 6, .int .i64 8, .int .i64 9, .int .i64 10, .int .i64 11] 3).alloc (.cells #[.int .i64 0, .int .i64 0, .int .i64 0] 25)).drew
    have bZB := (Blk.new (wc.alloc (.cells #[.int .i64 0, .int .i64 1, .int .i64 2, .int .i64 4, .int .i64 5, .int .i64 6, .int .i64 8, .int .i64 9, .int .i64 10, .int .i64 11] 3)) #[.int .i64 0, .int .i64 0, .int .i64 0] 25).drew
    have bRC := (Blk.new wc #[.int .i64 0, .int .i64 1, .int .i64 2, .int .i64 4, .int .i64 5, .int .i64 6, .int .i64 8, .int .i64 9, .int .i64 10, .int .i64 11] 3).drew
    rw [World.size_alloc] at bRA bZB
    have KPA := hid (KP.out _ _ belA bRA)
    have KPB := hid (KP.out _ _ belB bRB)
    have KPC := hid (KP.out _ _ belC bRC)
    have hcA : Hid (∀ w' : World, Below (wc.heap.size + 1 + 1) ((wc.alloc (.cells #[.int .i64 0, .int .i64 0, .int .i64 0] 25)).alloc (.cells #[.int .i64 0, .int .i64 1, .int .i64 2, .int .i64 4, .int .i64 5, .int .i64 6, .int .i64 8, .int .i64 9, .int .i64 10, .int .i64 11] 3)).drew w' → Below wc.heap.size wc w') := hid (fun w' h => (((Below.refl wc.heap.size wc).alloc (Nat.le_refl _) _).alloc (by simp) _).drew.trans (h.mono (by omega)))
    have hcB : Hid (∀ w' : World, Below (wc.heap.size + 1 + 1) ((wc.alloc (.cells #[.int .i64 0, .int .i64 1, .int .i64 2, .int .i64 4, .int .i64 5, .int .i64 6, .int .i64 8, .int .i64 9, .int .i64 10, .int .i64 11] 3)).alloc (.cells #[.int .i64 0, .int .i64 0, .int .i64 0] 25)).drew w' → Below wc.heap.size wc w') := hid (fun w' h => (((Below.refl wc.heap.size wc).alloc (Nat.le_refl _) _).alloc (by simp) _).drew.trans (h.mono (by omega)))
    have hcC : Hid (∀ w' : World, Below (wc.heap.size + 1) (wc.alloc (.cells #[.int .i64 0, .int .i64 1, .int .i64 2, .int .i64 4, .int .i64 5, .int .i64 6, .int .i64 8, .int .i64 9, .int .i64 10, .int .i64 11] 3)).drew w' → Below wc.heap.size wc w') := hid (fun w' h => ((Below.refl wc.heap.size wc).alloc (Nat.le_refl _) _).drew.trans (h.mono (by omega)))
    obtain ⟨l0', k0, g0⟩ := B1.out
    have c12 : wc.cell? ⟨gb, 0, none⟩ = some (.int .i64 12) := k0 0
    have cz : wc.cell? ⟨gb, 1, none⟩ = some (.int .i64 z) := k0 1
    clear belA belB belC bRA bRB bRC KP hoff RL ht8 hm8 hwz hwz0 hwa hz44 hl63 hlc
    go_wp2_with fail
    go_cut [8, 9, 10, 11] (fun s8 s9 s10 s11 wx => ∃ pv nv cv qs qo qx pf nf cf code bq, s8 = .slice pv nv cv ∧ s9 = .pointer (some ⟨bq, 0, none⟩) ∧ s10 = .slice pf nf cf ∧ s11 = .int .i64 code ∧ wc.heap.size ≤ bq ∧ Blk wx bq #[.int .i64 qs, .int .i64 qo, .int .i64 qx] ∧ GotA z ⟨3, off, 7⟩ [0, 1, 2, 4, 5, 6, 8, 9, 10, 11] L wc.heap.size wx pv nv cv qs qo qx nf code ∧ Below wc.heap.size wc wx)
    case first =>
      go_region_held3 (fun w' => w'.cell? ⟨gb, 0, none⟩ = some (.int .i64 12) ∧ w'.cell? ⟨gb, 1, none⟩ = some (.int .i64 z))
        (first
          | go_keep
          | (go_split_ands; exact ⟨(hbW.cell (p := ⟨gb, 0, none⟩) hlg).trans c12, (hbW.cell (p := ⟨gb, 1, none⟩) hlg).trans cz⟩)
          | (go_split_ands; exact ⟨((hbW.alloc hbW.size _).cell (p := ⟨gb, 0, none⟩) hlg).trans c12, ((hbW.alloc hbW.size _).cell (p := ⟨gb, 1, none⟩) hlg).trans cz⟩)
          | fail)
        (first
          | ((with_reducible refine KPA.out.mono ?_); rintro e w5 ⟨pv, nv, cv, qs, qo, qx, pf, nf, cf, code, rfl, hb5, hgot⟩; have hbW := hcA.out w5 (by simpa using hb5); have bZ5 := bZA.more hb5; obtain ⟨m5, k5, g5⟩ := bZ5)
          | ((with_reducible refine KPB.out.mono ?_); rintro e w5 ⟨pv, nv, cv, qs, qo, qx, pf, nf, cf, code, rfl, hb5, hgot⟩; have hbW := hcB.out w5 (by simpa using hb5); have bZ5 := bZB.more hb5; obtain ⟨m5, k5, g5⟩ := bZ5)
          | ((with_reducible refine KPC.out.mono ?_); rintro e w5 ⟨pv, nv, cv, qs, qo, qx, pf, nf, cf, code, rfl, hb5, hgot⟩; have hbW := hcC.out w5 (by simpa using hb5))
          | fail)
      · go_wp2_with fail
        go_meet
        case rel =>
          refine ⟨pv, nv, cv, qs, qo, qx, pf, nf, cf, code, _, rfl, rfl, rfl, rfl, hbW.size, Blk.new w5 _ _, ?_, hbW.alloc hbW.size _⟩
          rcases hgot with h | ⟨h1, V, f, h2, h3, h4, h5⟩
          · exact .inl h
          · exact .inr ⟨h1, V, f, h2, h3, h4, (h5.more ((Below.refl _ _).alloc (Nat.le_refl _) _)).mono (by simp)⟩
      · go_wp2_with fail
        have BF := Blk.fill [.int .i64 qs, .int .i64 qo, .int .i64 qx] 0 (bZB.more hb5) (by simp)
        have SF := sole_setAll (b := wc.heap.size + 1) [.int .i64 qs, .int .i64 qo, .int .i64 qx] 0 w5
        have DF := below_fill (b := wc.heap.size + 1) (by omega) [.int .i64 qs, .int .i64 qo, .int .i64 qx] 0 hbW
        go_meet
        case rel =>
          refine ⟨pv, nv, cv, qs, qo, qx, pf, nf, cf, code, _, rfl, rfl, rfl, rfl, by omega, BF, ?_, DF⟩
          rcases hgot with h | ⟨h1, V, f, h2, h3, h4, h5⟩
          · exact .inl h
          · exact .inr ⟨h1, V, f, h2, h3, h4, (h5.sole SF (fun k hk e => by simp at hk; omega)).mono (by simp; omega)⟩
      · go_wp2_with fail
        have BF := Blk.fill [.int .i64 qs, .int .i64 qo, .int .i64 qx] 0 (bZA.more hb5) (by simp)
        have SF := sole_setAll (b := wc.heap.size) [.int .i64 qs, .int .i64 qo, .int .i64 qx] 0 w5
        have DF := below_fill (b := wc.heap.size) (by omega) [.int .i64 qs, .int .i64 qo, .int .i64 qx] 0 hbW
        go_meet
        case rel =>
          refine ⟨pv, nv, cv, qs, qo, qx, pf, nf, cf, code, _, rfl, rfl, rfl, rfl, by omega, BF, ?_, DF⟩
          rcases hgot with h | ⟨h1, V, f, h2, h3, h4, h5⟩
          · exact .inl h
          · exact .inr ⟨h1, V, f, h2, h3, h4, (h5.sole SF (fun k hk e => by simp at hk; omega)).mono (by simp; omega)⟩
    case rest =>
      obtain ⟨pv, nv, cv, qs, qo, qx, pf, nf, cf, code, bq, rfl, rfl, rfl, rfl, hbq, BQ, hgot, DX⟩ := hcut
      have Dw := below2 D2.out DX D2.out.size
      have Dwh := hid Dw
      have G1 := hid (B1.out.more DX)
      have BQh := hid BQ
      have hlb := hid hbq
      clear k0 g0 l0' c12 cz KPA KPB KPC hcA hcB hcC bZA bZB hne0 hne0' hne1 hne1'
      rcases hgot with ⟨hc, rfl⟩ | ⟨rfl, V, f, hpl, rfl, rfl, hV⟩
      · have hc1 : (code != 0) = true := by simp; omega
        clear hc
        go_wp2_with fail
        go_ret
        exact ⟨rfl, Dwh.out⟩
      · obtain ⟨ib, hib, hzb0, hzb1, hzb2⟩ := info_parts (show (Try.prog.info? 4).map (fun i => (i.zero, i.size, i.bytes)) = some (some (.bool false), 1, 1) by kernel_rfl)
        obtain ⟨zn, rfl⟩ : ∃ zn : Nat, z = (zn : Int) := ⟨z.toNat, by omega⟩
        obtain ⟨tn, htn⟩ : ∃ tn : Nat, 12 * (zn : Int) = (tn : Int) := ⟨12 * zn, by omega⟩
        have htn2 : tn = 12 * zn := by omega
        have htnb : tn ≤ 132 := by omega
        have hw12 : IntKind.i64.wrap (tn : Int) = (tn : Int) := IntWalk.i64_in _ ⟨by omega, by omega⟩
        have hVh := hid hV
        have hplh := hid hpl
        obtain ⟨l1', k1, g1⟩ := G1.out
        have htn2h := hid htn2
        clear hV hpl htn2
        go_wp2_with (at_make; refine wpList_make_full _ rfl _ _ 44 rfl w.heap.size 4 ib (.bool false) 1 Try.underlying44 hib hzb0 hzb1 _ _ _ _ tn rfl rfl rfl rfl (by rw [hzb2]; omega) (by unfold maxLen; omega) Dwh.out.size ?_)
        intro w4 hown4 hgrow4
        obtain ⟨c0, BC, hc0⟩ := own_full hown4
        have hcb : Hid (BoolsOf c0 tn (fun _ => false)) := hid (bools_made c0 tn (by rw [hc0]))
        have S4 : Sole (fun _ => False) wc w4 := Sole.grown hgrow4 (fun q hq => by simp at hq)
        have D4 := hid (Dwh.out.trans (S4.below Dwh.out.size (fun q hq => hq.elim)))
        have H1 := hid (G1.out.sole S4 (fun x => x))
        have HQ := hid (BQh.out.sole S4 (fun x => x))
        have HV := hid (hVh.out.sole S4 (fun k hk x => x))
        have BCh := hid BC
        have hgl : Hid (gb < wc.heap.size ∧ bq < wc.heap.size) := hid ⟨G1.out.lt, BQh.out.lt⟩
        have hVlt : Hid (∀ y ∈ V, ∀ k, y.v.ownBlock = some k → k < wc.heap.size) := hid (fun y hy k hk => ((hVh.out.es y hy).within k hk).2)
        have hVlt2 : Hid (∀ k, (Value.slice pv V.length cv).ownBlock = some k → k < wc.heap.size) := hid (fun k hk => (hVh.out.row.within k hk).2)
        have hubw := hid (show w.heap.size ≤ wc.heap.size from Dwh.out.size)
        obtain ⟨ub, hub⟩ : ∃ ub, wc.heap.size = ub := ⟨_, rfl⟩
        rw [hub] at BCh hgl hVlt hVlt2 hubw ⊢
        have hG0 := hid (goodP_of (placed12 hz4.1 hz4.2 ho0 (by omega)))
        have hP0 : Hid (PastP (zn : Int) ⟨3, off, 7⟩ [0, 1, 2, 4, 5, 6, 8, 9, 10, 11] (fun _ => false)) := hid ⟨by simp, by simp, by simp, by decide, fun t h => by cases h⟩
        have hVc := hid (hVh.out.row.form)
        have hzn : 4 ≤ zn ∧ zn ≤ 11 := by omega
        clear hown4 hgrow4 BC hc0 S4 G1 BQh hVh hub hib hzb0 hzb1 hzb2 l1' k1 g1 hw12 Dw Dwh BQ DX hbq hlb hbt hz0 hz0' hwo hz4 ho0 hoz
        go_wp2_with fail
        go_loopw [13, 14] (fun s13 s14 wr => ∃ (K nn i : Nat) (p : Plc) (fr : List Int) (l : List En) (c : Array Value) (u : Nat → Bool), i ≤ V.length ∧ s14 = .int .i64 (i : Int) ∧ s13 = .int .i64 (nn : Int) ∧ nn + l.length = L.length ∧ GoodP 12 (zn : Int) p fr ∧ PastP (zn : Int) p fr u ∧ fr.length ≤ 10 ∧ (l.length ≤ K ∧ planK (zn : Int) K p fr l = some ((V.drop i).map PtV.data, ⟨qs, qo, qx⟩, f)) ∧ Blk wr ub c ∧ BoolsOf c tn u ∧ Sole (fun j => j = ub) w4 wr) (fun _ s14 _ => V.length - (intOf s14).toNat)
        case atStart => exact ⟨L.length, 0, 0, ⟨3, off, 7⟩, _, L, c0, _, by omega, rfl, rfl, by omega, hG0.out, hP0.out, by simp, ⟨Nat.le_refl _, by rw [List.drop_zero]; exact hplh.out⟩, BCh.out, hcb.out, Sole.refl _ _⟩
        case round =>
          obtain ⟨K, nn, i, p, fr, l, c, u, hi, rfl, rfl, hnl, HG, HP, hf10, HK, BB, HC, SS⟩ := hrel
          have HGh := hid HG
          have HPh := hid HP
          have HKh := hid HK
          have HCh := hid HC
          have SSh := hid SS
          have BBh := hid BB
          have J1 := H1.out.sole SS (by have := hgl.out; omega)
          have JQ := H1.out
          have DD := hid (D4.out.trans (SS.below (B := w.heap.size) (by have := D4.out.size; omega) (fun j e => by have h1 := hubw.out; omega)))
          by_cases hlt : i < V.length
          · have hcons := drop_at ptT V i hlt
            have hyV := atR_mem (T := ptT) V i hlt
            have hk := HK.2
            rw [hcons, List.map_cons] at hk
            obtain ⟨y, hy⟩ : ∃ y, atR ptT V i = y := ⟨_, rfl⟩
            rw [hy] at hk hyV
            obtain ⟨K', ⟨ps, po, px⟩, f', rfl, hl0, hst, hyd, hrest⟩ := planK_cons hk
            have hGs := HG.step hst
            have hPs := HP.step hst
            have hpo2 := hGs.2.1
            have hpo0 := hGs.1.o0
            have hps0 := hGs.1.s0
            have hpsn := hGs.1.sn
            have hf'f := hGs.2.2
            simp only at hpo2 hpo0 hps0 hpsn
            have hfit1 := fit_pos (L := l) (left := (zn : Int) - po - 1) hl0 (by omega)
            have hfitl := fit_le l ((zn : Int) - po - 1)
            have hfitw := fit_wr l ((zn : Int) - po - 1) (by omega)
            have hGB := hid (hGs.1.behind hpo2 l)
            unfold behindP at hrest hGB
            unfold partP at hyd
            simp only at hrest hyd hGB
            obtain ⟨N, hN⟩ : ∃ N, fit l ((zn : Int) - po - 1) = N := ⟨_, rfl⟩
            rw [hN] at hrest hyd hGB hfit1 hfitl hfitw
            have hEl : (l.take N).length = N := by rw [List.length_take]; omega
            obtain ⟨E1, hE⟩ : ∃ E1, l.take N = E1 := ⟨_, rfl⟩
            rw [hE] at hrest hyd hGB hfitw hEl
            obtain ⟨ypl, yla, yq, ycap, E⟩ := y
            simp only [PtV.data, PtD.mk.injEq] at hyd
            obtain ⟨hypl, hyla, hyes⟩ := hyd
            subst hypl
            subst hyes
            obtain ⟨pv', cv', hev, c1, c2, RV⟩ := (HV.out.row.sole SS (fun k hk e => by have := hVlt2.out k hk; omega)).open ptOk
            obtain ⟨pe', ce', hee, d1, d2, RE⟩ := ((HV.out.es _ hyV).sole SS (fun k hk e => by have := hVlt.out _ hyV k hk; omega)).open enOk
            have hev2 : pv = pv' ∧ cv = cv' := by simpa using hev
            obtain ⟨rfl, rfl⟩ := hev2
            have hee2 : yq = pe' ∧ ycap = ce' := by simpa using hee
            obtain ⟨rfl, rfl⟩ := hee2
            obtain ⟨pb, po', rfl, RV0⟩ := RowP.row (show RowP wr pv 6 V.length (fun i => ptcells (ptAt V i)) from RV) (by omega)
            have hc0 := RV0.cell i hlt
            rw [show ptAt V i = _ from hy] at hc0
            have v0 := hc0 0 _ rfl
            have v1 := hc0 1 _ rfl
            have v2 := hc0 2 _ rfl
            have v3 := hc0 3 _ rfl
            have v4 := hc0 4 _ rfl
            have v5 := hc0 5 _ rfl
            simp only [Nat.add_zero] at v0 v1 v2 v3 v4 v5
            rw [hEl] at v5
            have hbl := Below.refl wr.heap.size wr
            have hbox : Below wr.heap.size wr (wr.alloc (.cells #[.int .i64 ps, .int .i64 po, .int .i64 px, .int .i64 px, .bool yla, .slice yq N ycap] 41)) := hbl.alloc (Nat.le_refl _) _
            have BP := hid (Blk.new wr #[.int .i64 ps, .int .i64 po, .int .i64 px, .int .i64 px, .bool yla, .slice yq N ycap] 41)
            have REp := hid (en_rowp (RowOf.more RE hbox))
            have BBp := hid (BB.alloc (.cells #[.int .i64 ps, .int .i64 po, .int .i64 px, .int .i64 px, .bool yla, .slice yq N ycap] 41))
            have J1p := hid (J1.alloc (.cells #[.int .i64 ps, .int .i64 po, .int .i64 px, .int .i64 px, .bool yla, .slice yq N ycap] 41))
            have SSp : Hid (Sole (fun j => j = ub) w4 (wr.alloc (.cells #[.int .i64 ps, .int .i64 po, .int .i64 px, .int .i64 px, .bool yla, .slice yq N ycap] 41))) := hid (SS.trans (Sole.alloc _ _))
            have hi1 : (i : Int) < (V.length : Int) := by omega
            have hi00 : (0 : Int) ≤ (i : Int) := by omega
            have hcvl : (V.length : Int) ≤ (cv : Int) := by omega
            have hcvm : (cv : Int) ≤ 9223372036854775807 := by unfold maxLen at c2; omega
            have d1' : E.length ≤ ycap := d1
            have hycap : (N : Int) ≤ (ycap : Int) := by omega
            have hycm : (ycap : Int) ≤ 9223372036854775807 := by unfold maxLen at d2; omega
            have hrl : Hid (ub < wr.heap.size ∧ gb < wr.heap.size) := hid ⟨BB.lt, J1.lt⟩
            have hPsh := hid hPs
            have hresth := hid hrest
            have hN60 : N ≤ 60 := by omega
            have hwt := hid (fun k (h : k < E.length) => wrN_take E k h)
            have hwf : Hid (wrN (E.take E.length) = wrN E) := hid (by rw [List.take_length])
            have hwz : Hid (wrN (E.take 0) = 0) := hid (by simp [wrN])
            have hwle := hid (fun k => wrN_le (E.take k))
            have htk : Hid (∀ k, (E.take k).length ≤ N) := hid (fun k => by rw [List.length_take]; omega)
            rw [hEl] at hwt hwf REp
            have hWd : (wrN E : Int) ≤ (zn : Int) - po - 1 := hfitw
            have hlK := hid HK.1
            have hnlh := hid (And.intro hnl hfitl)
            have hf10h := hid (And.intro hf10 hf'f)
            have hiN := hid (And.intro hi hlt)
            have hyl2 := hid (And.intro hE hN)
            clear hcons hyV hk hy hl0 hst hGs hPs hee hev RV RV0 hc0 RE HG HP HK HC BB SS JQ J1 hbl hbox hrest hyla hEl hN hfitw hfitl hnl c1 c2 d1 d1' d2 hE HKh BBh SSh
            go_wp2_with fail
            obtain ⟨Wp, hWp⟩ : ∃ Wp, wr.alloc (.cells #[.int .i64 ps, .int .i64 po, .int .i64 px, .int .i64 px, .bool yla, .slice yq N ycap] 41) = Wp := ⟨_, rfl⟩
            rw [hWp] at BP REp BBp J1p SSp ⊢
            obtain ⟨xb, hxb⟩ : ∃ xb, wr.heap.size = xb := ⟨_, rfl⟩
            rw [hxb] at BP hrl ⊢
            have hWps : Hid (xb < Wp.heap.size) := hid BP.out.lt
            clear hWp hxb v0 v1 v2 v3 v4 v5
            go_loopw [16, 17] (fun s16 s17 wx => ∃ k : Nat, k ≤ N ∧ s17 = .int .i64 (k : Int) ∧ s16 = .int .i64 ((1 + wrN (E.take k) : Nat) : Int) ∧ wx = Wp) (fun _ s17 _ => N - (intOf s17).toNat)
            case atStart => exact ⟨0, by omega, rfl, by rw [hwz.out]; rfl, rfl⟩
            case round =>
              obtain ⟨k, hk, rfl, rfl, rfl⟩ := hrel
              obtain ⟨p0, pk0, pf0⟩ := BP.out
              by_cases hkl : k < N
              · obtain ⟨eb, eo, rfl, RE0⟩ := REp.out.row (by omega)
                have z0 := RE0.at0 hkl (v := .int .i64 (enAt E k).k) rfl
                have hs := hwt.out k hkl
                have hle := hwle.out k
                have hle2 := htk.out k
                have hk1 : (k : Int) < (N : Int) := by omega
                have hk0 : (0 : Int) ≤ (k : Int) := by omega
                have hkw : IntKind.i64.wrap ((k : Int) + 1) = (k : Int) + 1 := IntWalk.i64_in _ ⟨by omega, by omega⟩
                clear RE0
                by_cases h1 : (enAt E k).k = 1
                · rw [if_pos h1] at hs
                  rw [h1] at z0
                  replace hs := hid hs
                  generalize wrN (E.take k) = WR at *
                  obtain ⟨D, hD⟩ : ∃ D, 1 + WR = D := ⟨_, rfl⟩
                  rw [hD]
                  have hDw : IntKind.i64.wrap ((D : Int) + 1) = (D : Int) + 1 := IntWalk.i64_in _ ⟨by omega, by omega⟩
                  replace hD := hid hD
                  clear h1
                  go_wp2_with fail
                  go_roundw
                  case rel => exact ⟨k + 1, hkl, by go_num, by rw [hs.out, show 1 + (WR + 1) = D + 1 by have := hD.out; omega]; go_num, by simp⟩
                  case measure => simp [intOf]; omega
                · rw [if_neg h1] at hs
                  replace hs := hid hs
                  have h1' : ((enAt E k).k == 1) = false := by simpa using h1
                  generalize wrN (E.take k) = WR at *
                  clear h1
                  go_wp2_with fail
                  go_roundw
                  case rel => exact ⟨k + 1, hkl, by go_num, by rw [hs.out]; rfl, by simp⟩
                  case measure => simp [intOf]; omega
              · obtain rfl : k = N := by omega
                rw [hwf.out]
                obtain ⟨D, hD⟩ : ∃ D, 1 + wrN E = D := ⟨_, rfl⟩
                rw [hD]
                have hDz : (D : Int) ≤ (zn : Int) - po := by omega
                have hD1 : 1 ≤ D := by omega
                have hnk : IntKind.i64.wrap ((nn : Int) + (k : Int)) = (nn : Int) + (k : Int) := IntWalk.i64_in _ ⟨by omega, by have := hnlh.out.1; omega⟩
                have hpos : decide (po < 0) = false := decide_eq_false (by omega)
                have hpd : IntKind.i64.wrap (po + (D : Int)) = po + (D : Int) := IntWalk.i64_in _ ⟨by omega, by omega⟩
                have hpg : decide ((zn : Int) < po + (D : Int)) = false := decide_eq_false (by omega)
                have hk0 : ((k : Int) == 0) = false := by simp; omega
                have hk0n : (k == 0) = false := by simp; omega
                have hkn : ¬ k = 0 := by omega
                obtain ⟨j1, jk1, jf1⟩ := J1p.out
                obtain ⟨P, hP⟩ : ∃ P : Nat, ps * (zn : Int) = (P : Int) := ⟨(ps * (zn : Int)).toNat, by have := Int.mul_nonneg hps0 (show (0 : Int) ≤ (zn : Int) by omega); omega⟩
                have hPb : (P : Int) ≤ 11 * (zn : Int) := by rw [← hP]; exact Int.mul_le_mul_of_nonneg_right (by omega) (by omega)
                have hPw : IntKind.i64.wrap (P : Int) = (P : Int) := IntWalk.i64_in _ ⟨by omega, by omega⟩
                have hPh := hid hP
                have hDh := hid hD
                have hD60 : D ≤ 60 := by omega
                clear hD hWd
                go_wp2_with fail
                go_loopw [18] (fun s18 wx => ∃ (j : Nat) (c' : Array Value) (u' : Nat → Bool), j ≤ D ∧ s18 = .int .i64 (j : Int) ∧ Blk wx ub c' ∧ BoolsOf c' tn u' ∧ PastP (zn : Int) ⟨ps, po + (j : Int), px⟩ f' u' ∧ Sole (fun t => t = ub) wr wx) (fun s18 _ => D - (intOf s18).toNat)
                case atStart => exact ⟨0, c, u, by omega, rfl, BBp.out, HCh.out, by have h := hPsh.out; simpa using h, Sole.refl _ _⟩
                case round =>
                  obtain ⟨j, c', u', hj, rfl, BX, HX, PX, SX⟩ := hrel
                  have BXh := hid BX
                  have HXh := hid HX
                  have PXh := hid PX
                  have SXh := hid SX
                  have BPx := BP.out.sole SX (by have := hrl.out; omega)
                  have J1x := J1p.out.sole SX (by have := hgl.out; omega)
                  obtain ⟨p0, pk0', pf0'⟩ := BPx
                  obtain ⟨q0, qk0, qf0⟩ := J1x
                  by_cases hjl : j < D
                  · obtain ⟨tt, htt⟩ : ∃ tt : Nat, (P : Int) + po + (j : Int) = (tt : Int) := ⟨((P : Int) + po + (j : Int)).toNat, by omega⟩
                    have httn : tt < tn := by have := htn2h.out; omega
                    have hfree := PX.free (by omega) tt (po + (j : Int)) (by rw [← htt, ← hPh.out]; simp only; omega) (Int.le_refl _) (by omega) (by simp only; omega)
                    have hcell : wr.cell? ⟨ub, tt, none⟩ = some (.bool false) := by rw [BX.cell, HX.get tt httn, hfree]
                    have hfz := BX.frz tt
                    have hub := BX.lt
                    have s1 : IntKind.i64.wrap ((P : Int) + po) = (P : Int) + po := IntWalk.i64_in _ ⟨by omega, by omega⟩
                    have s2 : IntKind.i64.wrap ((P : Int) + po + (j : Int)) = (tt : Int) := by rw [htt]; exact IntWalk.i64_in _ ⟨by omega, by omega⟩
                    have s3 : IntKind.i64.wrap (tt : Int) = (tt : Int) := IntWalk.i64_in _ ⟨by omega, by omega⟩
                    have httn' : (tt : Int) < (tn : Int) := by omega
                    have htt0 : (0 : Int) ≤ (tt : Int) := by omega
                    have hjw : IntKind.i64.wrap ((j : Int) + 1) = (j : Int) + 1 := IntWalk.i64_in _ ⟨by omega, by omega⟩
                    have hjl1 : (j : Int) < (D : Int) := by omega
                    have BN := hid (BX.set tt (.bool true) (by rw [HX.size]; exact httn))
                    have HN := hid (HX.set httn)
                    have PN : Hid (PastP (zn : Int) ⟨ps, po + ((j + 1 : Nat) : Int), px⟩ f' (fun k => if k = tt then true else u' k)) := hid (by
                      have h := PX.take tt (by rw [← htt, ← hPh.out]; simp only; omega) (by simp only; omega) (by simp only; omega)
                      simp only at h
                      rw [show po + (j : Int) + 1 = po + ((j + 1 : Nat) : Int) by omega] at h
                      exact h)
                    have SN := hid (SX.trans (Sole.setCell (S := fun t => t = ub) (b := ub) (o := tt) _ (.bool true) rfl))
                    clear BX HX PX SX hfree httn
                    go_wp2_with fail
                    go_roundw
                    case rel => exact ⟨j + 1, _, _, hjl, by go_num, BN.out, HN.out, PN.out, SN.out⟩
                    case measure => simp [intOf]; omega
                  · obtain rfl : j = D := by omega
                    have hiw : IntKind.i64.wrap ((i : Int) + 1) = (i : Int) + 1 := IntWalk.i64_in _ ⟨by omega, by omega⟩
                    have SW := hid (SSp.out.trans SX)
                    clear BX HX PX SX
                    go_wp2_with fail
                    go_roundw
                    case rel => exact ⟨K', nn + k, i + 1, _, f', _, _, _, hiN.out.2, by go_num, by go_num, by have h1 := hnlh.out.1; have h2 := hnlh.out.2; rw [List.length_drop]; omega, hGB.out, by have h := PXh.out; rw [show po + ((j : Nat) : Int) = po + (1 + (wrN E : Int)) by have := hDh.out; omega] at h; exact h, by have h1 := hf10h.out.1; have h2 := hf10h.out.2; omega, ⟨by rw [List.length_drop]; have := hlK.out; omega, hresth.out⟩, BXh.out, HXh.out, SW.out⟩
                    case measure => simp [intOf]; omega
          · obtain rfl : i = V.length := by omega
            have hk := HK.2
            rw [List.drop_length, List.map_nil] at hk
            obtain ⟨rfl, hr⟩ := planK_done hk HK.1
            obtain ⟨h1, rfl⟩ := Prod.mk.inj hr
            have hqo : qo ≤ (zn : Int) := by have h := HG.oz; rw [← h1] at h; exact h
            have hnL : (nn : Int) = (L.length : Int) := by simp at hnl; omega
            have hff : (f.length : Int) ≤ 10 := by omega
            have hfb : ((L.length : Int) == (L.length : Int)) = true := by simp
            have JQ := HQ.out.sole SS (by have := hgl.out; omega)
            obtain ⟨q1, qk1, qg1⟩ := J1
            obtain ⟨q2, qk2, qg2⟩ := JQ
            clear hk hr h1 HG HP HK BB HC SS hnl
            rw [hnL]
            clear hnL
            go_wp2_with fail
            go_ret
            exact ⟨rfl, DD.out⟩
end Go.Proofs.Ytibjccfillhfpaa
