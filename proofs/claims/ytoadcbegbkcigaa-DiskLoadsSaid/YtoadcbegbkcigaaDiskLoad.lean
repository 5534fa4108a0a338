/-
  Package disk: Load.
-/
import Derived.Test.YtoadcbegbkcigaaDiskMore
import Derived.Test.YtoadcbegbkcigaaDiskFated
import Derived.Test.YtoadcbegbkcigaaRegion
import Derived.BigQuiet
import Derived.Lib.SliceRun
namespace Go.Proofs.Ytoadcbegbkcigaa
open Go.RowKit Go.Maps
set_option linter.unusedVariables false
set_option linter.unusedSimpArgs false

theorem u8OneD : (Try.prog.info? 5).map (·.size) = some 1 := by kernel_rfl
theorem wpList_copy_ran {P : Program} (w : World) {ops : Array Oper} {rest : List Oper} {o : Oper} {a : Act} {Q : Exit → Act → World → Prop} (hgd : o.guard = none) (d s : Operand) (t t' : TypeId)
    (ho : o.op = .call { callee := .builtin .copy, args := #[d, s], argTypes := #[t, t'] }) (vd vs : Value) (hd : a.eval d = vd) (hs : a.eval s = vs)
    (v' : Value) (w' : World) (hr : (Builtin.copy_ #[t, t'] o.type #[vd, vs]).run P w = .ok v' w') (h : wpList P ops Q rest (a.put o.dst v') w') : wpList P ops Q (o :: rest) a w := by
  refine wpList_plain hgd fun K hK => ?_
  unfold Oper.wp
  simp [execOp, ho, resolve, invoke, builtin, hd, hs, hr, Result.andThen]
  exact hK _ _ h
theorem oc_sole' {S : Nat → Prop} {w w' : World} {x : OcS} (h : x.there w) (hs : Sole S w w') (hn : ∀ b o, x.a = some ⟨b, o, none⟩ → x.l ≠ [] → ¬ S b) : x.there w' := ⟨h.1.sole hs hn, h.2⟩
theorem sole_setCells {S : Nat → Prop} {b : Nat} (hb : S b) : ∀ (vs : List Value) (o : Nat) (w : World), Sole S w (w.setCells b o vs)
  | [], _, w => Sole.refl S w
  | v :: r, o, w => (Sole.setCell (S := S) w (b := b) (o := o) v hb).trans (sole_setCells hb r (o + 1) _)
/-- What a sector becomes that is loaded. -/
def fillL (l : List UInt8) : List UInt8 := l.take 256 ++ zerosN (256 - l.length)
theorem fillL_len (l : List UInt8) : (fillL l).length = 256 := by
  unfold fillL
  rw [List.length_append, List.length_take, zerosN_len]
  omega
/-- A sector's own octets are others. -/
theorem DiskM.inner {w w' : World} {b : Nat} {m : DM} {K : Nat → Prop} (h : DiskM w b m K) (hQ : m.Qs = []) {i : Nat} (hi : i < m.Ls.length) {g : Nat} (hg : (ocA m.Ls i).a = some ⟨g, 0, none⟩) (hs : Sole (fun k => k = g) w w') (l : List UInt8) (hl : l.length = 256)
    (ho : Octs w' (some ⟨g, 0, none⟩) l) (hf : ∀ j, w'.frozen? ⟨g, j, none⟩ = false) : DiskM w' b { m with Ls := m.Ls.set i ⟨(ocA m.Ls i).a, (ocA m.Ls i).cap, l⟩ } K := by
  have hx := h.SO _ (ocA_mem m.Ls i hi)
  obtain ⟨hsoft, g', e', kg, hbg, hl0⟩ := hx
  rw [hg] at e'; cases e'
  have hglt := h.klt g kg
  have hb : ∀ k, m.base b k → k ≠ g := fun k hk e => hbg (e ▸ hk)
  have hsv : ({ m with Ls := m.Ls.set i ⟨(ocA m.Ls i).a, (ocA m.Ls i).cap, l⟩ } : DM).sv = m.sv := by simp [DM.sv]
  have hba : ∀ k, ({ m with Ls := m.Ls.set i ⟨(ocA m.Ls i).a, (ocA m.Ls i).cap, l⟩ } : DM).base b k → m.base b k := fun k hk => by
    unfold DM.base at hk ⊢
    rw [hsv] at hk
    exact hk
  have hset : flatR ocT (m.Ls.set i ⟨(ocA m.Ls i).a, (ocA m.Ls i).cap, l⟩) = flatR ocT m.Ls := by
    rw [flatO_map, flatO_map, List.map_set, hl, ← hl0]
    apply List.ext_getElem
    · simp
    · intro j h1 h2
      rw [List.getElem_set]
      split
      · rename_i e
        subst e
        rw [List.getElem_map, ← ocA_eq m.Ls i hi]
      · rfl
  exact
  { blk := by
      have : ({ m with Ls := m.Ls.set i ⟨(ocA m.Ls i).a, (ocA m.Ls i).cap, l⟩ } : DM).cells = m.cells := by simp [DM.cells, DM.sv]
      rw [this]
      exact h.blk.sole hs (hb b (.inl rfl))
    apart := ⟨h.apart.bl, h.apart.bo, h.apart.lo, by rw [hsv]; exact h.apart.s, h.apart.w, h.apart.f⟩
    kk := fun k hk => h.kk k (hba k hk)
    klt := fun k hk => Nat.lt_of_lt_of_le (h.klt k hk) hs.size
    S := by
      rw [hsv]
      have := h.S.sole hs fun k e => hb k (.inr (.inr (.inr (.inl e))))
      unfold RowOwn at this ⊢
      rw [List.length_set, hset]
      exact this
    SO := fun x hx => by
      obtain ⟨j, hj, rfl⟩ := List.getElem_of_mem hx
      rw [List.length_set] at hj
      rw [List.getElem_set]
      split
      · refine ⟨⟨⟨by rw [hg]; exact ho, by have := hsoft.1.2.1; rw [hl0] at this; show l.length ≤ (ocA m.Ls i).cap; omega, hsoft.1.2.2⟩, fun b' o e => ?_⟩, g, hg, kg, fun hk => hbg (hba g hk), hl⟩
        rw [show (ocA m.Ls i).a = some ⟨b', o, none⟩ from e] at hg; cases hg
        exact ⟨Nat.lt_of_lt_of_le hglt hs.size, hf⟩
      · rename_i hne
        obtain ⟨hy, g2, e2, k2, hb2, hl2⟩ := h.SO _ (List.getElem_mem hj)
        refine ⟨so_sole hy hs fun b' o e => ?_, g2, e2, k2, fun hk => hb2 (hba g2 hk), hl2⟩
        rw [e2] at e; cases e
        rintro rfl
        have hu := h.uniq.s
        unfold List.Nodup at hu
        rw [List.pairwise_iff_getElem] at hu
        have e3 : m.Ls[i].a = m.Ls[j].a := by rw [← ocA_eq m.Ls i hi, hg, e2]
        rcases Nat.lt_or_gt_of_ne hne with h1 | h1
        · exact hu i j (by rw [List.length_map]; exact hi) (by rw [List.length_map]; exact hj) h1 (by rw [List.getElem_map, List.getElem_map]; exact e3)
        · exact hu j i (by rw [List.length_map]; exact hj) (by rw [List.length_map]; exact hi) h1 (by rw [List.getElem_map, List.getElem_map]; exact e3.symm)
    Q := h.Q.sole hs fun k e => hb k (.inr (.inr (.inr (.inr (.inl e)))))
    QO := fun y hy => by rw [show ({ m with Ls := m.Ls.set i ⟨(ocA m.Ls i).a, (ocA m.Ls i).cap, l⟩ } : DM).Qs = [] from hQ] at hy; cases hy
    F := h.F.sole hs fun k e => hb k (.inr (.inr (.inr (.inr (.inr e)))))
    L := map_sole h.L hs (hb _ (.inr (.inl rfl)))
    O := map_sole h.O hs (hb _ (.inr (.inr (.inl rfl))))
    last := h.last
    lenS := by show (m.Ls.set i _).length ≤ 4096; rw [List.length_set]; exact h.lenS
    cwf := h.cwf
    fwf := h.fwf
    uniq := by
      refine ⟨?_, h.uniq.q, fun s j hs hj e => by rw [show ({ m with Ls := m.Ls.set i ⟨(ocA m.Ls i).a, (ocA m.Ls i).cap, l⟩ } : DM).Qs = [] from hQ] at hj; cases hj⟩
      have : (m.Ls.set i ⟨(ocA m.Ls i).a, (ocA m.Ls i).cap, l⟩).map OcS.a = m.Ls.map OcS.a := by
        rw [List.map_set]
        apply List.ext_getElem
        · simp
        · intro j h1 h2
          rw [List.getElem_set]
          split
          · rename_i e
            subst e
            rw [List.getElem_map, ← ocA_eq m.Ls i hi]
          · rfl
      show ((m.Ls.set i ⟨(ocA m.Ls i).a, (ocA m.Ls i).cap, l⟩).map OcS.a).Nodup
      rw [this]
      exact h.uniq.s }
theorem octs_setCells {w : World} {g : Nat} {l : List UInt8} (h : Octs w (some ⟨g, 0, none⟩) l) (l' : List UInt8) (hl : l'.length ≤ l.length) :
    Octs (w.setCells g 0 (l'.map fun x => .int .u8 (x.toNat : Int))) (some ⟨g, 0, none⟩) (l' ++ l.drop l'.length) := by
  rcases h with h0 | ⟨b, o, e, hlt, hc⟩
  · subst h0
    exact .inl (by simp at hl ⊢; exact hl)
  · cases e
    refine .inr ⟨g, 0, rfl, Nat.lt_of_lt_of_le hlt (sole_setCells (S := fun _ => True) trivial _ _ _).size, fun i hi => ?_⟩
    have hi' : i < l.length := by rw [List.length_append, List.length_drop] at hi; omega
    by_cases h1 : i < l'.length
    · have := World.cell?_setCells_in g (l'.map fun x => Value.int .u8 (x.toNat : Int)) 0 w (fun j hj => by
        rw [List.length_map] at hj
        rw [hc j (by omega)]; rfl) i (by rw [List.length_map]; exact h1)
      rw [this, List.getElem_map, List.getElem_append_left h1]
    · rw [World.cell?_setCells_out g _ 0 w ⟨g, 0 + i, none⟩ (fun _ _ => .inr (by rw [List.length_map]; show 0 + l'.length ≤ 0 + i; omega)), hc i hi', List.getElem_append_right (by omega), List.getElem_drop]
      rw [show l[l'.length + (i - l'.length)]'(by omega) = l[i] from getElem_congr rfl (by omega) _]
/-- clear and copy, into a sector of its own. -/
theorem clear_run (w : World) (g cap : Nat) (l : List UInt8) (hl : l.length = 256) (ho : Octs w (some ⟨g, 0, none⟩) l) (hf : ∀ j, w.frozen? ⟨g, j, none⟩ = false) :
    (∀ ty, (Builtin.clear_ #[35] ty #[.slice (some ⟨g, 0, none⟩) 256 cap]).run Try.prog w = .ok (.tuple #[]) (w.setCells g 0 (List.replicate 256 (.int .u8 0)))) ∧ Octs (w.setCells g 0 (List.replicate 256 (.int .u8 0))) (some ⟨g, 0, none⟩) (zerosN 256) ∧ (∀ j, (w.setCells g 0 (List.replicate 256 (.int .u8 0))).frozen? ⟨g, j, none⟩ = false) := by
  have hc : ∀ j, j < 256 → (w.cell? ⟨g, 0 + j, none⟩).isSome = true := fun j hj => by
    rcases ho with h0 | ⟨b, o, e, hlt, hc⟩
    · rw [h0] at hl; cases hl
    · cases e
      rw [hc j (by omega)]; rfl
  refine ⟨fun ty => Lib.run_clear_slice w 35 5 ty (.int .u8 0) Try.underlying35 (fun w => by kernel_rfl) rfl rfl g 0 256 cap (by omega) hc (fun j hj => hf _), ?_, fun j => by rw [World.frozen?_setCells]; exact hf j⟩
  have := octs_setCells ho (zerosN 256) (by rw [zerosN_len, hl]; exact Nat.le_refl _)
  rw [zerosN_len, List.drop_of_length_le (by omega), List.append_nil] at this
  have e : (zerosN 256).map (fun x => Value.int .u8 (x.toNat : Int)) = List.replicate 256 (.int .u8 0) := by unfold zerosN; rw [List.map_replicate]; rfl
  rw [e] at this
  exact this
theorem copy_run (w : World) (g cap : Nat) (ho : Octs w (some ⟨g, 0, none⟩) (zerosN 256)) (hf : ∀ j, w.frozen? ⟨g, j, none⟩ = false) (x : OcS) (hx : x.there w) :
    (∀ ty, (Builtin.copy_ #[35, 35] ty #[.slice (some ⟨g, 0, none⟩) 256 cap, .slice x.a x.l.length x.cap]).run Try.prog w = .ok (.int .i64 ((x.l.take 256).length : Int)) (w.setCells g 0 ((x.l.take 256).map fun x => .int .u8 (x.toNat : Int)))) ∧
      Octs (w.setCells g 0 ((x.l.take 256).map fun x => .int .u8 (x.toNat : Int))) (some ⟨g, 0, none⟩) (fillL x.l) ∧ (∀ j, (w.setCells g 0 ((x.l.take 256).map fun x => .int .u8 (x.toNat : Int))).frozen? ⟨g, j, none⟩ = false) := by
  have hlt : (x.l.take 256).length ≤ 256 := by rw [List.length_take]; omega
  refine ⟨fun ty => ?_, ?_, fun j => by rw [World.frozen?_setCells]; exact hf j⟩
  · rcases hx.1 with h0 | ⟨b, o, e, hlt', hc⟩
    · rw [h0]
      exact run_copy_none (P := Try.prog) w _ _ ty 5 _ _ 256 cap 0 x.cap Try.underlying35 (u8OneD) (by simp)
    · rw [e]
      have := run_copy_cells (P := Try.prog) w 35 35 ty 5 g 0 256 cap ⟨b, o, none⟩ x.l.length x.cap ((x.l.take 256).map fun x => Value.int .u8 (x.toNat : Int)) Try.underlying35 (u8OneD)
        (by rw [List.length_map, List.length_take]; exact Nat.min_comm _ _)
        (fun j u hj => by
          rw [List.getElem?_map] at hj
          obtain ⟨y, hy, rfl⟩ := Option.map_eq_some_iff.1 hj
          obtain ⟨hj', hy'⟩ := List.getElem?_eq_some_iff.1 hy
          rw [List.length_take] at hj'
          rw [List.getElem_take] at hy'
          rw [addr_plus, hc j (by omega), hy'])
        (fun j hj => by
          rw [List.length_map] at hj
          rcases ho with h0 | ⟨b', o', e', _, hc'⟩
          · cases h0
          · cases e'
            rw [hc' j (by rw [zerosN_len]; omega)]; rfl)
        (fun j hj => hf _) (fun u hu => by obtain ⟨y, _, rfl⟩ := List.mem_map.1 hu; rfl)
      rw [List.length_map] at this
      exact this
  · have := octs_setCells ho (x.l.take 256) (by rw [zerosN_len]; exact hlt)
    have e : (zerosN 256).drop (x.l.take 256).length = zerosN (256 - x.l.length) := by
      unfold zerosN
      rw [List.drop_replicate, List.length_take]
      congr 1
      omega
    rw [e] at this
    exact this

/-- A disk behind Load, as far as it has come. -/
structure Loaded (W : World) (b : Nat) (m : DM) (K : Nat → Prop) (Xs : List OcS) (k : Nat) (L : List OcS) (DO : DataW Unit) : Prop where
  D : DiskM W b (m.clean.moved L DO m.n') K
  len : L.length = m.Ls.length
  S : ∀ i, i < m.Ls.length → (ocA L i).l = if i < k then fillL (ocA Xs i).l else (ocA m.Ls i).l
  O : ∀ z : Int, (Lit.int .i64 z).wf = true → Maps.has DO (.int .i64 z) = if 0 ≤ z ∧ z < (k : Int) then false else Maps.has m.DO (.int .i64 z)
theorem Loaded.next {W W2 W3 : World} {b : Nat} {m : DM} {K : Nat → Prop} {Xs : List OcS} {k : Nat} {L : List OcS} {DO : DataW Unit} (h : Loaded W b m K Xs k L DO) (hk : k < m.Ls.length) {g : Nat} (hg : (ocA L k).a = some ⟨g, 0, none⟩)
    (S12 : Sole (fun j => j = g) W W2) (ho : Octs W2 (some ⟨g, 0, none⟩) (fillL (ocA Xs k).l)) (hf : ∀ j, W2.frozen? ⟨g, j, none⟩ = false) (S23 : Sole (fun j => j = m.om) W2 W3) (hO : W3.ownsMap Try.prog 3 unitElem m.om m.n' (DO.del (.int .i64 (k : Int)))) :
    ∃ L', Loaded W3 b m K Xs (k + 1) L' (DO.del (.int .i64 (k : Int))) ∧ Sole K W W3 := by
  have hk' : k < L.length := by rw [h.len]; exact hk
  have D2 := h.D.inner rfl hk' hg S12 _ (fillL_len _) ho hf
  have kg : K g := by
    obtain ⟨_, g', e, kg, _⟩ := h.D.SO _ (ocA_mem L k hk')
    have : some (⟨g, 0, none⟩ : Addr) = some ⟨g', 0, none⟩ := hg.symm.trans e
    cases this; exact kg
  have ko : K m.om := h.D.kk _ (.inr (.inr (.inl rfl)))
  refine ⟨L.set k ⟨(ocA L k).a, (ocA L k).cap, fillL (ocA Xs k).l⟩, ⟨?_, by rw [List.length_set]; exact h.len, fun i hi => ?_, fun z hz => ?_⟩, (S12.mono fun j _ e => e ▸ kg).trans (S23.mono fun j _ e => e ▸ ko)⟩
  · have hbo : ∀ j, j = m.om → (m.clean.moved (L.set k ⟨(ocA L k).a, (ocA L k).cap, fillL (ocA Xs k).l⟩) DO m.n').base b j := fun j e => .inr (.inr (.inl e))
    have ap := D2.apart
    exact
    { blk := D2.blk.sole S23 ap.bo
      apart := ⟨ap.bl, ap.bo, ap.lo, ap.s, ap.w, ap.f⟩
      kk := D2.kk
      klt := fun j hj => Nat.lt_of_lt_of_le (D2.klt j hj) S23.size
      S := D2.S.sole S23 fun j e => (ap.s j e).2.2.1
      SO := fun x hx => by
        obtain ⟨hs, g', e', kg', hb', r⟩ := D2.SO x hx
        exact ⟨so_sole hs S23 fun b' o e => by rw [e'] at e; cases e; exact fun h' => hb' (hbo _ h'), g', e', kg', hb', r⟩
      Q := D2.Q.sole S23 fun j e => (ap.w j e).2.2.1
      QO := fun y hy => by cases hy
      F := D2.F.sole S23 fun j e => (ap.f j e).2.2
      L := map_sole D2.L S23 ap.lo
      O := hO
      last := D2.last
      lenS := D2.lenS
      cwf := D2.cwf
      fwf := D2.fwf
      uniq := ⟨D2.uniq.s, D2.uniq.q, D2.uniq.sq⟩ }
  · have hi' : i < L.length := by rw [h.len]; exact hi
    rw [ocA_eq _ i (by rw [List.length_set]; exact hi'), List.getElem_set]
    split
    · rename_i e
      subst e
      rw [if_pos (by omega)]
    · rename_i e
      rw [← ocA_eq L i hi', h.S i hi]
      by_cases h1 : i < k
      · rw [if_pos h1, if_pos (by omega)]
      · rw [if_neg h1, if_neg (by omega)]
  · by_cases e : z = (k : Int)
    · subst e
      rw [if_pos (by omega)]
      exact has_del_same
    · rw [has_del_other (fun e' => e (by cases e'; rfl)), h.O z hz]
      by_cases h1 : 0 ≤ z ∧ z < (k : Int)
      · rw [if_pos h1, if_pos (by omega)]
      · rw [if_neg h1, if_neg (by omega)]

theorem measure_down (N k : Nat) (h : k < N) (z : Int) (hz : z = ((k + 1 : Nat) : Int)) : N - (intOf (.int .i64 z)).toNat < N - (intOf (.int .i64 (k : Int))).toNat := by
  subst hz
  show N - (((k + 1 : Nat) : Int)).toNat < N - ((k : Int)).toNat
  omega
set_option maxRecDepth 100000 in
set_option maxHeartbeats 4000000 in
theorem load_any (m : DM) (b : Nat) (K : Nat → Prop) (w : World) (D : DiskM w b m K) (xp : Option Addr) (xc : Nat) (Xs : List OcS) (RX : RowOf ocT w xp Xs) (hxp : ∀ b' o, xp = some ⟨b', o, none⟩ → Xs.length ≠ 0 → ¬ K b') (hX : ∀ x ∈ Xs, x.there w ∧ ∀ b' o, x.a = some ⟨b', o, none⟩ → x.l ≠ [] → ¬ K b') :
    Calls Try.prog 21 #[.pointer (some ⟨b, 0, none⟩), .slice xp Xs.length xc] w fun e w' => e = .returned (.tuple #[]) ∧ ∃ L DO, Loaded w' b m K Xs (min Xs.length m.Ls.length) L DO ∧ Sole K w w' := by
  have KF := hid (forget_any m b K w D)
  have B0 := D.blk
  simp only [DM.cells, DM.sv, DM.wv, DM.fv] at B0
  have hbK := hid D.kk
  have hlS := hid D.lenS
  have hDO : ∀ z : Int, (Lit.int .i64 z).wf = true → Maps.has m.DO (.int .i64 z) = if 0 ≤ z ∧ z < ((0 : Nat) : Int) then false else Maps.has m.DO (.int .i64 z) := fun z _ => by rw [if_neg (by omega)]
  replace hDO := hid hDO
  obtain ⟨N, hN⟩ : ∃ N : Nat, min Xs.length m.Ls.length = N := ⟨_, rfl⟩
  have hNm : min (Xs.length : Int) (m.Ls.length : Int) = (N : Int) := by omega
  have hNh := hid hN
  have RXh := hid RX
  have hXh := hid hX
  have hxph := hid hxp
  rw [hN]
  clear D RX hX hxp hN
  obtain ⟨l0, k0, f0⟩ := B0
  go_enter Try.func21, Try.ntmps21
  go_wp2_with fail
  refine KF.out.mono ?_
  rintro e w1 ⟨rfl, D1, S1⟩
  have L1 := hid (show Loaded w1 b m K Xs 0 m.Ls m.DO from ⟨D1, rfl, fun i hi => by rw [if_neg (by omega)], hDO.out⟩)
  have T1 := hid (S1.mono (T := K) fun k _ e => by rcases e with rfl | rfl; exact hbK.out _ (.inl rfl); exact hbK.out _ (.inr (.inl rfl)))
  have B1 : Blk w1 b #[.bool true, .bool m.off, .slice m.sp m.Ls.length m.sc, .slice none 0 0, .map (some m.lm), .map (some m.om), .bool m.tl, .int .i64 m.cl, .slice m.fp m.Fs.length m.fc, .bool m.tf, .int .i64 m.fl] := D1.blk
  clear D1 S1 KF hDO l0 k0 f0
  obtain ⟨l1, k1, f1⟩ := B1
  go_wp2_with fail
  clear l1 k1 f1 hNm
  go_loopw [24] (fun i wr => ∃ k : Nat, k ≤ N ∧ i = .int .i64 (k : Int) ∧ Sole K w wr ∧ ∃ L DO, Loaded wr b m K Xs k L DO) (fun i _ => N - (intOf i).toNat)
  case atStart => exact ⟨0, Nat.zero_le _, rfl, T1.out, _, _, L1.out⟩
  case round =>
    obtain ⟨k, hk, rfl, hs, L, DO, HL⟩ := hrel
    by_cases hlt : k < N
    · have hkX : k < Xs.length := by have := hNh.out; omega
      have hkL : k < m.Ls.length := by have := hNh.out; omega
      have hkX' : (k : Int) < (Xs.length : Int) := by omega
      have hkL' : (k : Int) < (m.Ls.length : Int) := by omega
      have hk0 : (0 : Int) ≤ (k : Int) := by omega
      have hkN : (k : Int) < (N : Int) := by omega
      have Dk := HL.D
      have hkL2 : k < L.length := by rw [HL.len]; exact hkL
      obtain ⟨hso, g, hga, kg, hbg, hgl⟩ := Dk.SO _ (ocA_mem L k hkL2)
      obtain ⟨p7, c7, hv7, _, _, R7⟩ := Dk.S.open ocOk
      have e7 : m.sp = p7 ∧ m.sc = c7 := by simpa [DM.sv, DM.moved, DM.clean] using hv7
      have hR7 : RowP wr m.sp 1 L.length (fun i => [.slice (ocA L i).a (ocA L i).l.length (ocA L i).cap]) := by rw [e7.1]; exact R7
      obtain ⟨b7, o7, hq7, r7⟩ := hR7.row (by omega)
      have hown7 : m.sv.ownBlock = some b7 := by
        obtain ⟨g', cap, cur, hv, _⟩ := Dk.S.2.resolve_left (fun h => by have := h.2; have : L.length = 0 := this; omega)
        have : m.sp = some ⟨g', 0, none⟩ := by have := hv; simp only [DM.sv, DM.moved, DM.clean, Value.slice.injEq] at this; exact this.1
        rw [this] at hq7; cases hq7
        show (Value.slice m.sp m.Ls.length m.sc).ownBlock = _
        rw [this]; rfl
      have hb7g : b7 ≠ g := fun e => hbg (.inr (.inr (.inr (.inl (by
        have : (m.clean.moved L DO m.n').sv = m.sv := by simp [DM.sv, DM.moved, DM.clean, HL.len]
        rw [this, hown7, e])))))
      have c7 := r7.at0 (i := k) hkL2 (v := .slice (ocA L k).a (ocA L k).l.length (ocA L k).cap) rfl
      rw [Nat.mul_one, hga, hgl] at c7
      have hRX : RowP wr xp 1 Xs.length (fun i => [.slice (ocA Xs i).a (ocA Xs i).l.length (ocA Xs i).cap]) := by
        rcases RXh.out with h | ⟨b', o', e', R⟩
        · exact .inl h
        · exact .inr ⟨b', o', e', Nat.lt_of_lt_of_le R.lt hs.size, fun i hi j v hv => (hs.cell R.lt (hxph.out b' o' e' (by omega))).trans (R.cell i hi j v hv)⟩
      obtain ⟨b8, o8, hq8, r8⟩ := hRX.row (by omega)
      have hb8g : b8 ≠ g := fun e => hxph.out b8 o8 hq8 (by omega) (e ▸ kg)
      have c8 := r8.at0 (i := k) hkX (v := .slice (ocA Xs k).a (ocA Xs k).l.length (ocA Xs k).cap) rfl
      rw [Nat.mul_one] at c8
      have hxk := hXh.out _ (ocA_mem Xs k hkX)
      have hxt := oc_sole' hxk.1 hs hxk.2
      have hfz := (hso.2 g 0 hga).2
      have hog : Octs wr (some ⟨g, 0, none⟩) (ocA L k).l := by rw [← hga]; exact hso.1.1
      obtain ⟨hcl, ho1, hf1⟩ := clear_run wr g (ocA L k).cap _ hgl hog hfz
      have Sc : Sole (fun j => j = g) wr (wr.setCells g 0 (List.replicate 256 (.int .u8 0))) := sole_setCells (S := fun j => j = g) rfl _ _ _
      generalize wr.setCells g 0 (List.replicate 256 (.int .u8 0)) = W2 at hcl ho1 hf1 Sc
      have Bk : Blk wr b #[.bool true, .bool m.off, .slice m.sp m.Ls.length m.sc, .slice none 0 0, .map (some m.lm), .map (some m.om), .bool m.tl, .int .i64 m.cl, .slice m.fp m.Fs.length m.fc, .bool m.tf, .int .i64 m.fl] := by
        have := Dk.blk
        simp only [DM.cells, DM.sv, DM.wv, DM.fv, DM.moved, DM.clean, HL.len] at this
        exact this
      have hbb : b ≠ g := fun e => hbg (.inl e.symm)
      have Bk1 := Bk.sole Sc hbb
      have hxt1 := hid (oc_sole' hxt Sc fun b' o e hne e' => hxk.2 b' o e hne (e' ▸ kg))
      have hxl := r8.lt
      have c71 := (Sc.cell (o := o7 + k) r7.lt hb7g).trans c7
      have c81 := (Sc.cell (o := o8 + k) r8.lt hb8g).trans c8
      have hlt7 := Nat.lt_of_lt_of_le r7.lt Sc.size
      have hlt8 := Nat.lt_of_lt_of_le r8.lt Sc.size
      replace ho1 := hid ho1
      replace hf1 := hid hf1
      have Sch := hid Sc
      have HLh := hid HL
      have hsh := hid hs
      have hgah := hid hga
      have hxkh := hid hxk
      have hkgh := hid kg
      have hkLh := hid hkL
      have hltn := hid hlt
      rw [hq7] at Bk Bk1
      rw [hq8]
      have NX := hid (fun (W4 w5 : World) (S24 : Sole (fun j => j = g) wr W4) (ho : Octs W4 (some ⟨g, 0, none⟩) (fillL (ocA Xs k).l)) (hf : ∀ j, W4.frozen? ⟨g, j, none⟩ = false) (S5 : Sole (fun j => j = m.om) W4 w5) (hO : w5.ownsMap Try.prog 3 unitElem m.om m.n' (DO.del (.int .i64 (k : Int)))) => HLh.out.next hkLh.out hgah.out S24 ho hf S5 hO)
      generalize ocA Xs k = x at *
      generalize (ocA L k).cap = gc at *
      have hgW := Nat.lt_of_lt_of_le (show g < wr.heap.size from Dk.klt g kg) Sc.size
      have hom : m.om ≠ g := fun e => hbg (.inr (.inr (.inl e.symm)))
      have hob : b ≠ m.om := Dk.apart.bo
      have M1 := hid (map_sole Dk.O Sc hom)
      clear Dk R7 hR7 hRX r7 r8 hv7 e7 hso hfz hog hgl hga hq7 hxt hs HL Sc kg hbg hown7 hxk hkL2
      obtain ⟨l1, k1, f1⟩ := Bk
      go_wp2_with fail
      clear l1 k1 f1 c7 c8 hcl
      have q0 := fun u : Later W2 => u.blk Bk1
      have q7 := fun u : Later W2 => (u.cell b7 (o7 + k) hlt7).trans c71
      have q8 := fun u : Later W2 => (u.cell b8 (o8 + k) hlt8).trans c81
      refine wp_region_late 11 (by kernel_rfl) (by kernel_rfl) ?_
      simp only [List.take_succ_cons, List.take_zero, List.drop_succ_cons, List.drop_zero]
      repeat (go_big_quiet_step (fail))
      refine wpQuiet_nil ?_
      intro w3 h3'
      have h3 := late_out h3'
      clear h3' q0 q7 q8
      obtain ⟨hcp, ho4, hf4⟩ := copy_run w3 g gc (ho1.out.more h3) (fun j => ((Sole.made (S := fun _ => False) h3).frozen hgW id).trans (hf1.out j)) x (hxt1.out.more h3)
      have S34 : Sole (fun j => j = g) w3 (w3.setCells g 0 ((x.l.take 256).map fun x => .int .u8 (x.toNat : Int))) := sole_setCells (S := fun j => j = g) rfl _ _ _
      generalize w3.setCells g 0 ((x.l.take 256).map fun x => .int .u8 (x.toNat : Int)) = W4 at hcp ho4 hf4 S34
      generalize (x.l.take 256).length = n4 at hcp
      have B4 := (Bk1.more h3).sole S34 hbb
      have M4 := hid (map_sole (map_sole M1.out (Sole.made (S := fun _ => False) h3) id) S34 hom)
      have S24 := hid (Sch.out.trans ((Sole.made h3).trans S34))
      have hkw : (Lit.int .i64 (k : Int)).wf = true := by
        rw [show (k : Int) = wrap64 (k : Int) by have := hlS.out; unfold wrap64; omega]
        exact wrap64_wf _
      have hkey := keyOf_int_mk (P := Try.prog) Try.underlying3 hkw
      replace ho4 := hid ho4
      replace hf4 := hid hf4
      clear h3 Bk1 c71 c81 hlt7 hlt8 M1 S34 hkw
      obtain ⟨l4, k4, f4⟩ := B4
      go_wp2_with (first
        | (with_reducible refine wpList_copy_ran _ rfl (.tmp 40) (.tmp 44) _ _ rfl _ _ rfl rfl _ _ (hcp _) ?_)
        | (at_delete; refine wpList_delete_own _ rfl _ _ 55 3 rfl 75 dlawK Try.underlying55 _ m.om m.n' DO rfl M4.out _ _ rfl hkey ?_; intro w5 hown5 hturn5))
      have S5 : Sole (fun j => j = m.om) W4 w5 := Sole.grown hturn5.grown fun k e => by cases e; rfl
      obtain ⟨L', HL', SK⟩ := NX.out W4 w5 S24.out ho4.out hf4.out S5 hown5
      have E := hid (show Sole K w w5 ∧ ∃ L DO, Loaded w5 b m K Xs (k + 1) L DO from ⟨hsh.out.trans SK, _, _, HL'⟩)
      have hk1 := hkLh.out
      have hk2 := hlS.out
      have hk3 := hltn.out
      clear hcp M4 S24 hkey ho4 hf4 l4 k4 f4 hown5 hturn5 S5 SK HL' NX hxkh hxt1 HLh Sch hf1 ho1 hgah hsh T1 L1 hxph hXh RXh
      have hw : wrap64 ((k : Int) + 1) = ((k + 1 : Nat) : Int) := by
        rw [IntWalk.wrap64_in _ ⟨by omega, by omega⟩]
        rfl
      refine ⟨⟨k + 1, hk3, by rw [hw], E.out.1, E.out.2⟩, ?_⟩
      exact measure_down N k hk3 _ hw
    · obtain rfl : k = N := by omega
      have E := hid (show ∃ L DO, Loaded wr b m K Xs k L DO ∧ Sole K w wr from ⟨L, DO, HL, hs⟩)
      clear hs HL
      go_wp2_with fail
      refine bodyPost_end (results_none rfl _ _ _) rfl ?_
      exact ⟨rfl, E.out⟩
end Go.Proofs.Ytoadcbegbkcigaa
