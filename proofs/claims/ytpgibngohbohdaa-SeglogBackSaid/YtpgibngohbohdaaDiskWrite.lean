/-
  Package disk: count, Write.
-/
import Derived.Test.YtpgibngohbohdaaDiskRead
import Derived.Test.YtpgibngohbohdaaRegion
import Derived.BigQuiet
import Derived.OwnWalk
namespace Go.Proofs.Ytpgibngohbohdaa
open Go.RowKit Go.Maps
set_option linter.unusedVariables false
set_option linter.unusedSimpArgs false

/-- A call that was done is counted; what comes of it. -/
def DM.counted (m : DM) : DM := { m with cl := wrap64 (m.cl - 1) }
set_option maxRecDepth 100000 in
theorem count_any {G : DM → World → World → Prop} (m : DM) (b : Nat) (K : Nat → Prop) (w : World) (D : DiskM w b m K)
    (KG : ∀ w1, DiskM w1 b m.counted K → Calls Try.prog 69 #[.pointer (some ⟨b, 0, none⟩)] w1 fun e w' => e = .returned (.tuple #[]) ∧ G m.counted w1 w') :
    Calls Try.prog 55 #[.pointer (some ⟨b, 0, none⟩)] w fun e w' => e = .returned (.tuple #[]) ∧ ∃ w1, DiskM w1 b m.counted K ∧ Sole K w w1 ∧ G m.counted w1 w' := by
  have B0 := D.blk
  have B1 := B0.set 7 (.int .i64 (wrap64 (m.cl - 1))) (by simp [DM.cells])
  have S1 : Sole (fun k => k = b) w (w.setCell ⟨b, 7, none⟩ (.int .i64 (wrap64 (m.cl - 1)))) := Sole.setCell w _ rfl
  have D1 : DiskM _ b m.counted K := D.scal m.off m.tl m.tf (wrap64 (m.cl - 1)) m.fl (wrap64_wf _) D.fwf S1 B1
  have KG1 := hid (KG _ D1)
  have E := hid (And.intro D1 (S1.mono (T := K) fun k _ e => e ▸ D.kk _ (.inl rfl)))
  clear D D1 S1 B1 KG
  simp only [DM.cells, DM.sv, DM.wv, DM.fv] at B0
  obtain ⟨l0, k0, f0⟩ := B0
  go_enter Try.func55, Try.ntmps55
  go_wp2_with fail
  refine KG1.out.mono ?_
  rintro e w2 ⟨rfl, hG⟩
  have HG := hid hG
  clear hG KG1
  go_wp2_with fail
  refine bodyPost_end (results_none rfl _ _ _) rfl ?_
  exact ⟨rfl, _, E.out.1, E.out.2, HG.out⟩

/-- One more that waits. -/
theorem wt_grow {W : World} {V : Value} {L : List WtS} (OV : RowOwn wtT W 0 V L) (hl : (L.length + 1) * 32 ≤ 140737488355328) {g : Nat} (y : WtS) (B : Blk W g #[.int .i64 y.at_, .slice y.x.a y.x.l.length y.x.cap]) :
    ∃ q c w10, (∀ ty, (Builtin.append_ #[82, 82] ty #[V, .slice (some ⟨g, 0, none⟩) 1 1]).run Try.prog W = .ok (.slice q (L.length + 1) c) w10) ∧ RowOwn wtT w10 0 (.slice q (L.length + 1) c) (L ++ [y]) ∧ Sole (fun k => V.ownBlock = some k) W w10 ∧
      ∀ k, (Value.slice q (L.length + 1) c).ownBlock = some k → V.ownBlock = some k ∨ W.heap.size ≤ k := by
  have R1 := rowOf_one wtOk B (x := y) rfl
  obtain ⟨v', w', hr, O', gr, mv⟩ := append_row wtOk 0 82 W V L OV (some ⟨g, 0, none⟩) 1 [y] R1 hl (by unfold maxLen; simp; omega) (Nat.zero_le _)
  obtain ⟨q, c, hv, _⟩ := O'.open wtOk
  rw [show (L ++ [y]).length = L.length + 1 by simp] at hv
  subst hv
  refine ⟨q, c, w', fun ty => hr, O', Sole.grown gr fun k e => e, fun k e => ?_⟩
  rcases mv with h | h
  · exact .inl (h ▸ e)
  · rw [h] at e; cases e; exact .inr (Nat.le_refl _)

theorem LastOk.snoc {D : DataW Unit} {l : List Int} (h : LastOk D l) (z : Int) (hz : (Lit.int .i64 z).wf = true) : LastOk (D.put (.int .i64 z) (.lit (.int .i64 (l.length : Int)))) (l ++ [z]) := by
  have hk : WideAt.IsKeyLit (.int .i64 z) := dlawK.key (keyOf_int_mk (P := Try.prog) Try.underlying3 hz)
  refine ⟨h.map.put _ _, fun y hy => ?_, fun y i hy => ?_⟩
  · rw [lastI_snoc] at hy
    split at hy
    · cases hy
    · rename_i e
      rw [has_put_other (fun e' => e (by cases e'; rfl))]
      exact h.no y hy
  · rw [lastI_snoc] at hy
    split at hy
    · rename_i e
      subst e
      cases hy
      exact ⟨has_put_same h.map hk _, fun d => atKey_put_same h.map hk _ d⟩
    · rename_i e
      have hne : Lit.int .i64 y ≠ Lit.int .i64 z := fun e' => e (by cases e'; rfl)
      rw [has_put_other hne]
      exact ⟨(h.is y i hy).1, fun d => by rw [atKey_put_other hne]; exact (h.is y i hy).2 d⟩

/-- What a write leaves. -/
def DM.wrote (m : DM) (z : Int) (y : OcS) (q : Option Addr) (c : Nat) : DM := { m with wp := q, wc := c, Qs := m.Qs ++ [⟨z, y⟩], n := m.n + 1, DL := m.DL.put (.int .i64 z) (.lit (.int .i64 (m.Qs.length : Int))) }
theorem DiskM.wrote {w3 w4 w5 w6 : World} {b : Nat} {m : DM} {K : Nat → Prop} (h : DiskM w3 b m K) {z : Int} {y : OcS} {q : Option Addr} {c : Nat} (hz : (Lit.int .i64 z).wf = true) (hz0 : 0 ≤ z) (hz1 : z < (m.Ls.length : Int))
    (S34 : Sole (fun k => k = m.lm) w3 w4) (hL : w4.ownsMap Try.prog 3 (plainElem Try.prog 3) m.lm (m.n + 1) (m.DL.put (.int .i64 z) (.lit (.int .i64 (m.Qs.length : Int)))))
    (b45 : Below w4.heap.size w4 w5) (hy : y.soft w5) (hyl : y.l.length = 256) {g : Nat} (hya : y.a = some ⟨g, 0, none⟩) (hg : w4.heap.size ≤ g) (hg5 : g < w5.heap.size)
    (S56 : Sole (fun k => m.wv.ownBlock = some k) w5 w6) (hQ : RowOwn wtT w6 0 (.slice q (m.Qs.length + 1) c) (m.Qs ++ [⟨z, y⟩])) (hown : ∀ k, (Value.slice q (m.Qs.length + 1) c).ownBlock = some k → m.wv.ownBlock = some k ∨ w5.heap.size ≤ k) :
    DiskM (w6.setCell ⟨b, 3, none⟩ (.slice q (m.Qs.length + 1) c)) b (m.wrote z y q c) (fun k => K k ∨ (w3.heap.size ≤ k ∧ k < w6.heap.size)) ∧ Sole K w3 (w6.setCell ⟨b, 3, none⟩ (.slice q (m.Qs.length + 1) c)) := by
  have s34 := S34.size
  have s45 := b45.size
  have s56 := S56.size
  have S67 : Sole (fun k => k = b) w6 (w6.setCell ⟨b, 3, none⟩ (.slice q (m.Qs.length + 1) c)) := Sole.setCell _ _ rfl
  have s7 : (w6.setCell ⟨b, 3, none⟩ (.slice q (m.Qs.length + 1) c)).heap.size = w6.heap.size := by simp [World.setCell]
  have hlen : (m.Qs ++ [(⟨z, y⟩ : WtS)]).length = m.Qs.length + 1 := by simp
  have kb := h.klt b (h.kk b (.inl rfl))
  have kl := h.klt m.lm (h.kk _ (.inr (.inl rfl)))
  have ko := h.klt m.om (h.kk _ (.inr (.inr (.inl rfl))))
  have ks : ∀ k, m.sv.ownBlock = some k → k < w3.heap.size := fun k e => h.klt k (h.kk k (.inr (.inr (.inr (.inl e)))))
  have kw : ∀ k, m.wv.ownBlock = some k → k < w3.heap.size := fun k e => h.klt k (h.kk k (.inr (.inr (.inr (.inr (.inl e))))))
  have kf : ∀ k, m.fv.ownBlock = some k → k < w3.heap.size := fun k e => h.klt k (h.kk k (.inr (.inr (.inr (.inr (.inr e))))))
  have B7 := (((h.blk.sole S34 h.apart.bl).more b45).sole S56 (fun e => (h.apart.w b e).1 rfl)).set 3 (.slice q (m.Qs.length + 1) c) (by simp [DM.cells])
  have ST : Sole (fun k => k = b ∨ k = m.lm ∨ m.wv.ownBlock = some k) w3 (w6.setCell ⟨b, 3, none⟩ (.slice q (m.Qs.length + 1) c)) :=
    (((S34.mono fun k _ e => .inr (.inl e)).trans (Sole.made b45)).trans (S56.mono fun k _ e => .inr (.inr e))).trans (S67.mono fun k _ e => .inl e)
  have hown' : ∀ k, (m.wrote z y q c).wv.ownBlock = some k → m.wv.ownBlock = some k ∨ w5.heap.size ≤ k := fun k e => hown k (by simpa [DM.wv, DM.wrote, Value.ownBlock] using e)
  have hbase : ∀ k, (m.wrote z y q c).base b k → m.base b k ∨ w5.heap.size ≤ k := by
    rintro k (e | e | e | e | e | e)
    · exact .inl (.inl e)
    · exact .inl (.inr (.inl e))
    · exact .inl (.inr (.inr (.inl e)))
    · exact .inl (.inr (.inr (.inr (.inl e))))
    · rcases hown' k e with r | r
      · exact .inl (.inr (.inr (.inr (.inr (.inl r)))))
      · exact .inr r
    · exact .inl (.inr (.inr (.inr (.inr (.inr e)))))
  have hbl : ∀ k, m.base b k → k < w3.heap.size := fun k e => h.klt k (h.kk k e)
  have hQ7 := hQ.sole S67 fun k e => by
    rcases hown k e with r | r
    · exact (h.apart.w k r).1
    · omega
  have hwt := hQ.within
  have ht7 : ∀ x : OcS, x.soft w3 ∧ x.full K m b → x.soft (w6.setCell ⟨b, 3, none⟩ (.slice q (m.Qs.length + 1) c)) ∧ x.full (fun k => K k ∨ (w3.heap.size ≤ k ∧ k < w6.heap.size)) (m.wrote z y q c) b := by
    rintro x ⟨ht, g', e, kg, hg', r⟩
    refine ⟨so_sole ht ST fun b' o e' => ?_, g', e, .inl kg, fun hb => ?_, r⟩
    · rw [e] at e'; cases e'
      rintro (r' | r' | r')
      · exact hg' (.inl r')
      · exact hg' (.inr (.inl r'))
      · exact hg' (.inr (.inr (.inr (.inr (.inl r')))))
    · rcases hbase g' hb with r' | r'
      · exact hg' r'
      · have := h.klt g' kg; omega
  refine ⟨?_, ST.mono fun k _ e => ?_⟩
  · exact
    { blk := by
        have : (m.wrote z y q c).cells = m.cells.setIfInBounds 3 (.slice q (m.Qs.length + 1) c) := by
          simp [DM.cells, DM.wrote, DM.wv, hlen]
        rw [this]
        exact B7
      apart := ⟨h.apart.bl, h.apart.bo, h.apart.lo, fun k e => ⟨(h.apart.s k e).1, (h.apart.s k e).2.1, (h.apart.s k e).2.2.1, fun e' => by
          rcases hown' k e' with r | r
          · exact (h.apart.s k e).2.2.2.1 r
          · have := ks k e; omega, (h.apart.s k e).2.2.2.2⟩, fun k e => by
          rcases hown' k e with r | r
          · exact h.apart.w k r
          · exact ⟨by omega, show k ≠ m.lm by omega, show k ≠ m.om by omega, fun e' => by have := kf k e'; omega⟩, h.apart.f⟩
      kk := fun k hk => by
        rcases hbase k hk with r | r
        · exact .inl (h.kk k r)
        · refine .inr ⟨by omega, ?_⟩
          rcases hk with e | e | e | e | e | e
          · omega
          · have : k = m.lm := e; omega
          · have : k = m.om := e; omega
          · have := ks k e; omega
          · have := hwt k (by simpa [DM.wv, DM.wrote, Value.ownBlock] using e); omega
          · have := kf k e; omega
      klt := fun k hk => by
        rw [s7]
        rcases hk with r | r
        · have := h.klt k r; omega
        · exact r.2
      S := h.S.sole ST fun k e => by
        rintro (r | r | r)
        · exact (h.apart.s k e).1 r
        · exact (h.apart.s k e).2.1 r
        · exact (h.apart.s k e).2.2.2.1 r
      SO := fun x hx => ht7 x (h.SO x hx)
      Q := by
        show RowOwn wtT _ 0 (.slice q (m.Qs ++ [(⟨z, y⟩ : WtS)]).length c) (m.Qs ++ [⟨z, y⟩])
        rw [hlen]
        exact hQ7
      QO := fun y' hy' => by
        rcases List.mem_append.1 hy' with r | r
        · exact ⟨ht7 _ (h.QO y' r).1, (h.QO y' r).2⟩
        · simp only [List.mem_singleton] at r
          subst r
          refine ⟨⟨so_sole (so_sole hy S56 fun b' o e' => ?_) S67 fun b' o e' => ?_, g, hya, .inr ⟨by omega, by omega⟩, fun hb => ?_, hyl⟩, hz0, hz1⟩
          · rw [show (⟨z, y⟩ : WtS).x.a = some ⟨g, 0, none⟩ from hya] at e'; cases e'
            intro e2
            have := kw _ e2; omega
          · rw [show (⟨z, y⟩ : WtS).x.a = some ⟨g, 0, none⟩ from hya] at e'; cases e'
            omega
          · rcases hbase g hb with r' | r'
            · have := hbl g r'; omega
            · omega
      F := h.F.sole ST fun k e => by
        rintro (r | r | r)
        · exact (h.apart.f k e).1 r
        · exact (h.apart.f k e).2.1 r
        · exact (h.apart.w k r).2.2.2 e
      L := map_sole (map_sole (map_sole hL (Sole.made (S := fun _ => False) b45) id) S56 (fun e => (h.apart.w _ e).2.1 rfl)) S67 (fun e => h.apart.bl e.symm)
      O := map_sole h.O ST (by
        rintro (r | r | r)
        · exact h.apart.bo r.symm
        · exact h.apart.lo r.symm
        · exact (h.apart.w _ r).2.2.1 rfl)
      last := by
        have := h.last.snoc z hz
        rw [List.length_map] at this
        show LastOk _ ((m.Qs ++ [(⟨z, y⟩ : WtS)]).map (·.at_))
        rw [List.map_append]
        exact this
      lenS := h.lenS
      cwf := h.cwf
      fwf := h.fwf
      uniq := by
        have hfr : ∀ x : OcS, x.full K m b → x.a ≠ y.a := fun x ⟨g', e, kg, _⟩ e' => by
          rw [e, hya] at e'; cases e'
          have := h.klt _ kg; omega
        refine ⟨h.uniq.s, ?_, fun s i hs hi e => ?_⟩
        · show ((m.Qs ++ [(⟨z, y⟩ : WtS)]).map fun y => y.x.a).Nodup
          rw [List.map_append, List.nodup_append]
          refine ⟨h.uniq.q, by simp, fun a ha c' hc => ?_⟩
          simp only [List.map_cons, List.map_nil, List.mem_singleton] at hc
          obtain ⟨y', hy', rfl⟩ := List.mem_map.1 ha
          rw [hc]
          exact hfr _ (h.QO y' hy').1.2
        · have hi' : i < m.Qs.length + 1 := by rw [← hlen]; exact hi
          by_cases hil : i < m.Qs.length
          · have e1 : atR wtT (m.Qs ++ [(⟨z, y⟩ : WtS)]) i = atR wtT m.Qs i := by unfold atR; rw [List.getElem?_append_left hil]
            have e' : (ocA m.Ls s).a = (atR wtT (m.Qs ++ [(⟨z, y⟩ : WtS)]) i).x.a := e
            rw [e1] at e'
            show (s : Int) = (atR wtT (m.Qs ++ [(⟨z, y⟩ : WtS)]) i).at_
            rw [e1]
            exact h.uniq.sq s i hs hil e'
          · obtain rfl : i = m.Qs.length := by omega
            have e1 : atR wtT (m.Qs ++ [(⟨z, y⟩ : WtS)]) m.Qs.length = ⟨z, y⟩ := by unfold atR; rw [List.getElem?_append_right (Nat.le_refl _)]; simp
            have e' : (ocA m.Ls s).a = (atR wtT (m.Qs ++ [(⟨z, y⟩ : WtS)]) m.Qs.length).x.a := e
            rw [e1] at e'
            exact absurd e' (hfr _ (h.SO _ (ocA_mem m.Ls s hs)).2) }
  · rcases e with r | r | r
    · exact r ▸ h.kk b (.inl rfl)
    · exact r ▸ h.kk _ (.inr (.inl rfl))
    · exact h.kk k (.inr (.inr (.inr (.inr (.inl r)))))

theorem step_append_run {P : Program} {ops : Array Oper} {o : Oper} {a : Act} {w : World} {K : Act → World → Prop} {Q : Exit → Act → World → Prop} {E : Prop} (hgd : o.guard = none) (s x : Operand) (t : TypeId)
    (ho : o.op = .call { callee := .builtin .append, args := #[s, x], argTypes := #[t, t] }) (v u : Value) (hs : a.eval s = v) (hx : a.eval x = u) (v' : Value) (w' : World) (hr : ∀ ty, (Builtin.append_ #[t, t] ty #[v, u]).run P w = .ok v' w') (h : K (a.put o.dst v') w') :
    if Region.wanted o (yielded ops a.tmps) = true then Oper.wp P o a w K Q else E := by
  rw [if_pos (by simp [Region.wanted, hgd])]
  unfold Oper.wp
  simp [execOp, ho, resolve, invoke, builtin, hs, hx, hr, Result.andThen]
  exact h
/-- The memory of a write, ahead of its walk. -/
theorem write_mem {w3 w4 w5 : World} {b : Nat} {m : DM} {K : Nat → Prop} (h : DiskM w3 b m K) {z : Int} (hz : (Lit.int .i64 z).wf = true) (hz0 : 0 ≤ z) (hz1 : z < (m.Ls.length : Int)) (hq : m.Qs.length ≤ 1000000)
    (S34 : Sole (fun k => k = m.lm) w3 w4) (hL : w4.ownsMap Try.prog 3 (plainElem Try.prog 3) m.lm (m.n + 1) (m.DL.put (.int .i64 z) (.lit (.int .i64 (m.Qs.length : Int)))))
    {l : List UInt8} (hl : l.length = 256) {v : Value} (hF : Fresh w4 w5 v l) :
    ∃ a5 c5, v = .slice a5 256 c5 ∧ Blk w5 b m.cells ∧ ∃ q c w10, (∀ ty, (Builtin.append_ #[82, 82] ty #[.slice m.wp m.Qs.length m.wc, .slice (some ⟨w5.heap.size, 0, none⟩) 1 1]).run Try.prog (w5.alloc (.cells #[.int .i64 z, .slice a5 256 c5] 118)) = .ok (.slice q (m.Qs.length + 1) c) w10) ∧
      Blk w10 b m.cells ∧ ∃ (y : OcS) (K1 : Nat → Prop), y.l = l ∧ DiskM (w10.setCell ⟨b, 3, none⟩ (.slice q (m.Qs.length + 1) c)) b (m.wrote z y q c) K1 ∧ Sole K w3 (w10.setCell ⟨b, 3, none⟩ (.slice q (m.Qs.length + 1) c)) ∧ ∀ k, K1 k → K k ∨ w3.heap.size ≤ k := by
  obtain ⟨a5, c5, rfl, O5, hb5⟩ := hF
  have hoc := Octs.of_own O5
  obtain ⟨g, cap', cur, he, hbg, hlc, hcm, B5', _, _⟩ := own_blk O5 (by omega)
  simp only [Value.slice.injEq] at he
  obtain ⟨rfl, _, rfl⟩ := he
  have hbA : Below w5.heap.size w5 (w5.alloc (.cells #[.int .i64 z, .slice (some ⟨g, 0, none⟩) 256 c5] 118)) := (Below.refl _ _).alloc (Nat.le_refl _) _
  have Bn := Blk.new w5 #[.int .i64 z, .slice (some ⟨g, 0, none⟩) 256 c5] 118
  have hsA : (w5.alloc (.cells #[.int .i64 z, .slice (some ⟨g, 0, none⟩) 256 c5] 118)).heap.size = w5.heap.size + 1 := by simp
  have B4 := h.blk.sole S34 h.apart.bl
  have B5 := B4.more hb5
  refine ⟨_, _, by rw [hl], B5, ?_⟩
  generalize w5.alloc (.cells #[.int .i64 z, .slice (some ⟨g, 0, none⟩) 256 c5] 118) = wA at *
  have Q4 := h.Q.sole S34 (fun k e e' => (h.apart.w k e).2.1 e')
  have QA := (Q4.more hb5).more hbA
  obtain ⟨q, c, w10, hr, O10, S10, own10⟩ := wt_grow QA (by omega) (⟨z, ⟨some ⟨g, 0, none⟩, c5, l⟩⟩ : WtS) (by rw [hl]; exact Bn)
  have b4A : Below w4.heap.size w4 wA := below2 hb5 hbA hb5.size
  have B10 := (B5.more hbA).sole S10 (fun e => (h.apart.w b e).1 rfl)
  have hthere : (⟨some ⟨g, 0, none⟩, c5, l⟩ : OcS).soft wA := ⟨⟨hoc.more hbA, hlc, hcm⟩, fun b' o e => by cases e; exact ⟨(B5'.more hbA).lt, fun i => (B5'.more hbA).frz i⟩⟩
  obtain ⟨Dw, Sw⟩ := h.wrote hz hz0 hz1 S34 hL b4A hthere hl rfl hbg (by have := B5'.lt; have := hbA.size; omega) S10 O10 own10
  exact ⟨q, c, w10, hr, B10, ⟨some ⟨g, 0, none⟩, c5, l⟩, fun k => K k ∨ (w3.heap.size ≤ k ∧ k < w10.heap.size), rfl, Dw, Sw, fun k hk => hk.imp id (·.1)⟩

set_option maxRecDepth 100000 in
set_option maxHeartbeats 4000000 in
theorem write_any {G : (Nat → Prop) → DM → World → World → Prop} (m : DM) (b : Nat) (z : Int) (K : Nat → Prop) (w : World) (D : DiskM w b m K) (x : OcS) (hx : x.there w) (hxK : ∀ b' o, x.a = some ⟨b', o, none⟩ → ¬ K b') (hxl : x.l.length = 256)
    (hz : (Lit.int .i64 z).wf = true) (hz0 : 0 ≤ z) (hz1 : z < (m.Ls.length : Int)) (htr : m.trb = false) (hn : m.n < 1000000) (hq : m.Qs.length ≤ 1000000)
    (KG : ∀ y q c w1 K1, DiskM w1 b (m.after.wrote z y q c).counted K1 → Calls Try.prog 69 #[.pointer (some ⟨b, 0, none⟩)] w1 fun e w' => e = .returned (.tuple #[]) ∧ G K1 (m.after.wrote z y q c).counted w1 w') :
    Calls Try.prog 23 #[.pointer (some ⟨b, 0, none⟩), .int .i64 z, .slice x.a 256 x.cap] w fun e w' => e = .returned (.int .i64 0) ∧
      ∃ y q c w1 K1, y.l = x.l ∧ DiskM w1 b (m.after.wrote z y q c).counted K1 ∧ Sole K w w1 ∧ (∀ k, K1 k → K k ∨ w.heap.size ≤ k) ∧ G K1 (m.after.wrote z y q c).counted w1 w' := by
  have KT := hid (trouble_any m b w D.blk)
  have Dh := hid D
  have hxh := hid hx
  have hxKh := hid hxK
  have hxlh := hid hxl
  have ht := htr
  have KGh := hid KG
  clear D htr hx hxK hxl KG
  simp only [ht, Bool.false_eq_true, if_false, ↓reduceIte] at KT
  go_enter Try.func23, Try.ntmps23
  go_wp2_with fail
  refine KT.out.mono ?_
  rintro e w1 ⟨rfl, hB, hS⟩
  have D1 := hid (Dh.out.after hB hS)
  have S1 := hid (hS.mono (T := K) fun k _ e => e ▸ Dh.out.kk _ (.inl rfl))
  have X1 := hid (oc_sole hxh.out hS fun b' o e e' => hxKh.out b' o e (e' ▸ Dh.out.kk _ (.inl rfl)))
  have KH := has_any m.after b z w1 hB
  rw [show decide (0 ≤ z ∧ z < (m.after.Ls.length : Int)) = true from decide_eq_true ⟨hz0, hz1⟩] at KH
  replace KH := hid KH
  have B1 : Blk w1 b #[.bool true, .bool m.off, .slice m.sp m.Ls.length m.sc, .slice m.wp m.Qs.length m.wc, .map (some m.lm), .map (some m.om), .bool m.tl, .int .i64 m.cl, .slice m.fp m.Fs.length m.fc, .bool m.after.tf, .int .i64 m.after.fl] := hB
  generalize m.after.tf = atf at B1
  generalize m.after.fl = afl at B1
  clear hB hS KT Dh hxh
  go_wp2_with fail
  refine KH.out.mono ?_
  rintro e w2 ⟨rfl, hw⟩
  rw [hw]
  clear hw w2 KH
  go_wp2_with fail
  have q0 := fun u : Later w1 => u.blk B1
  refine wp_region_late 10 (by kernel_rfl) (by kernel_rfl) ?_
  simp only [List.take_succ_cons, List.take_zero, List.drop_succ_cons, List.drop_zero]
  repeat (go_big_quiet_step (fail))
  refine wpQuiet_nil ?_
  intro w3 h3'
  have h3 := late_out h3'
  clear h3' q0
  have D3 := hid (D1.out.more h3)
  have X3 := hid (X1.out.more h3)
  have S3 := hid (S1.out.trans (Sole.made h3))
  have HL := hid (show w3.ownsMap Try.prog 3 (plainElem Try.prog 3) m.lm m.n m.DL from D3.out.L)
  have B3 := B1.more h3
  have hkey := keyOf_int_mk (P := Try.prog) Try.underlying3 hz
  have hql : (Lit.int .i64 (m.Qs.length : Int)).wf = true := by
    rw [show (m.Qs.length : Int) = wrap64 (m.Qs.length : Int) by unfold wrap64; omega]
    exact wrap64_wf _
  clear D1 S1 X1 B1 h3
  go_wp2_with (at_mapUpdate; refine wpList_mapUpdate_own _ rfl _ _ _ 80 rfl 3 3 dlawK Try.underlying80 _ m.lm m.n m.DL rfl HL.out (by unfold maxLen; omega) _ _ _ rfl rfl hkey _ [] (plainElem_int Try.underlying3 hql) ?_; intro w4 hown4 hgrow4)
  have S34 : Sole (fun k => k = m.lm) w3 w4 := Sole.grown hgrow4 (fun k e => by cases e; rfl)
  have X4 := oc_sole X3.out S34 fun b' o e e' => hxKh.out b' o e (e' ▸ D3.out.kk _ (.inr (.inl rfl)))
  have B4 := B3.sole S34 D3.out.apart.bl
  have KC : Hid (∀ W', Below w4.heap.size w4 W' → Calls Try.prog 54 #[.slice x.a 256 x.cap] W' fun e w' => ∃ v, e = .returned v ∧ Fresh W' w' v x.l) := hid (fun W' hb => by
    have := bclone_any x.l x.a x.cap W' (X4.more hb).1 (by rw [hxlh.out]; omega)
    rw [hxlh.out] at this
    exact this)
  have hown4h := hid (show w4.drew.ownsMap Try.prog 3 (plainElem Try.prog 3) m.lm (m.n + 1) (m.DL.put (.int .i64 z) (.lit (.int .i64 (m.Qs.length : Int)))) from hown4.drew)
  have S34h := hid S34.drew
  clear hown4 hgrow4 S34 X4 X3 B3 HL
  obtain ⟨l4, k4, f4⟩ := B4
  go_region_law (first
    | (refine step_append_run (by rfl) _ _ _ (by rfl) _ _ (by rfl) (by rfl) _ _ hr ?_)
    | (go_simp; (with_reducible refine (KC.out _ (Below.refl _ _).drew).mono ?_); rintro e w5 ⟨v, rfl, hF⟩; obtain ⟨a5, c5, rfl, ⟨l5, k5, f5⟩, q, c, w10, hr, ⟨l10, k10, f10⟩, hEx⟩ := write_mem D3.out hz hz0 hz1 hq S34h.out hown4h.out hxlh.out hF; replace hEx := hid hEx; simp only [DM.cells, DM.sv, DM.wv, DM.fv] at k5 k10; clear hF))
  all_goals
    obtain ⟨y, K1, hy, Dw, Sw, hK1⟩ := hEx.out
    have KCt := hid (count_any (G := fun m1 w1 w' => G K1 m1 w1 w') (m.after.wrote z y q c) b K1 _ Dw (fun w1 D1 => KGh.out y q c w1 K1 D1))
    have E := hid (And.intro hy (And.intro (S3.out.trans Sw) hK1))
    have hsz := hid S3.out.size
    clear hEx Dw Sw hK1 hy hr l5 k5 f5 l10 k10 f10 l4 k4 f4
    go_wp2_with fail
    refine KCt.out.mono ?_
    rintro e w9 ⟨rfl, w8, D8, S8, hG⟩
    have E2 := hid (show ∃ y q c w1 K1, y.l = x.l ∧ DiskM w1 b (m.after.wrote z y q c).counted K1 ∧ Sole K w w1 ∧ (∀ k, K1 k → K k ∨ w.heap.size ≤ k) ∧ G K1 (m.after.wrote z y q c).counted w1 w9 from
      ⟨y, q, c, w8, K1, E.out.1, D8, E.out.2.1.trans' S8 (fun k hk e => (E.out.2.2 k e).resolve_right (by have := hsz.out; omega)), fun k e => (E.out.2.2 k e).imp id (fun h => Nat.le_trans hsz.out h), hG⟩)
    clear D8 S8 hG KCt E
    go_wp2_with fail
    go_ret
    exact ⟨rfl, E2.out⟩
end Go.Proofs.Ytpgibngohbohdaa
