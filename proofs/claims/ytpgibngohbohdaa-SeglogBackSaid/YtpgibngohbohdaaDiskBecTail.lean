/-
  Package disk: become, from where it is known what a sector becomes. (Written by wip/tools/genbecome.py.)
-/
import Derived.Test.YtpgibngohbohdaaDiskBecame
import Derived.Test.YtpgibngohbohdaaRegion
import Derived.BigQuiet
import Derived.OwnWalk
namespace Go.Proofs.Ytpgibngohbohdaa
open Go.RowKit Go.Maps
set_option linter.unusedVariables false
set_option linter.unusedSimpArgs false

/-- The code from a region on. -/
def codeFrom' (n : Nat) : Code → Option Code
  | .seq (.region m o d) b => if m = n then some (.seq (.region m o d) b) else codeFrom' n b
  | .seq _ b => codeFrom' n b
  | _ => none
noncomputable def becC : Code := ((Try.f65.body.bind (codeFrom' 6)).getD .skip)

/-- The memory of a store into the sure sectors. -/
theorem sure_set {w w1 : World} {b : Nat} {m : DM} {K : Nat → Prop} (h : DiskM w b m K) (b01 : Below w.heap.size w w1) {i : Nat} (hi : i < m.Ls.length) (x : OcS) (hl : x.l.length = 256) :
    ∃ sg v0, m.sp = some ⟨sg, 0, none⟩ ∧ m.sv.ownBlock = some sg ∧ sg < w1.heap.size ∧ w1.cell? ⟨sg, i, none⟩ = some v0 ∧ w1.frozen? ⟨sg, i, none⟩ = false ∧
      RowOwn ocT (w1.setCell ⟨sg, i, none⟩ (.slice x.a 256 x.cap)) 0 m.sv (m.Ls.set i x) ∧ Sole (fun k => k = sg) w1 (w1.setCell ⟨sg, i, none⟩ (.slice x.a 256 x.cap)) := by
  have S1 := h.S.more b01
  obtain ⟨g, cap, cur, hv, _, hnc, hcm, B, hcs, _⟩ := own_blk S1 (by omega)
  have e1 : m.sp = some ⟨g, 0, none⟩ := by have := hv; simp only [DM.sv, Value.slice.injEq] at this; exact this.1
  have e2 : m.sv.ownBlock = some g := by rw [hv]; rfl
  have hset := rowO_set (j := i) (x := x) (hv ▸ S1) rfl
  refine ⟨g, cur[i]'(by omega), e1, e2, B.lt, by rw [B.cell]; exact Array.getElem?_eq_getElem (by omega), B.frz i, ?_, Sole.setCell _ _ rfl⟩
  rw [hl] at hset
  rw [hv]
  exact hset
/-- Which sectors are odd then. -/
def oddL (l old now : List UInt8) (was : Bool) : Bool := if now = l then false else if now = old then was else true

set_option maxRecDepth 100000 in
set_option maxHeartbeats 8000000 in
theorem becTail {R : Ending → World → Prop} {b Bw : Nat} {m : DM} {K : Nat → Prop} {w w1 : World} (h : DiskM w b m K) (b01 : Below w.heap.size w w1) {i : Nat} (hi : i < m.Ls.length) (y x oldO : OcS) (hy : y.there w1) (hyl : y.l.length = 256) (hx : x.soft w1) (hxl : x.l.length = 256) (ho : oldO.there w1) (hol : oldO.l.length = 256)
    (hyS : ∀ b' o, y.a = some ⟨b', o, none⟩ → ¬ (m.sv.ownBlock = some b' ∨ b' = m.om)) (hxS : ∀ b' o, x.a = some ⟨b', o, none⟩ → ¬ (m.sv.ownBlock = some b' ∨ b' = m.om)) (hoS : ∀ b' o, oldO.a = some ⟨b', o, none⟩ → ¬ (m.sv.ownBlock = some b' ∨ b' = m.om))
    (hnow : (∃ j, j < m.Qs.length ∧ x = (atR wtT m.Qs j).x ∧ (atR wtT m.Qs j).at_ = (i : Int)) ∨ (∃ g, x.a = some ⟨g, 0, none⟩ ∧ w.heap.size ≤ g ∧ g < w1.heap.size))
    (BW : Blk w1 Bw #[.int .i64 (i : Int), .slice y.a 256 y.cap]) (hBw : w.heap.size ≤ Bw) (hn : m.n' < 1000000)
    (hR : ∀ w' DO n' K1, DiskM w' b (m.became i x DO n') K1 → n' ≤ m.n' + 1 → (∀ z : Int, (Lit.int .i64 z).wf = true → Maps.has DO (.int .i64 z) = if z = (i : Int) then oddL y.l oldO.l x.l (Maps.has m.DO (.int .i64 z)) else Maps.has m.DO (.int .i64 z)) → Sole (fun k => m.sv.ownBlock = some k ∨ k = m.om) w w' → (∀ k, K1 k → K k ∨ w.heap.size ≤ k) → R (.returned (.tuple #[])) w')
    {u1 u2 u3 u5 u8 u9 u10 u11 u12 u13 u14 u15 u16 u17 u18 u19 u20 u21 u22 u23 u24 u25 u26 u27 u28 u29 u30 u31 u32 : Value} :
    Code.wp Try.prog becC (bodyPost Try.prog Try.f65 R) ⟨#[.pointer (some ⟨b, 0, none⟩), u1, u2, u3, .pointer (some ⟨Bw, 0, none⟩), u5, .slice oldO.a 256 oldO.cap, .slice x.a 256 x.cap, u8, u9, u10, u11, u12, u13, u14, u15, u16, u17, u18, u19, u20, u21, u22, u23, u24, u25, u26, u27, u28, u29, u30, u31, u32, undef, undef, undef, undef, undef, undef, undef, undef, undef, undef, undef, undef, undef, undef, undef, undef, undef, undef, undef, undef, undef, undef, undef, undef, undef, undef, undef, undef, undef, undef, undef], []⟩ w1 := by
  conv => arg 2; whnf
  have B1 := (h.more b01).blk
  simp only [DM.cells, DM.sv, DM.wv, DM.fv] at B1
  have hi' : (i : Int) < (m.Ls.length : Int) := by omega
  have hi0 : (0 : Int) ≤ (i : Int) := by omega
  replace hR := hid hR
  replace h := hid h
  replace hnow := hid hnow
  replace hx := hid hx
  replace hy := hid hy
  replace ho := hid ho
  replace hxS := hid hxS
  replace hyS := hid hyS
  replace hoS := hid hoS
  replace b01 := hid b01
  have hilen := hid hi
  have hxlh := hid hxl
  have hylh := hid hyl
  have holh := hid hol
  clear hi hxl hyl hol
  obtain ⟨sg, _, e1, _⟩ := sure_set h.out b01.out hilen.out x hxlh.out
  rw [e1] at B1
  have hkey := keyOf_int_mk (P := Try.prog) Try.underlying3 (show (Lit.int .i64 (i : Int)).wf = true by
    have := h.out.lenS
    have := hilen.out
    rw [show (i : Int) = wrap64 (i : Int) by unfold wrap64; omega]
    exact wrap64_wf _)
  have q0 := fun u : Later w1 => u.blk B1
  have q1 := fun u : Later w1 => u.blk BW
  refine wp_seq_k (fun K6 hK6 => ?_)
  refine wp_region_late 8 (by kernel_rfl) (by kernel_rfl) ?_
  simp only [List.take_succ_cons, List.take_zero, List.drop_succ_cons, List.drop_zero]
  repeat (go_big_quiet_step (fail))
  refine wpQuiet_nil ?_
  intro w2 h2'
  have h2 := late_out h2'
  clear h2' q0 q1
  have b02 := hid (below2 b01.out h2 b01.out.size)
  obtain ⟨sg', v0, e1', e2, hlt, hc, hf, hrow, hsole⟩ := sure_set h.out b02.out hilen.out x hxlh.out
  obtain rfl : sg' = sg := by rw [e1] at e1'; cases e1'; rfl
  have hks := h.out.klt sg' (h.out.kk _ (.inr (.inr (.inr (.inl e2)))))
  have hko := h.out.klt m.om (h.out.kk _ (.inr (.inr (.inl rfl))))
  have X3 := oc_sole (hx.out.more h2).1 hsole (fun b' o e e' => hxS.out b' o e (.inl (e' ▸ e2)))
  have Y3 := oc_sole (hy.out.more h2) hsole (fun b' o e e' => hyS.out b' o e (.inl (e' ▸ e2)))
  have O3 := oc_sole (ho.out.more h2) hsole (fun b' o e e' => hoS.out b' o e (.inl (e' ▸ e2)))
  have KE := bequal_any x.l y.l x.a y.a x.cap y.cap _ X3.1 Y3.1
  have KE2 := bequal_any x.l oldO.l x.a oldO.a x.cap oldO.cap _ X3.1 O3.1
  rw [hxlh.out, hylh.out] at KE
  rw [hxlh.out, holh.out] at KE2
  replace KE := hid KE
  replace KE2 := hid KE2
  have B3 := (B1.more h2).sole hsole (fun e => (h.out.apart.s b (e ▸ e2)).1 rfl)
  have W3 := (BW.more h2).sole hsole (by omega)
  have M3 := hid (map_sole (h.out.more b02.out).O hsole (fun e => (h.out.apart.s _ (e ▸ e2)).2.2.1 rfl))
  have H2 := hid (show w2.heap.size = w2.heap.size from rfl)
  have hxw2 := hid (hx.out.more h2)
  have hnow2 : Hid ((∃ j, j < m.Qs.length ∧ x = (atR wtT m.Qs j).x ∧ (atR wtT m.Qs j).at_ = (i : Int)) ∨ (∃ g, x.a = some ⟨g, 0, none⟩ ∧ w.heap.size ≤ g ∧ g < w2.heap.size)) := hid (hnow.out.imp id fun ⟨g, e, h1, h3⟩ => ⟨g, e, h1, Nat.lt_of_lt_of_le h3 h2.size⟩)
  have FIN : Hid (∀ (w5 : World) (DO : DataW Unit) (n' : Nat), Sole (fun k => k = m.om) (w2.setCell ⟨sg', i, none⟩ (.slice x.a 256 x.cap)) w5 → w5.ownsMap Try.prog 3 unitElem m.om n' DO → n' ≤ m.n' + 1 →
      (∀ z : Int, (Lit.int .i64 z).wf = true → Maps.has DO (.int .i64 z) = if z = (i : Int) then oddL y.l oldO.l x.l (Maps.has m.DO (.int .i64 z)) else Maps.has m.DO (.int .i64 z)) → R (.returned (.tuple #[])) w5) := hid (fun w5 DO n' S5 O5 hn5 hz => by
    have S25 : Sole (fun k => m.sv.ownBlock = some k ∨ k = m.om) w2 w5 := (hsole.mono fun k _ e => .inl (e ▸ e2)).trans (S5.mono fun k _ e => .inr e)
    refine hR.out w5 DO n' _ (h.out.became hilen.out b02.out hxw2.out hxlh.out hnow2.out S25 (hrow.sole S5 fun k e e' => (h.out.apart.s k e).2.2.1 e') O5) hn5 hz ((Sole.made b02.out).trans S25) ?_
    exact fun k hk => hk.imp id (·.1))
  have W3h := hid W3
  replace B3 := hid B3
  obtain ⟨lw, kw, fw⟩ := W3
  clear hrow X3 Y3 O3 B1 BW h2 hnow hnow2 hxw2 b01 hR hxS hyS hoS hx hy ho H2
  go_wp2_with fail
  generalize w2.setCell ⟨sg', i, none⟩ (.slice x.a 256 x.cap) = w3 at *
  clear hc hf hlt hsole
  refine KE.out.mono ?_
  rintro e w' ⟨rfl, hw⟩
  rw [hw]
  clear hw w' KE
  cases hd : decide (x.l = y.l) with
  | true =>
    have hxy : x.l = y.l := of_decide_eq_true hd
    replace hxy := hid hxy
    clear hd KE2
    go_wp2_with fail
    have q0 := fun u : Later w3 => u.blk B3.out
    have q1 := fun u : Later w3 => u.blk W3h.out
    refine wp_region_late 6 (by kernel_rfl) (by kernel_rfl) ?_
    simp only [List.take_succ_cons, List.take_zero, List.drop_succ_cons, List.drop_zero]
    repeat (go_big_quiet_step (fail))
    refine wpQuiet_nil ?_
    intro w4 h4'
    have h4 := late_out h4'
    clear h4' q0 q1
    have M4 := hid (map_sole M3.out (Sole.made (S := fun _ => False) h4) id)
    have S4 := hid (Sole.made (S := fun k => k = m.om) h4)
    clear h4 B3 W3h M3 lw kw fw
    go_wp2_with (at_delete; refine wpList_delete_own _ rfl _ _ 81 3 rfl 102 dlawK Try.underlying81 _ m.om m.n' m.DO rfl M4.out _ _ rfl hkey ?_; intro w5 hown5 hturn5)
    refine bodyPost_end (results_none rfl _ _ _) rfl ?_
    refine FIN.out w5 _ m.n' (S4.out.trans (Sole.grown hturn5.grown fun k e => by cases e; rfl)) hown5 (by omega) fun z hz => ?_
    unfold oddL
    rw [if_pos hxy.out]
    by_cases hzi : z = (i : Int)
    · subst hzi
      rw [if_pos rfl, has_del_same]
    · rw [if_neg hzi, has_del_other (fun e => hzi (by cases e; rfl))]
  | false =>
    have hxy : ¬ x.l = y.l := of_decide_eq_false hd
    replace hxy := hid hxy
    clear hd
    go_wp2_with fail
    refine KE2.out.mono ?_
    rintro e w' ⟨rfl, hw⟩
    rw [hw]
    clear hw w' KE2
    cases hd : decide (x.l = oldO.l) with
    | true =>
      have hxo : x.l = oldO.l := of_decide_eq_true hd
      replace hxo := hid hxo
      clear hd
      go_wp2_with fail
      refine bodyPost_end (results_none rfl _ _ _) rfl ?_
      refine FIN.out w3 m.DO m.n' (Sole.refl _ _) M3.out (by omega) fun z hz => ?_
      unfold oddL
      rw [if_neg hxy.out, if_pos hxo.out]
      split <;> rfl
    | false =>
      have hxo : ¬ x.l = oldO.l := of_decide_eq_false hd
      replace hxo := hid hxo
      clear hd
      go_wp2_with fail
      have q0 := fun u : Later w3 => u.blk B3.out
      have q1 := fun u : Later w3 => u.blk W3h.out
      refine wp_region_late 7 (by kernel_rfl) (by kernel_rfl) ?_
      simp only [List.take_succ_cons, List.take_zero, List.drop_succ_cons, List.drop_zero]
      repeat (go_big_quiet_step (fail))
      refine wpQuiet_nil ?_
      intro w4 h4'
      have h4 := late_out h4'
      clear h4' q0 q1
      have M4 := hid (map_sole M3.out (Sole.made (S := fun _ => False) h4) id)
      have S4 := hid (Sole.made (S := fun k => k = m.om) h4)
      clear h4 B3 W3h lw kw fw
      go_wp2_with (at_mapUpdate; refine wpList_mapUpdate_own _ rfl _ _ _ 81 rfl 3 102 dlawK Try.underlying81 _ m.om m.n' m.DO rfl M4.out (by unfold maxLen; omega) _ _ _ rfl rfl hkey _ [] unitElem_mk ?_; intro w5 hown5 hgrow5)
      refine bodyPost_end (results_none rfl _ _ _) rfl ?_
      refine FIN.out w5 _ (m.n' + 1) (S4.out.trans (Sole.grown hgrow5 fun k e => by cases e; rfl)) hown5 (Nat.le_refl _) fun z hz => ?_
      unfold oddL
      rw [if_neg hxy.out, if_neg hxo.out]
      by_cases hzi : z = (i : Int)
      · subst hzi
        rw [if_pos rfl, has_put_same M3.out.isMap (dlawK.key hkey)]
      · rw [if_neg hzi, has_put_other (fun e => hzi (by cases e; rfl))]
end Go.Proofs.Ytpgibngohbohdaa
