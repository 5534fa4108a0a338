/-
  Package disk: forget, Read.
-/
import Derived.Test.YtpgibngohbohdaaDiskTrb
import Derived.Test.YtpgibngohbohdaaBytesClone
namespace Go.Proofs.Ytpgibngohbohdaa
open Go.RowKit Go.Maps Go.MapKept Go.ChangeMaps Go.WideShapes
set_option linter.unusedVariables false
set_option linter.unusedSimpArgs false

theorem run_clear_own {R : Value → Option (DataW Unit × List MemPlace)} {w : World} {r n : Nat} {D : DataW Unit} (t e : TypeId) (ht : Try.prog.underlying t = some (.map 3 e)) (h : w.ownsMap Try.prog 3 R r n D) :
    ∃ w', (∀ ty, (Builtin.clear_ #[t] ty #[.map (some r)]).run Try.prog w = .ok (.tuple #[]) w') ∧ w'.ownsMap Try.prog 3 R r 0 (.map []) ∧ Sole (fun k => k = r) w w' := by
  obtain ⟨es, clock, hb, F, _, rfl⟩ := h
  refine ⟨setBlock w r (.map #[] clock), fun ty => by simp [Builtin.clear_, run_underlying ht, MapKept.run_getObj_map hb, run_setObj_map _ hb, Result.andThen, setBlock], ⟨#[], clock, heap_setBlock_same hb _, ⟨by simp, stamped_empty clock, by simp⟩, Nat.le_refl _, rfl⟩, rfl, rfl, rfl, by simp [setBlock], fun k hk hn => heap_setBlock_other hb _ hn⟩

/-- Nothing waits any more. -/
def DM.clean (m : DM) : DM := { m with wp := none, wc := 0, Qs := [], n := 0, DL := .map [] }
theorem base_clean {m : DM} {b g : Nat} (h : m.clean.base b g) : m.base b g := by
  rcases h with h | h | h | h | h | h
  · exact .inl h
  · exact .inr (.inl h)
  · exact .inr (.inr (.inl h))
  · exact .inr (.inr (.inr (.inl h)))
  · cases h
  · exact .inr (.inr (.inr (.inr (.inr h))))
/-- What was said of a disk is said of it, when two of its parts are others: its own struct, and a map. -/
theorem DiskM.forgot {w w1 w2 : World} {b : Nat} {m : DM} {K : Nat → Prop} (h : DiskM w b m K) (s1 : Sole (fun k => k = b) w w1) (B : Blk w1 b (m.cells.setIfInBounds 3 (.slice none 0 0))) (s2 : Sole (fun k => k = m.lm) w1 w2)
    (hL : w2.ownsMap (H := Unit) Try.prog 3 (plainElem Try.prog 3) m.lm 0 (.map [])) : DiskM w2 b m.clean K := by
  have hs : Sole (fun k => k = b ∨ k = m.lm) w w2 := (s1.mono fun k _ e => .inl e).trans (s2.mono fun k _ e => .inr e)
  exact
  { blk := B.sole s2 h.apart.bl
    apart := ⟨h.apart.bl, h.apart.bo, h.apart.lo, fun k e => ⟨(h.apart.s k e).1, (h.apart.s k e).2.1, (h.apart.s k e).2.2.1, nofun, (h.apart.s k e).2.2.2.2⟩, nofun, h.apart.f⟩
    kk := fun k hk => h.kk k (base_clean hk)
    klt := fun k hk => Nat.lt_of_lt_of_le (h.klt k hk) hs.size
    S := h.S.sole hs fun k e => by rintro (r | r); exact (h.apart.s k e).1 r; exact (h.apart.s k e).2.1 r
    SO := fun x hx => by
      obtain ⟨ht, g, e, kg, hg, r⟩ := h.SO x hx
      exact ⟨so_sole ht hs fun b' o e' => by rw [e] at e'; cases e'; rintro (r | r); exact hg (.inl r); exact hg (.inr (.inl r)), g, e, kg, fun h' => hg (base_clean h'), r⟩
    Q := RowOwn.nil _ _
    QO := nofun
    F := h.F.sole hs fun k e => by rintro (r | r); exact (h.apart.f k e).1 r; exact (h.apart.f k e).2.1 r
    L := hL
    O := map_sole h.O hs (by rintro (r | r); exact h.apart.bo r.symm; exact h.apart.lo r.symm)
    last := LastOk.nil
    lenS := h.lenS
    cwf := h.cwf
    fwf := h.fwf
    uniq := ⟨h.uniq.s, List.nodup_nil, nofun⟩ }
set_option maxRecDepth 100000 in
set_option maxHeartbeats 2000000 in
theorem forget_any (m : DM) (b : Nat) (K : Nat → Prop) (w : World) (D : DiskM w b m K) : Calls Try.prog 66 #[.pointer (some ⟨b, 0, none⟩)] w fun e w' => e = .returned (.tuple #[]) ∧ DiskM w' b m.clean K ∧ Sole (fun k => k = b ∨ k = m.lm) w w' := by
  have B0 := D.blk
  have B1 := B0.set 3 (.slice none 0 0) (by simp [DM.cells])
  have S1 : Sole (fun k => k = b) w (w.setCell ⟨b, 3, none⟩ (.slice none 0 0)) := Sole.setCell w _ rfl
  have hL := map_sole D.L S1 (fun e => D.apart.bl e.symm)
  obtain ⟨w2, hr, hL2, S2⟩ := run_clear_own 80 3 Try.underlying80 hL
  have E := hid (show DiskM w2 b m.clean K ∧ Sole (fun k => k = b ∨ k = m.lm) w w2 from ⟨D.forgot S1 B1 S2 hL2, (S1.mono fun k _ e => .inl e).trans (S2.mono fun k _ e => .inr e)⟩)
  clear D hL B1 S1 hL2 S2
  simp only [DM.cells, DM.sv, DM.wv, DM.fv] at B0
  obtain ⟨l0, k0, f0⟩ := B0
  go_enter Try.func66, Try.ntmps66
  go_wp2_with fail
  refine bodyPost_end (results_none rfl _ _ _) rfl ?_
  exact ⟨rfl, E.out⟩

theorem dlawK : Keyed Try.prog 3 := int_keyed Try.underlying3
theorem dzeroK (w : World) : (zeroValue 3).run Try.prog w = .ok (.int .i64 0) w := by kernel_rfl
theorem after_wf {m : DM} (h : (Lit.int .i64 m.fl).wf = true) : (Lit.int .i64 m.after.fl).wf = true := by
  unfold DM.after
  dsimp only
  split
  · exact h
  · split
    · decide
    · exact wrap64_wf _
/-- Behind trouble: a disk still. -/
theorem DiskM.after {w w' : World} {b : Nat} {m : DM} {K : Nat → Prop} (h : DiskM w b m K) (hB : Blk w' b m.after.cells) (hs : Sole (fun k => k = b) w w') : DiskM w' b m.after K :=
  h.scal m.off m.tl m.after.tf m.cl m.after.fl h.cwf (after_wf h.fwf) hs hB
/-- What is read at a sector. -/
def DM.cur (m : DM) (z : Int) : OcS := match lastI (m.Qs.map (·.at_)) z with
  | some i => (atR wtT m.Qs i).x
  | none => ocA m.Ls z.toNat
theorem lastI_lt' (z : Int) : ∀ (l : List Int) (r : Nat × Option Nat) (i : Nat), (∀ j, r.2 = some j → j < r.1) → (l.foldl (fun (r : Nat × Option Nat) a => (r.1 + 1, if a = z then some r.1 else r.2)) r).2 = some i → i < r.1 + l.length
  | [], r, i, h, e => h i e
  | a :: l, r, i, h, e => by
    have := lastI_lt' z l (r.1 + 1, if a = z then some r.1 else r.2) i (fun j hj => by
      dsimp only at hj ⊢
      split at hj
      · cases hj; omega
      · have := h j hj; omega) e
    simp only [List.length_cons] at this ⊢
    omega
theorem lastI_lt (l : List Int) (z : Int) (i : Nat) (h : lastI l z = some i) : i < l.length := by
  have := lastI_lt' z l (0, none) i (fun j hj => by cases hj) h
  simpa using this
theorem DM.cur_ok {w : World} {b : Nat} {m : DM} {K : Nat → Prop} (h : DiskM w b m K) (z : Int) (h0 : 0 ≤ z) (h1 : z < (m.Ls.length : Int)) : (m.cur z).there w ∧ (m.cur z).full K m b := by
  unfold DM.cur
  split
  · rename_i i hi
    have hl := lastI_lt _ _ _ hi
    rw [List.length_map] at hl
    exact ⟨(h.QO _ (atR_mem m.Qs i hl)).1.1.1, (h.QO _ (atR_mem m.Qs i hl)).1.2⟩
  · exact ⟨(h.SO _ (ocA_mem m.Ls _ (by omega))).1.1, (h.SO _ (ocA_mem m.Ls _ (by omega))).2⟩
theorem Fresh.below {w w' : World} {v : Value} {l : List UInt8} (h : Fresh w w' v l) : Below w.heap.size w w' := h.elim fun _ h => h.elim fun _ h => h.2.2
/-- New octets. -/
def NewO (w w' : World) (v : Value) (l : List UInt8) : Prop := ∃ a cap, v = .slice a l.length cap ∧ w'.ownsRow w.heap.size 5 1 (.slice a l.length cap) l.length (Lib.byteCells l)
theorem NewO.of_fresh {w w1 w2 : World} {v : Value} {l : List UInt8} (h : Fresh w1 w2 v l) (hs : w.heap.size ≤ w1.heap.size) : NewO w w2 v l := by
  obtain ⟨a, cap, hv, O, _⟩ := h
  refine ⟨a, cap, hv, O.1, O.2.imp id ?_⟩
  rintro ⟨g, cap, cur, e, hb, r⟩
  exact ⟨g, cap, cur, e, Nat.le_trans hs hb, r⟩
theorem read_bad (m : DM) (b : Nat) (z : Int) (K : Nat → Prop) (w : World) (D : DiskM w b m K) (h : m.trb = true) : Calls Try.prog 33 #[.pointer (some ⟨b, 0, none⟩), .int .i64 z] w fun e w' => e = .returned (.tuple #[.slice none 0 0, .int .i64 20]) ∧ DiskM w' b m.after K ∧ Sole K w w' := by
  have KT := hid (trouble_any m b w D.blk)
  have Dh := hid D
  have ht := h
  clear D h
  simp only [ht, if_true, ↓reduceIte] at KT
  go_enter Try.func33, Try.ntmps33
  go_wp2_with fail
  refine KT.out.mono ?_
  rintro e w1 ⟨rfl, hB, hS⟩
  have E := hid (show DiskM w1 b m.after K ∧ Sole K w w1 from ⟨Dh.out.after hB hS, hS.mono fun k _ e => e ▸ Dh.out.kk _ (.inl rfl)⟩)
  clear hB hS KT Dh
  go_wp2_with fail
  go_ret2
  exact ⟨rfl, E.out⟩
set_option maxRecDepth 100000 in
set_option maxHeartbeats 2000000 in
theorem read_any (m : DM) (b : Nat) (z : Int) (hz : (Lit.int .i64 z).wf = true) (K : Nat → Prop) (w : World) (D : DiskM w b m K) (h : m.trb = false) : Calls Try.prog 33 #[.pointer (some ⟨b, 0, none⟩), .int .i64 z] w fun e w' =>
    (0 ≤ z ∧ z < (m.Ls.length : Int) → ∃ v, e = .returned (.tuple #[v, .int .i64 0]) ∧ NewO w w' v (m.cur z).l) ∧ (¬ (0 ≤ z ∧ z < (m.Ls.length : Int)) → e = .returned (.tuple #[.slice none 0 0, .int .i64 4])) ∧ DiskM w' b m.after K ∧ Sole K w w' := by
  have KT := hid (trouble_any m b w D.blk)
  have Dh := hid D
  have ht := h
  clear D h
  simp only [ht, Bool.false_eq_true, if_false, ↓reduceIte] at KT
  go_enter Try.func33, Try.ntmps33
  go_wp2_with fail
  refine KT.out.mono ?_
  rintro e w1 ⟨rfl, hB, hS⟩
  have D1 := hid (Dh.out.after hB hS)
  have S1 := hid (hS.mono (T := K) fun k _ e => e ▸ Dh.out.kk _ (.inl rfl))
  have KH := hid (has_any m.after b z w1 hB)
  have B1 : Blk w1 b #[.bool true, .bool m.off, .slice m.sp m.Ls.length m.sc, .slice m.wp m.Qs.length m.wc, .map (some m.lm), .map (some m.om), .bool m.tl, .int .i64 m.cl, .slice m.fp m.Fs.length m.fc, .bool m.after.tf, .int .i64 m.after.fl] := hB
  have HL := hid (show w1.ownsMap Try.prog 3 (plainElem Try.prog 3) m.lm m.n m.DL from D1.out.L)
  have hla := hid (show LastOk m.DL (m.Qs.map (·.at_)) from D1.out.last)
  generalize m.after.tf = atf at B1
  generalize m.after.fl = afl at B1
  clear hB hS KT Dh
  by_cases hr : 0 ≤ z ∧ z < (m.Ls.length : Int)
  · have hd : decide (0 ≤ z ∧ z < (m.after.Ls.length : Int)) = true := decide_eq_true hr
    rw [hd] at KH
    obtain ⟨p7, c7, hv7, _, _, R7⟩ := D1.out.S.open ocOk
    obtain ⟨p8, c8, hv8, _, _, R8⟩ := D1.out.Q.open wtOk
    have e7 : m.sp = p7 ∧ m.sc = c7 := by simpa [DM.sv, DM.after] using hv7
    have e8 : m.wp = p8 ∧ m.wc = c8 := by simpa [DM.wv, DM.after] using hv8
    have hR7 : RowP w1 m.sp 1 m.Ls.length (fun i => [.slice (ocA m.Ls i).a (ocA m.Ls i).l.length (ocA m.Ls i).cap]) := by rw [e7.1]; exact R7
    have hR8 : RowP w1 m.wp 2 m.Qs.length (fun i => [.int .i64 (atR wtT m.Qs i).at_, .slice (atR wtT m.Qs i).x.a (atR wtT m.Qs i).x.l.length (atR wtT m.Qs i).x.cap]) := by rw [e8.1]; exact R8
    have hcur := hid (show (m.cur z).there w1 ∧ (m.cur z).full K m.after b from DM.cur_ok D1.out z hr.1 hr.2)
    have hkey := keyOf_int_mk (P := Try.prog) Try.underlying3 hz
    have DE := hid (show DiskM w1 b m.after K ∧ Sole K w w1 from ⟨D1.out, S1.out⟩)
    have hlt : ∀ i, lastI (m.Qs.map (·.at_)) z = some i → i < m.Qs.length := fun i h => by simpa using lastI_lt _ _ _ h
    have hz1 : z < (m.Ls.length : Int) := hr.2
    have hrh := hid hr
    have hz0 : 0 ≤ z := hr.1
    clear hv7 hv8 R7 R8 e7 e8 hd D1 S1
    cases hl : lastI (m.Qs.map (·.at_)) z with
    | none =>
      have hno := hid (hla.out.no z hl)
      have hc : m.cur z = ocA m.Ls z.toNat := by unfold DM.cur; rw [hl]
      obtain ⟨k, rfl⟩ : ∃ k : Nat, z = (k : Int) := ⟨z.toNat, by omega⟩
      obtain ⟨b7, o7, hq7, r7⟩ := hR7.row (by omega)
      have c7 := r7.at0 (i := k) (by omega) (v := .slice (ocA m.Ls k).a (ocA m.Ls k).l.length (ocA m.Ls k).cap) rfl
      rw [Nat.mul_one] at c7
      rw [Int.toNat_natCast] at hc
      have KC := hid (bclone_any (ocA m.Ls k).l (ocA m.Ls k).a (ocA m.Ls k).cap w1 (by rw [← hc]; exact hcur.out.1.1) (by have := hcur.out.2; rw [hc] at this; obtain ⟨g, _, _, _, e⟩ := this; omega))
      have hch := hid hc
      rw [hq7] at B1
      clear hl hlt hla hR7 hR8 r7 hcur hc hq7
      generalize ocA m.Ls k = x at *
      generalize m.Qs.length = qs at *
      generalize m.Fs.length = fs at *
      obtain ⟨l0, k0, f0⟩ := B1
      go_wp2_with fail
      refine KH.out.mono ?_
      rintro e w2 ⟨rfl, hw⟩
      rw [hw]
      clear hw w2 KH
      go_wp2_with (at_lookup; refine wpList_lookup_own_ok_int _ rfl _ _ 80 rfl 3 3 .i64 dlawK Try.underlying80 Try.underlying3 (dzeroK _) m.lm m.n m.DL rfl HL.out _ _ rfl hkey ?_; intro c hat hwc; rw [hno.out])
      refine KC.out.mono ?_
      rintro e w2 ⟨v, rfl, hF⟩
      have E := hid (show NewO w w2 v (m.cur (k : Int)).l ∧ DiskM w2 b m.after K ∧ Sole K w w2 from ⟨by rw [hch.out]; exact NewO.of_fresh hF DE.out.2.size, DE.out.1.more hF.below, DE.out.2.trans (Sole.made hF.below)⟩)
      obtain ⟨av, cv, hv, _, hb2⟩ := hF
      subst hv
      clear hb2
      go_wp2_with fail
      go_ret2
      exact ⟨fun _ => ⟨_, rfl, E.out.1⟩, fun h => absurd hrh.out h, E.out.2⟩
    | some i =>
      have hli := hlt i hl
      obtain ⟨hyes, hatk⟩ := hla.out.is z i hl
      have hatk := hid hatk
      replace hyes := hid hyes
      have hc : m.cur z = (atR wtT m.Qs i).x := by unfold DM.cur; rw [hl]
      obtain ⟨b8, o8, hq8, r8⟩ := hR8.row (by omega)
      have c8 := r8.cell i hli 1 (.slice (atR wtT m.Qs i).x.a (atR wtT m.Qs i).x.l.length (atR wtT m.Qs i).x.cap) rfl
      have KC := hid (bclone_any (atR wtT m.Qs i).x.l (atR wtT m.Qs i).x.a (atR wtT m.Qs i).x.cap w1 (by rw [← hc]; exact hcur.out.1.1) (by have := hcur.out.2; rw [hc] at this; obtain ⟨g, _, _, _, e⟩ := this; omega))
      have hch := hid hc
      rw [hq8] at B1
      clear hl hlt hla hR7 hR8 r8 hcur hc hq8
      generalize (atR wtT m.Qs i).x = x at *
      generalize m.Qs.length = qs at *
      generalize m.Fs.length = fs at *
      obtain ⟨l0, k0, f0⟩ := B1
      go_wp2_with fail
      refine KH.out.mono ?_
      rintro e w2 ⟨rfl, hw⟩
      rw [hw]
      clear hw w2 KH
      go_wp2_with (at_lookup; refine wpList_lookup_own_ok_int _ rfl _ _ 80 rfl 3 3 .i64 dlawK Try.underlying80 Try.underlying3 (dzeroK _) m.lm m.n m.DL rfl HL.out _ _ rfl hkey ?_; intro c hat hwc; obtain rfl : c = (i : Int) := (by have := hat.symm.trans (hatk.out _); cases this; rfl); rw [hyes.out])
      refine KC.out.mono ?_
      rintro e w2 ⟨v, rfl, hF⟩
      have E := hid (show NewO w w2 v (m.cur z).l ∧ DiskM w2 b m.after K ∧ Sole K w w2 from ⟨by rw [hch.out]; exact NewO.of_fresh hF DE.out.2.size, DE.out.1.more hF.below, DE.out.2.trans (Sole.made hF.below)⟩)
      obtain ⟨av, cv, hv, _, hb2⟩ := hF
      subst hv
      clear hb2
      go_wp2_with fail
      go_ret2
      exact ⟨fun _ => ⟨_, rfl, E.out.1⟩, fun h => absurd hrh.out h, E.out.2⟩
  · have hd : decide (0 ≤ z ∧ z < (m.after.Ls.length : Int)) = false := decide_eq_false hr
    rw [hd] at KH
    have DE := hid (show DiskM w1 b m.after K ∧ Sole K w w1 from ⟨D1.out, S1.out⟩)
    have hrh := hid hr
    clear B1 HL hla hd hr D1 S1
    go_wp2_with fail
    refine KH.out.mono ?_
    rintro e w2 ⟨rfl, hw⟩
    rw [hw]
    clear hw w2 KH
    go_wp2_with fail
    go_ret2
    exact ⟨fun h => absurd h hrh.out, fun _ => rfl, DE.out⟩
end Go.Proofs.Ytpgibngohbohdaa
