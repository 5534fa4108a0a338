/-
  The example of layer 20.
-/
import Derived.Test.YtcklmemnjchdcaaRsG
import Derived.Test.YtcklmemnjchdcaaRsZ
import Derived.Test.YtcklmemnjchdcaaRsP
import Derived.Test.YtcklmemnjchdcaaRsH
import Derived.Laws.Tables
import Derived.WalkKit
import Derived.Deep.DeepCutAuto
import Derived.Test.YtcklmemnjchdcaaRsD
import Derived.Great.Walk
import Derived.Test.YtcklmemnjchdcaaRsE

/-
  Package roll: note: the entries of a batch, and the sectors of those that were written, behind what was noted.
-/



namespace Go.Proofs.Ytcklmemnjchdcaa
open Go.RowKit Go.Maps
set_option linter.unusedVariables false
set_option linter.unusedSimpArgs false

/-- The entries of a summary. -/
def esL (f : Nat → En) (n : Nat) : List En := (List.range n).map f
/-- The sectors of the first k written ones, behind a sector. -/
def atL (z : Int) (k : Nat) : List Int := (List.range k).map fun (j : Nat) => z + ((j : Int) + 1)
theorem atL_succ (z : Int) (k : Nat) : atL z (k + 1) = atL z k ++ [z + ((k : Int) + 1)] := by simp [atL, List.range_succ]
theorem atL_len (z : Int) (k : Nat) : (atL z k).length = k := by simp [atL]
theorem esL_len (f : Nat → En) (n : Nat) : (esL f n).length = n := by simp [esL]
theorem esL_row {w : World} {q : Option Addr} {n : Nat} {f : Nat → En} (h : RowP w q 2 n (fun i => ecells (f i))) : RowOf enT w q (esL f n) := by
  unfold RowOf
  rw [esL_len]
  exact h.congr fun i hi => by
    show ecells (f i) = ecells (atR enT (esL f n) i)
    unfold atR esL
    simp [hi]
/-- What is noted: at t; both rows lie at B or behind it. -/
structure NoteM (w : World) (t B : Nat) (L : List En) (A : List Int) (k : Int) (pe : Option Addr) (ce : Nat) (pa : Option Addr) (ca : Nat) : Prop where
  box : Blk w t #[.slice pe L.length ce, .slice pa A.length ca, .int .i64 k]
  es : RowOwn enT w B (.slice pe L.length ce) L
  ats : RowOwn inT w B (.slice pa A.length ca) A
  te : ∀ g, (Value.slice pe L.length ce).ownBlock = some g → g ≠ t
  ta : ∀ g, (Value.slice pa A.length ca).ownBlock = some g → g ≠ t
  ea : ∀ g, (Value.slice pe L.length ce).ownBlock = some g → (Value.slice pa A.length ca).ownBlock ≠ some g
theorem NoteM.sole {S : Nat → Prop} {w w' : World} {t B : Nat} {L : List En} {A : List Int} {k : Int} {pe : Option Addr} {ce : Nat} {pa : Option Addr} {ca : Nat} (h : NoteM w t B L A k pe ce pa ca) (hs : Sole S w w') (hB : ∀ j, S j → j < B) (ht : ¬ S t) : NoteM w' t B L A k pe ce pa ca :=
  ⟨h.box.sole hs ht, h.es.sole hs (fun g e s => by have := (h.es.within g e).1; have := hB g s; omega), h.ats.sole hs (fun g e s => by have := (h.ats.within g e).1; have := hB g s; omega), h.te, h.ta, h.ea⟩
theorem NoteM.more {w w' : World} {t B : Nat} {L : List En} {A : List Int} {k : Int} {pe : Option Addr} {ce : Nat} {pa : Option Addr} {ca : Nat} (h : NoteM w t B L A k pe ce pa ca) (hb : Below w.heap.size w w') : NoteM w' t B L A k pe ce pa ca :=
  ⟨h.box.more hb, h.es.more hb, h.ats.more hb, h.te, h.ta, h.ea⟩

theorem tmeas9 (N k : Nat) (h : k < N) (z : Int) (hz : z = ((k + 1 : Nat) : Int)) : N - (intOf (.int .i64 z)).toNat < N - (intOf (.int .i64 (k : Int))).toNat := by
  subst hz
  show N - (((k + 1 : Nat) : Int)).toNat < N - ((k : Int)).toNat
  rw [Int.toNat_natCast, Int.toNat_natCast]
  omega
/-- The blocks that note may write. -/
def noteS (t : Nat) (pe : Option Addr) (L : List En) (ce : Nat) (pa : Option Addr) (A : List Int) (ca : Nat) (j : Nat) : Prop := j = t ∨ (Value.slice pe L.length ce).ownBlock = some j ∨ (Value.slice pa A.length ca).ownBlock = some j

set_option maxRecDepth 100000 in
set_option maxHeartbeats 16000000 in
theorem rnote_any (t B : Nat) (L : List En) (A : List Int) (k : Int) (pe : Option Addr) (ce : Nat) (pa : Option Addr) (ca : Nat) (w : World) (M : NoteM w t B L A k pe ce pa ca) (hBw : B ≤ w.heap.size) (hk0 : 0 ≤ k) (hk1 : k ≤ 4294967296) (hL : L.length ≤ 400000000000) (hA : A.length ≤ 400000000000)
    (n z : Int) (hok : okB n z = true) (p : Pc) (hp : PcOk n z p) (nx : Int) (la : Bool) (q : Option Addr) (nn c : Nat) (f : Nat → En) (hn64 : nn ≤ 64) (c1 : nn ≤ c) (c2 : c ≤ maxLen) (RQ : RowP w q 2 nn (fun i => ecells (f i))) (hq : ∀ b' o, q = some ⟨b', o, none⟩ → nn ≠ 0 → b' ≠ t ∧ (Value.slice pa A.length ca).ownBlock ≠ some b') :
    Calls Try.prog 27 #[.pointer (some ⟨t, 0, none⟩), geo n z, p.v, smval nx la q nn c] w fun e w' => e = .returned (.tuple #[]) ∧ ∃ pe' ce' pa' ca', NoteM w' t B (L ++ esL f nn) (A ++ atL (secP z p) (cntW f nn)) (k + 1) pe' ce' pa' ca' ∧ Sole (noteS t pe L ce pa A ca) w w' := by
  obtain ⟨hz1, hz2, hz3, hz4⟩ := ok_true hok
  have KS := fun W => segment_any n z p.s W
  rw [seg_val hok hp.s0 hp.s1] at KS
  replace KS := hid KS
  have hm := mul_in hp.s0 (show p.s ≤ 32 by have := hp.s1; omega) hz3 hz4
  have hpo := hp.o0
  have hpo1 := hp.o1
  obtain ⟨B0, B1, B2, H⟩ := @boxed3 w _ #[.int .i64 n, .int .i64 z] p.cells (smcells nx la q nn c) 25 30 83 (Below.refl _ _)
  have M0 := hid (M.more H)
  have RQ0 := hid (RQ.more H)
  have B0h := hid B0
  have B1h := hid B1
  have B2h := hid B2
  have Hh := hid H
  have htw := hid M.box.lt
  have haw := hid M.ats.within
  have hew := hid M.es.within
  have hBh := hid hBw
  have hqh := hid hq
  have hLh := hid hL
  have hAh := hid hA
  have hn64i : (nn : Int) ≤ 64 := by omega
  clear M RQ B0 B1 B2 H hok hBw hq hL hA
  replace hp := hid hp
  generalize hW : ((w.alloc (.cells #[.int .i64 n, .int .i64 z] 25)).alloc (.cells p.cells 30)).alloc (.cells (smcells nx la q nn c) 83) = W at *
  go_enter Try.func27, Try.ntmps27
  go_wp2_with fail
  try rw [hW]
  clear hW
  have q0 := fun u : Later W => u.blk B0h.out
  have q1 := fun u : Later W => u.blk B1h.out
  refine wp_region_late 7 (by kernel_rfl) (by kernel_rfl) ?_
  simp only [List.take_succ_cons, List.take_zero, List.drop_succ_cons, List.drop_zero]
  iterate 7 (go_big_quiet_step ((go_at_call 37; (with_reducible exact late_call (KS.out _)))))
  refine wpQuiet_nil ?_
  intro w1 h1'
  have h1 := late_out h1'
  have M1 := hid (M0.out.more h1)
  have RQ1 := hid (RQ0.out.more h1)
  have B21 := hid (B2h.out.more h1)
  have S01 := hid (Sole.made (S := noteS t pe L ce pa A ca) (Hh.out.trans (h1.mono Hh.out.size)))
  have hw1 := hid (Nat.le_trans Hh.out.size h1.size)
  clear h1 h1' q0 q1 M0 RQ0 B2h B0h B1h Hh KS
  obtain ⟨l2, m2, f2⟩ := B21.out
  go_wp2_with fail
  have hZ0 : 9 ≤ 9 + p.s * z + p.o := by omega
  have hZ1 : 9 + p.s * z + p.o ≤ 1065 := by omega
  generalize hZ : 9 + p.s * z + p.o = Z at *
  replace hZ := hid hZ
  clear l2 m2 f2 hm hpo hpo1
  go_loopw [8, 21] (fun s8 s21 wr => ∃ (j : Nat) (pj : Option Addr) (cj : Nat), j ≤ nn ∧ s21 = .int .i64 (j : Int) ∧ s8 = .int .i64 (Z + (cntW f j : Int)) ∧ NoteM wr t B L (A ++ atL Z (cntW f j)) k pe ce pj cj ∧ Sole (fun i => i = t ∨ (Value.slice pa A.length ca).ownBlock = some i) w1 wr ∧ ∀ g, (Value.slice pj (A ++ atL Z (cntW f j)).length cj).ownBlock = some g → (Value.slice pa A.length ca).ownBlock = some g ∨ w1.heap.size ≤ g) (fun _ s21 _ => nn - (intOf s21).toNat)
  case atStart => exact ⟨0, pa, ca, Nat.zero_le _, rfl, by show _ = Value.int .i64 (Z + ((0 : Nat) : Int)); simp, by simpa [atL, cntW] using M1.out, Sole.refl _ _, fun g e => .inl (by simpa [atL, cntW] using e)⟩
  case round =>
    obtain ⟨j, pj, cj, hj, rfl, rfl, MJ, SJ, fr⟩ := hrel
    have RQJ := RowP.apart RQ1.out SJ (fun b' o e hn h => by
      have h9 := hqh.out b' o e hn
      rcases h with h | h
      · exact h9.1 h
      · exact h9.2 h)
    have hsj := SJ.size
    obtain ⟨m, hm⟩ : ∃ m, m = cntW f j := ⟨_, rfl⟩
    have hmj := cntW_le f j
    rw [← hm] at MJ fr hmj ⊢
    by_cases hlt : j < nn
    · have hlt' : (j : Int) < (nn : Int) := by omega
      obtain ⟨be, oe, rfl, re⟩ := RQJ.row (by omega)
      have z0 : wr.cell? ⟨be, oe + j * 2, none⟩ = some (.int .i64 (f j).k) := re.at0 hlt rfl
      have z1 : wr.cell? ⟨be, oe + j * 2 + 1, none⟩ = some (.int .i64 (f j).i) := re.at1 hlt rfl
      have hjn := hid (show j + 1 ≤ nn by omega)
      have hmeas := hid (tmeas9 nn j hlt)
      have hcs := cntW_succ f j
      rw [← hm] at hcs
      have hmb : (m : Int) ≤ 64 := by omega
      have b6 : Below wr.heap.size wr (wr.alloc (.cells #[.int .i64 (f j).k, .int .i64 (f j).i] 70)) := below_al1 _ _
      have BE := Blk.new wr #[.int .i64 (f j).k, .int .i64 (f j).i] 70
      by_cases hk1' : (f j).k = 1
      · rw [if_pos hk1'] at hcs
        rw [hk1'] at z0 b6 BE
        generalize (f j).i = ei at *
        have b7 := below_al1 (wr.alloc (.cells #[.int .i64 1, .int .i64 ei] 70)) (.cells #[.int .i64 (Z + (m : Int) + 1)] 3)
        have b67 := below2 b6 b7 b6.size
        have RN : RowOf inT _ (some ⟨(wr.alloc (.cells #[.int .i64 1, .int .i64 ei] 70)).heap.size, 0, none⟩) [Z + (m : Int) + 1] := rowOf_one inOk (Blk.new (wr.alloc (.cells #[.int .i64 1, .int .i64 ei] 70)) #[.int .i64 (Z + (m : Int) + 1)] 3) rfl
        rw [show (wr.alloc (.cells #[.int .i64 1, .int .i64 ei] 70)).heap.size = wr.heap.size + 1 by simp] at RN
        obtain ⟨A1, hA1⟩ : ∃ X, X = A ++ atL Z m := ⟨_, rfl⟩
        have hA1l : A1.length ≤ 400000000064 := by rw [hA1, List.length_append, atL_len]; have := hAh.out; omega
        have hA2 := hid (show A1 ++ [Z + (m : Int) + 1] = A ++ atL Z (m + 1) by rw [hA1, atL_succ, List.append_assoc, Int.add_assoc])
        rw [← hA1] at MJ fr
        have hBw1 : B ≤ wr.heap.size := by have := hBh.out; have := hw1.out; omega
        obtain ⟨v9, w9, hr, O9, gr, mv⟩ := append_row inOk B 35 _ _ A1 (MJ.ats.more b67) (some ⟨wr.heap.size + 1, 0, none⟩) 1 [Z + (m : Int) + 1] RN (by show (A1.length + 1) * 8 ≤ _; omega) (by unfold maxLen; simp; omega) (Nat.le_trans hBw1 b67.size)
        obtain ⟨p9, c9, hv9, _, _, _⟩ := RowOwn.open inOk O9
        obtain ⟨A2, hA2'⟩ : ∃ X, X = A1 ++ [Z + (m : Int) + 1] := ⟨_, rfl⟩
        rw [← hA2'] at hv9 O9
        have hA3 := hid (hA2'.trans hA2.out)
        subst hv9
        have S79 := Sole.grown (S := fun i => (Value.slice pj A1.length cj).ownBlock = some i) gr (fun _ e => e)
        have hpt := MJ.ta
        have hpe := MJ.es.within
        have hpj := MJ.ats.within
        have htl := MJ.box.lt
        have b67s := b67.size
        have BX9 := (MJ.box.more b67).sole S79 (fun e => hpt _ e rfl)
        have ES9 := (MJ.es.more b67).sole S79 (fun g e e2 => MJ.ea g e e2)
        have SX := Sole.setCell (S := fun i => i = t) w9 (b := t) (o := 1) (.slice p9 A2.length c9) rfl
        have hp9 : ∀ g, (Value.slice p9 A2.length c9).ownBlock = some g → (Value.slice pj A1.length cj).ownBlock = some g ∨ wr.heap.size ≤ g := fun g e => by
          rcases mv with h | h
          · exact .inl (h ▸ e)
          · rw [h] at e; cases e; exact .inr b67s
        have MN := hid (show NoteM (w9.setCell ⟨t, 1, none⟩ (.slice p9 A2.length c9)) t B L A2 k pe ce p9 c9 from
          ⟨BX9.set 1 (.slice p9 A2.length c9) (by simp), ES9.sole SX (fun g e s => MJ.te g e s), O9.sole SX (fun g e s => by
            rcases hp9 g e with h | h
            · exact hpt g h s
            · have s' : g = t := s; omega), MJ.te, fun g e s => by
            rcases hp9 g e with h | h
            · exact hpt g h s
            · omega, fun g e s => by
            rcases hp9 g s with h | h
            · exact MJ.ea g e h
            · have := (hpe g e).2; omega⟩)
        have SN := hid (((SJ.trans (Sole.made b67)).trans' S79 (fun i hi e => by
            rcases fr i e with h | h
            · exact .inr h
            · omega)).trans' SX (fun i hi e => .inl e))
        have FN := hid (fun g (e : (Value.slice p9 A2.length c9).ownBlock = some g) => show (Value.slice pa A.length ca).ownBlock = some g ∨ w1.heap.size ≤ g from by
            rcases hp9 g e with h | h
            · exact fr g h
            · exact .inr (Nat.le_trans hsj h))
        obtain ⟨lb, mb, fb⟩ := MJ.box.more b67
        obtain ⟨lb9, mb9, fb9⟩ := BX9
        obtain ⟨lb0, mb0, fb0⟩ := MJ.box
        obtain ⟨l6, m6, f6⟩ := BE
        have hcs2 := hid hcs
        clear SX S79 ES9 O9 mv gr hp9 hpe hpj hpt RN b67 b7 b6 MJ SJ fr re RQJ hA2' hA1 hcs hsj hm hk1' hmj hj hA1l hBw1 b67s htl
        go_wp2_with (at_builtin; refine Lib.wpList_append_run _ rfl _ _ _ _ rfl _ _ rfl rfl _ _ hr ?_)
        go_roundw
        case rel => exact ⟨j + 1, p9, c9, hjn.out, by go_num, by rw [hcs2.out]; go_num, by rw [hcs2.out, ← hA3.out]; exact MN.out, SN.out, by rw [hcs2.out, ← hA3.out]; exact FN.out⟩
        case measure => exact hmeas.out _ rfl
      · rw [if_neg hk1'] at hcs
        have hk1'' : ((f j).k == 1) = false := by rw [beq_eq_false_iff_ne]; exact hk1'
        have MN := hid (MJ.more b6)
        have SN := hid (SJ.trans (Sole.made b6))
        have hcs2 := hid (show cntW f (j + 1) = m by omega)
        have frh := hid fr
        obtain ⟨l6, m6, f6⟩ := BE
        clear re MJ SJ fr hcs RQJ b6
        generalize (f j).k = ek at *
        generalize (f j).i = ei at *
        go_wp2_with fail
        go_roundw
        case rel => exact ⟨j + 1, pj, cj, hjn.out, by go_num, by rw [hcs2.out], by rw [hcs2.out]; exact MN.out, SN.out, by rw [hcs2.out]; exact frh.out⟩
        case measure => exact hmeas.out _ rfl
    · obtain rfl : j = nn := by omega
      have hlt' : ¬ (j : Int) < (j : Int) := by omega
      have hnotS : ∀ i, w.heap.size ≤ i → ¬ (i = t ∨ (Value.slice pa A.length ca).ownBlock = some i) := fun i hi h => by
        rcases h with h | h
        · have := htw.out; omega
        · have := (haw.out i h).2; omega
      have B2J := B21.out.sole SJ (hnotS _ (by omega))
      obtain ⟨A1, hA1⟩ : ∃ X, X = A ++ atL Z m := ⟨_, rfl⟩
      rw [← hA1] at MJ fr
      have dr : Below wr.heap.size wr wr.drew := (Below.refl _ _).drew
      have RE := RowOf.more (esL_row RQJ) dr
      have ESD := MJ.es.more dr
      have hBw1 : B ≤ wr.heap.size := by have := hBh.out; have := hw1.out; omega
      have hlen := esL_len f j
      have hMJ := hid MJ
      have hSJ := hid SJ
      have hfr := hid fr
      have hA1h := hid hA1
      have hmh := hid hm
      obtain ⟨lb, mb, fb⟩ := MJ.box
      obtain ⟨l2, m2, f2⟩ := B2J
      clear MJ SJ fr RQJ hA1 hm hnotS
      go_wp2_with fail
      go_region_law (refine step_append_row enOk (by rfl) _ _ (by rfl) B (.slice pe L.length ce) L (by rfl) ESD q j c (esL f j) (by rfl) hlen RE (by show (L.length + j) * 16 ≤ _; have := hLh.out; omega) (by unfold maxLen; have := hLh.out; omega) hBw1 ?_; intro v9 w9 O9 gr mv; obtain ⟨L2, hL2⟩ : ∃ X, X = L ++ esL f j := ⟨_, rfl⟩; rw [← hL2] at O9; replace hL2 := hid hL2; obtain ⟨p9, c9, hv9, _, _, _⟩ := RowOwn.open enOk O9; have hgr := hid gr; have hmv := hid mv; obtain ⟨lb9, mb9, fb9⟩ := (hMJ.out.box.more dr).sole (Sole.grown (S := fun i => (Value.slice pe L.length ce).ownBlock = some i) gr (fun _ e => e)) (fun e => hMJ.out.te _ e rfl); clear gr mv; subst hv9)
      all_goals
        have hdrs : wr.drew.heap.size = wr.heap.size := rfl
        have S79 := Sole.grown (S := fun i => (Value.slice pe L.length ce).ownBlock = some i) hgr.out (fun _ e => e)
        have BX9 : Blk w9 t _ := ⟨lb9, mb9, fb9⟩
        have SX := (Sole.setCell (S := fun i => i = t) w9 (b := t) (o := 0) (.slice p9 L2.length c9) rfl).trans (Sole.setCell _ (b := t) (o := 2) (.int .i64 (k + 1)) rfl)
        have hp9 : ∀ g, (Value.slice p9 L2.length c9).ownBlock = some g → (Value.slice pe L.length ce).ownBlock = some g ∨ g = wr.heap.size := fun g e => by
          rcases hmv.out with h | h
          · exact .inl (h ▸ e)
          · rw [h] at e; cases e; exact .inr rfl
        have hwe := hMJ.out.es.within
        have hwa := hMJ.out.ats.within
        have htl := hMJ.out.box.lt
        have MN := hid (show NoteM ((w9.setCell ⟨t, 0, none⟩ (.slice p9 L2.length c9)).setCell ⟨t, 2, none⟩ (.int .i64 (k + 1))) t B L2 A1 (k + 1) p9 c9 pj cj from
          ⟨(BX9.set 0 (.slice p9 L2.length c9) (by simp)).set 2 (.int .i64 (k + 1)) (by simp), O9.sole SX (fun g e s => by
            rcases hp9 g e with h | h
            · exact hMJ.out.te g h s
            · have s' : g = t := s; omega), ((hMJ.out.ats.more dr).sole S79 (fun g e e2 => hMJ.out.ea g e2 e)).sole SX (fun g e s => hMJ.out.ta g e s), fun g e s => by
            rcases hp9 g e with h | h
            · exact hMJ.out.te g h s
            · omega, hMJ.out.ta, fun g e s => by
            rcases hp9 g e with h | h
            · exact hMJ.out.ea g h s
            · have := (hwa g s).2; omega⟩)
        have SN := hid ((((S01.out.trans (hSJ.out.mono (T := noteS t pe L ce pa A ca) (fun i _ h => by
            rcases h with h | h
            · exact .inl h
            · exact .inr (.inr h)))).trans (Sole.made dr)).trans' S79 (fun i hi h => .inr (.inl h))).trans' SX (fun i hi h => .inl h))
        have hE := hid (show L2 = L ++ esL f j ∧ A1 = A ++ atL (secP z p) (cntW f j) from ⟨hL2.out, by rw [hA1h.out, hmh.out, show secP z p = Z from hZ.out]⟩)
        clear S79 BX9 SX hp9 hwe hwa htl O9 ESD RE hgr hmv hMJ hSJ hfr lb mb fb l2 m2 f2 hlen dr hA1h hmh hL2
        go_wp2_with fail
        go_end0
        exact ⟨rfl, p9, c9, pj, cj, by rw [← hE.out.1, ← hE.out.2]; exact MN.out, SN.out⟩
end Go.Proofs.Ytcklmemnjchdcaa

/-
  Package roll: what is found, as cells: a map's 256, a place's three, and how many batches.
-/



namespace Go.Proofs.Ytcklmemnjchdcaa
open Go.RowKit Go.Maps
set_option linter.unusedVariables false
set_option linter.unusedSimpArgs false

theorem foldl_set : ∀ (l : List Value) (n off : Nat) (a : Array Value), off + n + l.length ≤ a.size → ∀ k, ((l.zipIdx n).foldl (fun cs (p : Value × Nat) => cs.setIfInBounds (off + p.2) p.1) a)[k]? = if off + n ≤ k ∧ k < off + n + l.length then l[k - (off + n)]? else a[k]?
  | [], n, off, a, h, k => by
    rw [if_neg (by intro h9; simp only [List.length_nil] at h9; omega)]
    rfl
  | x :: l, n, off, a, h, k => by
    rw [List.zipIdx_cons, List.foldl_cons]
    have ih := foldl_set l (n + 1) off (a.setIfInBounds (off + n) x) (by simp at h ⊢; omega) k
    refine ih.trans ?_
    simp only [List.length_cons] at h ⊢
    by_cases h1 : k = off + n
    · subst h1
      rw [if_neg (by omega), if_pos (by omega), Nat.sub_self, Array.getElem?_setIfInBounds_self_of_lt (by omega)]
      rfl
    · by_cases h2 : off + n ≤ k ∧ k < off + n + (l.length + 1)
      · rw [if_pos (by omega), if_pos h2, show k - (off + n) = (k - (off + (n + 1))) + 1 by omega]
        rfl
      · rw [if_neg (by omega), if_neg h2, Array.getElem?_setIfInBounds_ne (by omega)]
/-- An empty one. -/
def zerosF : Array Value := Array.replicate 260 (.int .i64 0)
def foundC (c : Array Value) (p : Pc) (b : Int) : Array Value := c ++ #[.int .i64 p.s, .int .i64 p.o, .int .i64 p.x, .int .i64 b]
theorem foundC_size {c : Array Value} (h : c.size = 256) (p : Pc) (b : Int) : (foundC c p b).size = 260 := by simp [foundC, h]
set_option maxRecDepth 100000 in
theorem fallocF (ρ : Operand → Value) (dst : Option Tmp) (ty : TypeId) (pos : String) (af : Array Edge) (w : World) : (execOp ρ { dst := dst, op := .alloc 43, type := ty, pos := pos, after := af, guard := none }).run Try.prog w =
    .ok (.value (.pointer (some ⟨w.heap.size, 0, none⟩))) (w.alloc (.cells zerosF 43)) := by kernel_rfl
set_option maxRecDepth 100000 in
theorem fbuilt (parts : List (Nat × Value)) : Try.prog.built 43 parts = Instr.fill (fun i => (#[(0, 256), (256, 3), (259, 1)] : Array (Nat × Nat))[i]?) zerosF parts := by kernel_rfl
theorem fold_cells (c : Array Value) (off : Nat) (a : Array Value) (h : off + c.size ≤ a.size) (k : Nat) : (c.zipIdx.foldl (fun cs (p : Value × Nat) => cs.setIfInBounds (off + p.2) p.1) a)[k]? = if off ≤ k ∧ k < off + c.size then c[k - off]? else a[k]? := by
  rw [← Array.foldl_toList, Array.toList_zipIdx]
  have := foldl_set c.toList 0 off a (by simpa using h) k
  simpa using this
theorem fold_size (l : List (Value × Nat)) (off : Nat) : ∀ a : Array Value, (l.foldl (fun cs (p : Value × Nat) => cs.setIfInBounds (off + p.2) p.1) a).size = a.size := by
  induction l with
  | nil => intro a; rfl
  | cons x l ih => intro a; rw [List.foldl_cons, ih]; simp
theorem foldc_size (c : Array Value) (off : Nat) (a : Array Value) : (c.zipIdx.foldl (fun cs (p : Value × Nat) => cs.setIfInBounds (off + p.2) p.1) a).size = a.size := by
  rw [← Array.foldl_toList]
  exact fold_size _ off a
theorem foundC_get {c : Array Value} (h : c.size = 256) (p : Pc) (b : Int) (k : Nat) : (foundC c p b)[k]? = if k < 256 then c[k]? else if k = 256 then some (.int .i64 p.s) else if k = 257 then some (.int .i64 p.o) else if k = 258 then some (.int .i64 p.x) else if k = 259 then some (.int .i64 b) else none := by
  unfold foundC
  by_cases h1 : k < 256
  · rw [if_pos h1, Array.getElem?_append_left (by omega)]
  · rw [if_neg h1, Array.getElem?_append_right (by omega), h]
    by_cases h2 : k = 256
    · subst h2; rfl
    · by_cases h3 : k = 257
      · subst h3; rfl
      · by_cases h4 : k = 258
        · subst h4; rfl
        · by_cases h5 : k = 259
          · subst h5; rfl
          · rw [if_neg h2, if_neg h3, if_neg h4, if_neg h5, Array.getElem?_eq_none]
            show 4 ≤ k - 256
            omega
theorem ffill {c : Array Value} (h : c.size = 256) (p : Pc) : Instr.fill (fun i => (#[(0, 256), (256, 3), (259, 1)] : Array (Nat × Nat))[i]?) zerosF [(0, .agg c), (1, p.v)] = some (foundC c p 0) := by
  have hz : zerosF.size = 260 := by simp [zerosF]
  have hz9 : zerosF[259]? = some (.int .i64 0) := by simp [zerosF]
  generalize zerosF = Z at *
  have e1 : (Value.agg c).cells = c := rfl
  have e2 : (p.v).cells = p.cells := rfl
  have hs1 := foldc_size c 0 Z
  unfold Instr.fill
  simp only [List.getElem?_toArray, List.getElem?_cons_zero]
  rw [e1, if_neg (by simp [h, hz])]
  unfold Instr.fill
  simp only [List.getElem?_toArray, List.getElem?_cons_succ, List.getElem?_cons_zero]
  rw [e2, if_neg (by rw [hs1, hz]; simp)]
  unfold Instr.fill
  refine congrArg some ?_
  have h3 : p.cells.size = 3 := rfl
  refine Array.ext_getElem? fun k => ?_
  have f2 := fold_cells p.cells 256 (c.zipIdx.foldl (fun cs (p : Value × Nat) => cs.setIfInBounds (0 + p.2) p.1) Z) (by rw [hs1, hz, h3]; omega) k
  refine (f2).trans ?_
  rw [foundC_get h, h3]
  have f1 := fold_cells c 0 Z (by rw [hz, h]; omega) k
  by_cases h1 : 256 ≤ k ∧ k < 256 + 3
  · rw [if_pos h1, if_neg (by omega)]
    have hk : k = 256 ∨ k = 257 ∨ k = 258 := by omega
    rcases hk with rfl | rfl | rfl <;> rfl
  · rw [if_neg h1]
    refine f1.trans ?_
    rw [h]
    by_cases h4 : k < 256
    · rw [if_pos (by omega), if_pos h4, Nat.sub_zero]
    · rw [if_neg (by omega), if_neg h4, if_neg (by omega), if_neg (by omega), if_neg (by omega)]
      by_cases h5 : k = 259
      · subst h5; rw [if_pos rfl, hz9]
      · rw [if_neg h5, Array.getElem?_eq_none (by omega)]
theorem fbuildP (ρ : Operand → Value) (dst : Option Tmp) (ty : TypeId) (pos : String) (af : Array Edge) (g : Option (Nat × Bool)) {c : Array Value} (h : c.size = 256) (p : Pc) (x y : Operand) (hx : ρ x = .agg c) (hy : ρ y = p.v) (w : World) :
    (execOp ρ { dst := dst, op := .build 43 #[(0, x), (1, y)], type := ty, pos := pos, after := af, guard := g }).run Try.prog w = .ok (.value (.agg (foundC c p 0))) w := by
  have hb := run_build (P := Try.prog) w 43 #[(0, .agg c), (1, p.v)] (foundC c p 0) ((fbuilt _).trans (ffill h p))
  unfold execOp
  simp [hx, hy, hb]
end Go.Proofs.Ytcklmemnjchdcaa

/-
  Package mark: marks as cells; which may be: Check.
-/





namespace Go.Proofs.Ytcklmemnjchdcaa
open Go.RowKit
set_option linter.unusedVariables false
set_option linter.unusedSimpArgs false

def miT : RowT Int := { ty := 3, sl := 35, sz := 1, bytes := 8, zero := .int .i64 0, cells := fun x => [.int .i64 x], dflt := 0 }
theorem miOk : miT.Ok := ⟨Try.underlying35, by kernel_rfl, rfl, by decide, fun _ => rfl, fun x u hu => by
  simp [miT] at hu
  rcases hu with rfl; rfl⟩
abbrev miAt (L : List Int) (i : Nat) : Int := atR miT L i
/-- From 0 to high. -/
def inB (high z : Int) : Bool := decide (0 ≤ z) && decide (z ≤ high)
theorem inB_iff (high z : Int) : inB high z = true ↔ 0 ≤ z ∧ z ≤ high := by simp [inB]
set_option maxRecDepth 100000 in
theorem mout1_any (z high : Int) (b : Nat) (w : World) (B : Blk w b #[.int .i64 high]) :
    Calls Try.prog 50 #[.int .i64 z, .pointer (some ⟨b, 0, none⟩)] w fun e w' => e = .returned (.bool (!inB high z)) ∧ w' = w := by
  obtain ⟨l0, k0, f0⟩ := B
  by_cases h0 : z < 0
  · have hc := hid (show inB high z = false by simp [inB]; omega)
    have h0' : decide (z < 0) = true := decide_eq_true h0
    clear h0
    go_enter Try.func50, Try.ntmps50
    go_wp2
    go_ret
    exact ⟨by rw [hc.out]; rfl, rfl⟩
  · have h0' : decide (z < 0) = false := decide_eq_false h0
    by_cases h1 : high < z
    · have hc := hid (show inB high z = false by simp [inB]; omega)
      have h1' : decide (high < z) = true := decide_eq_true h1
      clear h0 h1
      go_enter Try.func50, Try.ntmps50
      go_wp2
      go_ret
      exact ⟨by rw [hc.out]; rfl, rfl⟩
    · have hc := hid (show inB high z = true by simp [inB]; omega)
      have h1' : decide (high < z) = false := decide_eq_false h1
      clear h0 h1
      go_enter Try.func50, Try.ntmps50
      go_wp2
      go_ret
      exact ⟨by rw [hc.out]; rfl, rfl⟩

set_option maxRecDepth 100000 in
set_option maxHeartbeats 2000000 in
theorem moutindex_any (high : Int) (bg : Nat) (L : List Int) (p : Option Addr) (cap : Nat) (h1 : L.length ≤ cap) (h2 : cap ≤ maxLen) (w : World) (HB : Blk w bg #[.int .i64 high]) (HR : RowOf miT w p L) :
    Calls Try.prog 69 #[.slice p L.length cap, .func (.func 50) #[] #[.pointer (some ⟨bg, 0, none⟩)]] w fun e w' => ∃ r : Int, e = .returned (.int .i64 r) ∧ decide (0 ≤ r) = !L.all (inB high) ∧ w' = w := by
  have hR0 : Hid (RowP w p 1 L.length (fun i => [.int .i64 (miAt L i)])) := hid HR
  have hall : Hid (∀ k, k < L.length → (L.take (k + 1)).all (inB high) = ((L.take k).all (inB high) && inB high (miAt L k))) := hid (fun k hk => by
    rw [List.take_add_one, List.getElem?_eq_getElem hk, ← atR_eq (T := miT) L k hk]
    simp [List.all_append])
  have hbad : Hid (∀ k, k < L.length → inB high (miAt L k) = false → L.all (inB high) = false) := hid (fun k hk hg => by
    rw [List.all_eq_false]
    exact ⟨_, atR_mem (T := miT) L k hk, by rw [show atR miT L k = miAt L k from rfl, hg]; simp⟩)
  have hfull : Hid ((L.take L.length).all (inB high) = L.all (inB high)) := hid (by rw [List.take_length])
  have h00 : Hid ((L.take 0).all (inB high) = true) := hid (by simp)
  have HBh := hid HB
  obtain ⟨n, hn⟩ : ∃ n, L.length = n := ⟨_, rfl⟩
  rw [hn] at h1 hR0 hall hbad hfull ⊢
  have hn63 : (n : Int) ≤ 9223372036854775807 := by unfold maxLen at h2; omega
  generalize L.all (inB high) = G at *
  clear HR hn HB
  go_enter Try.func69, Try.ntmps69
  go_wp2_with fail
  go_loopw [8] (fun i wr => wr = w ∧ ∃ k : Nat, k ≤ n ∧ i = .int .i64 (k : Int) ∧ (L.take k).all (inB high) = true) (fun i _ => n - (intOf i).toNat)
  case atStart => exact ⟨rfl, 0, by omega, rfl, h00.out⟩
  case round =>
    obtain ⟨rfl, k, hk, rfl, hg⟩ := hrel
    have hgh := hid hg
    by_cases hlt : k < n
    · obtain ⟨b, o, rfl, R⟩ := hR0.out.row (by omega)
      have z0 := R.at0 hlt (v := .int .i64 (miAt L k)) rfl
      rw [Nat.mul_one] at z0
      have KC := hid (mout1_any (miAt L k) high bg _ HBh.out)
      have hlt1 : (k : Int) < (n : Int) := by omega
      have hk1 : IntKind.i64.wrap ((k : Int) + 1) = (k : Int) + 1 := IntWalk.i64_in _ ⟨by omega, by omega⟩
      have hst := hid (hall.out k hlt)
      have hbd := hid (hbad.out k hlt)
      clear R hg
      cases hgk : inB high (miAt L k)
      · have hG := hid (hbd.out hgk)
        rw [hgk] at KC
        clear hgk hst hbd
        generalize miAt L k = y at *
        go_wp2_with fail
        refine KC.out.mono ?_
        rintro e w2 ⟨rfl, hw⟩
        rw [hw]
        clear hw w2 KC z0
        go_wp2_with fail
        go_ret
        exact ⟨_, rfl, by rw [hG.out]; simp, rfl⟩
      · have hst2 : Hid ((L.take (k + 1)).all (inB high) = true) := hid (by rw [hst.out, hgh.out, hgk]; rfl)
        rw [hgk] at KC
        clear hgk hst hbd
        generalize miAt L k = y at *
        go_wp2_with fail
        refine KC.out.mono ?_
        rintro e w2 ⟨rfl, hw⟩
        rw [hw]
        clear hw w2 KC z0
        go_wp2_with fail
        go_roundw
        case rel => exact ⟨by first | trivial | rfl, k + 1, hlt, by go_num, hst2.out⟩
        case measure => simp [intOf]; omega
    · obtain rfl : k = n := by omega
      have hG : Hid (G = true) := hid (by rw [← hfull.out]; exact hg)
      clear hg
      go_wp2_with fail
      go_ret
      exact ⟨_, rfl, by rw [hG.out]; rfl, rfl⟩

set_option maxRecDepth 100000 in
theorem mcont_any (high : Int) (bg : Nat) (L : List Int) (p : Option Addr) (cap : Nat) (h1 : L.length ≤ cap) (h2 : cap ≤ maxLen) (w : World) (HB : Blk w bg #[.int .i64 high]) (HR : RowOf miT w p L) :
    Calls Try.prog 49 #[.slice p L.length cap, .func (.func 50) #[] #[.pointer (some ⟨bg, 0, none⟩)]] w fun e w' => e = .returned (.bool (!L.all (inB high))) ∧ w' = w := by
  have KI := hid (moutindex_any high bg L p cap h1 h2 w HB HR)
  generalize L.length = n at *
  generalize (!L.all (inB high)) = G at *
  clear HR h1 h2 HB
  go_enter Try.func49, Try.ntmps49
  go_wp2_with fail
  refine KI.out.mono ?_
  rintro e w2 ⟨r, rfl, hr, hw⟩
  rw [hw]
  subst hr
  clear hw w2 KI
  go_wp2
  go_ret
  exact ⟨rfl, rfl⟩

set_option maxRecDepth 100000 in
theorem mout_any (high : Int) (L : List Int) (p : Option Addr) (cap : Nat) (h1 : L.length ≤ cap) (h2 : cap ≤ maxLen) (w : World) (HR : RowOf miT w p L) :
    Calls Try.prog 34 #[.int .i64 high, .slice p L.length cap] w fun e w' => e = .returned (.bool (!L.all (inB high))) ∧ Below w.heap.size w w' := by
  have hb := (Below.refl w.heap.size w).alloc (Nat.le_refl _) (.cells #[.int .i64 high] 3)
  have KC := hid (mcont_any high w.heap.size L p cap h1 h2 _ (Blk.new w #[.int .i64 high] 3) (RowOf.more HR hb))
  have hbh := hid hb
  generalize L.length = n at *
  generalize (!L.all (inB high)) = G at *
  clear HR h1 h2 hb
  go_enter Try.func34, Try.ntmps34
  go_wp2_with fail
  refine KC.out.mono ?_
  rintro e w2 ⟨rfl, hw⟩
  rw [hw]
  clear hw w2 KC
  go_wp2
  go_ret
  exact ⟨rfl, hbh.out⟩
end Go.Proofs.Ytcklmemnjchdcaa

/-
  Marks as numbers; which may be: Check of package mark.
-/


namespace Go.Proofs.Ytcklmemnjchdcaa
open Go.RowKit
set_option linter.unusedVariables false
set_option linter.unusedSimpArgs false

/-- A mark's cells: its Epoch, its Place, its Ages from 4 on, its Map from 36 on. -/
def agesL (F : Nat → Int) : List Int := (List.range 32).map fun i => F (4 + i)
def mapL (F : Nat → Int) : List Int := (List.range 256).map fun i => F (36 + i)
theorem agesL_len (F : Nat → Int) : (agesL F).length = 32 := by simp [agesL]
theorem mapL_len (F : Nat → Int) : (mapL F).length = 256 := by simp [mapL]
theorem agesL_at (F : Nat → Int) (i : Nat) (h : i < 32) : miAt (agesL F) i = F (4 + i) := by
  rw [show miAt (agesL F) i = atR miT (agesL F) i from rfl, atR_eq _ i (by rw [agesL_len]; exact h)]; simp [agesL]
theorem mapL_at (F : Nat → Int) (i : Nat) (h : i < 256) : miAt (mapL F) i = F (36 + i) := by
  rw [show miAt (mapL F) i = atR miT (mapL F) i from rfl, atR_eq _ i (by rw [mapL_len]; exact h)]; simp [mapL]
def mOk (F : Nat → Int) : Bool := decide (1 ≤ F 0) && (decide (F 0 ≤ 4294967295) && (!(F 1 == F 3) && ([F 1, F 3].all (inB 31) && ([F 2].all (inB 32) && ((agesL F).all (inB 4294967295) && ((mapL F).all (inB 65535) && F 36 == 0))))))
def mCk (F : Nat → Int) : Int := if mOk F then 0 else 4
/-- What the walk of Check decides, one by one. -/
theorem mCk_ways (F : Nat → Int) : (mCk F = 4 ∧ decide (F 0 < 1) = true) ∨ (mCk F = 4 ∧ decide (F 0 < 1) = false ∧ decide (4294967295 < F 0) = true) ∨
    ((decide (F 0 < 1) = false ∧ decide (4294967295 < F 0) = false) ∧ ((mCk F = 4 ∧ (F 1 == F 3) = true) ∨ ((F 1 == F 3) = false ∧ ((mCk F = 4 ∧ (![F 1, F 3].all (inB 31)) = true) ∨ ((![F 1, F 3].all (inB 31)) = false ∧ ((mCk F = 4 ∧ (![F 2].all (inB 32)) = true) ∨ ((![F 2].all (inB 32)) = false ∧
      ((mCk F = 4 ∧ (!(agesL F).all (inB 4294967295)) = true) ∨ ((!(agesL F).all (inB 4294967295)) = false ∧ ((mCk F = 4 ∧ (!(mapL F).all (inB 65535)) = true) ∨ ((!(mapL F).all (inB 65535)) = false ∧ ((mCk F = 4 ∧ (F 36 != 0) = true) ∨ (mCk F = 0 ∧ (F 36 != 0) = false))))))))))))) := by
  have e1 : decide (1 ≤ F 0) = !decide (F 0 < 1) := by by_cases h : F 0 < 1 <;> simp [h] <;> omega
  have e2 : decide (F 0 ≤ 4294967295) = !decide (4294967295 < F 0) := by by_cases h : 4294967295 < F 0 <;> simp [h] <;> omega
  have e3 : (F 36 != 0) = !(F 36 == 0) := rfl
  unfold mCk mOk
  rw [e1, e2, e3]
  generalize decide (F 0 < 1) = b1
  generalize decide (4294967295 < F 0) = b2
  generalize (F 1 == F 3) = b3
  generalize [F 1, F 3].all (inB 31) = b4
  generalize [F 2].all (inB 32) = b5
  generalize (agesL F).all (inB 4294967295) = b6
  generalize (mapL F).all (inB 65535) = b7
  generalize (F 36 == 0) = b8
  cases b1 <;> cases b2 <;> cases b3 <;> cases b4 <;> cases b5 <;> cases b6 <;> cases b7 <;> cases b8 <;> simp

/-- The rows of a mark's block. -/
theorem ages_row {w : World} {g : Nat} {c : Array Value} {F : Nat → Int} (B : Blk w g c) (N : Nums c .i64 292 F) : RowOf miT w (some ⟨g, 4, none⟩) (agesL F) := by
  refine .inr ⟨g, 4, rfl, B.lt, fun i hi j v hv => ?_⟩
  rw [agesL_len] at hi
  have hj : j = 0 := by
    rcases j with _ | j
    · rfl
    · simp [miT] at hv
  subst hj
  have hv2 : Value.int .i64 (atR miT (agesL F) i) = v := Option.some.inj hv
  show w.cell? ⟨g, 4 + i * 1 + 0, none⟩ = _
  rw [show 4 + i * 1 + 0 = 4 + i by omega, B.cell, N.get (4 + i) (by omega), ← hv2, show atR miT (agesL F) i = miAt (agesL F) i from rfl, agesL_at F i hi]
theorem map_row {w : World} {g : Nat} {c : Array Value} {F : Nat → Int} (B : Blk w g c) (N : Nums c .i64 292 F) : RowOf miT w (some ⟨g, 36, none⟩) (mapL F) := by
  refine .inr ⟨g, 36, rfl, B.lt, fun i hi j v hv => ?_⟩
  rw [mapL_len] at hi
  have hj : j = 0 := by
    rcases j with _ | j
    · rfl
    · simp [miT] at hv
  subst hj
  have hv2 : Value.int .i64 (atR miT (mapL F) i) = v := Option.some.inj hv
  show w.cell? ⟨g, 36 + i * 1 + 0, none⟩ = _
  rw [show 36 + i * 1 + 0 = 36 + i by omega, B.cell, N.get (36 + i) (by omega), ← hv2, show atR miT (mapL F) i = miAt (mapL F) i from rfl, mapL_at F i hi]

theorem row_two (w : World) (a b : Int) (t : TypeId) : RowOf miT (w.alloc (.cells #[.int .i64 a, .int .i64 b] t)) (some ⟨w.heap.size, 0, none⟩) [a, b] := by
  have B := Blk.new w #[.int .i64 a, .int .i64 b] t
  refine .inr ⟨_, 0, rfl, B.lt, fun i hi j v hv => ?_⟩
  have hj : j = 0 := by
    rcases j with _ | j
    · rfl
    · simp [miT] at hv
  subst hj
  have hi2 : i < 2 := by simpa using hi
  show (w.alloc _).cell? ⟨w.heap.size, 0 + i * 1 + 0, none⟩ = _
  rw [B.cell]
  match i, hi2, hv with
  | 0, _, hv => simpa [miT, atR] using hv
  | 1, _, hv => simpa [miT, atR] using hv

set_option maxRecDepth 100000 in
set_option maxHeartbeats 8000000 in
theorem mcheck_any (c : Array Value) (F : Nat → Int) (N : Nums c .i64 292 F) (w : World) :
    Calls Try.prog 16 #[.agg c] w fun e w' => e = .returned (.int .i64 (mCk F)) ∧ Below w.heap.size w w' := by
  have BX := Blk.new w c 34
  have hb := (Below.refl w.heap.size w).alloc (Nat.le_refl _) (.cells c 34)
  have KA := hid (fun (wx : World) (hx : Below (w.alloc (.cells c 34)).heap.size (w.alloc (.cells c 34)) wx) => mout_any 4294967295 (agesL F) (some ⟨w.heap.size, 4, none⟩) 32 (by rw [agesL_len]; exact Nat.le_refl _) (by unfold maxLen; omega) wx (ages_row (BX.more hx) N))
  have KM := hid (fun (wx : World) (hx : Below (w.alloc (.cells c 34)).heap.size (w.alloc (.cells c 34)) wx) => mout_any 65535 (mapL F) (some ⟨w.heap.size, 36, none⟩) 256 (by rw [mapL_len]; exact Nat.le_refl _) (by unfold maxLen; omega) wx (map_row (BX.more hx) N))
  rw [agesL_len] at KA
  rw [mapL_len] at KM
  have KP := hid (fun (wx : World) => mout_any 31 [F 1, F 3] (some ⟨wx.heap.size, 0, none⟩) 2 (by simp) (by unfold maxLen; omega) _ (row_two wx (F 1) (F 3) 3))
  have KO := hid (fun (wx : World) => mout_any 32 [F 2] (some ⟨wx.heap.size, 0, none⟩) 1 (by simp) (by unfold maxLen; omega) _ (rowOf_one miOk (Blk.new wx #[.int .i64 (F 2)] 3) rfl))
  simp only [List.length_cons, List.length_nil, Nat.zero_add, Nat.reduceAdd] at KP KO
  have n0 := N.get 0 (by omega)
  have n1 := N.get 1 (by omega)
  have n2 := N.get 2 (by omega)
  have n3 := N.get 3 (by omega)
  have n36 := N.get 36 (by omega)
  have hW := mCk_ways F
  have BXh := hid BX
  have hbh := hid hb
  have hsz : c.size = 292 := N.size
  generalize mCk F = C at *
  generalize (![F 1, F 3].all (inB 31)) = b1 at *
  generalize (![F 2].all (inB 32)) = b2 at *
  generalize (!(agesL F).all (inB 4294967295)) = b3 at *
  generalize (!(mapL F).all (inB 65535)) = b4 at *
  generalize F 0 = f0 at *
  generalize F 1 = f1 at *
  generalize F 2 = f2 at *
  generalize F 3 = f3 at *
  generalize F 36 = f36 at *
  clear N hb BX
  replace hsz := hid hsz
  go_enter Try.func16, Try.ntmps16
  go_upto_region 1 with (fail)
  generalize w.alloc _ = W0 at *
  obtain ⟨lx, kx, fx⟩ := BXh.out
  rcases hW with ⟨hC, g1⟩ | ⟨hC, g1, g2⟩ | ⟨⟨g1, g2⟩, ⟨hC, g3⟩ | ⟨g3, ⟨hC, g4⟩ | ⟨g4, ⟨hC, g5⟩ | ⟨g5, ⟨hC, g6⟩ | ⟨g6, ⟨hC, g7⟩ | ⟨g7, ⟨hC, g8⟩ | ⟨hC, g8⟩⟩⟩⟩⟩⟩⟩
  all_goals subst hC
  all_goals try subst g4
  all_goals try subst g5
  all_goals try subst g6
  all_goals try subst g7
  iterate 3
    · clear KP KO KA KM
      go_wp2_with fail
      go_ret
      exact ⟨rfl, hbh.out⟩
  all_goals
    go_wp2_with fail
    refine (KP.out _).mono ?_
    rintro e w1 ⟨rfl, h1⟩
    have H1 := hid (((Below.refl W0.heap.size W0).alloc (Nat.le_refl _) (.cells #[.int .i64 f1, .int .i64 f3] 3)).trans (h1.mono (by simp)))
    clear lx kx fx h1 KP
    obtain ⟨lx, kx, fx⟩ := BXh.out.more H1.out
  · clear KO KA KM
    have D := hid (below2 hbh.out H1.out hbh.out.size)
    go_wp2_with fail
    go_ret
    exact ⟨rfl, D.out⟩
  all_goals
    go_wp2_with fail
    refine (KO.out _).mono ?_
    rintro e w2 ⟨rfl, h2⟩
    have H2 := hid (H1.out.trans ((((Below.refl w1.heap.size w1).alloc (Nat.le_refl _) (.cells #[.int .i64 f2] 3)).trans (h2.mono (by simp))).mono H1.out.size))
    clear lx kx fx h2 KO
    obtain ⟨lx, kx, fx⟩ := BXh.out.more H2.out
  · clear KA KM
    have D := hid (below2 hbh.out H2.out hbh.out.size)
    go_wp2_with fail
    go_ret
    exact ⟨rfl, D.out⟩
  all_goals
    go_wp2_with fail
    refine (KA.out _ H2.out).mono ?_
    rintro e w3 ⟨rfl, h3⟩
    have H3 := hid (below2 H2.out h3 H2.out.size)
    clear lx kx fx h3 KA
    obtain ⟨lx, kx, fx⟩ := BXh.out.more H3.out
  · clear KM
    have D := hid (below2 hbh.out H3.out hbh.out.size)
    go_wp2_with fail
    go_ret
    exact ⟨rfl, D.out⟩
  all_goals
    go_wp2_with fail
    refine (KM.out _ H3.out).mono ?_
    rintro e w4 ⟨rfl, h4⟩
    have H4 := hid (below2 H3.out h4 H3.out.size)
    clear lx kx fx h4 KM
    obtain ⟨lx, kx, fx⟩ := BXh.out.more H4.out
    have D := hid (below2 hbh.out H4.out hbh.out.size)
    go_wp2_with fail
    go_ret
    exact ⟨rfl, D.out⟩
end Go.Proofs.Ytcklmemnjchdcaa

/-
  Package roll: fits: may it go on from a mark?
-/


namespace Go.Proofs.Ytcklmemnjchdcaa
open Go.RowKit Go.Maps
set_option linter.unusedVariables false
set_option linter.unusedSimpArgs false

/-- A whole block is loaded. -/
theorem rwp_load {P : Program} {op : Oper} {a : Act} {w : World} {K : Act → World → Prop} {Q : Exit → Act → World → Prop} (ty : TypeId) (x : Operand) (ho : op.op = .load ty x)
    (b : Nat) (hx : a.eval x = .pointer (some ⟨b, 0, none⟩)) (c : Array Value) (d : TypeDesc) (B : Blk w b c)
    (hu : P.underlying ty = some d) (hd : d.isRow = true) (hi : (P.info? ty).map (·.size) = some c.size)
    (h : K (a.put op.dst (.agg c)) w) : op.wp P a w K Q :=
  wp_load_mid ty x ho b 0 hx c.toList d B.range hu hd (by rw [hi]; simp) (by rw [Array.toArray_toList]; exact h)
theorem rwpList_load {P : Program} {ops : Array Oper} {rest : List Oper} {op : Oper} {a : Act} {w : World} {Q : Exit → Act → World → Prop} (hgd : op.guard = none) (ty : TypeId) (x : Operand) (ho : op.op = .load ty x)
    (b : Nat) (hx : a.eval x = .pointer (some ⟨b, 0, none⟩)) (c : Array Value) (d : TypeDesc) (B : Blk w b c)
    (hu : P.underlying ty = some d) (hd : d.isRow = true) (hi : (P.info? ty).map (·.size) = some c.size)
    (h : wpList P ops Q rest (a.put op.dst (.agg c)) w) : wpList P ops Q (op :: rest) a w :=
  wpList_plain hgd fun _ hK => rwp_load ty x ho b hx c d B hu hd hi (hK _ _ h)
theorem marktab : (Try.prog.info? 34).map (·.size) = some 292 := by kernel_rfl
theorem foundtab : (Try.prog.info? 43).map (·.size) = some 260 := by kernel_rfl
theorem maptab : (Try.prog.info? 32).map (·.size) = some 256 := by kernel_rfl
/-- May it go on from this mark? -/
def fitsB (n z : Int) (F : Nat → Int) : Bool := okB n z && (mOk F && (decide (F 1 < n) && (decide (F 3 < n) && decide (F 2 ≤ z))))
set_option maxRecDepth 100000 in
set_option maxHeartbeats 4000000 in
theorem rfits_any (n z : Int) (c : Array Value) (F : Nat → Int) (N : Nums c .i64 292 F) (w : World) :
    Calls Try.prog 25 #[geo n z, .agg c] w fun e w' => e = .returned (.bool (fitsB n z F)) ∧ Below w.heap.size w w' := by
  have KC := fun w => lcheck_any n z w
  have KM := fun w => mcheck_any c F N w
  have BX := hid ((Blk.new w #[.int .i64 n, .int .i64 z] 25).more (below_al1 (w.alloc (.cells #[.int .i64 n, .int .i64 z] 25)) (.cells c 34)))
  have BM : Blk ((w.alloc (.cells #[.int .i64 n, .int .i64 z] 25)).alloc (.cells c 34)) (w.heap.size + 1) c := by
    have := Blk.new (w.alloc (.cells #[.int .i64 n, .int .i64 z] 25)) c 34
    simpa using this
  have D0 := hid (below2 (below_al1 w (.cells #[.int .i64 n, .int .i64 z] 25)) (below_al1 _ (.cells c 34)) (by simp))
  have hi := hid (show (Try.prog.info? 34).map (·.size) = some c.size by rw [marktab, N.size])
  have g1 := hid (N.get 1 (by omega))
  have g2 := hid (N.get 2 (by omega))
  have g3 := hid (N.get 3 (by omega))
  have hF := hid (show fitsB n z F = (okB n z && (mOk F && (decide (F 1 < n) && (decide (F 3 < n) && decide (F 2 ≤ z))))) from rfl)
  unfold chkI at KC
  unfold mCk at KM
  generalize fitsB n z F = R at *
  generalize okB n z = O at *
  generalize mOk F = M at *
  generalize F 1 = f1 at *
  generalize F 2 = f2 at *
  generalize F 3 = f3 at *
  have hBM := hid BM
  clear N BM
  generalize hW : (w.alloc (.cells #[.int .i64 n, .int .i64 z] 25)).alloc (.cells c 34) = W at *
  cases O with
  | false =>
    rw [if_neg (by simp)] at KC
    replace KC := hid KC
    have hR := hid (show R = false by rw [hF.out]; rfl)
    clear hF
    obtain ⟨l0, m0, e0⟩ := BX.out
    go_enter Try.func25, Try.ntmps25
    go_wp2_with fail
    refine (KC.out _).mono ?_
    rintro e w1 ⟨rfl, hb1⟩
    have D1 := hid (below2 D0.out hb1 D0.out.size)
    clear hb1 l0 m0 e0
    go_wp2_with fail
    go_ret
    exact ⟨by rw [hR.out]; rfl, D1.out⟩
  | true =>
    rw [if_pos rfl] at KC
    replace KC := hid KC
    cases M with
    | false =>
      rw [if_neg (by simp)] at KM
      replace KM := hid KM
      have hR := hid (show R = false by rw [hF.out]; rfl)
      clear hF
      obtain ⟨l0, m0, e0⟩ := BX.out
      go_enter Try.func25, Try.ntmps25
      go_wp2_with fail
      refine (KC.out _).mono ?_
      rintro e w1 ⟨rfl, hb1⟩
      have D1 := hid (below2 D0.out hb1 D0.out.size)
      have BM1 := hid (hBM.out.more hb1)
      clear hb1 l0 m0 e0
      go_wp2_with fail
      refine rwp_load 34 _ rfl (w.heap.size + 1) rfl c _ BM1.out Try.underlying34 rfl hi.out ?_
      go_wp2_with fail
      refine (KM.out _).mono ?_
      rintro e w2 ⟨rfl, hb2⟩
      have D2 := hid (below2 D1.out hb2 D1.out.size)
      clear hb2
      go_wp2_with fail
      go_ret
      exact ⟨by rw [hR.out]; rfl, D2.out⟩
    | true =>
      rw [if_pos rfl] at KM
      replace KM := hid KM
      have hR := hid (show R = (decide (f1 < n) && (decide (f3 < n) && decide (f2 ≤ z))) by rw [hF.out]; rfl)
      clear hF
      obtain ⟨l0, m0, e0⟩ := BX.out
      go_enter Try.func25, Try.ntmps25
      go_wp2_with fail
      refine (KC.out _).mono ?_
      rintro e w1 ⟨rfl, hb1⟩
      have D1 := hid (below2 D0.out hb1 D0.out.size)
      have BM1 := hid (hBM.out.more hb1)
      have BX1 := hid (BX.out.more hb1)
      clear hb1 l0 m0 e0
      go_wp2_with fail
      refine rwp_load 34 _ rfl (w.heap.size + 1) rfl c _ BM1.out Try.underlying34 rfl hi.out ?_
      go_wp2_with fail
      refine (KM.out _).mono ?_
      rintro e w2 ⟨rfl, hb2⟩
      have D2 := hid (below2 D1.out hb2 D1.out.size)
      have BM2 := BM1.out.more hb2
      have u1 := (BM2.cell 1).trans g1.out
      have u2 := (BM2.cell 2).trans g2.out
      have u3 := (BM2.cell 3).trans g3.out
      have lM := BM2.lt
      obtain ⟨l0, m0, e0⟩ := BX1.out.more hb2
      clear hb2 BM2
      by_cases c1 : f1 < n
      · by_cases c2 : f3 < n
        · go_wp2_with fail
          go_ret
          exact ⟨by rw [hR.out, decide_eq_true c1, decide_eq_true c2]; rfl, D2.out⟩
        · have c2' : decide (f3 < n) = false := decide_eq_false c2
          have hR2 := hid (show R = false by rw [hR.out, decide_eq_false c2]; simp)
          clear c2
          go_wp2_with fail
          go_ret
          exact ⟨by rw [hR2.out]; rfl, D2.out⟩
      · have c1' : decide (f1 < n) = false := decide_eq_false c1
        have hR2 := hid (show R = false by rw [hR.out, decide_eq_false c1]; simp)
        clear c1
        go_wp2_with fail
        go_ret
        exact ⟨by rw [hR2.out]; rfl, D2.out⟩
end Go.Proofs.Ytcklmemnjchdcaa

/-
  Package roll: what is found, in a block: a map, a place, how many batches; and what a round makes of what was noted.
-/


namespace Go.Proofs.Ytcklmemnjchdcaa
open Go.RowKit Go.Maps
set_option linter.unusedVariables false
set_option linter.unusedSimpArgs false

theorem frozen_setCells : ∀ (vs : List Value) (b o : Nat) (w : World) (a : Addr), (w.setCells b o vs).frozen? a = w.frozen? a
  | [], _, _, _, _ => rfl
  | v :: vs, b, o, w, a => (frozen_setCells vs b (o + 1) (w.setCell ⟨b, o, none⟩ v) a).trans (World.frozen?_setCell _ _ _ _)
structure FoundAt (w : World) (g : Nat) (c : Array Value) (p : Pc) (b : Int) : Prop where
  lt : g < w.heap.size
  size : c.size = 256
  range : w.rangeAt g 0 c.toList
  s : w.cell? ⟨g, 256, none⟩ = some (.int .i64 p.s)
  o : w.cell? ⟨g, 257, none⟩ = some (.int .i64 p.o)
  x : w.cell? ⟨g, 258, none⟩ = some (.int .i64 p.x)
  b : w.cell? ⟨g, 259, none⟩ = some (.int .i64 b)
  frz : ∀ o, w.frozen? ⟨g, o, none⟩ = false
theorem FoundAt.sole {S : Nat → Prop} {w w' : World} {g : Nat} {c : Array Value} {p : Pc} {b : Int} (h : FoundAt w g c p b) (hs : Sole S w w') (hn : ¬ S g) : FoundAt w' g c p b :=
  ⟨Nat.lt_of_lt_of_le h.lt hs.size, h.size, fun j v hv => (hs.cell h.lt hn).trans (h.range j v hv), (hs.cell h.lt hn).trans h.s, (hs.cell h.lt hn).trans h.o, (hs.cell h.lt hn).trans h.x, (hs.cell h.lt hn).trans h.b, fun o => (hs.frozen h.lt hn).trans (h.frz o)⟩
theorem FoundAt.more {w w' : World} {g : Nat} {c : Array Value} {p : Pc} {b : Int} (h : FoundAt w g c p b) (hb : Below w.heap.size w w') : FoundAt w' g c p b :=
  h.sole (S := fun _ => False) (Sole.made hb) (fun h => h)
theorem FoundAt.of {w : World} {g : Nat} {c : Array Value} (hc : c.size = 256) {p : Pc} {b : Int} (B : Blk w g (foundC c p b)) : FoundAt w g c p b :=
  ⟨B.lt, hc, fun j v hv => by
    have hj : j < 256 := by
      have := (List.getElem?_eq_some_iff.1 hv).1
      simpa [hc] using this
    rw [Nat.zero_add, B.cell j, foundC_get hc, if_pos hj]
    simpa using hv, by rw [B.cell, foundC_get hc]; rfl, by rw [B.cell, foundC_get hc]; rfl, by rw [B.cell, foundC_get hc]; rfl, by rw [B.cell, foundC_get hc]; rfl, B.frz⟩
theorem FoundAt.all {w : World} {g : Nat} {c : Array Value} {p : Pc} {b : Int} (h : FoundAt w g c p b) : w.rangeAt g 0 (foundC c p b).toList := fun j v hv => by
  have hv' : (foundC c p b)[j]? = some v := by simpa using hv
  rw [foundC_get h.size] at hv'
  rw [Nat.zero_add]
  by_cases h1 : j < 256
  · rw [if_pos h1] at hv'
    have := h.range j v (by simpa using hv')
    rwa [Nat.zero_add] at this
  · rw [if_neg h1] at hv'
    by_cases h2 : j = 256
    · subst h2; rw [if_pos rfl] at hv'; cases hv'; exact h.s
    · rw [if_neg h2] at hv'
      by_cases h3 : j = 257
      · subst h3; rw [if_pos rfl] at hv'; cases hv'; exact h.o
      · rw [if_neg h3] at hv'
        by_cases h4 : j = 258
        · subst h4; rw [if_pos rfl] at hv'; cases hv'; exact h.x
        · rw [if_neg h4] at hv'
          by_cases h5 : j = 259
          · subst h5; rw [if_pos rfl] at hv'; cases hv'; exact h.b
          · rw [if_neg h5] at hv'; cases hv'
theorem FoundAt.there {w : World} {g : Nat} {c : Array Value} {p : Pc} {b : Int} (h : FoundAt w g c p b) : w.there g 0 256 := fun j hj => by
  have hc : j < c.size := by rw [h.size]; exact hj
  have := h.range j c[j] (by simp [hc])
  exact ⟨by rw [this]; rfl, h.frz _⟩
theorem FoundAt.map {w : World} {g : Nat} {c : Array Value} {p : Pc} {b : Int} (h : FoundAt w g c p b) (d : Array Value) (hd : d.size = 256) : FoundAt (w.setCells g 0 d.toList) g d p b := by
  have S := sole_setCells (S := fun k => k = g) rfl d.toList 0 w
  have ap : ∀ (o : Nat) (v : Value), 256 ≤ o → w.cell? ⟨g, o, none⟩ = some v → (w.setCells g 0 d.toList).cell? ⟨g, o, none⟩ = some v := fun o v ho hv => by
    have hr : w.rangeAt g o [v] := fun j u hu => by
      rcases j with _ | j
      · cases hu; exact hv
      · cases hu
    have := World.rangeAt_setCells_apart hr g 0 d.toList (.inr (.inr (by simp [hd]; omega))) 0 v rfl
    simpa using this
  refine ⟨Nat.lt_of_lt_of_le h.lt S.size, hd, World.rangeAt_setCells_same w g 0 d.toList (fun j hj => h.there j (by simpa [hd] using hj)), ap _ _ (by omega) h.s, ap _ _ (by omega) h.o, ap _ _ (by omega) h.x, ap _ _ (by omega) h.b, fun o => ?_⟩
  exact (frozen_setCells d.toList g 0 w ⟨g, o, none⟩).trans (h.frz o)
theorem cell_ne {w : World} {g i j : Nat} {v u : Value} (h : w.cell? ⟨g, j, none⟩ = some u) (hij : i ≠ j) : (w.setCell ⟨g, i, none⟩ v).cell? ⟨g, j, none⟩ = some u := by
  rw [World.cell?_setCell_other w ⟨g, i, none⟩ ⟨g, j, none⟩ v (by intro e; cases e; exact hij rfl)]
  exact h
theorem FoundAt.put {w : World} {g : Nat} {c : Array Value} {p : Pc} {b : Int} (h : FoundAt w g c p b) (i : Nat) (hi : 256 ≤ i) (v : Value) : (w.setCell ⟨g, i, none⟩ v).rangeAt g 0 c.toList := fun j u hu => by
  have hj : j < 256 := by
    have := (List.getElem?_eq_some_iff.1 hu).1
    simpa [h.size] using this
  exact cell_ne (h.range j u hu) (by omega)
theorem FoundAt.num {w : World} {g : Nat} {c : Array Value} {p : Pc} {b : Int} (h : FoundAt w g c p b) (k : Int) : FoundAt (w.setCell ⟨g, 259, none⟩ (.int .i64 k)) g c p k :=
  ⟨by simpa [World.setCell] using h.lt, h.size, h.put 259 (by omega) _, cell_ne h.s (by omega), cell_ne h.o (by omega), cell_ne h.x (by omega), World.cell?_setCell_same w ⟨g, 259, none⟩ _ h.b, fun o => (World.frozen?_setCell _ _ _ _).trans (h.frz o)⟩
theorem FoundAt.ps {w : World} {g : Nat} {c : Array Value} {p : Pc} {b : Int} (h : FoundAt w g c p b) (k : Int) : FoundAt (w.setCell ⟨g, 256, none⟩ (.int .i64 k)) g c ⟨k, p.o, p.x⟩ b :=
  ⟨by simpa [World.setCell] using h.lt, h.size, h.put 256 (by omega) _, World.cell?_setCell_same w ⟨g, 256, none⟩ _ h.s, cell_ne h.o (by omega), cell_ne h.x (by omega), cell_ne h.b (by omega), fun o => (World.frozen?_setCell _ _ _ _).trans (h.frz o)⟩
theorem FoundAt.po {w : World} {g : Nat} {c : Array Value} {p : Pc} {b : Int} (h : FoundAt w g c p b) (k : Int) : FoundAt (w.setCell ⟨g, 257, none⟩ (.int .i64 k)) g c ⟨p.s, k, p.x⟩ b :=
  ⟨by simpa [World.setCell] using h.lt, h.size, h.put 257 (by omega) _, cell_ne h.s (by omega), World.cell?_setCell_same w ⟨g, 257, none⟩ _ h.o, cell_ne h.x (by omega), cell_ne h.b (by omega), fun o => (World.frozen?_setCell _ _ _ _).trans (h.frz o)⟩
theorem FoundAt.px {w : World} {g : Nat} {c : Array Value} {p : Pc} {b : Int} (h : FoundAt w g c p b) (k : Int) : FoundAt (w.setCell ⟨g, 258, none⟩ (.int .i64 k)) g c ⟨p.s, p.o, k⟩ b :=
  ⟨by simpa [World.setCell] using h.lt, h.size, h.put 258 (by omega) _, cell_ne h.s (by omega), cell_ne h.o (by omega), World.cell?_setCell_same w ⟨g, 258, none⟩ _ h.x, cell_ne h.b (by omega), fun o => (World.frozen?_setCell _ _ _ _).trans (h.frz o)⟩
theorem FoundAt.place {w : World} {g : Nat} {c : Array Value} {p : Pc} {b : Int} (h : FoundAt w g c p b) (q : Pc) : FoundAt (((w.setCell ⟨g, 256, none⟩ (.int .i64 q.s)).setCell ⟨g, 257, none⟩ (.int .i64 q.o)).setCell ⟨g, 258, none⟩ (.int .i64 q.x)) g c q b :=
  ((h.ps q.s).po q.o).px q.x
/-- What Forward knows as it goes. -/
structure RSt where
  L : List En
  A : List Int
  k : Int
  p : Pc
  c : Array Value
  fp : Pc
  fb : Int
/-- One batch more; none stands there. -/
def rollStep (R : Int → List UInt8) (n z ep sq : Int) (s : RSt) : Option RSt :=
  if nextG R n z s.p ep sq then
    let P := onP z s.p
    let l := R (secP z P)
    let L := s.L ++ esL (smF l) (smN l)
    let A := s.A ++ atL (secP z P) (cntW (smF l) (smN l))
    let q : Pc := ⟨P.s, P.o + 1 + (cntW (smF l) (smN l) : Int), smNx l⟩
    if smLa l then some ⟨[], [], 0, q, resA s.c (penAt L) (inAt A) A.length L.length, q, s.fb + (s.k + 1)⟩ else some ⟨L, A, s.k + 1, q, s.c, s.fp, s.fb⟩
  else none
/-- What is known behind so many rounds. -/
def reachR (R : Int → List UInt8) (n z ep : Int) (s0 : RSt) : Nat → RSt → Prop
  | 0, s => s = s0
  | k + 1, s => ∃ t, reachR R n z ep s0 k t ∧ rollStep R n z ep (k : Int) t = some s
/-- What holds of it all along. -/
structure RSt.ok (n z : Int) (s : RSt) (k : Nat) : Prop where
  p : PcOk n z s.p
  L : s.L.length ≤ 64 * k
  A : s.A.length ≤ 64 * k
  k0 : 0 ≤ s.k
  b0 : 0 ≤ s.fb
  kb : s.fb + s.k ≤ (k : Int)
  c : ∃ F, Nums s.c .i64 256 F
theorem sum_parts {l : List UInt8} {t : Stp} (h : sumG l t = true) : smN l ≤ 64 ∧ 0 ≤ smNx l ∧ cntW (smF l) (smN l) ≤ 64 := by
  have h1 := bCk_zero (sum_bck h)
  have h2 := cntW_le (smF l) (smN l)
  exact ⟨h1.2.2.1, by unfold smNx; omega, by have := h1.2.2.1; omega⟩
theorem next_parts {R : Int → List UInt8} {n z : Int} {p : Pc} {ep sq : Int} (h : nextG R n z p ep sq = true) :
    smN (R (secP z (onP z p))) ≤ 64 ∧ 0 ≤ smNx (R (secP z (onP z p))) ∧ smNx (R (secP z (onP z p))) < n ∧ (onP z p).o + 1 + (cntW (smF (R (secP z (onP z p)))) (smN (R (secP z (onP z p)))) : Int) ≤ z ∧ smNx (R (secP z (onP z p))) ≠ (onP z p).s := by
  unfold nextG at h
  simp only [Bool.and_eq_true, decide_eq_true_eq] at h
  obtain ⟨h1, h2, h3, _⟩ := h
  unfold batG at h1
  simp only [Bool.and_eq_true, decide_eq_true_eq] at h1
  obtain ⟨g1, g2, _⟩ := h1
  have := sum_parts g1
  refine ⟨this.1, this.2.1, h2, by omega, fun e => ?_⟩
  rw [e] at h3
  simp at h3
end Go.Proofs.Ytcklmemnjchdcaa

/-
  Package roll: a round of Forward, as data and in memory.
-/

namespace Go.Proofs.Ytcklmemnjchdcaa
open Go.RowKit Go.Maps
set_option linter.unusedVariables false
set_option linter.unusedSimpArgs false

theorem RSt.ok.step {R : Int → List UInt8} {n z ep : Int} {k : Nat} {s t : RSt} (hok : okB n z = true) (h : s.ok n z k) (hs : rollStep R n z ep (k : Int) s = some t) : t.ok n z (k + 1) := by
  unfold rollStep at hs
  split at hs
  · rename_i hn
    obtain ⟨hop, hop2⟩ := on_ok hok h.p
    have hp := next_parts hn
    have hq : PcOk n z ⟨(onP z s.p).s, (onP z s.p).o + 1 + (cntW (smF (R (secP z (onP z s.p)))) (smN (R (secP z (onP z s.p)))) : Int), smNx (R (secP z (onP z s.p)))⟩ :=
      ⟨hop.s0, hop.s1, by show (0 : Int) ≤ (onP z s.p).o + 1 + _; have := hop.o0; omega, hp.2.2.2.1, hp.2.1, hp.2.2.1⟩
    have hcw := cntW_le (smF (R (secP z (onP z s.p)))) (smN (R (secP z (onP z s.p))))
    have h0 := h.k0
    have h1 := h.b0
    have h2 := h.kb
    have hL := h.L
    have hA := h.A
    have h64 := hp.1
    dsimp only at hs
    split at hs
    · cases hs
      refine ⟨hq, Nat.zero_le _, Nat.zero_le _, Int.le_refl _, by show 0 ≤ s.fb + (s.k + 1); omega, by show s.fb + (s.k + 1) + 0 ≤ ((k + 1 : Nat) : Int); omega, ?_⟩
      obtain ⟨F, hF⟩ := h.c
      show ∃ F, Nums (resA s.c _ _ _ _) .i64 256 F
      unfold resA
      split
      · exact cellA_nums hF _ _ _
      · exact ⟨F, hF⟩
    · cases hs
      refine ⟨hq, ?_, ?_, by show 0 ≤ s.k + 1; omega, h1, by show s.fb + (s.k + 1) ≤ ((k + 1 : Nat) : Int); omega, h.c⟩
      · show (s.L ++ esL _ _).length ≤ _
        rw [List.length_append, esL_len]; omega
      · show (s.A ++ atL _ _).length ≤ _
        rw [List.length_append, atL_len]; omega
  · cases hs
/-- The beginning. -/
def rst0 (c : Array Value) (F : Nat → Int) : RSt := ⟨[], [], 0, ⟨F 1, F 2, F 3⟩, c.extract 36 292, ⟨F 1, F 2, F 3⟩, 0⟩
theorem map_nums {c : Array Value} {F : Nat → Int} (N : Nums c .i64 292 F) : Nums (c.extract 36 292) .i64 256 (fun j => F (36 + j)) :=
  ⟨by simp [N.size], fun j hj => by
    rw [Array.getElem?_extract]
    rw [if_pos (by rw [N.size]; omega)]
    exact N.get (36 + j) (by omega)⟩
theorem rst0_ok {n z : Int} {c : Array Value} {F : Nat → Int} (N : Nums c .i64 292 F) (h : fitsB n z F = true) : (rst0 c F).ok n z 0 := by
  unfold fitsB mOk at h
  simp only [Bool.and_eq_true, decide_eq_true_eq, List.all_cons, List.all_nil, Bool.and_true, inB_iff] at h
  obtain ⟨_, ⟨_, _, _, ⟨⟨a1, _⟩, a3, _⟩, ⟨a5, _⟩, _⟩, b1, b2, b3⟩ := h
  exact ⟨⟨a1, b1, a5, b3, a3, b2⟩, Nat.le_refl _, Nat.le_refl _, Int.le_refl _, Int.le_refl _, Int.le_refl _, _, map_nums N⟩
theorem FoundAt.whole {w : World} {g : Nat} {Z : Array Value} (B : Blk w g Z) (hZ : Z.size = 260) {c : Array Value} (hc : c.size = 256) (p : Pc) (b : Int) : FoundAt (w.setCells g 0 (foundC c p b).toList) g c p b := by
  have hs := foundC_size hc p b
  have S := sole_setCells (S := fun k => k = g) rfl (foundC c p b).toList 0 w
  have hr := World.rangeAt_setCells_same w g 0 (foundC c p b).toList (fun j hj => B.there (n := Z.size) rfl j (by rw [hZ]; simpa [hs] using hj))
  have at' : ∀ k v, (foundC c p b)[k]? = some v → (w.setCells g 0 (foundC c p b).toList).cell? ⟨g, k, none⟩ = some v := fun k v hv => by
    have := hr k v (by simpa using hv)
    rwa [Nat.zero_add] at this
  refine ⟨Nat.lt_of_lt_of_le B.lt S.size, hc, fun j v hv => ?_, at' _ _ ?_, at' _ _ ?_, at' _ _ ?_, at' _ _ ?_, fun o => (frozen_setCells _ g 0 w ⟨g, o, none⟩).trans (B.frz o)⟩
  · have hj : j < 256 := by
      have := (List.getElem?_eq_some_iff.1 hv).1
      simpa [hc] using this
    rw [Nat.zero_add]
    exact at' j v (by rw [foundC_get hc, if_pos hj]; simpa using hv)
  all_goals rw [foundC_get hc]; rfl
theorem size_setCells : ∀ (vs : List Value) (b o : Nat) (w : World), (w.setCells b o vs).heap.size = w.heap.size
  | [], _, _, _ => rfl
  | v :: vs, b, o, w => (size_setCells vs b (o + 1) (w.setCell ⟨b, o, none⟩ v)).trans (by simp [World.setCell])
theorem found_one {c : Array Value} {F : Nat → Int} (N : Nums c .i64 256 F) (p : Pc) (b : Int) : (foundC c p b).all (·.oneCell') = true := by
  unfold foundC
  rw [Array.all_append]
  have h1 : c.all (·.oneCell') = true := N.one
  rw [h1]
  simp [Value.oneCell']
/-- Forward's memory behind a round. -/
structure FwdAt (w wr : World) (b : Nat) (K : Nat → Prop) (N : Nat) (R : Int → List UInt8) (c0 : Nat) (n z : Int) (c : Array Value) (G : Nat) (s : RSt) (pe : Option Addr) (ce : Nat) (pa : Option Addr) (ca : Nat) : Prop where
  S : Sole K w wr
  d : ∃ m', DiskM wr b m' K ∧ Quiet m' N R ∧ Soft m' c0
  b4 : Blk wr w.heap.size #[.int .i64 n, .int .i64 z]
  b5 : Blk wr (w.heap.size + 1) c
  b6 : Blk wr (w.heap.size + 1 + 1) zerosF
  f : FoundAt wr G s.c s.fp s.fb
  p : Blk wr (G + 1) s.p.cells
  nt : NoteM wr (G + 1 + 1) (G + 3) s.L s.A s.k pe ce pa ca
  kl : ∀ k, K k → k < w.heap.size
  hG : w.heap.size + 3 ≤ G
theorem FwdAt.read {w wr w' : World} {b : Nat} {K : Nat → Prop} {N : Nat} {R : Int → List UInt8} {c0 : Nat} {n z : Int} {c : Array Value} {G : Nat} {s : RSt} {pe : Option Addr} {ce : Nat} {pa : Option Addr} {ca : Nat} (h : FwdAt w wr b K N R c0 n z c G s pe ce pa ca) (S : Sole K wr w') (d : ∃ m', DiskM w' b m' K ∧ Quiet m' N R ∧ Soft m' c0) : FwdAt w w' b K N R c0 n z c G s pe ce pa ca :=
  ⟨h.S.trans S, d, h.b4.sole S (fun e => by have := h.kl _ e; omega), h.b5.sole S (fun e => by have := h.kl _ e; omega), h.b6.sole S (fun e => by have := h.kl _ e; omega), h.f.sole S (fun e => by have := h.kl _ e; have := h.hG; omega), h.p.sole S (fun e => by have := h.kl _ e; have := h.hG; omega), h.nt.sole S (fun j e => by have := h.kl _ e; have := h.hG; omega) (fun e => by have := h.kl _ e; have := h.hG; omega), h.kl, h.hG⟩
theorem FwdAt.more {w wr w' : World} {b : Nat} {K : Nat → Prop} {N : Nat} {R : Int → List UInt8} {c0 : Nat} {n z : Int} {c : Array Value} {G : Nat} {s : RSt} {pe : Option Addr} {ce : Nat} {pa : Option Addr} {ca : Nat} (h : FwdAt w wr b K N R c0 n z c G s pe ce pa ca) (hb : Below wr.heap.size wr w') : FwdAt w w' b K N R c0 n z c G s pe ce pa ca :=
  h.read (Sole.made hb) (h.d.elim fun m' hd => ⟨m', hd.1.more hb, hd.2⟩)
/-- A part of a block is loaded. -/
theorem rwp_loadAt {P : Program} {op : Oper} {a : Act} {w : World} {K : Act → World → Prop} {Q : Exit → Act → World → Prop} (ty : TypeId) (x : Operand) (ho : op.op = .load ty x)
    (b o : Nat) (hx : a.eval x = .pointer (some ⟨b, o, none⟩)) (c : Array Value) (d : TypeDesc) (B : w.rangeAt b o c.toList)
    (hu : P.underlying ty = some d) (hd : d.isRow = true) (hi : (P.info? ty).map (·.size) = some c.size)
    (h : K (a.put op.dst (.agg c)) w) : op.wp P a w K Q :=
  wp_load_mid ty x ho b o hx c.toList d B hu hd (by rw [hi]; simp) (by rw [Array.toArray_toList]; exact h)
theorem rwpList_loadAt {P : Program} {ops : Array Oper} {rest : List Oper} {op : Oper} {a : Act} {w : World} {Q : Exit → Act → World → Prop} (hgd : op.guard = none) (ty : TypeId) (x : Operand) (ho : op.op = .load ty x)
    (b o : Nat) (hx : a.eval x = .pointer (some ⟨b, o, none⟩)) (c : Array Value) (d : TypeDesc) (B : w.rangeAt b o c.toList)
    (hu : P.underlying ty = some d) (hd : d.isRow = true) (hi : (P.info? ty).map (·.size) = some c.size)
    (h : wpList P ops Q rest (a.put op.dst (.agg c)) w) : wpList P ops Q (op :: rest) a w :=
  wpList_plain hgd fun _ hK => rwp_loadAt ty x ho b o hx c d B hu hd hi (hK _ _ h)
theorem cell_setCells_out : ∀ (vs : List Value) (b o : Nat) (w : World) (j : Nat), (j < o ∨ o + vs.length ≤ j) → (w.setCells b o vs).cell? ⟨b, j, none⟩ = w.cell? ⟨b, j, none⟩
  | [], _, _, _, _, _ => rfl
  | v :: vs, b, o, w, j, h => by
    have h1 := cell_setCells_out vs b (o + 1) (w.setCell ⟨b, o, none⟩ v) j (by simp only [List.length_cons] at h; omega)
    refine h1.trans ?_
    exact World.cell?_setCell_other w ⟨b, o, none⟩ ⟨b, j, none⟩ v (by intro e; cases e; simp only [List.length_cons] at h; omega)
theorem Blk.whole9 {w : World} {g : Nat} {Z C : Array Value} (B : Blk w g Z) (h : Z.size = C.size) : Blk (w.setCells g 0 C.toList) g C := by
  have hr := World.rangeAt_setCells_same w g 0 C.toList (fun j hj => B.there (n := Z.size) rfl j (by rw [h]; simpa using hj))
  refine ⟨by rw [size_setCells]; exact B.lt, fun o => ?_, fun o => (frozen_setCells _ g 0 w ⟨g, o, none⟩).trans (B.frz o)⟩
  by_cases ho : o < C.size
  · have := hr o C[o] (by simp [ho])
    rw [Nat.zero_add] at this
    rw [this]
    simp [ho]
  · rw [cell_setCells_out C.toList g 0 w o (.inr (by simp; omega)), B.cell, Array.getElem?_eq_none (by omega), Array.getElem?_eq_none (by omega)]
theorem FwdAt.note {w W V : World} {b : Nat} {K : Nat → Prop} {N : Nat} {R : Int → List UInt8} {c0 : Nat} {n z : Int} {c : Array Value} {G : Nat} {s : RSt} {pe : Option Addr} {ce : Nat} {pa : Option Addr} {ca : Nat} (h : FwdAt w W b K N R c0 n z c G s pe ce pa ca) (S : Sole (noteS (G + 1 + 1) pe s.L ce pa s.A ca) W V) {L : List En} {A : List Int} {k : Int} {pe' : Option Addr} {ce' : Nat} {pa' : Option Addr} {ca' : Nat} (M : NoteM V (G + 1 + 1) (G + 3) L A k pe' ce' pa' ca') : FwdAt w V b K N R c0 n z c G ⟨L, A, k, s.p, s.c, s.fp, s.fb⟩ pe' ce' pa' ca' := by
  have hG := h.hG
  have low : ∀ i, i ≤ G + 1 → ¬ noteS (G + 1 + 1) pe s.L ce pa s.A ca i := fun i hi hs => by
    rcases hs with e | e | e
    · omega
    · have := (h.nt.es.within i e).1; omega
    · have := (h.nt.ats.within i e).1; omega
  exact ⟨h.S.trans' S (fun i hi hs => absurd hs (low i (by omega))), h.d.elim fun m' hd => ⟨m', hd.1.kept S (fun i hk hs => low i (by have := h.kl i hk; omega) hs), hd.2⟩, h.b4.sole S (low _ (by omega)), h.b5.sole S (low _ (by omega)), h.b6.sole S (low _ (by omega)), h.f.sole S (low _ (by omega)), h.p.sole S (low _ (by omega)), M, h.kl, h.hG⟩
theorem FwdAt.setP {w W : World} {b : Nat} {K : Nat → Prop} {N : Nat} {R : Int → List UInt8} {c0 : Nat} {n z : Int} {c : Array Value} {G : Nat} {s : RSt} {pe : Option Addr} {ce : Nat} {pa : Option Addr} {ca : Nat} (h : FwdAt w W b K N R c0 n z c G s pe ce pa ca) (q : Pc) : FwdAt w (((W.setCell ⟨G + 1, 0, none⟩ (.int .i64 q.s)).setCell ⟨G + 1, 1, none⟩ (.int .i64 q.o)).setCell ⟨G + 1, 2, none⟩ (.int .i64 q.x)) b K N R c0 n z c G ⟨s.L, s.A, s.k, q, s.c, s.fp, s.fb⟩ pe ce pa ca := by
  have hG := h.hG
  have S := sole_setAll (S := fun k => k = G + 1) rfl [.int .i64 q.s, .int .i64 q.o, .int .i64 q.x] 0 W
  simp only [setAll, Nat.zero_add, Nat.reduceAdd] at S
  exact ⟨h.S.trans' S (fun i hi e => by omega), h.d.elim fun m' hd => ⟨m', hd.1.kept S (fun i hk e => by have := h.kl i hk; omega), hd.2⟩, h.b4.sole S (by show ¬ _; omega), h.b5.sole S (by show ¬ _; omega), h.b6.sole S (by show ¬ _; omega), h.f.sole S (by show ¬ _; omega), ((h.p.set 0 (.int .i64 q.s) (by simp)).set 1 (.int .i64 q.o) (by simp)).set 2 (.int .i64 q.x) (by simp), h.nt.sole S (fun j e => by omega) (by show ¬ _; omega), h.kl, h.hG⟩
theorem roll_step {R : Int → List UInt8} {n z ep sq : Int} {s : RSt} (h : nextG R n z s.p ep sq = true) : rollStep R n z ep sq s =
    (if smLa (R (secP z (onP z s.p))) then some ⟨[], [], 0, ⟨(onP z s.p).s, (onP z s.p).o + 1 + (cntW (smF (R (secP z (onP z s.p)))) (smN (R (secP z (onP z s.p)))) : Int), smNx (R (secP z (onP z s.p)))⟩,
        resA s.c (penAt (s.L ++ esL (smF (R (secP z (onP z s.p)))) (smN (R (secP z (onP z s.p)))))) (inAt (s.A ++ atL (secP z (onP z s.p)) (cntW (smF (R (secP z (onP z s.p)))) (smN (R (secP z (onP z s.p))))))) (s.A ++ atL (secP z (onP z s.p)) (cntW (smF (R (secP z (onP z s.p)))) (smN (R (secP z (onP z s.p)))))).length (s.L ++ esL (smF (R (secP z (onP z s.p)))) (smN (R (secP z (onP z s.p))))).length,
        ⟨(onP z s.p).s, (onP z s.p).o + 1 + (cntW (smF (R (secP z (onP z s.p)))) (smN (R (secP z (onP z s.p)))) : Int), smNx (R (secP z (onP z s.p)))⟩, s.fb + (s.k + 1)⟩
      else some ⟨s.L ++ esL (smF (R (secP z (onP z s.p)))) (smN (R (secP z (onP z s.p)))), s.A ++ atL (secP z (onP z s.p)) (cntW (smF (R (secP z (onP z s.p)))) (smN (R (secP z (onP z s.p))))), s.k + 1, ⟨(onP z s.p).s, (onP z s.p).o + 1 + (cntW (smF (R (secP z (onP z s.p)))) (smN (R (secP z (onP z s.p)))) : Int), smNx (R (secP z (onP z s.p)))⟩, s.c, s.fp, s.fb⟩) := by
  unfold rollStep
  rw [if_pos h]
theorem FwdAt.setM {w W : World} {b : Nat} {K : Nat → Prop} {N : Nat} {R : Int → List UInt8} {c0 : Nat} {n z : Int} {c : Array Value} {G : Nat} {s : RSt} {pe : Option Addr} {ce : Nat} {pa : Option Addr} {ca : Nat} (h : FwdAt w W b K N R c0 n z c G s pe ce pa ca) (d : Array Value) (hd : d.size = 256) : FwdAt w (W.setCells G 0 d.toList) b K N R c0 n z c G ⟨s.L, s.A, s.k, s.p, d, s.fp, s.fb⟩ pe ce pa ca := by
  have hG := h.hG
  have S := sole_setCells (S := fun k => k = G) rfl d.toList 0 W
  exact ⟨h.S.trans' S (fun i hi e => by omega), h.d.elim fun m' hd => ⟨m', hd.1.kept S (fun i hk e => by have := h.kl i hk; omega), hd.2⟩, h.b4.sole S (by show ¬ _; omega), h.b5.sole S (by show ¬ _; omega), h.b6.sole S (by show ¬ _; omega), h.f.map d hd, h.p.sole S (by show ¬ _; omega), h.nt.sole S (fun j e => by omega) (by show ¬ _; omega), h.kl, h.hG⟩
theorem FwdAt.done {w W : World} {b : Nat} {K : Nat → Prop} {N : Nat} {R : Int → List UInt8} {c0 : Nat} {n z : Int} {c : Array Value} {G : Nat} {s : RSt} {pe : Option Addr} {ce : Nat} {pa : Option Addr} {ca : Nat} (h : FwdAt w W b K N R c0 n z c G s pe ce pa ca) (k : Int) :
    FwdAt w (((((((W.setCell ⟨G, 256, none⟩ (.int .i64 s.p.s)).setCell ⟨G, 257, none⟩ (.int .i64 s.p.o)).setCell ⟨G, 258, none⟩ (.int .i64 s.p.x)).setCell ⟨G, 259, none⟩ (.int .i64 k)).setCell ⟨G + 1 + 1, 0, none⟩ (.slice none 0 0)).setCell ⟨G + 1 + 1, 1, none⟩ (.slice none 0 0)).setCell ⟨G + 1 + 1, 2, none⟩ (.int .i64 0)) b K N R c0 n z c G ⟨[], [], 0, s.p, s.c, s.p, k⟩ none 0 none 0 := by
  have hG := h.hG
  have S1 := sole_setAll (S := fun k => k = G) rfl [.int .i64 s.p.s, .int .i64 s.p.o, .int .i64 s.p.x, .int .i64 k] 256 W
  simp only [setAll, Nat.reduceAdd] at S1
  have F1 := (h.f.place s.p).num k
  have n1 := h.nt.sole S1 (fun j e => by omega) (by show ¬ _; omega)
  have p1 := h.p.sole S1 (by show ¬ _; omega)
  have x4 := h.b4.sole S1 (by show ¬ _; omega)
  have x5 := h.b5.sole S1 (by show ¬ _; omega)
  have x6 := h.b6.sole S1 (by show ¬ _; omega)
  have xS := h.S.trans' S1 (fun i hi e => by omega)
  have xd := h.d.elim fun m' hd => show ∃ m', DiskM _ b m' K ∧ Quiet m' N R ∧ Soft m' c0 from ⟨m', hd.1.kept S1 (fun i hk e => by have := h.kl i hk; omega), hd.2⟩
  generalize (((W.setCell ⟨G, 256, none⟩ (.int .i64 s.p.s)).setCell ⟨G, 257, none⟩ (.int .i64 s.p.o)).setCell ⟨G, 258, none⟩ (.int .i64 s.p.x)).setCell ⟨G, 259, none⟩ (.int .i64 k) = V at *
  have S2 := sole_setAll (S := fun k => k = G + 1 + 1) rfl [.slice none 0 0, .slice none 0 0, .int .i64 0] 0 V
  simp only [setAll, Nat.zero_add, Nat.reduceAdd] at S2
  exact ⟨xS.trans' S2 (fun i hi e => by omega), xd.elim fun m' hd => ⟨m', hd.1.kept S2 (fun i hk e => by have := h.kl i hk; omega), hd.2⟩, x4.sole S2 (by show ¬ _; omega), x5.sole S2 (by show ¬ _; omega), x6.sole S2 (by show ¬ _; omega), F1.sole S2 (by show ¬ _; omega), p1.sole S2 (by show ¬ _; omega),
    ⟨((n1.box.set 0 (.slice none 0 0) (by simp)).set 1 (.slice none 0 0) (by simp)).set 2 (.int .i64 0) (by simp), RowOwn.nil _ _, RowOwn.nil _ _, (fun g e => by cases e), (fun g e => by cases e), (fun g e => by cases e)⟩, h.kl, h.hG⟩
end Go.Proofs.Ytcklmemnjchdcaa

/-
  Package roll: what holds of all that Forward finds, whatever stands on the disk.
-/


namespace Go.Proofs.Ytcklmemnjchdcaa
open Go.RowKit Go.Maps
set_option linter.unusedVariables false
set_option linter.unusedSimpArgs false

theorem wh_iff {n z s : Int} (hok : okB n z = true) : whB n z s = true ↔ 9 ≤ s ∧ s < 9 + n * z := by
  unfold whB
  rw [hok]
  simp
/-- Each number is the mark's, or 0, or a sector of the log. -/
def CellsOk (n z : Int) (F0 : Nat → Int) (c : Array Value) : Prop := ∃ G, Nums c .i64 256 G ∧ ∀ j, j < 256 → G j = F0 j ∨ G j = 0 ∨ whB n z (G j) = true
structure RSt.law (n z : Int) (F0 : Nat → Int) (s : RSt) : Prop where
  c : CellsOk n z F0 s.c
  a : ∀ x ∈ s.A, whB n z x = true
  p : PcOk n z s.fp
  d : s.fp.s ≠ s.fp.x
theorem atL_log {n z : Int} (hok : okB n z = true) {P : Pc} (hP : PcOk n z P) {cn : Nat} (h : P.o + 1 + (cn : Int) ≤ z) : ∀ x ∈ atL (secP z P) cn, whB n z x = true := by
  intro x hx
  obtain ⟨j, hj, rfl⟩ := List.mem_map.1 hx
  have hj' := List.mem_range.1 hj
  obtain ⟨h1, h2, h3, h4⟩ := ok_true hok
  have a1 : (P.s + 1) * z ≤ n * z := Int.mul_le_mul_of_nonneg_right (by have := hP.s1; omega) (by omega)
  rw [Int.add_mul, Int.one_mul] at a1
  have a2 := mul_in hP.s0 (show P.s ≤ 32 by have := hP.s1; omega) h3 h4
  have := hP.o0
  rw [wh_iff hok]
  unfold secP
  omega
theorem cellA_ok {n z : Int} {F0 : Nat → Int} {c : Array Value} (h : CellsOk n z F0 c) (f : Nat → En) (A : List Int) (hA : ∀ x ∈ A, whB n z x = true) : ∀ k, okA f A.length k = true → CellsOk n z F0 (cellA c f (inAt A) k)
  | 0, _ => h
  | k + 1, ho => by
    have h1 : okA f A.length k = true := (Bool.and_eq_true _ _ ▸ ho : _ ∧ _).1
    have h2 : okE (f k) (usedA f k) A.length = true := (Bool.and_eq_true _ _ ▸ ho : _ ∧ _).2
    obtain ⟨G, hN, hG⟩ := cellA_ok h f A hA k h1
    show CellsOk n z F0 ((cellA c f (inAt A) k).setIfInBounds (f k).i.toNat (.int .i64 (if (f k).k = 1 then inAt A (usedA f k) else 0)))
    by_cases hi : (f k).i.toNat < 256
    · refine ⟨fun j => if j = (f k).i.toNat then (if (f k).k = 1 then inAt A (usedA f k) else 0) else G j, hN.set hi fun j hj => rfl, fun j hj => ?_⟩
      dsimp only
      by_cases e : j = (f k).i.toNat
      · rw [if_pos e]
        by_cases hk : (f k).k = 1
        · rw [if_pos hk]
          right; right
          have hu : usedA f k < A.length := by
            unfold okE at h2
            simp only [Bool.and_eq_true, Bool.or_eq_true, decide_eq_true_eq] at h2
            rcases h2.2 with h | h
            · omega
            · exact h
          exact hA _ (atR_mem (T := inT) A _ hu)
        · rw [if_neg hk]; exact .inr (.inl rfl)
      · rw [if_neg e]; exact hG j hj
    · rw [Array.setIfInBounds_eq_of_size_le (by have := hN.size; omega)]
      exact ⟨G, hN, hG⟩
theorem resA_ok {n z : Int} {F0 : Nat → Int} {c : Array Value} (h : CellsOk n z F0 c) (f : Nat → En) (A : List Int) (hA : ∀ x ∈ A, whB n z x = true) (k : Nat) : CellsOk n z F0 (resA c f (inAt A) A.length k) := by
  unfold resA
  split
  · rename_i hf
    exact cellA_ok h f A hA k ((Bool.and_eq_true _ _ ▸ hf : _ ∧ _).1)
  · exact h
theorem RSt.law.step {R : Int → List UInt8} {n z ep : Int} {F0 : Nat → Int} {k : Nat} {s t : RSt} (hok : okB n z = true) (h : s.law n z F0) (ho : s.ok n z k) (hs : rollStep R n z ep (k : Int) s = some t) : t.law n z F0 := by
  unfold rollStep at hs
  split at hs
  · rename_i hn
    obtain ⟨hop, hop2⟩ := on_ok hok ho.p
    have hp := next_parts hn
    have hq : PcOk n z ⟨(onP z s.p).s, (onP z s.p).o + 1 + (cntW (smF (R (secP z (onP z s.p)))) (smN (R (secP z (onP z s.p)))) : Int), smNx (R (secP z (onP z s.p)))⟩ :=
      ⟨hop.s0, hop.s1, by show (0 : Int) ≤ (onP z s.p).o + 1 + _; have := hop.o0; omega, hp.2.2.2.1, hp.2.1, hp.2.2.1⟩
    have hA : ∀ x ∈ s.A ++ atL (secP z (onP z s.p)) (cntW (smF (R (secP z (onP z s.p)))) (smN (R (secP z (onP z s.p))))), whB n z x = true := by
      intro x hx
      rcases List.mem_append.1 hx with hx | hx
      · exact h.a x hx
      · exact atL_log hok hop hp.2.2.2.1 x hx
    dsimp only at hs
    split at hs
    · cases hs
      exact ⟨resA_ok h.c _ _ hA _, fun x hx => (by cases hx), hq, fun e => hp.2.2.2.2 e.symm⟩
    · cases hs
      exact ⟨h.c, hA, h.p, h.d⟩
  · cases hs
theorem reach_none {R : Int → List UInt8} {n z ep : Int} {s0 : RSt} (h : rollStep R n z ep 0 s0 = none) : ∀ k s, reachR R n z ep s0 k s → k = 0 ∧ s = s0
  | 0, s, hr => ⟨rfl, hr⟩
  | k + 1, s, ⟨t, hr, hs⟩ => by
    obtain ⟨rfl, rfl⟩ := reach_none h k t hr
    rw [show ((0 : Nat) : Int) = 0 from rfl, h] at hs
    cases hs
end Go.Proofs.Ytcklmemnjchdcaa

/-
  Package roll: Forward, from a mark that fits, on a disk that has no trouble.
-/


namespace Go.Proofs.Ytcklmemnjchdcaa
open Go.RowKit Go.Maps
set_option linter.unusedVariables false
set_option linter.unusedSimpArgs false

def FwdPost (w w' : World) (e : Ending) (b : Nat) (K : Nat → Prop) (N : Nat) (R : Int → List UInt8) (c0 : Nat) (n z ep : Int) (s0 : RSt) : Prop :=
  (∃ m', DiskM w' b m' K ∧ Quiet m' N R ∧ Soft m' c0) ∧ Sole K w w' ∧ ∃ k s, reachR R n z ep s0 k s ∧ (rollStep R n z ep (k : Int) s = none ∨ k = 4294967295) ∧ s.ok n z k ∧ k ≤ 4294967295 ∧ e = .returned (.tuple #[.agg (foundC s.c s.fp s.fb), .int .i64 0])

set_option maxRecDepth 100000 in
set_option maxHeartbeats 16000000 in
theorem rforward_any (m : DM) (b : Nat) (K : Nat → Prop) (w : World) (D : DiskM w b m K) {N : Nat} {R : Int → List UInt8} (Qm : Quiet m N R) {c0 : Nat} (Sm : Soft m c0) (hR : ∀ x, 0 ≤ x → x < (N : Int) → (R x).length = 256) (n z : Int) (hN : (N : Int) = 9 + n * z) (hN1 : N ≤ 1000) (c : Array Value) (F : Nat → Int) (Nm : Nums c .i64 292 F) (hfit : fitsB n z F = true) :
    Calls Try.prog 12 #[.pointer (some ⟨b, 0, none⟩), geo n z, .agg c] w fun e w' => FwdPost w w' e b K N R c0 n z (F 0) (rst0 c F) := by
  have hok : okB n z = true := by
    unfold fitsB at hfit
    simp only [Bool.and_eq_true] at hfit
    exact hfit.1
  have hst0 := hid (rst0_ok Nm hfit)
  have KF := fun w => rfits_any n z c F Nm w
  rw [hfit] at KF
  replace KF := hid KF
  have KN := hid (fun (m : DM) (w : World) (D : DiskM w b m K) (Qm : Quiet m N R) (Sm : Soft m c0) (p : Pc) (hp : PcOk n z p) (sq : Int) => rnext_any m b K w D Qm Sm hR n z hok hN hN1 p hp (F 0) sq)
  have hci := hid (show (Try.prog.info? 34).map (·.size) = some c.size by rw [marktab, Nm.size])
  obtain ⟨cm, hcm⟩ : ∃ cm, cm = c.extract 36 292 := ⟨_, rfl⟩
  have hms : cm.size = 256 := by rw [hcm]; exact (map_nums Nm).size
  have hmi := hid (show (Try.prog.info? 32).map (·.size) = some cm.size by rw [maptab, hms])
  have B4 := (Blk.new w #[.int .i64 n, .int .i64 z] 25).more (below_al1 (w.alloc (.cells #[.int .i64 n, .int .i64 z] 25)) (.cells c 34))
  have B5 : Blk ((w.alloc (.cells #[.int .i64 n, .int .i64 z] 25)).alloc (.cells c 34)) (w.heap.size + 1) c := by
    have := Blk.new (w.alloc (.cells #[.int .i64 n, .int .i64 z] 25)) c 34
    simpa using this
  have H0 := below2 (below_al1 w (.cells #[.int .i64 n, .int .i64 z] 25)) (below_al1 _ (.cells c 34)) (by simp)
  have hs0 : ((w.alloc (.cells #[.int .i64 n, .int .i64 z] 25)).alloc (.cells c 34)).heap.size = w.heap.size + 1 + 1 := by simp
  have W6e : ∀ W : World, Below W.heap.size W (W.alloc (.cells zerosF 43)) := fun W => below_al1 _ _
  have ranges : ∀ W : World, Blk W (w.heap.size + 1) c → W.rangeAt (w.heap.size + 1) 36 cm.toList := fun W B j v hv => by
    have hj : j < 256 := by
      have := (List.getElem?_eq_some_iff.1 hv).1
      simpa [hms] using this
    have hv' : (c.extract 36 292)[j]? = some v := by rw [← hcm]; simpa using hv
    rw [Array.getElem?_extract, if_pos (by rw [Nm.size]; omega)] at hv'
    rw [B.cell]
    exact hv'
  have g0 := hid (Nm.get 0 (by omega))
  have g1 := hid (Nm.get 1 (by omega))
  have g2 := hid (Nm.get 2 (by omega))
  have g3 := hid (Nm.get 3 (by omega))
  have hrst := hid (show rst0 c F = ⟨[], [], 0, ⟨F 1, F 2, F 3⟩, cm, ⟨F 1, F 2, F 3⟩, 0⟩ by rw [hcm]; rfl)
  have hfs := hid (fun (p : Pc) (b : Int) => foundC_size hms p b)
  have hone := hid (fun (p : Pc) => show (foundC cm p 0).all (·.oneCell') = true from by
    rw [hcm]
    exact found_one (map_nums Nm) p 0)
  obtain ⟨Z9, hZ9⟩ : ∃ Z, Z = zerosF := ⟨_, rfl⟩
  have h9s : Z9.size = 260 := by rw [hZ9]; simp [zerosF]
  rw [← hZ9] at W6e
  have B6 := Blk.new ((w.alloc (.cells #[.int .i64 n, .int .i64 z] 25)).alloc (.cells c 34)) Z9 43
  have b6 := W6e ((w.alloc (.cells #[.int .i64 n, .int .i64 z] 25)).alloc (.cells c 34))
  rw [hs0] at B6
  have B4b := B4.more b6
  have B5b := B5.more b6
  have H6 := below2 H0 b6 H0.size
  have hal := hid (fun ρ dst ty pos af W => (hZ9 ▸ fallocF ρ dst ty pos af W : (execOp ρ { dst := dst, op := .alloc 43, type := ty, pos := pos, after := af, guard := none }).run Try.prog W = .ok (.value (.pointer (some ⟨W.heap.size, 0, none⟩))) (W.alloc (.cells Z9 43))))
  replace hZ9 := hid hZ9
  replace hcm := hid hcm
  have hDh := hid D
  have Qmh := hid Qm
  have Smh := hid Sm
  replace ranges := hid ranges
  have hKs := hid (fun k (hk : K k) => D.klt k hk)
  clear B4 B5 H0 b6 D Qm Sm hR hN hN1 Nm hfit W6e hs0
  have B4h := hid B4b
  have B5h := hid B5b
  have B6h := hid B6
  have H6h := hid H6
  clear B4b B5b B6 H6
  generalize hs0 : rst0 c F = s0 at hst0 hrst ⊢
  generalize hf0 : F 0 = f0 at KN g0 ⊢
  clear hs0 hf0
  go_enter Try.func12, Try.ntmps12
  go_wp2_with (refine Go.Great.wpList_runTo rfl (some 6) rfl _ _ (hal.out _ _ _ _ _ _) ?_)
  generalize ((w.alloc (.cells #[.int .i64 n, .int .i64 z] 25)).alloc (.cells c 34)).alloc (.cells Z9 43) = W at *
  refine rwp_load 34 _ rfl (w.heap.size + 1) rfl c _ B5h.out Try.underlying34 rfl hci.out ?_
  obtain ⟨l4, m4, f4⟩ := B4h.out
  go_wp2_with fail
  refine (KF.out _).mono ?_
  rintro e w1 ⟨rfl, hb1⟩
  have H1 := hid (below2 H6h.out hb1 H6h.out.size)
  have B41 := hid (B4h.out.more hb1)
  have B51 := hid (B5h.out.more hb1)
  have B61 := hid (B6h.out.more hb1)
  have hw1 := hid (show w.heap.size + 2 < w1.heap.size from (B6h.out.more hb1).lt)
  clear hb1 l4 m4 f4 KF B4h B5h B6h H6h
  have u1 := (B51.out.cell 1).trans g1.out
  have u2 := (B51.out.cell 2).trans g2.out
  have u3 := (B51.out.cell 3).trans g3.out
  have l5 := B51.out.lt
  have rng := ranges.out w1 B51.out
  have BF := Blk.new w1 Z9 43
  have th := BF.there (n := (foundC cm ⟨F 1, F 2, F 3⟩ 0).size) (by rw [hfs.out, h9s])
  have FA := hid (FoundAt.whole BF h9s hms ⟨F 1, F 2, F 3⟩ 0)
  have SF := hid ((Sole.made (S := fun k => k = w1.heap.size) (below_al1 w1 (.cells Z9 43))).trans (sole_setCells (S := fun k => k = w1.heap.size) rfl (foundC cm ⟨F 1, F 2, F 3⟩ 0).toList 0 _))
  have hsz := hid (show ((w1.alloc (.cells Z9 43)).setCells w1.heap.size 0 (foundC cm ⟨F 1, F 2, F 3⟩ 0).toList).heap.size = w1.heap.size + 1 by rw [size_setCells]; simp)
  generalize hf1 : F 1 = f1 at *
  generalize hf2 : F 2 = f2 at *
  generalize hf3 : F 3 = f3 at *
  clear BF
  go_wp2_with fail
  refine rwp_loadAt 32 _ rfl (w.heap.size + 1) 36 rfl cm _ rng Try.underlying32 rfl hmi.out ?_
  go_wp2_with (first | (refine Go.Great.wpList_runTo rfl (some 25) rfl _ _ (fbuildP _ _ _ _ _ none hms ⟨f1, f2, f3⟩ _ _ rfl rfl _) ?_) | (refine Go.Great.wpList_runTo rfl (some 8) rfl _ _ (hal.out _ _ _ _ _ _) ?_; refine wpList_store_mid rfl 43 _ _ rfl w1.heap.size 0 (foundC cm ⟨f1, f2, f3⟩ 0) rfl rfl th (by rw [foundtab, hfs.out]) (hone.out _) ?_; generalize World.setCells _ _ _ _ = Wf at *; have b5f := B51.out.sole SF.out (by show ¬ _; have := hw1.out; omega); have v1 := (b5f.cell 1).trans g1.out; have v2 := (b5f.cell 2).trans g2.out; have v3 := (b5f.cell 3).trans g3.out; have l5f := b5f.lt; have hszu := hsz.out; clear th rng hone hfs hal u1 u2 u3 l5 b5f))
  have HB2 := hid (((H1.out.trans (SF.out.below (B := w.heap.size) H1.out.size (fun k e => by have := H1.out.size; omega))).alloc (by have := H1.out.size; rw [hsz.out]; omega) (.cells #[.int .i64 f1, .int .i64 f2, .int .i64 f3] 30)).alloc (by have := H1.out.size; simp [hsz.out]; omega) (.cells #[.slice none 0 0, .slice none 0 0, .int .i64 0] 94))
  have ba := below_al1 Wf (.cells #[.int .i64 f1, .int .i64 f2, .int .i64 f3] 30)
  have bb := below_al1 (Wf.alloc (.cells #[.int .i64 f1, .int .i64 f2, .int .i64 f3] 30)) (.cells #[.slice none 0 0, .slice none 0 0, .int .i64 0] 94)
  have bab := below2 ba bb ba.size
  have n1 : ¬ w.heap.size = w1.heap.size := by have := hw1.out; omega
  have n2 : ¬ w.heap.size + 1 = w1.heap.size := by have := hw1.out; omega
  have n3 : ¬ w.heap.size + 1 + 1 = w1.heap.size := by have := hw1.out; omega
  have Bp := (Blk.new Wf #[.int .i64 f1, .int .i64 f2, .int .i64 f3] 30).more bb
  have Bt := Blk.new (Wf.alloc (.cells #[.int .i64 f1, .int .i64 f2, .int .i64 f3] 30)) #[.slice none 0 0, .slice none 0 0, .int .i64 0] 94
  rw [hsz.out] at Bp
  rw [show (Wf.alloc (.cells #[.int .i64 f1, .int .i64 f2, .int .i64 f3] 30)).heap.size = w1.heap.size + 1 + 1 by simp [hsz.out]] at Bt
  have HF0q := hid (show FwdAt w _ b K N R c0 n z c w1.heap.size ⟨[], [], 0, ⟨f1, f2, f3⟩, cm, ⟨f1, f2, f3⟩, 0⟩ none 0 none 0 from
    ⟨Sole.made HB2.out, ⟨m, hDh.out.more HB2.out, Qmh.out, Smh.out⟩, (B41.out.sole SF.out n1).more bab, (B51.out.sole SF.out n2).more bab, ((hZ9.out ▸ B61.out : Blk w1 (w.heap.size + 1 + 1) zerosF).sole SF.out n3).more bab, FA.out.more bab, Bp, ⟨Bt, RowOwn.nil _ _, RowOwn.nil _ _, (fun g e => by cases e), (fun g e => by cases e), (fun g e => by cases e)⟩, hKs.out, by have := hw1.out; omega⟩)
  have HF0 := HF0q
  rw [← hrst.out] at HF0
  clear HF0q
  clear ba bb bab n1 n2 n3 Bp Bt HB2 FA SF B41 B51 B61 H1 hDh Qmh Smh hci hmi ranges hKs l5f v1 v2 v3 hszu hsz
  generalize (Wf.alloc (.cells #[.int .i64 f1, .int .i64 f2, .int .i64 f3] 30)).alloc (.cells #[.slice none 0 0, .slice none 0 0, .int .i64 0] 94) = W2 at *
  generalize w1.heap.size = G at *
  clear hf1 hf2 hf3 hrst hcm g1 g2 g3 hms h9s hZ9
  go_loopw [28] (fun s28 wr => ∃ (k : Nat) (st : RSt) (pe : Option Addr) (ce : Nat) (pa : Option Addr) (ca : Nat), k ≤ 4294967295 ∧ s28 = .int .i64 (k : Int) ∧ reachR R n z f0 s0 k st ∧ st.ok n z k ∧ FwdAt w wr b K N R c0 n z c G st pe ce pa ca) (fun s28 _ => 4294967295 - (intOf s28).toNat)
  case atStart => exact ⟨0, s0, none, 0, none, 0, by omega, rfl, rfl, hst0.out, HF0.out⟩
  case round =>
    obtain ⟨k, st, pe, ce, pa, ca, hk, rfl, hre0, hst1, HF⟩ := hrel
    have hre := hid hre0
    have hst := hid hst1
    have hkm := hid hk
    have HFh := hid HF
    clear HF0 hst0 hre0
    by_cases hlt : k < 4294967295
    · have hlt' : (k : Int) < 4294967295 := by omega
      obtain ⟨mm, DD, QQ, SS⟩ := HFh.out.d
      have K1 := hid (KN.out mm wr DD QQ SS st.p hst.out.p (k : Int))
      have hwr := hid (show G + 2 < wr.heap.size from HFh.out.nt.box.lt)
      have hwa := hid HFh.out.nt.ats.within
      have hwe := hid HFh.out.nt.es.within
      obtain ⟨WR, rfl⟩ : ∃ W, W = wr := ⟨_, rfl⟩
      obtain ⟨l4, m4, f4⟩ := HFh.out.b4
      have u0 := (HFh.out.b5.cell 0).trans g0.out
      have l5 := HFh.out.b5.lt
      obtain ⟨lp, mp, fp⟩ := HFh.out.p
      have hkl := hid hlt
      clear DD QQ SS HF hst1 hk KN
      go_wp2_with fail
      refine K1.out.mono ?_
      intro e w3 hP
      unfold NextPost at hP
      clear l4 m4 f4 u0 l5 lp mp fp K1
      cases hG : nextG R n z st.p f0 (k : Int) with
      | false =>
        rw [hG] at hP
        obtain ⟨hd3, S3, h3⟩ := hP
        obtain rfl := (h3.resolve_left (fun h => by cases h.1)).2
        have hend := hid (show rollStep R n z f0 (k : Int) st = none ∨ k = 4294967295 from .inl (by unfold rollStep; rw [hG]; rfl))
        have bA := below_al1 w3 (.cells #[.int .i64 0, .bool false, .slice none 0 0] 83)
        have bB := below_al1 (w3.alloc (.cells #[.int .i64 0, .bool false, .slice none 0 0] 83)) (.cells #[.int .i64 0, .int .i64 0, .int .i64 0] 30)
        have HX := (HFh.out.read S3 hd3).more (below2 bA bB bA.size)
        have fsz := hid (foundC_size HX.f.size st.fp st.fb)
        have fone := hid (hst.out.c.elim fun F hF => found_one hF st.fp st.fb)
        have fall := HX.f.all
        have th6 := HX.b6.there (n := (foundC st.c st.fp st.fb).size) (by rw [fsz.out]; simp [zerosF])
        have S6 := sole_setCells (S := fun k => k = w.heap.size + 1 + 1) rfl (foundC st.c st.fp st.fb).toList 0 ((w3.alloc (.cells #[.int .i64 0, .bool false, .slice none 0 0] 83)).alloc (.cells #[.int .i64 0, .int .i64 0, .int .i64 0] 30))
        have BZ := hid (HX.b6.whole9 (C := foundC st.c st.fp st.fb) (by rw [fsz.out]; simp [zerosF]))
        have SZ := hid (HX.S.trans' S6 (fun i hi e => by omega))
        have dZ := hid (HX.d.elim fun m' hd => show ∃ m', DiskM _ b m' K ∧ Quiet m' N R ∧ Soft m' c0 from ⟨m', hd.1.kept S6 (fun i hk e => by have := HX.kl i hk; omega), hd.2⟩)
        clear S6
        clear HX hG hd3 S3 h3 bA bB hlt
        go_wp2_with (first | (refine rwpList_loadAt rfl 43 _ rfl G 0 rfl (foundC st.c st.fp st.fb) _ fall Try.underlying43 rfl (by rw [foundtab, fsz.out]) ?_) | (refine wpList_store_mid rfl 43 _ _ rfl (w.heap.size + 1 + 1) 0 (foundC st.c st.fp st.fb) rfl rfl th6 (by rw [foundtab, fsz.out]) fone.out ?_; generalize World.setCells _ _ _ _ = WZ at *; clear th6 fall))
        refine bodyPost_ret (v := .tuple #[.agg (foundC st.c st.fp st.fb), .int .i64 0]) (results_blk2 Try.results12 _ _ (w.heap.size + 1 + 1) _ _ _ rfl rfl BZ.out Try.underlying43 rfl (by rw [foundtab, fsz.out])) rfl ⟨dZ.out, SZ.out, k, st, hre.out, hend.out, hst.out, hkm.out, rfl⟩
      | true =>
        rw [hG] at hP
        obtain ⟨hd3, S3, h3⟩ := hP
        obtain ⟨q, cq, rfl, cq1, cq2, RQ, hq⟩ := (h3.resolve_right (fun h => absurd rfl h.1)).2
        have hnp := next_parts hG
        have hstep := roll_step hG
        obtain ⟨hop, hop2⟩ := on_ok hok hst.out.p
        clear h3
        generalize smNx (R (secP z (onP z st.p))) = nx at *
        generalize smLa (R (secP z (onP z st.p))) = la at *
        generalize smN (R (secP z (onP z st.p))) = nn at *
        generalize smF (R (secP z (onP z st.p))) = f at *
        generalize onP z st.p = P at *
        have h64 := hnp.1
        have hx0 := hnp.2.1
        have hx1 := hnp.2.2.1
        have hoz := hnp.2.2.2.1
        have bA := below_al1 w3 (.cells (smcells nx la q nn cq) 83)
        have bB := below_al1 (w3.alloc (.cells (smcells nx la q nn cq) 83)) (.cells P.cells 30)
        have bab := below2 bA bB bA.size
        have HF5 := hid ((HFh.out.read S3 hd3).more bab)
        have RQ5 := hid (RQ.more bab)
        have B12 := hid ((Blk.new w3 (smcells nx la q nn cq) 83).more bB)
        have B13 := Blk.new (w3.alloc (.cells (smcells nx la q nn cq) 83)) P.cells 30
        rw [show (w3.alloc (.cells (smcells nx la q nn cq) 83)).heap.size = w3.heap.size + 1 by simp] at B13
        have hs3 := hid S3.size
        have hz5 := hid (show ((w3.alloc (.cells (smcells nx la q nn cq) 83)).alloc (.cells P.cells 30)).heap.size = w3.heap.size + 1 + 1 by simp)
        have hqh := hid hq
        have hqt := hid (fun b' o (e : q = some ⟨b', o, none⟩) (hn : nn ≠ 0) => show b' ≠ G + 1 + 1 ∧ (Value.slice pa st.A.length ca).ownBlock ≠ some b' from by
          have h1 := hqh.out b' o e hn
          exact ⟨by have := hwr.out; omega, fun e2 => by have := (hwa.out b' e2).2; omega⟩)
        have KNt := hid (rnote_any (G + 1 + 1) (G + 3) st.L st.A st.k pe ce pa ca _ HF5.out.nt (by rw [hz5.out]; have := hs3.out; have := hwr.out; omega) hst.out.k0 (by have h1 := hst.out.kb; have h2 := hst.out.b0; have := hkm.out; omega) (by have h1 := hst.out.L; have := hkm.out; omega) (by have h1 := hst.out.A; have := hkm.out; omega) n z hok P hop nx la q nn cq f h64 cq1 cq2 RQ5.out hqt.out)
        generalize hW5 : (w3.alloc (.cells (smcells nx la q nn cq) 83)).alloc (.cells P.cells 30) = W5 at *
        replace hstep := hid hstep
        replace hW5 := hid hW5
        have B13h := hid B13
        obtain ⟨l4, m4, f4⟩ := HF5.out.b4
        obtain ⟨l12, m12, f12⟩ := B12.out
        obtain ⟨l13, m13, f13⟩ := B13
        have cqh := hid (And.intro cq1 cq2)
        have hnh := hid hnp
        have hoph := hid hop
        clear hG hd3 S3 bA bB bab RQ hq cq1 cq2 hop hop2 hnp hlt
        have hw5 := hW5.out
        go_wp2_with fail
        refine KNt.out.mono ?_
        rintro e w6 ⟨rfl, pe', ce', pa', ca', M6, S6⟩
        have hnot : ∀ i, w3.heap.size ≤ i → ¬ noteS (G + 1 + 1) pe st.L ce pa st.A ca i := fun i hi h => by
          have h1 := hs3.out
          have h2 := hwr.out
          rcases h with h | h | h
          · omega
          · have := (hwe.out i h).2; omega
          · have := (hwa.out i h).2; omega
        have HF6 := hid (HF5.out.note S6 M6)
        have B126 := hid (B12.out.sole S6 (hnot _ (Nat.le_refl _)))
        have B136 := hid (B13h.out.sole S6 (hnot _ (Nat.le_succ _)))
        have RQ6 := hid (RowP.apart RQ5.out S6 (fun b' o e hn h => by
          have h1 := hqh.out b' o e hn
          rcases h with h | h | h
          · exact (hqt.out b' o e hn).1 h
          · have := (hwe.out b' h).2; omega
          · exact (hqt.out b' o e hn).2 h))
        have KW := hid (fun u (h : Below w6.heap.size w6 u) => bwritten_any nx la q nn cq f cqh.out.1 cqh.out.2 u (RQ6.out.more h))
        have q0 := fun u : Later w6 => u.blk B126.out
        have q1 := fun u : Later w6 => u.blk B136.out
        have BU := hid (fun u : Later w6 => u.h)
        have hcn : (cntW f nn : Int) ≤ 64 := by have := cntW_le f nn; omega
        have hPo := hoph.out.o0
        have hPo1 : P.o ≤ 32 := by have := hoph.out.o1; have := (ok_true hok).2.2.2; omega
        have hQ : PcOk n z ⟨P.s, P.o + 1 + (cntW f nn : Int), nx⟩ := ⟨hoph.out.s0, hoph.out.s1, by show (0 : Int) ≤ P.o + 1 + _; omega, hnh.out.2.2.2.1, hx0, hx1⟩
        replace hQ := hid hQ
        clear S6 M6 KNt hnot l4 m4 f4 l12 m12 f12 l13 m13 f13 HF5 RQ5 B12 B13h hqh hqt hx0 hx1 hoz hw5
        go_wp2_with fail
        refine wp_region_late 11 (by kernel_rfl) (by kernel_rfl) ?_
        simp only [List.take_succ_cons, List.take_zero, List.drop_succ_cons, List.drop_zero]
        iterate 11 (go_big_quiet_step ((go_at_call 28; (with_reducible exact late_call (KW.out _ (BU.out _))))))
        refine wpQuiet_nil ?_
        intro w7 h7'
        have h7 := late_out h7'
        have HF7 := HF6.out.more h7
        have HF8 := hid (HF7.setP ⟨P.s, P.o + 1 + (cntW f nn : Int), nx⟩)
        have B127 := B126.out.more h7
        have B128 := hid (((B127.other ⟨G + 1, 0, none⟩ (by show G + 1 ≠ w3.heap.size; have := hs3.out; have := hwr.out; omega) (.int .i64 P.s)).other ⟨G + 1, 1, none⟩ (by show G + 1 ≠ w3.heap.size; have := hs3.out; have := hwr.out; omega) (.int .i64 (P.o + 1 + (cntW f nn : Int)))).other ⟨G + 1, 2, none⟩ (by show G + 1 ≠ w3.heap.size; have := hs3.out; have := hwr.out; omega) (.int .i64 nx))
        obtain ⟨lp, mp, fp⟩ := HF7.p
        clear h7 h7' q0 q1 HF6 B126 B136 KW BU RQ6 HF7 B127
        obtain ⟨l12, m12, f12⟩ := B128.out
        dsimp only at HF8 lp mp fp
        cases la with
        | false =>
          have hs2 := hid (show rollStep R n z f0 (k : Int) st = some ⟨st.L ++ esL f nn, st.A ++ atL (secP z P) (cntW f nn), st.k + 1, ⟨P.s, P.o + 1 + (cntW f nn : Int), nx⟩, st.c, st.fp, st.fb⟩ by rw [hstep.out, if_neg (by simp)])
          have hst2 := hid (hst.out.step hok hs2.out)
          clear hstep
          go_wp2_with fail
          go_roundw
          case rel => exact ⟨k + 1, _, pe', ce', pa', ca', by have := hkl.out; omega, by go_num, ⟨st, hre.out, hs2.out⟩, hst2.out, HF8.out⟩
          case measure => have := hkl.out; simp [intOf]; omega
        | true =>
          generalize st.L ++ esL f nn = L9 at *
          generalize st.A ++ atL (secP z P) (cntW f nn) = A9 at *
          obtain ⟨RES, hRES⟩ : ∃ r, r = resA st.c (penAt L9) (inAt A9) A9.length L9.length := ⟨_, rfl⟩
          have hs2 := hid (show rollStep R n z f0 (k : Int) st = some ⟨[], [], 0, ⟨P.s, P.o + 1 + (cntW f nn : Int), nx⟩, RES, ⟨P.s, P.o + 1 + (cntW f nn : Int), nx⟩, st.fb + (st.k + 1)⟩ by rw [hstep.out, if_pos rfl, hRES])
          have hst2 := hid (hst.out.step hok hs2.out)
          obtain ⟨FF, hFF⟩ := hst.out.c
          obtain ⟨pe2, ce2, e2, x1, x2, RE⟩ := RowOwn.open enOk HF8.out.nt.es
          obtain ⟨pa2, ca2, e3, x3, x4, RA⟩ := RowOwn.open inOk HF8.out.nt.ats
          simp only [Value.slice.injEq] at e2 e3
          obtain ⟨rfl, e2, rfl⟩ := e2
          obtain ⟨rfl, e3, rfl⟩ := e3
          clear e2 e3
          have KA := napply_any st.c FF hFF pe' L9.length ce' (penAt L9) x1 x2 pa' A9.length ca' (inAt A9) x3 x4 _ RE RA
          rw [← hRES] at KA
          generalize finA (penAt L9) A9.length L9.length = fin at KA
          replace KA := hid KA
          have csz := hid hFF.size
          have hRn := hid hst2.out.c
          have hRs := hid (show RES.size = 256 from hst2.out.c.elim fun F h => h.size)
          have hRo := hid (show RES.all (·.oneCell') = true from hst2.out.c.elim fun F h => h.one)
          have hkb := hid (And.intro hst.out.k0 (And.intro hst.out.b0 hst.out.kb))
          have rngc := HF8.out.f.range
          obtain ⟨lt8, mt8, ft8⟩ := HF8.out.nt.box
          clear hstep hRES RE RA x1 x2 x3 x4 hFF
          go_upto_region 15 with (fail)
          generalize ((w7.setCell ⟨G + 1, 0, none⟩ (.int .i64 P.s)).setCell ⟨G + 1, 1, none⟩ (.int .i64 (P.o + 1 + (cntW f nn : Int)))).setCell ⟨G + 1, 2, none⟩ (.int .i64 nx) = W8 at *
          go_wp2_with (refine rwpList_loadAt rfl 32 _ rfl G 0 rfl st.c _ rngc Try.underlying32 rfl (by rw [maptab, csz.out]) ?_)
          refine KA.out.mono ?_
          rintro e w9 ⟨rfl, hb9⟩
          have HF9 := HF8.out.more hb9
          have thG := HF9.f.there
          have HM := hid (HF9.setM RES hRs.out)
          rw [← hRs.out] at thG
          have hRi := hid (show (Try.prog.info? 32).map (·.size) = some RES.size by rw [maptab, hRs.out])
          clear HF8 hb9 KA rngc lt8 mt8 ft8 HF9 lp mp fp l12 m12 f12
          go_upto_region 17 with (refine wpList_store_mid rfl 32 _ _ rfl G 0 RES rfl rfl thG hRi.out hRo.out ?_)
          generalize w9.setCells G 0 RES.toList = WM at *
          clear thG
          have HD := hid (HM.out.done (st.fb + (st.k + 1)))
          obtain ⟨lp, mp, fp⟩ := HM.out.p
          obtain ⟨lt8, mt8, ft8⟩ := HM.out.nt.box
          have y0 := HM.out.f.s
          have y1 := HM.out.f.o
          have y2 := HM.out.f.x
          have y3 := HM.out.f.b
          have y4 := HM.out.f.frz
          have y5 := HM.out.f.lt
          dsimp only at HD lp mp fp lt8 mt8 ft8 y0 y1 y2 y3
          have hwq : IntKind.i64.wrap (st.fb + (st.k + 1)) = st.fb + (st.k + 1) := by
            have h1 := hkb.out
            have h2 := hkl.out
            exact IntWalk.i64_in _ ⟨by omega, by omega⟩
          clear HM
          go_wp2_with fail
          go_roundw
          case rel => exact ⟨k + 1, _, none, 0, none, 0, by have := hkl.out; omega, by go_num, ⟨st, hre.out, hs2.out⟩, hst2.out, HD.out⟩
          case measure => have := hkl.out; simp [intOf]; omega
    · have hk9 := hid (show k = 4294967295 by omega)
      have hend := hid (show rollStep R n z f0 (k : Int) st = none ∨ k = 4294967295 from .inr hk9.out)
      have hlt' : ¬ (k : Int) < 4294967295 := by omega
      obtain ⟨WX, rfl⟩ : ∃ W, W = wr := ⟨_, rfl⟩
      have HX := HFh.out
      have fsz := hid (foundC_size HX.f.size st.fp st.fb)
      have fone := hid (hst.out.c.elim fun F hF => found_one hF st.fp st.fb)
      have fall := HX.f.all
      have th6 := HX.b6.there (n := (foundC st.c st.fp st.fb).size) (by rw [fsz.out]; simp [zerosF])
      have S6 := sole_setCells (S := fun k => k = w.heap.size + 1 + 1) rfl (foundC st.c st.fp st.fb).toList 0 WX
      have BZ := hid (HX.b6.whole9 (C := foundC st.c st.fp st.fb) (by rw [fsz.out]; simp [zerosF]))
      have SZ := hid (HX.S.trans' S6 (fun i hi e => by omega))
      have dZ := hid (HX.d.elim fun m' hd => show ∃ m', DiskM _ b m' K ∧ Quiet m' N R ∧ Soft m' c0 from ⟨m', hd.1.kept S6 (fun i hk e => by have := HX.kl i hk; omega), hd.2⟩)
      clear S6
      clear HX hk hst1 HF hlt
      go_wp2_with (first | (refine rwpList_loadAt rfl 43 _ rfl G 0 rfl (foundC st.c st.fp st.fb) _ fall Try.underlying43 rfl (by rw [foundtab, fsz.out]) ?_) | (refine wpList_store_mid rfl 43 _ _ rfl (w.heap.size + 1 + 1) 0 (foundC st.c st.fp st.fb) rfl rfl th6 (by rw [foundtab, fsz.out]) fone.out ?_; generalize World.setCells _ _ _ _ = WZ at *; clear th6 fall))
      refine bodyPost_ret (v := .tuple #[.agg (foundC st.c st.fp st.fb), .int .i64 0]) (results_blk2 Try.results12 _ _ (w.heap.size + 1 + 1) _ _ _ rfl rfl BZ.out Try.underlying43 rfl (by rw [foundtab, fsz.out])) rfl ⟨dZ.out, SZ.out, k, st, hre.out, hend.out, hst.out, hkm.out, rfl⟩
end Go.Proofs.Ytcklmemnjchdcaa

namespace Go.Proofs.Ytcklmemnjchdcaa
open Go.RowKit Go.Maps
set_option linter.unusedVariables false
set_option linter.unusedSimpArgs false

def M20 : Array Value := #[.int .i64 1, .int .i64 0, .int .i64 0, .int .i64 1] ++ Array.replicate 288 (.int .i64 0)
def F20 (j : Nat) : Int := if j = 0 then 1 else if j = 3 then 1 else 0
set_option maxRecDepth 100000 in
theorem n20 : Nums M20 .i64 292 F20 := ⟨by unfold M20; rw [Array.size_append, Array.size_replicate]; rfl, fun j hj => by
  unfold M20
  by_cases h : j < 4
  · rw [Array.getElem?_append_left (by show j < 4; exact h)]
    have : j = 0 ∨ j = 1 ∨ j = 2 ∨ j = 3 := by omega
    rcases this with rfl | rfl | rfl | rfl <;> rfl
  · rw [Array.getElem?_append_right (by simp; omega)]
    unfold F20
    rw [if_neg (by omega), if_neg (by omega), Array.getElem?_replicate, if_pos (by show j - 4 < 288; omega)]⟩
theorem fit20 : fitsB 6 4 F20 = true := by
  have h1 : (agesL F20).all (inB 4294967295) = true := by decide +kernel
  have h2 : (mapL F20).all (inB 65535) = true := by decide +kernel
  unfold fitsB mOk
  rw [h1, h2]
  decide
set_option maxRecDepth 100000 in
theorem mb20 (ρ : Operand → Value) (dst : Option Tmp) (ty : TypeId) (pos : String) (af : Array Edge) (x y : Operand) (hx : ρ x = .int .i64 1) (hy : ρ y = .agg #[.int .i64 0, .int .i64 0, .int .i64 1]) (w : World) :
    (execOp ρ { dst := dst, op := .build 34 #[(0, x), (1, y)], type := ty, pos := pos, after := af, guard := none }).run Try.prog w = .ok (.value (.agg M20)) w := by
  have hb := run_build (P := Try.prog) w 34 #[(0, .int .i64 1), (1, .agg #[.int .i64 0, .int .i64 0, .int .i64 1])] M20 (by kernel_rfl)
  unfold execOp
  simp [hx, hy, hb]
theorem none20 {R : Int → List UInt8} (h : R 9 = zerosN 256) : rollStep R 6 4 1 0 (rst0 M20 F20) = none := by
  have : nextG R 6 4 (rst0 M20 F20).p 1 0 = false := by
    have e : (rst0 M20 F20).p = ⟨0, 0, 1⟩ := rfl
    rw [e]
    have e2 : onP 4 ⟨0, 0, 1⟩ = ⟨0, 0, 1⟩ := rfl
    have e3 : secP 4 ⟨0, 0, 1⟩ = 9 := rfl
    unfold nextG batG sumG isB
    rw [e2, e3, h, goodB_zeros]
    rfl
  unfold rollStep
  rw [this]
  rfl
set_option maxRecDepth 100000 in
set_option maxHeartbeats 8000000 in
theorem alive20 (w : World) : Calls Try.prog 6 #[] w fun e w' => e = .returned (.bool true) ∧ Below w.heap.size w w' := by
  have KN := hid (dnew_any 33 w)
  go_enter Try.func6, Try.ntmps6
  go_wp2_with fail
  refine KN.out.mono ?_
  rintro e w1 ⟨L, rfl, D1, N1, hb1⟩
  rw [show sectorsN 33 = 33 from rfl] at D1 N1
  have E1 := hid hb1
  have hlen : L.length = 33 := N1.S
  have hcur : ∀ x : Int, 0 ≤ x → x < 33 → ((newM w.heap.size 33 L).cur x).l = zerosN 256 := fun x h0 h1 => by
    show (ocA L x.toNat).l = _
    exact N1.Z _ (ocA_mem L x.toNat (by rw [hlen]; omega))
  have KF := hid (rforward_any (newM w.heap.size 33 L) _ _ w1 D1 (N := 33) (R := fun z => ((newM w.heap.size 33 L).cur z).l) ⟨rfl, rfl, hlen, fun _ => rfl⟩ (c0 := 0) ⟨rfl, Nat.le_refl _, Nat.le_refl _⟩ (fun x h0 h1 => by show ((newM w.heap.size 33 L).cur x).l.length = 256; rw [hcur x h0 h1, zerosN_len]) 6 4 (by decide) (by decide) M20 F20 n20 fit20)
  have hnone := none20 (R := fun z => ((newM w.heap.size 33 L).cur z).l) (hcur 9 (by decide) (by decide))
  have hf0 : F20 0 = 1 := rfl
  rw [hf0] at KF
  obtain ⟨M, hM⟩ : ∃ M, M = M20 := ⟨_, rfl⟩
  have hb := hid (fun ρ dst ty pos af x y hx hy w => (hM ▸ mb20 ρ dst ty pos af x y hx hy w : (execOp ρ { dst := dst, op := .build 34 #[(0, x), (1, y)], type := ty, pos := pos, after := af, guard := none }).run Try.prog w = .ok (.value (.agg M)) w))
  rw [← hM] at KF hnone
  have hfp := hid (show (rst0 M F20).fp = ⟨0, 0, 1⟩ from rfl)
  have hfb := hid (show (rst0 M F20).fb = 0 from rfl)
  replace hnone := hid hnone
  replace hM := hid hM
  clear KN hcur D1 N1 hb1 hlen hf0
  generalize w.heap.size + 3 = bd at *
  go_wp2_with (refine Go.Great.wpList_runTo rfl (some 7) rfl _ _ (hb.out _ _ _ _ _ _ _ rfl rfl _) ?_)
  refine KF.out.mono ?_
  rintro e w2 ⟨_, S2, k, s, hr, _, hs, _, rfl⟩
  obtain ⟨rfl, rfl⟩ := reach_none hnone.out k s hr
  have hcs : (rst0 M F20).c.size = 256 := hs.c.elim fun F h => h.size
  have hco := hid (hs.c.elim fun F h => found_one h ⟨0, 0, 1⟩ 0)
  have E2 := hid (E1.out.trans (S2.below (B := w.heap.size) E1.out.size fun k h => h.1))
  rw [hfp.out, hfb.out]
  generalize (rst0 M F20).c = cm at *
  obtain ⟨Z9, hZ9⟩ : ∃ Z, Z = zerosF := ⟨_, rfl⟩
  have h9s : Z9.size = 260 := by rw [hZ9]; simp [zerosF]
  have hal := hid (fun ρ dst ty pos af W => (hZ9 ▸ fallocF ρ dst ty pos af W : (execOp ρ { dst := dst, op := .alloc 43, type := ty, pos := pos, after := af, guard := none }).run Try.prog W = .ok (.value (.pointer (some ⟨W.heap.size, 0, none⟩))) (W.alloc (.cells Z9 43))))
  have BF := Blk.new w2 Z9 43
  have FA := hid (FoundAt.whole BF h9s hcs ⟨0, 0, 1⟩ 0)
  have hfs := hid (foundC_size hcs ⟨0, 0, 1⟩ 0)
  have th := BF.there (n := (foundC cm ⟨0, 0, 1⟩ 0).size) (by rw [hfs.out, h9s])
  have E3 := hid (E2.out.trans (below_cells ((below_al1 w2 (.cells Z9 43)).mono E2.out.size) (show w.heap.size ≤ w2.heap.size from E2.out.size) 0 (foundC cm ⟨0, 0, 1⟩ 0).toList))
  clear BF hr hs S2 KF hnone hM hb hfp hfb E1 E2 hcs h9s hZ9
  go_wp2_with (refine Go.Great.wpList_runTo rfl (some 1) rfl _ _ (hal.out _ _ _ _ _ _) ?_; refine wpList_store_mid rfl 43 _ _ rfl w2.heap.size 0 (foundC cm ⟨0, 0, 1⟩ 0) rfl rfl th (by rw [foundtab, hfs.out]) hco.out ?_; generalize World.setCells _ _ _ _ = WZ at *; clear th hal; have y0 := FA.out.s; have y1 := FA.out.o; have y2 := FA.out.x; have y3 := FA.out.b; have y5 := FA.out.lt; dsimp only at y0 y1 y2 y3)
  go_ret
  exact ⟨rfl, E3.out⟩
end Go.Proofs.Ytcklmemnjchdcaa
