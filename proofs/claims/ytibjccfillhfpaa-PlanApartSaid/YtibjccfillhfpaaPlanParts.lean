/-
  Package plan: Parts.
-/
import Derived.Test.YtibjccfillhfpaaPlanRow
import Derived.Deep.RegionWith
import Derived.Deep.DeepCutAuto
namespace Go.Proofs.Ytibjccfillhfpaa
open Go.RowKit
set_option linter.unusedVariables false
set_option linter.unusedSimpArgs false

abbrev plv0 : Value := plv 0 0 0
/-- What Parts hands back. -/
def PartsPost (n z : Int) (p : Plc) (F : List Int) (L : List En) (w : World) (e : Ending) (w' : World) : Prop :=
  Below w.heap.size w w' ∧
  ((placedB n z p F = false ∧ e = .returned (.tuple #[.slice none 0 0, plv0, .slice none 0 0, .int .i64 4])) ∨
   (placedB n z p F = true ∧ L.all goodE = false ∧ e = .returned (.tuple #[.slice none 0 0, plv0, .slice none 0 0, .int .i64 12])) ∨
   (placedB n z p F = true ∧ L.all goodE = true ∧ planP z p F L = none ∧ e = .returned (.tuple #[.slice none 0 0, plv0, .slice none 0 0, .int .i64 10])) ∨
   (placedB n z p F = true ∧ L.all goodE = true ∧ ∃ V q f v vf, planP z p F L = some (V.map PtV.data, q, f) ∧ e = .returned (.tuple #[v, plv q.seg q.off q.next, vf, .int .i64 0]) ∧ PartsOwn w' w.heap.size v V ∧ RowOwn inT w' w.heap.size vf f))

theorem goodP_of {n z : Int} {p : Plc} {F : List Int} (h : placedB n z p F = true) : GoodP n z p F := by
  simp only [placedB, Bool.and_eq_true, decide_eq_true_eq, segB, List.all_eq_true] at h
  obtain ⟨h1, ⟨⟨_, h2⟩, h3⟩, ⟨⟨_, h4⟩, h5⟩, h6, h7, h8⟩ := h
  have o := ok_true h1
  exact ⟨o.1, o.2.1, o.2.2.1, o.2.2.2, h2, h3, h6, h7, h4, h5, fun x hx => ⟨(h8 x hx).1.2, (h8 x hx).2⟩⟩

theorem sole_setAll {b : Nat} : ∀ (vs : List Value) (o : Nat) (w : World), Sole (fun j => j = b) w (setAll w b o vs)
  | [], o, w => Sole.refl _ _
  | v :: vs, o, w => (Sole.setCell (S := fun j => j = b) (b := b) (o := o) w v rfl).trans (sole_setAll vs (o + 1) _)

def slLen : Value → Nat
  | .slice _ n _ => n
  | _ => 0

set_option maxRecDepth 100000 in
set_option maxHeartbeats 16000000 in
theorem parts_any (n z s o x : Int) (fp : Option Addr) (fcap : Nat) (F : List Int) (lp : Option Addr) (lcap : Nat) (L : List En) (f1 : F.length ≤ fcap) (f2 : fcap ≤ maxLen) (f3 : F.length ≤ 17592186044416) (f4 : fp = none → F = []) (l1 : L.length ≤ lcap) (l2 : lcap ≤ maxLen) (l3 : L.length ≤ 1000) (w : World) (RF : RowOf inT w fp F) (RL : RowOf enT w lp L) :
    Calls Try.prog 8 #[geo n z, plv s o x, .slice fp F.length fcap, .slice lp L.length lcap] w (PartsPost n z ⟨s, o, x⟩ F L w) := by
  have hb0 : Below w.heap.size w (((w.alloc (.cells #[.int .i64 n, .int .i64 z] 23)).alloc (.cells #[.int .i64 s, .int .i64 o, .int .i64 x] 25)).alloc (.cells #[.int .i64 0, .int .i64 0, .int .i64 0] 25)) := (((Below.refl _ _).alloc (Nat.le_refl _) _).alloc (by simp) _).alloc (by simp; omega) _
  obtain ⟨B0, B1, B2, Hb⟩ := @boxed3 w _ #[.int .i64 n, .int .i64 z] #[.int .i64 s, .int .i64 o, .int .i64 x] #[.int .i64 0, .int .i64 0, .int .i64 0] 23 25 25 (Below.refl _ _)
  generalize hW0 : ((w.alloc (.cells #[.int .i64 n, .int .i64 z] 23)).alloc (.cells #[.int .i64 s, .int .i64 o, .int .i64 x] 25)).alloc (.cells #[.int .i64 0, .int .i64 0, .int .i64 0] 25) = W0 at *
  have hsz : Hid (W0.heap.size = w.heap.size + 1 + 1 + 1) := hid (by rw [← hW0]; simp)
  replace hW0 := hid hW0
  have HB0 := hid B0
  have HB1 := hid B1
  have HB2 := hid B2
  have HH := hid Hb
  have KP := hid (placed_any n z s o x F fp fcap f1 f2 W0 (RowOf.more RF Hb))
  have KC := hid (fun w' (hb : Below w.heap.size w w') => econt_any L lp lcap l1 l2 w' (RowOf.more RL hb))
  have RFh := hid RF
  have RLh := hid RL
  have hF0 : (F.length : Int) ≤ 9223372036854775807 := by unfold maxLen at f2; omega
  have hGP := hid (fun h => goodP_of (n := n) (z := z) (p := ⟨s, o, x⟩) (F := F) h)
  have E1 : Hid (∀ w', placedB n z ⟨s, o, x⟩ F = false → Below w.heap.size w w' → PartsPost n z ⟨s, o, x⟩ F L w (.returned (.tuple #[.slice none 0 0, plv0, .slice none 0 0, .int .i64 4])) w') := hid (fun w' h hb => ⟨hb, .inl ⟨h, rfl⟩⟩)
  have E2 : Hid (∀ w', placedB n z ⟨s, o, x⟩ F = true → L.all goodE = false → Below w.heap.size w w' → PartsPost n z ⟨s, o, x⟩ F L w (.returned (.tuple #[.slice none 0 0, plv0, .slice none 0 0, .int .i64 12])) w') := hid (fun w' h h' hb => ⟨hb, .inr (.inl ⟨h, h', rfl⟩)⟩)
  have E3 : Hid (∀ w', placedB n z ⟨s, o, x⟩ F = true → L.all goodE = true → planP z ⟨s, o, x⟩ F L = none → Below w.heap.size w w' → PartsPost n z ⟨s, o, x⟩ F L w (.returned (.tuple #[.slice none 0 0, plv0, .slice none 0 0, .int .i64 10])) w') := hid (fun w' h h' h'' hb => ⟨hb, .inr (.inr (.inl ⟨h, h', h'', rfl⟩))⟩)
  have E4 : Hid (∀ w' V q f v vf, placedB n z ⟨s, o, x⟩ F = true → L.all goodE = true → planP z ⟨s, o, x⟩ F L = some (V.map PtV.data, q, f) → PartsOwn w' w.heap.size v V → RowOwn inT w' w.heap.size vf f → Below w.heap.size w w' → PartsPost n z ⟨s, o, x⟩ F L w (.returned (.tuple #[v, plv q.seg q.off q.next, vf, .int .i64 0])) w') := hid (fun w' V q f v vf h h' h'' hp hf hb => ⟨hb, .inr (.inr (.inr ⟨h, h', V, q, f, v, vf, h'', rfl, hp, hf⟩))⟩)
  have hstart : Hid (planP z ⟨s, o, x⟩ F L = (planK z L.length ⟨s, o, x⟩ F L).map fun r => (([] : List PtV).map PtV.data ++ r.1, r.2)) := hid (by unfold planP; cases planK z L.length ⟨s, o, x⟩ F L <;> simp)
  generalize PartsPost n z ⟨s, o, x⟩ F L w = Post at *
  generalize planP z ⟨s, o, x⟩ F L = PP at *
  generalize placedB n z ⟨s, o, x⟩ F = pb at *
  generalize L.all goodE = gb at *
  clear RF RL hb0 B0 B1 B2 Hb
  go_enter Try.func8, Try.ntmps8
  go_wp2_with fail
  rw [hW0.out]
  refine KP.out.mono ?_
  rintro e w1 ⟨rfl, hb1⟩
  have C0 := hid (HB0.out.more hb1)
  have C1 := hid (HB1.out.more hb1)
  have C2 := hid (HB2.out.more hb1)
  have D1 := hid (below2 HH.out hb1 HH.out.size)
  have hs1 : Hid (w.heap.size + 1 + 1 + 1 ≤ w1.heap.size) := hid (by have h1 := hb1.size; have h2 := hsz.out; omega)
  clear hb1 KP HB0 HB1 HB2 HH hW0
  have EB : Hid (∀ W, Blk W (w.heap.size + 1 + 1) #[.int .i64 0, .int .i64 0, .int .i64 0] → Below w.heap.size w W → Blk (setAll W (w.heap.size + 1 + 1) 0 [.int .i64 0, .int .i64 0, .int .i64 0]) (w.heap.size + 1 + 1) #[.int .i64 0, .int .i64 0, .int .i64 0] ∧ Below w.heap.size w (setAll W (w.heap.size + 1 + 1) 0 [.int .i64 0, .int .i64 0, .int .i64 0])) := hid (fun W B hb => ⟨Blk.fill [.int .i64 0, .int .i64 0, .int .i64 0] 0 B (by simp), below_fill (by omega) [.int .i64 0, .int .i64 0, .int .i64 0] 0 hb⟩)
  cases pb
  · obtain ⟨m2, k2, g2⟩ := C2.out
    have hE := hid (EB.out w1 C2.out D1.out)
    go_wp2_with fail
    show bodyPost _ _ _ _ _ (setAll w1 (w.heap.size + 1 + 1) 0 [.int .i64 0, .int .i64 0, .int .i64 0])
    generalize setAll w1 (w.heap.size + 1 + 1) 0 _ = w7 at *
    obtain ⟨⟨l7, k7, f7⟩, D7⟩ := hE.out
    refine bodyPost_ret (v := .tuple #[.slice none 0 0, plv0, .slice none 0 0, .int .i64 4]) (by simp [results, Try.results8, go_sem, k7]) rfl ?_
    exact E1.out _ (by simp) D7
  · cases gb
    · obtain ⟨m2, k2, g2⟩ := C2.out
      go_wp2_with fail
      refine (KC.out _ D1.out).mono ?_
      rintro e w2 ⟨rfl, hb2⟩
      have C2' := C2.out.more hb2
      have D2 := hid (below2 D1.out hb2 D1.out.size)
      clear hb2 KC m2 k2 g2
      have hE := hid (EB.out w2 C2' D2.out)
      obtain ⟨m2, k2, g2⟩ := C2'
      go_wp2_with fail
      show bodyPost _ _ _ _ _ (setAll w2 (w.heap.size + 1 + 1) 0 [.int .i64 0, .int .i64 0, .int .i64 0])
      generalize setAll w2 (w.heap.size + 1 + 1) 0 _ = w7 at *
      obtain ⟨⟨l7, k7, f7⟩, D7⟩ := hE.out
      refine bodyPost_ret (v := .tuple #[.slice none 0 0, plv0, .slice none 0 0, .int .i64 12]) (by simp [results, Try.results8, go_sem, k7]) rfl ?_
      exact E2.out _ (by simp) (by simp) D7
    · go_wp2_with fail
      refine (KC.out _ D1.out).mono ?_
      rintro e w2 ⟨rfl, hb2⟩
      have F0 := hid (C0.out.more hb2)
      have F1 := hid (C1.out.more hb2)
      have F2 := hid (C2.out.more hb2)
      have D2 := hid (below2 D1.out hb2 D1.out.size)
      have hs2 : Hid (w.heap.size + 1 + 1 + 1 ≤ w2.heap.size) := hid (by have h1 := hb2.size; have h2 := hs1.out; omega)
      have hG := hid (hGP.out (by simp))
      clear hb2 KC C0 C1 C2 D1 hs1 hGP E1 E2
      go_wp2_with fail
      go_loopw [2, 3, 12] (fun s2 s3 s12 wr => ∃ (k : Nat) (q : Plc) (fr : List Int) (fq : Option Addr) (fc : Nat) (l : List En) (lq : Option Addr) (lc : Nat) (V : List PtV),
          s2 = .slice fq fr.length fc ∧ s3 = .slice lq l.length lc ∧ PartsOwn wr (w.heap.size + 1 + 1 + 1) s12 V ∧
          (fr.length ≤ fc ∧ fc ≤ maxLen ∧ fr.length ≤ F.length ∧ (fq = none → fr = []) ∧ RowOf inT w fq fr) ∧
          (l.length ≤ lc ∧ lc ≤ maxLen ∧ V.length + l.length ≤ L.length ∧ RowOf enT w lq l) ∧
          GoodP n z q fr ∧ (l.length ≤ k ∧ PP = (planK z k q fr l).map fun r => (V.map PtV.data ++ r.1, r.2)) ∧
          Blk wr w.heap.size #[.int .i64 n, .int .i64 z] ∧ Blk wr (w.heap.size + 1) #[.int .i64 q.seg, .int .i64 q.off, .int .i64 q.next] ∧ Blk wr (w.heap.size + 1 + 1) #[.int .i64 0, .int .i64 0, .int .i64 0] ∧ Below w.heap.size w wr)
        (fun _ s3 _ _ => slLen s3)
      case atStart => exact ⟨L.length, ⟨s, o, x⟩, F, fp, fcap, L, lp, lcap, [], rfl, rfl, PartsOwn.nil _ _, ⟨f1, f2, Nat.le_refl _, f4, RFh.out⟩, ⟨l1, l2, by simp, RLh.out⟩, hG.out, ⟨Nat.le_refl _, hstart.out⟩, F0.out, F1.out, F2.out, D2.out⟩
      case round =>
        obtain ⟨k, q, fr, fq, fc, l, lq, lc, V, rfl, rfl, HV, HF, HL, HG, HP, HB0, HB1, HB2, HD⟩ := hrel
        have HVh := hid HV
        have HFh := hid HF
        have HLh := hid HL
        have HGh := hid HG
        have HPh := hid HP
        have K0 := hid HB0
        have K1 := hid HB1
        have K2 := hid HB2
        have HDh := hid HD
        have hs3 : Hid (w.heap.size + 1 + 1 + 1 ≤ wr.heap.size) := hid (by have h := HB2.lt; omega)
        clear F0 F1 F2 D2 hs2 hG hstart RFh RLh
        obtain ⟨qs, qo, qx⟩ := q
        by_cases hl0 : l = []
        · subst hl0
          have hPP : PP = some (V.map PtV.data, ⟨qs, qo, qx⟩, fr) := by rw [HP.2, planK_nil]; simp
          have KI := hid (fun W (hb : Below w.heap.size w W) => iclone_any fq fc fr (by have := HF.2.2.1; omega) W (RowOf.more HF.2.2.2.2 hb) HF.2.2.2.1)
          have hfr63 : (fr.length : Int) ≤ 9223372036854775807 := by have h1 := HF.1; have h2 := HF.2.1; unfold maxLen at h2; omega
          obtain ⟨l1', k1, g1⟩ := HB1
          have hPPh := hid hPP
          clear hPP HP HL HF HV HG HB0 HB2 HD
          go_wp2_with fail
          have bel := (Below.refl w.heap.size wr).drew
          go_region_held3 (fun w' => w'.cell? ⟨w.heap.size + 1, 0, none⟩ = some (.int .i64 qs) ∧ w'.cell? ⟨w.heap.size + 1, 1, none⟩ = some (.int .i64 qo) ∧ w'.cell? ⟨w.heap.size + 1, 2, none⟩ = some (.int .i64 qx))
            (first | go_keep | (go_split_ands; exact ⟨by rw [hb5.cell (p := ⟨w.heap.size + 1, 0, none⟩) hb5lt]; first | assumption | go_keep, by rw [hb5.cell (p := ⟨w.heap.size + 1, 1, none⟩) hb5lt]; first | assumption | go_keep, by rw [hb5.cell (p := ⟨w.heap.size + 1, 2, none⟩) hb5lt]; first | assumption | go_keep⟩) | fail)
            (first
              | ((with_reducible refine (KI.out _ (HDh.out.trans bel)).mono ?_); rintro e w5 ⟨v5, rfl, O5, hb5⟩; have hb5lt : w.heap.size + 1 < wr.drew.heap.size := (by have h := hs3.out; simp; omega); obtain ⟨m5, k5, g5⟩ := K2.out.drew.more hb5)
              | fail)
          go_wp2_with fail
          have B5 := Blk.fill [.int .i64 qs, .int .i64 qo, .int .i64 qx] 0 (K2.out.drew.more hb5) (by simp)
          have D5 : Below w.heap.size w w5 := (HDh.out.trans bel).trans (hb5.mono (by have h := hs3.out; simp; omega))
          have D7 := below_fill (b := w.heap.size + 1 + 1) (by omega) [.int .i64 qs, .int .i64 qo, .int .i64 qx] 0 D5
          have V5 := (HVh.out.more (Below.refl wr.heap.size wr).drew).more hb5
          have S7 := sole_setAll (b := w.heap.size + 1 + 1) [.int .i64 qs, .int .i64 qo, .int .i64 qx] 0 w5
          have V7 := V5.sole S7 (fun k hk e => by omega)
          have O7 := O5.sole S7 (fun k hk e => by have h1 := (O5.within k hk).1; have h2 := hs3.out; simp at h1; omega)
          show bodyPost _ _ _ _ _ (setAll w5 (w.heap.size + 1 + 1) 0 [.int .i64 qs, .int .i64 qo, .int .i64 qx])
          generalize setAll w5 (w.heap.size + 1 + 1) 0 _ = w7 at *
          obtain ⟨l7, k7, f7⟩ := B5
          refine bodyPost_ret (v := .tuple #[_, plv qs qo qx, v5, .int .i64 0]) (by simp [results, Try.results8, go_sem, k7, fillC]; rfl) rfl ?_
          exact E4.out _ V ⟨qs, qo, qx⟩ fr _ _ (by simp) (by simp) hPPh.out (V7.mono (by omega)) (O7.mono (by have h := hs3.out; simp; omega)) D7
        · obtain ⟨lb, lo, rfl, RL0⟩ := (en_rowp HL.2.2.2).row (fun h => hl0 (List.eq_nil_of_length_eq_zero h))
          have hlp : 0 < l.length := by
            rcases Nat.eq_zero_or_pos l.length with h | h
            · exact absurd (List.eq_nil_of_length_eq_zero h) hl0
            · exact h
          have hl1000 : l.length ≤ 1000 := by have := HL.2.2.1; omega
          have hln0 : (0 : Int) < (l.length : Int) := by omega
          have hg := HG
          have hz := hg.z32
          have hz4 := hg.z4
          have ho0 := hg.o0
          have hoz := hg.oz
          simp only at ho0 hoz
          have hw1 : IntKind.i64.wrap (z - qo) = z - qo := IntWalk.i64_in _ ⟨by omega, by omega⟩
          obtain ⟨l1', k1, g1⟩ := HB1
          obtain ⟨l0', k0, g0⟩ := HB0
          have hl0h := hid hl0
          clear HP HL HF HV HG HB2 HD hg RL0 hl0
          go_upto_if 32 with (fail)
          go_cut [2] (fun s2 wx => ∃ (q' : Plc) (fr' : List Int) (fq' : Option Addr) (fc' : Nat), s2 = .slice fq' fr'.length fc' ∧ stepP z ⟨qs, qo, qx⟩ fr = some (q', fr') ∧ (fr'.length ≤ fc' ∧ fc' ≤ maxLen ∧ (fq' = none → fr' = []) ∧ RowOf inT w fq' fr') ∧
            Blk wx (w.heap.size + 1) #[.int .i64 q'.seg, .int .i64 q'.off, .int .i64 q'.next] ∧ Sole (fun j => j = w.heap.size + 1) wr wx)
          case first =>
            by_cases hsp : z - qo < 2
            · have hsph := hid hsp
              cases fr with
              | nil =>
                have hPP : PP = none := by
                  rw [HPh.out.2, planK_none hl0h.out HPh.out.1 (by unfold stepP; simp only; rw [if_pos hsp])]
                  rfl
                have hE := hid (EB.out wr K2.out HDh.out)
                have hPPh := hid hPP
                obtain ⟨m2, k2, g2⟩ := K2.out
                clear hPP
                go_wp2_with fail
                show bodyPost _ _ _ _ _ (setAll wr (w.heap.size + 1 + 1) 0 [.int .i64 0, .int .i64 0, .int .i64 0])
                generalize setAll wr (w.heap.size + 1 + 1) 0 _ = w7 at *
                obtain ⟨⟨l7, k7, f7⟩, D7⟩ := hE.out
                refine bodyPost_ret (v := .tuple #[.slice none 0 0, plv0, .slice none 0 0, .int .i64 10]) (by simp [results, Try.results8, go_sem, k7]) rfl ?_
                exact E3.out _ (by simp) (by simp) hPPh.out D7
              | cons y ys =>
                obtain ⟨fb, fo, rfl, RF0⟩ := (in_rowp HFh.out.2.2.2.2).row (by simp)
                have RF1 := RF0.more HDh.out
                have y0 := RF1.at0 (i := 0) (by simp) (v := .int .i64 y) rfl
                simp only [Nat.zero_mul, Nat.add_zero] at y0
                have hfc := HFh.out.1
                simp only [List.length_cons] at hfc
                have hfc1 : (1 : Int) ≤ (fc : Int) := by omega
                have hys1 : (1 : Int) ≤ (ys.length : Int) + 1 := by omega
                have hys0 : (0 : Int) < (ys.length : Int) + 1 := by omega
                have hysf : (ys.length : Int) + 1 ≤ (fc : Int) := by omega
                have hfcm : (fc : Int) ≤ 9223372036854775807 := by have h2 := HFh.out.2.1; unfold maxLen at h2; omega
                have hysz : ((ys.length : Int) + 1 == 0) = false := by simp; omega
                have hst : Hid (stepP z ⟨qs, qo, qx⟩ (y :: ys) = some (⟨qx, 0, y⟩, ys)) := hid (by unfold stepP; simp only; rw [if_pos hsp])
                have RT : ∀ a, RowOf inT w (if fc = 1 then a else some ⟨fb, fo + 1, none⟩) ys := fun a => by
                  by_cases h1 : fc = 1
                  · have : ys = [] := List.eq_nil_of_length_eq_zero (by omega)
                    subst this
                    exact .inl rfl
                  · rw [if_neg h1]
                    exact RowOf.drop (T := inT) HFh.out.2.2.2.2 1
                have RTh := hid RT
                clear RF0 RF1 RT
                simp only [List.length_cons]
                by_cases hf1 : fc = 1
                · subst hf1
                  have hy0 : ys.length = 0 := by omega
                  have hyn : ys = [] := List.eq_nil_of_length_eq_zero hy0
                  subst hyn
                  have RTh' := RTh.out none
                  rw [if_pos rfl] at RTh'
                  replace RTh' := hid RTh'
                  go_wp2_with fail
                  go_region
                  go_wp2_with fail
                  have BF := (Blk.fill [.int .i64 qx, .int .i64 0, .int .i64 y] 0 K1.out (by simp)).drew
                  have SF := (sole_setAll (b := w.heap.size + 1) [.int .i64 qx, .int .i64 0, .int .i64 y] 0 wr).drew
                  go_meet
                  case rel => exact ⟨⟨qx, 0, y⟩, [], _, 0, rfl, hst.out, ⟨by simp, by omega, fun _ => rfl, .inl rfl⟩, BF, SF⟩
                · have RTh' := RTh.out none
                  rw [if_neg hf1] at RTh'
                  replace RTh' := hid RTh'
                  go_wp2_with fail
                  go_region
                  go_wp2_with fail
                  have BF := (Blk.fill [.int .i64 qx, .int .i64 0, .int .i64 y] 0 K1.out (by simp)).drew
                  have SF := (sole_setAll (b := w.heap.size + 1) [.int .i64 qx, .int .i64 0, .int .i64 y] 0 wr).drew
                  go_meet
                  case rel => exact ⟨⟨qx, 0, y⟩, ys, _, fc - 1, rfl, hst.out, ⟨by omega, by unfold maxLen; omega, fun e => (by cases e), RTh'.out⟩, BF, SF⟩
            · have hst : Hid (stepP z ⟨qs, qo, qx⟩ fr = some (⟨qs, qo, qx⟩, fr)) := hid (by unfold stepP; simp only; rw [if_neg hsp])
              go_wp2_with fail
              go_meet
              case rel => exact ⟨⟨qs, qo, qx⟩, fr, fq, fc, rfl, hst.out, ⟨HFh.out.1, HFh.out.2.1, HFh.out.2.2.2.1, HFh.out.2.2.2.2⟩, K1.out, Sole.refl _ _⟩
          case rest =>
            obtain ⟨⟨ps, po, px⟩, fr', fq', fc', rfl, hst, HF', J1, SJ⟩ := hcut
            have hGs := HGh.out.step hst
            have hpo2 := hGs.2.1
            have hpo0 := hGs.1.o0
            have hg4 := hGs.1.z4
            have hg32 := hGs.1.z32
            have hfl := hGs.2.2
            simp only at hpo2 hpo0
            have hSJ := hid SJ
            have hsth := hid hst
            have HF'h := hid HF'
            have hG' := hid hGs.1
            have J1h := hid J1
            have J0 := K0.out.sole SJ (by omega)
            have J2 := hid (K2.out.sole SJ (by omega))
            have VJ := hid (HVh.out.sole SJ (fun k hk e => by omega))
            have DJ := hid (HDh.out.trans (SJ.below (by have h := hs3.out; omega) (fun j e => by omega)))
            have hsJ : Hid (w.heap.size + 1 + 1 + 1 ≤ wc.heap.size) := hid (by have h1 := hs3.out; have h2 := SJ.size; omega)
            have KF := hid (fitting_any (z - po - 1) l (some ⟨lb, lo, none⟩) lc HLh.out.1 HLh.out.2.1 (by omega) (by omega) wc (RowOf.more HLh.out.2.2.2 DJ.out))
            have hfit1 := fit_pos (L := l) (left := z - po - 1) hl0h.out (by omega)
            have hfitl := fit_le l (z - po - 1)
            have hfitw := fit_wr l (z - po - 1) (by omega)
            have hpart := hid (show partP z ⟨ps, po, px⟩ l = ⟨⟨ps, po, px⟩, decide (fit l (z - po - 1) = l.length), l.take (fit l (z - po - 1))⟩ from rfl)
            have hbeh := hid (show behindP z ⟨ps, po, px⟩ l = ⟨ps, po + (1 + wrN (l.take (fit l (z - po - 1)))), px⟩ from rfl)
            have hPP : PP = (planK z (k - 1) (behindP z ⟨ps, po, px⟩ l) fr' (l.drop (fit l (z - po - 1)))).map fun r => ((V.map PtV.data ++ [partP z ⟨ps, po, px⟩ l]) ++ r.1, r.2) := by
              have h := HPh.out.2
              obtain ⟨k', rfl⟩ : ∃ k', k = k' + 1 := ⟨k - 1, by have := HPh.out.1; omega⟩
              rw [planK_step hl0h.out hst] at h
              rw [h, Nat.add_sub_cancel]
              simp only [Option.map_map]
              congr 1
              funext r
              simp
            have hk1 : Hid (1 ≤ k ∧ l.length ≤ k) := hid ⟨by have := HPh.out.1; omega, HPh.out.1⟩
            have hPPh := hid hPP
            obtain ⟨N, hN⟩ : ∃ N, fit l (z - po - 1) = N := ⟨_, rfl⟩
            rw [hN] at KF hfit1 hfitl hfitw hpart hbeh hPPh
            have hw2 : IntKind.i64.wrap (z - po) = z - po := IntWalk.i64_in _ ⟨by omega, by omega⟩
            have hw3 : IntKind.i64.wrap (z - po - 1) = z - po - 1 := IntWalk.i64_in _ ⟨by omega, by omega⟩
            obtain ⟨j0, jk0, jf0⟩ := J0
            obtain ⟨j1, jk1, jf1⟩ := J1
            have J0h := hid (K0.out.sole SJ (by omega))
            have hfF : fr'.length ≤ F.length := by have := HFh.out.2.2.1; omega
            have hGB := hid (HGh.out.step hsth.out)
            have hGB := hid (hGB.out.1.behind hpo2 l)
            clear hPP hst HF' SJ hGs hN k0 k1 l0' l1' g0 g1 hw1 HVh HFh HGh HPh K0 K1 K2 HDh hs3
            go_wp2_with fail
            refine KF.out.mono ?_
            rintro e w5 ⟨rfl, hb5⟩
            have M0 := hid (J0h.out.more hb5)
            have M1 := hid (J1h.out.more hb5)
            have M2 := hid (J2.out.more hb5)
            have VM := hid (VJ.out.more hb5)
            have DM := hid (below2 DJ.out hb5 DJ.out.size)
            have hsM : Hid (w.heap.size + 1 + 1 + 1 ≤ w5.heap.size) := hid (by have h1 := hsJ.out; have h2 := hb5.size; omega)
            clear hb5 KF j0 jk0 jf0 j1 jk1 jf1 J0h J1h J2 VJ DJ hsJ hSJ
            go_wp2_with fail
            have hTl : (l.take N).length = N := by rw [List.length_take]; omega
            have KE : Hid (∀ W, Below w.heap.size w W → Calls Try.prog 21 #[.slice (some ⟨lb, lo, none⟩) N lc] W fun e w' => ∃ eq ec, e = .returned (.slice eq N ec) ∧ RowOwn enT w' W.heap.size (.slice eq N ec) (l.take N) ∧ Below W.heap.size W w') := hid (fun W hb => by
              have h := eclone_any (some ⟨lb, lo, none⟩) lc (l.take N) (by omega) W (RowOf.take (RowOf.more HLh.out.2.2.2 hb) N hfitl) (fun e => by cases e)
              rw [hTl] at h
              refine h.mono ?_
              rintro e w' ⟨v, rfl, O, hb'⟩
              obtain ⟨eq, ec, rfl, _⟩ := rowOwn_slice O
              rw [hTl] at O ⊢
              exact ⟨eq, ec, rfl, O, hb'⟩)
            have hTlh := hid hTl
            have hNlc : (N : Int) ≤ (lc : Int) := by have := HLh.out.1; omega
            have hN0 : (0 : Int) ≤ (N : Int) := by omega
            have hlc63 : (lc : Int) ≤ 9223372036854775807 := by have h2 := HLh.out.2.1; unfold maxLen at h2; omega
            have hdec : Hid (((N : Int) == (l.length : Int)) = decide (N = l.length)) := hid (by rw [Bool.eq_iff_iff]; simp; omega)
            obtain ⟨m1, mk1, mf1⟩ := M1.out
            have bel1 := DM.out.drew
            have bel2 := (DM.out.alloc DM.out.size (.cells #[.int .i64 0, .bool false, .slice none 0 0] 39)).drew
            have BA := (Blk.new w5 #[.int .i64 0, .bool false, .slice none 0 0] 39).drew
            have hlt5 : w.heap.size + 1 < w5.heap.size := by have := hsM.out; omega
            have hne5 : ¬ w.heap.size + 1 = w5.heap.size := by omega
            have hw5c : w5.cell? ⟨w.heap.size + 1, 2, none⟩ = some (.int .i64 px) := mk1 2
            have hne5' : ¬ w5.heap.size = w.heap.size + 1 := by omega
            go_cut [14] (fun s14 wx => ∃ (b : Nat) (eq : Option Addr) (ec : Nat), s14 = .pointer (some ⟨b, 0, none⟩) ∧ Blk wx b #[.int .i64 px, .bool (decide (N = l.length)), .slice eq N ec] ∧ RowOwn enT wx (w.heap.size + 1 + 1 + 1) (.slice eq N ec) (l.take N) ∧ (∀ j, (Value.slice eq N ec).ownBlock = some j → w5.heap.size ≤ j) ∧ w5.heap.size ≤ b ∧ Below w5.heap.size w5 wx)
            case first =>
              go_region_held3 (fun w' => w'.cell? ⟨w.heap.size + 1, 2, none⟩ = some (.int .i64 px))
                (first | go_keep | (rw [hb6.cell (p := ⟨w.heap.size + 1, 2, none⟩) (by simp; omega)]; first | assumption | go_keep) | exact (((Below.refl w6.heap.size w6).alloc (Nat.le_refl _) _).cell (p := ⟨w.heap.size + 1, 2, none⟩) hl6).trans ((hb6.cell (p := ⟨w.heap.size + 1, 2, none⟩) (by simp; omega)).trans hw5c) | fail)
                (first
                  | ((with_reducible refine (KE.out _ bel1).mono ?_); rintro e w6 ⟨eq6, ec6, rfl, O6, hb6⟩; have hbA : Below w5.heap.size w5 w6 := ((Below.refl w5.heap.size w5).drew).trans hb6; have hne6 : ¬ w.heap.size + 1 = w6.heap.size := (by have h := hbA.size; omega); have hne6' : ¬ w6.heap.size = w.heap.size + 1 := (by omega); have hl6 : w.heap.size + 1 < w6.heap.size := (by have h := hbA.size; omega))
                  | ((with_reducible refine (KE.out _ bel2).mono ?_); rintro e w6 ⟨eq6, ec6, rfl, O6, hb6⟩; obtain ⟨m6, k6, g6⟩ := BA.more hb6)
                  | fail)
              · go_wp2_with fail
                have BX := Blk.new w6 #[.int .i64 px, .bool ((N : Int) == (l.length : Int)), .slice eq6 N ec6] 39
                rw [hdec.out] at BX
                go_meet
                case rel =>
                  rw [hdec.out]
                  exact ⟨w6.heap.size, eq6, ec6, rfl, BX, (O6.mono (show w.heap.size + 1 + 1 + 1 ≤ w5.heap.size from hsM.out)).alloc _, fun j hj => (O6.within j hj).1, hbA.size, hbA.alloc hbA.size _⟩
              · go_wp2_with fail
                have BX := Blk.fill [.int .i64 px, .bool ((N : Int) == (l.length : Int)), .slice eq6 N ec6] 0 (BA.more hb6) (by simp)
                have S6 := sole_setAll (b := w5.heap.size) [.int .i64 px, .bool ((N : Int) == (l.length : Int)), .slice eq6 N ec6] 0 w6
                have D6 : Below w5.heap.size w5 w6 := ((Below.refl w5.heap.size w5).alloc (Nat.le_refl _) (.cells #[.int .i64 0, .bool false, .slice none 0 0] 39)).drew.trans (hb6.mono (by simp))
                have D7 := below_fill (b := w5.heap.size) (Nat.le_refl _) [.int .i64 px, .bool ((N : Int) == (l.length : Int)), .slice eq6 N ec6] 0 D6
                have hw6 : ∀ j, (Value.slice eq6 N ec6).ownBlock = some j → w5.heap.size + 1 ≤ j := fun j hj => by have h := (O6.within j hj).1; simpa using h
                have O7 := (O6.mono (show w.heap.size + 1 + 1 + 1 ≤ _ by simp; have h := hsM.out; omega)).sole S6 (fun j hj e => by have h := hw6 j hj; omega)
                rw [hdec.out] at BX D7 O7
                go_meet
                case rel =>
                  rw [hdec.out]
                  exact ⟨w5.heap.size, eq6, ec6, rfl, BX, O7, fun j hj => (by have h := hw6 j hj; omega), Nat.le_refl _, D7⟩
            case rest =>
              obtain ⟨b, eq, ec, rfl, BX, OX, OXf, hbb, BelX⟩ := hcut
              rename World => wx
              have hw5 := BelX.size
              have VX := VM.out.more BelX
              have N0 := M0.out.more BelX
              have N1 := M1.out.more BelX
              have N2 := M2.out.more BelX
              have DX := below2 DM.out BelX (by have := hsM.out; omega)
              have hcx : (#[.int .i64 ps, .int .i64 po, .int .i64 px, .int .i64 px, .bool (decide (N = l.length)), .slice eq N ec] : Array Value).toList = ptT.cells ⟨⟨ps, po, px⟩, decide (N = l.length), eq, ec, l.take N⟩ := by
                show _ = ptcells _
                unfold ptcells
                simp only [hTl]
              have hVl : V.length ≤ 1000 := by have := HLh.out.2.2.1; omega
              obtain ⟨v', w7, hr, O7, gr, at7⟩ := append_row ptOk (w.heap.size + 1 + 1 + 1) 29 (wx.alloc (.cells #[.int .i64 ps, .int .i64 po, .int .i64 px, .int .i64 px, .bool (decide (N = l.length)), .slice eq N ec] 41)) _ V (VX.row.alloc _) (some ⟨wx.heap.size, 0, none⟩) 1 [⟨⟨ps, po, px⟩, decide (N = l.length), eq, ec, l.take N⟩] (rowOf_one ptOk (Blk.new wx _ _) hcx) (by show (V.length + 1) * 64 ≤ _; omega) (by unfold maxLen; simp; omega) (by simp; have := hsM.out; omega)
              have hun := VM.out.row.within
              have V7 := hid (PartsOwn.grow VX (x := ⟨⟨ps, po, px⟩, decide (N = l.length), eq, ec, l.take N⟩) (by show RowOwn enT wx _ (.slice eq (l.take N).length ec) (l.take N); rw [hTl]; exact OX) (fun j hj e => by
                have h1 := OXf j (by have h : (Value.slice eq (l.take N).length ec).ownBlock = some j := hj; rw [hTl] at h; exact h)
                have h2 := (hun j e).2
                omega) rfl O7 gr at7)
              have S7 := Sole.grown (S := fun j => w.heap.size + 1 + 1 + 1 ≤ j ∧ j < w5.heap.size) gr (fun k hk => hun k hk)
              have P0 := hid ((N0.alloc (.cells #[.int .i64 ps, .int .i64 po, .int .i64 px, .int .i64 px, .bool (decide (N = l.length)), .slice eq N ec] 41)).sole S7 (by omega))
              have P1 := (N1.alloc (.cells #[.int .i64 ps, .int .i64 po, .int .i64 px, .int .i64 px, .bool (decide (N = l.length)), .slice eq N ec] 41)).sole S7 (by omega)
              have P2 := hid ((N2.alloc (.cells #[.int .i64 ps, .int .i64 po, .int .i64 px, .int .i64 px, .bool (decide (N = l.length)), .slice eq N ec] 41)).sole S7 (by omega))
              have PX := (BX.alloc (.cells #[.int .i64 ps, .int .i64 po, .int .i64 px, .int .i64 px, .bool (decide (N = l.length)), .slice eq N ec] 41)).sole S7 (by omega)
              have QX := (OX.alloc (.cells #[.int .i64 ps, .int .i64 po, .int .i64 px, .int .i64 px, .bool (decide (N = l.length)), .slice eq N ec] 41)).sole S7 (fun j hj => by have := OXf j hj; omega)
              have D7 := hid (Below.grown (DX.alloc (by have := hsM.out; omega) (.cells #[.int .i64 ps, .int .i64 po, .int .i64 px, .int .i64 px, .bool (decide (N = l.length)), .slice eq N ec] 41)) gr (by simp; have := hsM.out; omega) (fun k hk => by have := (hun k hk).1; omega))
              obtain ⟨eqp, ecp, hev, he1, he2, RQ⟩ := QX.open enOk
              rw [hTl] at hev he1
              have hev' : eqp = eq ∧ ecp = ec := by cases hev; exact ⟨rfl, rfl⟩
              obtain ⟨rfl, rfl⟩ := hev'
              have hRQ := hid RQ
              have KW := hid (fun (u : Later w7) => written_any px (decide (N = l.length)) eqp ecp (l.take N) (by rw [hTl]; exact he1) he2 u.val (RowOf.more RQ u.h))
              rw [hTl] at KW
              have hs7 : Hid (w.heap.size + 1 + 1 + 1 ≤ w7.heap.size) := hid (by have h1 := hsM.out; have h2 := gr.size; simp at h2; omega)
              have hdata : Hid ((V ++ [(⟨⟨ps, po, px⟩, decide (N = l.length), eqp, ecp, l.take N⟩ : PtV)]).map PtV.data = V.map PtV.data ++ [partP z ⟨ps, po, px⟩ l]) := hid (by rw [List.map_append, hpart.out]; rfl)
              have hwr0 : (0 : Int) ≤ (wrN (l.take N) : Int) := by omega
              generalize wrN (l.take N) = WR at *
              have hw4 : IntKind.i64.wrap (1 + (WR : Int)) = 1 + (WR : Int) := IntWalk.i64_in _ ⟨by omega, by omega⟩
              have hw5' : IntKind.i64.wrap (po + (1 + (WR : Int))) = po + (1 + (WR : Int)) := IntWalk.i64_in _ ⟨by omega, by omega⟩
              obtain ⟨n1, nk1, nf1⟩ := N1
              obtain ⟨bx, bk, bf⟩ := BX
              have P1h := hid P1
              have PXh := hid PX
              clear KE m1 mk1 mf1 bel1 bel2 BA hlt5 hne5 hw5c hne5' VX N0 N2 DX hcx O7 at7 hun S7 P1 PX QX RQ OX OXf BelX hbb hev hTl gr VM M0 M1 M2 DM hsM hw5 hw2 hw3
              go_wp2_with (at_builtin; refine Lib.wpList_append_run _ rfl _ _ _ _ rfl _ _ rfl rfl _ _ hr ?_)
              have q1 := fun u : Later w7 => u.blk P1h.out
              have qX := fun u : Later w7 => u.blk PXh.out
              refine wp_region_late 7 (by kernel_rfl) (by kernel_rfl) ?_
              simp only [List.take_succ_cons, List.take_zero, List.drop_succ_cons, List.drop_zero]
              iterate 7 (go_big_quiet_step ((go_at_call 22; (with_reducible exact late_call (KW.out _)))))
              refine wpQuiet_nil ?_
              intro w8 h8'
              have h8 := late_out h8'
              have R0 := P0.out.more h8
              have R1 := P1h.out.more h8
              have R2 := P2.out.more h8
              have VR := V7.out.more h8
              have DR := D7.out.trans (h8.mono D7.out.size)
              have S9 : Sole (fun j => j = w.heap.size + 1) w8 (w8.setCell ⟨w.heap.size + 1, 1, none⟩ (.int .i64 (po + (1 + (WR : Int))))) := Sole.setCell (S := fun j => j = w.heap.size + 1) (b := w.heap.size + 1) (o := 1) w8 _ rfl
              have T0 := hid (R0.sole S9 (by omega))
              have T1 : Hid (Blk (w8.setCell ⟨w.heap.size + 1, 1, none⟩ (.int .i64 (po + (1 + (WR : Int))))) (w.heap.size + 1) #[.int .i64 ps, .int .i64 (po + (1 + (WR : Int))), .int .i64 px]) := hid (R1.set 1 _ (by simp))
              have T2 := hid (R2.sole S9 (by omega))
              have VT := hid (VR.sole S9 (fun j hj e => by omega))
              have DT := hid (DR.trans (S9.below (by have := DR.size; omega) (fun j e => by omega)))
              obtain ⟨r1, rk1, rf1⟩ := R1
              have hdl : (l.drop N).length = l.length - N := List.length_drop
              have hNll : (N : Int) ≤ (l.length : Int) := by omega
              have hlllc : (l.length : Int) ≤ (lc : Int) := by have := HLh.out.1; omega
              have hdlh := hid hdl
              have hmeas : l.length - N < l.length := by omega
              clear h8' h8 q1 qX R0 R2 VR DR S9 P0 P1h P2 V7 D7 n1 nk1 nf1 bx bk bf KW hRQ PXh hdl
              by_cases hlcN : lc = N
              · have hdn : l.drop N = [] := List.eq_nil_of_length_eq_zero (by rw [hdlh.out]; omega)
                have hdnh := hid hdn
                have hlN := hid (show l.length - N = 0 by have := HLh.out.1; omega)
                clear hdn
                go_wp2_with fail
                go_roundw
                case rel =>
                  refine ⟨k - 1, ⟨ps, po + (1 + (WR : Int)), px⟩, fr', fq', fc', l.drop N, _, 0, V ++ [⟨⟨ps, po, px⟩, decide (N = l.length), _, _, l.take N⟩], rfl, by rw [hdlh.out, hlN.out], VT.out, ⟨HF'h.out.1, HF'h.out.2.1, hfF, HF'h.out.2.2.1, HF'h.out.2.2.2⟩, ⟨by rw [hdlh.out]; have := HLh.out.1; omega, by have := HLh.out.2.1; omega, by rw [hdlh.out, List.length_append]; have := HLh.out.2.2.1; simp; omega, by rw [hdnh.out]; exact .inl rfl⟩, ?_, ⟨by rw [hdlh.out]; have := hk1.out; omega, ?_⟩, T0.out, T1.out, T2.out, DT.out⟩
                  · have h := hGB.out; rw [hbeh.out] at h; exact h
                  · rw [hdata.out]; have h := hPPh.out; rw [hbeh.out] at h; exact h
                case measure => simp [slLen]; omega
              · have RD := hid (RowOf.drop (T := enT) HLh.out.2.2.2 N)
                go_wp2_with fail
                go_roundw
                case rel =>
                  refine ⟨k - 1, ⟨ps, po + (1 + (WR : Int)), px⟩, fr', fq', fc', l.drop N, _, lc - N, V ++ [⟨⟨ps, po, px⟩, decide (N = l.length), _, _, l.take N⟩], rfl, by rw [hdlh.out]; rfl, VT.out, ⟨HF'h.out.1, HF'h.out.2.1, hfF, HF'h.out.2.2.1, HF'h.out.2.2.2⟩, ⟨by rw [hdlh.out]; have := HLh.out.1; omega, by have := HLh.out.2.1; omega, by rw [hdlh.out, List.length_append]; have := HLh.out.2.2.1; simp; omega, RD.out⟩, ?_, ⟨by rw [hdlh.out]; have := hk1.out; omega, ?_⟩, T0.out, T1.out, T2.out, DT.out⟩
                  · have h := hGB.out; rw [hbeh.out] at h; exact h
                  · rw [hdata.out]; have h := hPPh.out; rw [hbeh.out] at h; exact h
                case measure => simp [slLen]; omega
end Go.Proofs.Ytibjccfillhfpaa
