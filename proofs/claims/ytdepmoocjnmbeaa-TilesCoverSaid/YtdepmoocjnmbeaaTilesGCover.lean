/-
  Package tiles: Cover of any window.
-/
import Derived.Test.YtdepmoocjnmbeaaTilesGMath
import Derived.Test.YtdepmoocjnmbeaaTilesGCoarse
import Derived.Test.YtdepmoocjnmbeaaTilesRepA
import Derived.LoopTactic
import Derived.Deep.LoopGhost
import Derived.Deep.DeepCutAuto
namespace Go.Proofs.Ytdepmoocjnmbeaa
open Go.RowKit
set_option linter.unusedVariables false
set_option linter.unusedSimpArgs false

/-- Some cells. -/
def NewK (B : Nat) (K : List Cl) (v : Value) (w : World) : Prop := ∃ p c, v = .slice p K.length c ∧ RowOwn clT w B (.slice p K.length c) K
theorem NewK.stable (B : Nat) (K : List Cl) (v : Value) : Stable (NewK B K v) := fun _ _ ⟨p, c, e, R⟩ hb => ⟨p, c, e, RowOwn.more R hb⟩
/-- What Cover answers. -/
structure CovR (r : Rc) (m : Int) (L : List Cl) : Prop where
  ok : CovOk r L
  le : (L.length : Int) ≤ m
  one : 1 ≤ L.length
  stops : ∀ i, i < L.length → isB r m L.length (atR clT L i) = false
theorem own_some {w : World} {base : Nat} {p : Option Addr} {n c : Nat} {L : List Cl} (h : RowOwn clT w base (.slice p n c) L) (hn : 1 ≤ n) : ∃ g, p = some ⟨g, 0, none⟩ := by
  rcases h.2 with ⟨e, h0⟩ | ⟨g, cap, cur, e, _⟩
  · simp only [Value.slice.injEq] at e
    omega
  · simp only [Value.slice.injEq] at e
    exact ⟨g, e.1⟩
theorem own_rowof {w : World} {base : Nat} {p : Option Addr} {n c : Nat} {L : List Cl} (h : RowOwn clT w base (.slice p n c) L) : RowOf clT w p L := by
  obtain ⟨p', c', e', _, _, RW⟩ := RowOwn.open clOk h
  simp only [Value.slice.injEq] at e'
  rw [e'.1]
  exact RW

set_option maxRecDepth 100000 in
set_option maxHeartbeats 16000000 in
theorem gcover_any (r : Rc) (h0 : 0 ≤ r.a) (h1 : r.c ≤ 4294967295) (h2 : 0 ≤ r.b) (h3 : r.d ≤ 4294967295) (h4 : r.a ≤ r.c) (h5 : r.b ≤ r.d) (most : Int) (w : World) :
    Calls Try.prog 8 #[r.v, .int .i64 most] w fun e w' => ∃ L p c, e = .returned (.slice p (L : List Cl).length c) ∧ RowOwn clT w' w.heap.size (.slice p L.length c) L ∧ CovR r (min (max most 1) 256) L ∧ Below w.heap.size w w' := by
  have KE := fun w => empty_any r.a r.b r.c r.d w
  rw [show emptyB r.a r.b r.c r.d = false by unfold emptyB; simp; omega] at KE
  have KQ := hid (fun (c : Cl) (hc : okC c) (n : Nat) hn hn2 br bl bm p cp most w B1 B2 B3 => gclo_any r c hc n hn hn2 br bl bm p cp most w B1 B2 B3)
  have KM := hid (fun (c : Cl) (hc : okC c) (hl : c.l < 32) w => gmet_any r c hc hl w)
  have hroot := hid (CovOk.root (r := r) h0 h1 h2 h3 h4 h5)
  obtain ⟨m, hm, hm1, hm2⟩ : ∃ m, min (max most 1) 256 = m ∧ 1 ≤ m ∧ m ≤ 256 := ⟨_, rfl, by omega, by omega⟩
  have hmb := hid (And.intro hm1 hm2)
  have KRoot := hid (fun w => root_any w)
  replace KE := hid KE
  have b1 := tbelow_one w (.cells #[.int .u32 r.a, .int .u32 r.b, .int .u32 r.c, .int .u32 r.d] 24)
  have b2 := tbelow_one (w.alloc (.cells #[.int .u32 r.a, .int .u32 r.b, .int .u32 r.c, .int .u32 r.d] 24)) (.cells #[.int .i64 most] 3)
  have BR := hid ((Blk.new w #[.int .u32 r.a, .int .u32 r.b, .int .u32 r.c, .int .u32 r.d] 24).more b2)
  have BM := Blk.new (w.alloc (.cells #[.int .u32 r.a, .int .u32 r.b, .int .u32 r.c, .int .u32 r.d] 24)) #[.int .i64 most] 3
  rw [show (w.alloc (.cells #[.int .u32 r.a, .int .u32 r.b, .int .u32 r.c, .int .u32 r.d] 24)).heap.size = w.heap.size + 1 by simp] at BM
  replace BM := hid BM
  have D0 := hid (below2 b1 b2 b1.size)
  clear b1 b2 h0 h1 h2 h3 h4 h5 hm1 hm2
  obtain ⟨lr, mr, fr⟩ := BR.out
  obtain ⟨lm, mm, fm⟩ := BM.out
  go_enter Try.func8, Try.ntmps8
  go_wp2_with fail
  refine (KE.out _).mono ?_
  rintro e w1 ⟨rfl, hb1⟩
  have D1 := hid (below2 D0.out hb1 D0.out.size)
  have BR1 := hid (BR.out.more hb1)
  have BM1 := hid (BM.out.more hb1)
  clear hb1 KE BR BM D0 lr mr fr lm mm fm
  have BR2 := hid (BR1.out.other ⟨w.heap.size + 1, 0, none⟩ (by simp) (.int .i64 m))
  have BM2 := hid (BM1.out.set 0 (.int .i64 m) (by simp))
  have D2 := hid (D1.out.trans ((Sole.setCell (S := fun k => k = w.heap.size + 1) w1 (b := w.heap.size + 1) (o := 0) (.int .i64 m) rfl).below (B := w.heap.size) D1.out.size fun k e => by omega))
  obtain ⟨lm, mm, fm⟩ := BM1.out
  go_wp2_with fail
  refine (KRoot.out _).mono ?_
  rintro e w3 ⟨rfl, hb3⟩
  have b4 := tbelow_one w3 (.cells #[.int .u32 0, .int .u32 0, .int .i64 0] 32)
  have b5 := tbelow_one (w3.alloc (.cells #[.int .u32 0, .int .u32 0, .int .i64 0] 32)) (.cells #[.slice (some ⟨w3.heap.size, 0, none⟩) 1 1] 27)
  have b35 := below2 (below2 hb3 b4 hb3.size) b5 (Nat.le_trans hb3.size b4.size)
  have s4 : (w3.alloc (.cells #[.int .u32 0, .int .u32 0, .int .i64 0] 32)).heap.size = w3.heap.size + 1 := by simp
  have BL := Blk.new (w3.alloc (.cells #[.int .u32 0, .int .u32 0, .int .i64 0] 32)) #[.slice (some ⟨w3.heap.size, 0, none⟩) 1 1] 27
  rw [s4] at BL
  have hw3 : w.heap.size + 2 ≤ w3.heap.size := by have := BM2.out.lt; have := hb3.size; omega
  have O4 : RowOwn clT (w3.alloc (.cells #[.int .u32 0, .int .u32 0, .int .i64 0] 32)) w3.heap.size (.slice (some ⟨w3.heap.size, 0, none⟩) 1 1) [⟨0, 0, 0⟩] := by
    exact ⟨rfl, .inr ⟨w3.heap.size, 1, _, rfl, Nat.le_refl _, heap_alloc_new w3 _, Nat.le_refl _, by unfold maxLen; omega, rfl, rfl⟩⟩
  have O5 := hid (RowOwn.more O4 b5)
  have D5 := hid (below2 D2.out b35 D2.out.size)
  have BR5 := hid (BR2.out.more b35)
  have BM5 := hid (BM2.out.more b35)
  have BL5 := hid BL
  clear hb3 b4 b5 b35 BL O4 BR2 BM2 D2 BR1 BM1 lm mm fm KRoot s4 D1
  go_wp2_with fail
  generalize (w3.alloc (.cells #[.int .u32 0, .int .u32 0, .int .i64 0] 32)).alloc (.cells #[.slice (some ⟨w3.heap.size, 0, none⟩) 1 1] 27) = W5 at *
  generalize w3.heap.size = g3 at *
  replace hw3 := hid hw3
  replace hm := hid hm
  obtain ⟨N0, hN0⟩ : ∃ n, n = msr [⟨0, 0, 0⟩] := ⟨_, rfl⟩
  replace hN0 := hid hN0
  go_loopg [6, 7] N0 (fun gk s6 s7 wr => ∃ (L : List Cl) (p : Option Addr) (c : Nat), Hid (msr L = gk ∧ CovOk r L ∧ (L.length : Int) ≤ m ∧ 1 ≤ L.length) ∧ Below w.heap.size w wr ∧ Blk wr w.heap.size #[.int .u32 r.a, .int .u32 r.b, .int .u32 r.c, .int .u32 r.d] ∧ Blk wr (w.heap.size + 1) #[.int .i64 m] ∧ Blk wr (g3 + 1) #[.slice p L.length c] ∧ RowOwn clT wr g3 (.slice p L.length c) L ∧ Hid (∀ g, (Value.slice p L.length c).ownBlock = some g → g ≠ g3 + 1))
  case atStart => exact ⟨[⟨0, 0, 0⟩], _, _, hid ⟨hN0.out.symm, hroot.out, hmb.out.1, Nat.le_refl _⟩, D5.out, BR5.out, BM5.out, BL5.out, O5.out, hid (fun g e => by have : some g3 = some g := e; cases this; omega)⟩
  case round =>
    obtain ⟨L, p, c, hL, hbr, PR, PM, PL, OW, hne⟩ := hrel
    have hbrh := hid hbr
    have PRh := hid PR
    have PMh := hid PM
    have PLh := hid PL
    have OWh := hid OW
    obtain ⟨n, hn⟩ : ∃ n, n = L.length := ⟨_, rfl⟩
    have hn1 : 1 ≤ n := by rw [hn]; exact hL.out.2.2.2
    have hn256 : n ≤ 256 := by have := hL.out.2.2.1; have := hmb.out.2; rw [hn]; omega
    have KC := hid (gcoarse_any L n hn.symm (by omega) p c w.heap.size (g3 + 1) (w.heap.size + 1) (isB r m n) wr (own_rowof OW) (fun i hi W' h => KQ.out _ (hL.out.2.1.ok _ (atR_mem (T := clT) L i (by rw [← hn]; exact hi))) n hn1 (by omega) w.heap.size (g3 + 1) (w.heap.size + 1) p c m W' (PRh.out.more h) (by rw [hn]; exact PLh.out.more h) (PMh.out.more h)))
    rw [← hn] at PL
    have hnh := hid hn
    clear OW PR PM hbr hn
    obtain ⟨ll, ml, fl⟩ := PL
    go_wp2_with fail
    refine KC.out.mono ?_
    rintro e w6 ⟨⟨at', b, rfl, hbt, hbf⟩, hb6⟩
    have D6 := hid (below2 hbrh.out hb6 hbrh.out.size)
    have PL6 := hid (by have h := PLh.out.more hb6; rw [← hnh.out] at h; exact h)
    have PR6 := hid (PRh.out.more hb6)
    have PM6 := hid (PMh.out.more hb6)
    have OW6 := hid (RowOwn.more OWh.out hb6)
    have hbth := hid hbt
    have hbfh := hid hbf
    clear hb6 KC ll ml fl OWh PLh PRh PMh hbt hbf
    cases b with
    | false =>
      obtain ⟨ll, ml, fl⟩ := PL6.out
      go_wp2_with fail
      go_ret
      refine ⟨L, p, c, by (try rw [hnh.out]); rfl, OW6.out.mono (by have := hw3.out; omega), ?_, D6.out⟩
      rw [hm.out]
      exact ⟨hL.out.2.1, hL.out.2.2.1, hL.out.2.2.2, fun i hi => by rw [← hnh.out]; exact hbfh.out (by simp) i (by rw [hnh.out]; exact hi)⟩
    | true =>
      have hat := hid ((hbth.out (by simp)).1)
      have hP := hid ((hbth.out (by simp)).2)
      obtain ⟨g, rfl⟩ := own_some OW6.out hL.out.2.2.2
      have OWn := hid (show RowOwn clT w6 g3 (.slice (some ⟨g, 0, none⟩) n c) L by have h := OW6.out; rw [← hnh.out] at h; exact h)
      have hatL := hid (show at' < L.length by rw [← hnh.out]; exact hat.out)
      obtain ⟨C, hC⟩ : ∃ C, C = atR clT L at' := ⟨_, rfl⟩
      have hCL := hid (show C = L[at']'hatL.out by rw [hC]; exact atR_eq L at' hatL.out)
      have hCok := hid (show okC C by rw [hC]; exact hL.out.2.1.ok _ (atR_mem (T := clT) L at' hatL.out))
      have hPC := hid (show isB r m n C = true by rw [hC]; exact hP.out)
      have hCl := hid (show C.l < 32 by
        have h := hPC.out
        unfold isB at h
        simp only [Bool.and_eq_true, decide_eq_true_eq] at h
        exact h.1.1)
      have hCm := hid (show (n : Int) - 1 + ((metL r C).length : Int) ≤ m by
        have h := hPC.out
        unfold isB at h
        simp only [Bool.and_eq_true, decide_eq_true_eq] at h
        exact h.2)
      have RW := hid (show RowP w6 (some ⟨g, 0, none⟩) 3 n (fun i => clT.cells (atR clT L i)) by have h := own_rowof OWn.out; unfold RowOf at h; rw [← hnh.out] at h; exact h)
      have RRow : Hid (Row w6 g 0 3 n (fun i => clT.cells (atR clT L i))) := hid (by
        obtain ⟨b, o, e, R⟩ := RW.out.row (by omega)
        cases e
        exact R)
      have hlat : (at' : Int) < (n : Int) := by have := hat.out; omega
      have hn64 : (n : Int) ≤ 256 := by omega
      obtain ⟨K, hK⟩ : ∃ K, K = metL r C := ⟨_, rfl⟩
      have KM1 : Hid (∀ u : World, Below w6.heap.size w6 u → Calls Try.prog 22 #[cl C.x C.y C.l, rct r.a r.b r.c r.d] u fun e w' => ∃ v, e = .returned v ∧ Below u.heap.size u w' ∧ NewK w6.heap.size K v w') := hid (fun u hu => (KM.out C hCok.out hCl.out u).mono fun e w' ⟨pm, cm, he, hO, hb⟩ => by
        rw [← hK] at he hO
        exact ⟨_, he, hb, pm, cm, rfl, hO.mono hu.size⟩)
      replace hK := hid hK
      replace hC := hid hC
      go_wp2_with fail
      refine wp_region_order [([0, 1, 2, 3, 4, 5, 6, 7, 8], 9)] [] 10 (by kernel_rfl) (by kernel_rfl) (by kernel_rfl) ?_
      refine order_call ?A1 ?walk1 _ 22 #[cl C.x C.y C.l, rct r.a r.b r.c r.d] (NewK w6.heap.size K) (NewK.stable _ _) (by rfl) (by rfl) ?want1 ?run1 ?call1 ?next1
      case walk1 =>
        intro S hS hSS hN
        have q0 := fun u : LaterC w6 S => LaterC.blk PL6.out u
        have q1 := fun u : LaterC w6 S => LaterC.blk PR6.out u
        have q2 := fun u : LaterC w6 S => (show u.val.cell? ⟨g, at' * 3, none⟩ = some (.int .u32 C.x) by have h := (RRow.out.more u.h).at0 hat.out (v := .int .u32 C.x) (by rw [hC.out]; rfl); rwa [Nat.zero_add] at h)
        have q3 := fun u : LaterC w6 S => (show u.val.cell? ⟨g, at' * 3 + 1, none⟩ = some (.int .u32 C.y) by have h := (RRow.out.more u.h).at1 hat.out (v := .int .u32 C.y) (by rw [hC.out]; rfl); rwa [Nat.zero_add] at h)
        have q4 := fun u : LaterC w6 S => (show u.val.cell? ⟨g, at' * 3 + 2, none⟩ = some (.int .i64 C.l) by have h := (RRow.out.more u.h).at2 hat.out (v := .int .i64 C.l) (by rw [hC.out]; rfl); rwa [Nat.zero_add] at h)
        simp only [List.filterMap_cons, List.filterMap_nil, List.getElem?_toArray, List.getElem?_cons_succ, List.getElem?_cons_zero]
        change wpQuiet _ _ _ _ [_, _, _, _, _, _, _, _, _] _
        iterate 9 (go_big_quiet_step (fail))
        refine wpQuiet_nil ?_
        rfl
      case want1 => kernel_rfl
      case run1 => intro w2; simp [execOp, Act.eval, go_sem]
      case call1 => exact fun u => KM1.out _ u.h
      case next1 =>
        intro v hN1
        obtain ⟨pm, cm, rfl, _⟩ := (Classical.choice hN1).s.2
        simp only [Act.put, Option.bind_some, List.setIfInBounds_toArray, List.set_cons_zero, List.set_cons_succ]
        refine order_last ?A3 ?walk3 ?fin
        case walk3 =>
          intro S hS hSS hN
          refine wpQuiet_nil ?_
          rfl
        case fin =>
          intro u
          have hu := u.h
          obtain ⟨pm', cm', e9, OM⟩ := u.s.2
          obtain ⟨rfl, rfl⟩ : pm' = pm ∧ cm' = cm := by simp only [Value.slice.injEq] at e9; exact ⟨e9.1.symm, e9.2.2.symm⟩
          have hK1 : 1 ≤ K.length := by rw [hK.out]; exact met_some hCok.out hCl.out (hL.out.2.1.meet _ (by rw [hCL.out]; exact List.getElem_mem hatL.out))
          obtain ⟨gv, rfl⟩ := own_some OM hK1
          have hgv := (RowOwn.within OM gv rfl).1
          have hgw := (RowOwn.within OWn.out g rfl)
          have hK4 : K.length ≤ 4 := by rw [hK.out]; exact metK_len r C 4
          have KRp := hid (replace_any g c gv cm' n at' K.length L K hnh.out.symm rfl g3 w6.heap.size u.val (by have := hu.size; omega) (OWn.out.more hu) OM (by omega) hat.out hK1 (by omega))
          have D7 := hid (below2 D6.out hu D6.out.size)
          have PL7 := hid (PL6.out.more hu)
          have PR7 := hid (PR6.out.more hu)
          have PM7 := hid (PM6.out.more hu)
          have hg3 := hid (show g3 ≤ g ∧ g ≠ g3 + 1 from ⟨hgw.1, hne.out g rfl⟩)
          have hu7 := hid hu.size
          have hK1h := hid hK1
          clear hu OM e9 hgv hgw hK4 hK1
          generalize u.val = w7 at *
          obtain ⟨m2, hm2⟩ : ∃ m2, m2 = K.length := ⟨_, rfl⟩
          rw [← hm2] at KRp ⊢
          replace hm2 := hid hm2
          simp only [List.drop_succ_cons, List.drop_zero]
          go_wp2_with fail
          refine KRp.out.mono ?_
          rintro e w8 ⟨q8, d8, rfl, O8, S8, hq8⟩
          have hgg := hg3.out
          have D8 := hid (D7.out.trans (S8.below (B := w.heap.size) D7.out.size fun j e => by have := hw3.out; omega))
          have PR8 := hid (PR7.out.sole S8 (fun e => by have := hw3.out; omega))
          have PM8 := hid (PM7.out.sole S8 (fun e => by have := hw3.out; omega))
          have PL8 := hid (PL7.out.sole S8 (fun e => by omega))
          obtain ⟨L2, hL2⟩ : ∃ L2, L2 = L.take at' ++ K ++ L.drop (at' + 1) := ⟨_, rfl⟩
          rw [← hL2] at O8
          have hl2 : L2.length = n - 1 + m2 := by
            have h1 := hat.out
            have h2 := hnh.out
            rw [hL2, hm2.out]
            simp only [List.length_append, List.length_take, List.length_drop]
            omega
          have hne8 := hid (fun j (e : (Value.slice q8 (n - 1 + m2) d8).ownBlock = some j) => show j ≠ g3 + 1 from by
            rcases hq8 j e with r | r
            · omega
            · have := PL7.out.lt; omega)
          have S89 := Sole.setCell (S := fun j => j = g3 + 1) w8 (b := g3 + 1) (o := 0) (.slice q8 (n - 1 + m2) d8) rfl
          have PL9 := hid (PL8.out.set 0 (.slice q8 (n - 1 + m2) d8) (by simp))
          have PR9 := hid (PR8.out.other ⟨g3 + 1, 0, none⟩ (by have := hw3.out; show g3 + 1 ≠ w.heap.size; omega) (.slice q8 (n - 1 + m2) d8))
          have PM9 := hid (PM8.out.other ⟨g3 + 1, 0, none⟩ (by have := hw3.out; show g3 + 1 ≠ w.heap.size + 1; omega) (.slice q8 (n - 1 + m2) d8))
          have D9 := hid (D8.out.trans (S89.below (B := w.heap.size) D8.out.size fun j e => by have := hw3.out; omega))
          have O9 := hid (O8.sole S89 (fun j e1 e2 => hne8.out j e1 e2))
          have hnew := hid (show msr L2 < gk ∧ CovOk r L2 ∧ (L2.length : Int) ≤ m ∧ 1 ≤ L2.length by
            have hlt : (L[at']'hatL.out).l < 32 := by rw [← hCL.out]; exact hCl.out
            have e2 : L2 = L.take at' ++ metL r (L[at']'hatL.out) ++ L.drop (at' + 1) := by rw [hL2, hK.out, hCL.out]
            refine ⟨?_, ?_, ?_, ?_⟩
            · rw [← hL.out.1, e2]; exact msr_step hL.out.2.1 at' hatL.out hlt
            · rw [e2]; exact hL.out.2.1.step at' hatL.out hlt
            · have h := hCm.out
              rw [← hK.out, ← hm2.out] at h
              rw [hl2]
              omega
            · have := hK1h.out; rw [← hm2.out] at this; omega)
          obtain ⟨ll, ml, fl⟩ := PL8.out
          replace hl2 := hid hl2
          clear O8 S8 hq8 S89 hgg KRp hL2
          go_wp2_with fail
          go_roundg (msr L2)
          case rel => exact ⟨L2, q8, d8, hid ⟨rfl, hnew.out.2⟩, D9.out, PR9.out, PM9.out, by rw [hl2.out]; exact PL9.out, by rw [hl2.out]; exact O9.out, hid (by rw [hl2.out]; exact hne8.out)⟩
          case measure => exact hnew.out.1
end Go.Proofs.Ytdepmoocjnmbeaa
