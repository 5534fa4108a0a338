/-
  The document's own nodes: a leaf of octets.
-/
import Derived.Test.YtgnnikjpnmalmaaNodeRefLeaf
import Derived.Outline
namespace Go.Proofs.Ytgnnikjpnmalmaa
open Go.RowKit
set_option linter.unusedVariables false
set_option linter.unusedSimpArgs false

theorem news8dC (w : World) (c : Array Value) (t : TypeId) : ∀ j u, c.toList[j]? = some u → (w.alloc (.cells c t)).drew.cell? (Addr.add ⟨w.heap.size, 0, none⟩ j) = some u := news8 w c t

set_option maxRecDepth 100000 in
set_option maxHeartbeats 16000000 in
theorem refReadLeafC (l : List UInt8) (a : Option Addr) (cap : Nat) (h1 : l.length ≤ cap) (h2 : cap ≤ maxLen) (w : World) (O : Octs w a l) (h3 : 3 ≤ l.length) (h0 : byteAt l 0 = 1) (hway : l.length = 13 ∧ cap ≠ 3) :
    Calls Try.prog 43 #[.slice a l.length cap] w (RefPost l w) := by
  obtain ⟨i0, hi, hz0, hz1, hz2⟩ := info_parts ptTab
  obtain ⟨W0, hW0, hb0, BZ, BN⟩ := box_zz w
  obtain ⟨b, o, rfl, hb, hc⟩ := O.row (by intro h; rw [h] at h3; simp at h3)
  have cell := fun (i : Nat) (hi : i < l.length) => (show W0.cell? ⟨b, o + i, none⟩ = some (.int .u8 (byteAt l i : Int)) by
    rw [hb0.cell (p := ⟨b, o + i, none⟩) hb, hc i hi, byteAt_get l i hi])
  have z0 := cell 0 (by omega)
  rw [Nat.add_zero, h0] at z0
  have z1 := cell 1 (by omega)
  have z2 := cell 2 (by omega)
  have hoth := hid (show otherR l = false from otherR_not (.inl (by omega)))
  have hfit : Hid (∀ L, rdK (l.drop 3) (byteAt l 2) = some (L, []) → leafB L.length (ptAt L) (byteAt l 1) zf zf = true → leafR l = some L) := hid (fun L q1 q2 => leafR_ok h3 h0 q1 q2)
  have hbadr : Hid ((∀ L, rdK (l.drop 3) (byteAt l 2) = some (L, []) → leafB L.length (ptAt L) (byteAt l 1) zf zf = true → False) → leafR l = none) := hid (fun h => leafR_bad fun L _ _ q3 q4 => h L q3 q4)
  have EB : Hid (∀ w', leafR l = none → Below w.heap.size w w' → RefPost l w (.returned (.tuple #[lfval false (.slice none 0 0) 0, .bool false])) w') := hid (fun w' h hb => .inr (.inr ⟨h, hoth.out, rfl, hb⟩))
  have EG : Hid (∀ w' L v, leafR l = some L → PtsOwn w' w.heap.size v L → Below w.heap.size w w' → RefPost l w (.returned (.tuple #[lfval true v (byteAt l 1), .bool true])) w') := hid (fun w' L v h1 h2 h3 => .inl ⟨L, v, h1, rfl, h2, h3⟩)
  have O3 : Octs w (some ⟨b, o + 3, none⟩) (l.drop 3) := O.drop 3
  have l3 : (l.drop 3).length = l.length - 3 := List.length_drop
  have bn := byteAt_lt l 1
  have bm := byteAt_lt l 2
  generalize byteAt l 1 = nx at *
  generalize byteAt l 2 = m at *
  have wn : IntKind.i64.wrap (nx : Int) = (nx : Int) := IntWalk.i64_in _ (by omega)
  have wm : IntKind.i64.wrap (m : Int) = (m : Int) := IntWalk.i64_in _ (by omega)
  have hcapI : (l.length : Int) ≤ (cap : Int) := by omega
  have i1 : (1 : Int) < (l.length : Int) := by omega
  have i2 : (2 : Int) < (l.length : Int) := by omega
  have i3 : (3 : Int) ≤ (l.length : Int) := by omega
  have i0' : (0 : Int) < (l.length : Int) := by omega
  have i3c : (3 : Int) ≤ (cap : Int) := by omega
  have g5 : decide (l.length < 3) = false := decide_eq_false (by omega)
  have g5' : decide ((l.length : Int) < 3) = false := decide_eq_false (by omega)
  have hbg : b ≠ w.heap.size + 1 := by omega
  have hbz : b ≠ w.heap.size := by omega
  have D0 := hid hb0
  have HZ := hid BZ
  have HN := hid BN
  have HO3 := hid O3
  unfold maxLen at h2
  -- the rest, whatever the address of what is left of the octets
  have start : ∃ ra rc, Hid (Octs w ra (l.drop 3)) ∧ (l.drop 3).length ≤ rc ∧ rc ≤ 9223372036854775807 ∧ ((cap = 3 ∧ ra = some ⟨b, o, none⟩ ∧ rc = 0) ∨ (¬ cap = 3 ∧ ra = some ⟨b, o + 3, none⟩ ∧ rc = cap - 3)) := by
    by_cases hc3 : cap = 3
    · have : l.drop 3 = [] := by apply List.eq_nil_of_length_eq_zero; omega
      exact ⟨_, 0, hid (by rw [this]; exact Octs.nil _ _), by omega, by omega, .inl ⟨hc3, rfl, rfl⟩⟩
    · exact ⟨_, cap - 3, hid O3, by omega, by omega, .inr ⟨hc3, rfl, rfl⟩⟩
  clear BZ BN hb0 O hc cell O3
  have hlr := hid l3
  obtain ⟨hw1, c3⟩ := hway
  have g3 : ((l.length : Int) == 13) = true := by simp; omega
  have g3' : (l.length == 13) = true := by simp; omega
  clear hw1
  replace start := hid start
  clear l3
  generalize hll : l.length = ll at *
  replace hll := hid hll
  have SS : Sole (fun j => j = w.heap.size + 1) W0 ((W0.setCell ⟨w.heap.size + 1, 0, none⟩ (.bool true)).setCell ⟨w.heap.size + 1, 2, none⟩ (.int .i64 (nx : Int))) := (Sole.setCell (S := fun j => j = w.heap.size + 1) W0 (b := w.heap.size + 1) (o := 0) (.bool true) rfl).trans (Sole.setCell (S := fun j => j = w.heap.size + 1) _ (b := w.heap.size + 1) (o := 2) (.int .i64 (nx : Int)) rfl)
  have N2 := hid (((HN.out.set 0 (.bool true) (by simp)).set 2 (.int .i64 (nx : Int)) (by simp)).drew.drew)
  have Z2 := hid ((HZ.out.sole SS (fun h => by have h' : w.heap.size = w.heap.size + 1 := h; omega)).drew.drew)
  have D2 := hid ((D0.out.trans (SS.below (B := w.heap.size) D0.out.size fun j hj => by have h' : j = w.heap.size + 1 := hj; omega)).drew.drew)
  have GZ := hid (Nat.le_trans HN.out.lt SS.size)
  clear SS
  obtain ⟨lz, kz, fz⟩ := HZ.out
  obtain ⟨ln, kn, fn⟩ := HN.out
  have c3k := hid c3
  have st : ∃ ra rc, Value.slice (some ⟨b, o + 3, none⟩) (ll - 3) (cap - 3) = Value.slice ra (l.drop 3).length rc ∧ (l.drop 3).length ≤ rc ∧ rc ≤ 9223372036854775807 ∧ Octs w ra (l.drop 3) := ⟨some ⟨b, o + 3, none⟩, cap - 3, by rw [hlr.out], by have := hlr.out; omega, by omega, HO3.out⟩
  replace st := hid st
  go_enter Try.func43, Try.ntmps43
  go_wp2_with fail
  go_region
  go_wp2_with fail
  go_region
  go_wp2_with fail
  clear lz kz fz ln kn fn HZ HN D0 g3 g3' start z0 z1 z2
  go_loopw [8, 7, 9, 10] (fun c s7 s9 s10 wx => ∃ (i : Nat) (L : List Pt) (v : Value) (rest : List UInt8) (ra : Option Addr) (rc : Nat), i ≤ m ∧ c = .int .i64 (i : Int) ∧ s7 = .slice ra rest.length rc ∧ rest.length ≤ rc ∧ rc ≤ 9223372036854775807 ∧ Octs w ra rest ∧ L.length = i ∧ rdK (l.drop 3) i = some (L, rest) ∧ Blk wx (w.heap.size + 1) (lfcells true v nx) ∧ PtsOwn wx (w.heap.size + 2) v L ∧ Blk wx w.heap.size (lfcells false (.slice none 0 0) 0) ∧ Below w.heap.size w wx ∧ w.heap.size + 2 ≤ wx.heap.size) (fun c _ _ _ _ => m - (intOf c).toNat)
  case atStart =>
    obtain ⟨ra, rc, e, q1, q2, q3⟩ := st.out
    exact ⟨0, [], .slice none 0 0, l.drop 3, ra, rc, by omega, rfl, e, q1, q2, q3, rfl, rfl, N2.out, PtsOwn.nil _ _, Z2.out, D2.out, by have := GZ.out; simpa using this⟩
  case round =>
    clear N2 Z2 D2 st GZ
    obtain ⟨i, L, v, rest, ra, rc, hik, rfl, rfl, r1, r2, OR, hL, hk, BN, OV, BZ, D, hsz⟩ := hrel
    obtain ⟨pv, cv, hv, cv1, cv2, RV⟩ := OV.open
    rw [hL] at hv cv1 RV
    subst hv
    by_cases hlt : i < m
    · have KG := hid (refGetPoint_any rest ra rc _ (OR.more D) r1 (by unfold maxLen; omega))
      have HBN := hid BN
      have HBZ := hid BZ
      have HOV := hid OV
      have HD := hid D
      have Hk := hid hk
      have hrlen : rest.length ≤ 9223372036854775807 := by omega
      clear BN BZ OV D hk RV
      go_wp2_with fail
      refine KG.out.mono ?_
      rintro e w7 ⟨P, n, rfl, hb7, hcase⟩
      have hbA : Below w7.heap.size w7 (w7.alloc (.cells #[.int .i64 P.id, .int .u32 P.x, .int .u32 P.y, .string P.d] 33)) := (Below.refl _ _).alloc (Nat.le_refl _) _
      have hb8 := below2 hb7 hbA hb7.size
      have BP := hid (Blk.new w7 #[.int .i64 P.id, .int .u32 P.x, .int .u32 P.y, .string P.d] 33)
      have N8 := hid (HBN.out.more hb8)
      have Z8 := hid (HBZ.out.more hb8)
      have O8 := hid (HOV.out.more hb8)
      have D8 := hid (below2 HD.out hb8 HD.out.size)
      have hs8 := hid (show w.heap.size + 2 ≤ w7.heap.size from Nat.le_trans hsz hb7.size)
      clear hb7 hbA hb8 HBN HBZ HOV HD KG
      rcases hcase with ⟨q1, q2, qP, qn⟩ | ⟨q1, rfl, rfl⟩
      · obtain ⟨N, hN⟩ : ∃ N, 13 + lenAt rest = N := ⟨_, rfl⟩
        have hk1 := rdK_step Hk.out q1 q2
        rw [← qP, hN] at hk1
        have hnN : n = (N : Int) := by omega
        subst hnN
        obtain ⟨rb, ro, rfl, rlt, rcell⟩ := OR.row (by intro h; rw [h] at q1; simp at q1)
        have hNl : N ≤ rest.length := by omega
        have hN0 : 0 < N := by omega
        have hdl := hid (show (rest.drop N).length = rest.length - N from List.length_drop)
        have hL1 := hid (show (L ++ [P]).length = i + 1 by rw [List.length_append, hL]; rfl)
        have OEd : (w7.alloc (.cells #[.int .i64 P.id, .int .u32 P.x, .int .u32 P.y, .string P.d] 33)).ownsRow (w.heap.size + 2) 33 4 (.slice pv i cv) i (flatP L) := by
          have h := O8.out
          unfold PtsOwn at h
          rw [hL] at h
          exact h
        have hs9 := hid (show w.heap.size + 2 ≤ (w7.alloc (.cells #[.int .i64 P.id, .int .u32 P.x, .int .u32 P.y, .string P.d] 33)).heap.size by rw [World.size_alloc]; have := hs8.out; omega)
        have ownge := fun j (hj : (Value.slice pv i cv).ownBlock = some j) => (OEd.lt j hj).1
        have hs8' := hs8.out
        have cv2' : cv ≤ 9223372036854775807 := by unfold maxLen at cv2; exact cv2
        obtain ⟨rl, hrl⟩ : ∃ rl, rest.length = rl := ⟨_, rfl⟩
        have hi255 : i < 256 := by omega
        have nI1 : (N : Int) ≤ (rl : Int) := by omega
        have nI2 : (N : Int) ≤ (rc : Int) := by omega
        have nI3 : ((N : Int) == 0) = false := by simp; omega
        have nI4 : (rl : Int) ≤ (rc : Int) := by omega
        have hor := hid OR
        have hrl2 := hid hrl
        rw [hrl] at hdl hNl r1 ⊢
        obtain ⟨lb, kb, fb⟩ := BP.out
        obtain ⟨ln, kn, fn⟩ := N8.out
        replace hk1 := hid hk1
        replace hL := hid hL
        clear q1 q2 qP qn hN hrl Hk rcell HO3 OR
        by_cases hNc : rc = N
        · subst hNc
          have hrlN : rl = rc := by omega
          subst hrlN
          have hOn : Hid (Octs w (some ⟨rb, ro, none⟩) (rest.drop rl)) := hid (by have e9 : rest.drop rl = [] := List.eq_nil_of_length_eq_zero (by rw [hdl.out]; omega); rw [e9]; exact Octs.nil _ _)
          go_wp2_with fail
          generalize hW8 : w7.alloc (.cells #[.int .i64 P.id, .int .u32 P.x, .int .u32 P.y, .string P.d] 33) = W8 at *
          replace hW8 := hid hW8
          generalize w7.heap.size = pb at *
          have lt8 := hs9.out
          go_region_law (refine step_append_lies _ (by rfl) _ _ _ (by rfl) (w.heap.size + 2) 33 i0 _ 4 32 Try.underlying51 hi hz0 hz1 hz2 rfl (by omega) (.slice pv i cv) i (flatP L) (by rfl) ((OEd.alloc _).drew) _ 1 1 (#[.int .i64 P.id, .int .u32 P.x, .int .u32 P.y, .string P.d] : Array Value).toList (by rfl) (by rfl) (news8dC _ _ _) (by simp [Value.oneCell']) (by omega) (by unfold maxLen; omega) (by omega) (by simp; omega) _ rfl ?_; intro g9 cap9 w9 hown9 hgrow9 hat9 hlt9; have S9 := Sole.grown (S := fun j => (Value.slice pv i cv).ownBlock = some j) hgrow9 (fun j hj => hj); have B9 := ((N8.out.alloc _).drew).sole S9 (fun hj => by have := ownge _ hj; omega); have HB9 := hid B9; obtain ⟨l9, k9, f9⟩ := B9)
          all_goals
            have S10 : Sole (fun j => j = w.heap.size + 1) w9 (w9.setCell ⟨w.heap.size + 1, 1, none⟩ (.slice (some ⟨g9, 0, none⟩) (i + 1) cap9)) := Sole.setCell _ _ rfl
            have hg9 := (hown9.lt g9 rfl).1
            have E1 := hid (show PtsOwn (w9.setCell ⟨w.heap.size + 1, 1, none⟩ (.slice (some ⟨g9, 0, none⟩) (i + 1) cap9)) (w.heap.size + 2) (.slice (some ⟨g9, 0, none⟩) (i + 1) cap9) (L ++ [P]) by
              unfold PtsOwn
              rw [hL1.out, flatP_append, flatP_one]
              exact own_sole hown9 S10 (fun j hj h => by have h' : j = w.heap.size + 1 := h; simp [Value.ownBlock] at hj; omega))
            have E3 := hid (HB9.out.set 1 (.slice (some ⟨g9, 0, none⟩) (i + 1) cap9) (by simp))
            have E4 := hid ((((Z8.out.alloc (.cells #[.int .i64 P.id, .int .u32 P.x, .int .u32 P.y, .string P.d] 33)).drew).sole S9 (fun h => by have := ownge _ h; omega)).sole S10 (fun h => by have h' : w.heap.size = w.heap.size + 1 := h; omega))
            have d1 := (D8.out.alloc (by have := D8.out.size; exact this) (.cells #[.int .i64 P.id, .int .u32 P.x, .int .u32 P.y, .string P.d] 33)).drew
            have d4 := d1.trans (S9.below (B := w.heap.size) d1.size fun j hj => by have := ownge j hj; omega)
            have E5 := hid (d4.trans (S10.below (B := w.heap.size) d4.size fun j hj => by have h' : j = w.heap.size + 1 := hj; omega))
            have E6 := hid (show w.heap.size + 2 ≤ (w9.setCell ⟨w.heap.size + 1, 1, none⟩ (.slice (some ⟨g9, 0, none⟩) (i + 1) cap9)).heap.size by
              have q3 := S9.size
              have q4 := S10.size
              have q5 := hs9.out
              simp only [World.size_drew, World.size_alloc] at q3 q4
              omega)
            clear d1 d4 S9 S10 hown9 hgrow9
            go_wp2_with fail
            go_roundw
            case rel => exact ⟨i + 1, _, _, rest.drop rl, some ⟨rb, ro, none⟩, 0, by omega, by go_num, by first | (rw [hdl.out]; done) | (rw [hdl.out]; simp), by rw [hdl.out]; omega, by omega, hOn.out, hL1.out, hk1.out, E3.out, E1.out, E4.out, E5.out, E6.out⟩
            case measure => simp [intOf]; omega
        · have hOn : Hid (Octs w (some ⟨rb, ro + N, none⟩) (rest.drop N)) := hid (hor.out.drop N)
          have hNc' : ¬ (rc : Int) = (N : Int) := by omega
          go_wp2_with fail
          generalize hW8 : w7.alloc (.cells #[.int .i64 P.id, .int .u32 P.x, .int .u32 P.y, .string P.d] 33) = W8 at *
          replace hW8 := hid hW8
          generalize w7.heap.size = pb at *
          have lt8 := hs9.out
          go_region_law (refine step_append_lies _ (by rfl) _ _ _ (by rfl) (w.heap.size + 2) 33 i0 _ 4 32 Try.underlying51 hi hz0 hz1 hz2 rfl (by omega) (.slice pv i cv) i (flatP L) (by rfl) ((OEd.alloc _).drew) _ 1 1 (#[.int .i64 P.id, .int .u32 P.x, .int .u32 P.y, .string P.d] : Array Value).toList (by rfl) (by rfl) (news8dC _ _ _) (by simp [Value.oneCell']) (by omega) (by unfold maxLen; omega) (by omega) (by simp; omega) _ rfl ?_; intro g9 cap9 w9 hown9 hgrow9 hat9 hlt9; have S9 := Sole.grown (S := fun j => (Value.slice pv i cv).ownBlock = some j) hgrow9 (fun j hj => hj); have B9 := ((N8.out.alloc _).drew).sole S9 (fun hj => by have := ownge _ hj; omega); have HB9 := hid B9; obtain ⟨l9, k9, f9⟩ := B9)
          all_goals
            have S10 : Sole (fun j => j = w.heap.size + 1) w9 (w9.setCell ⟨w.heap.size + 1, 1, none⟩ (.slice (some ⟨g9, 0, none⟩) (i + 1) cap9)) := Sole.setCell _ _ rfl
            have hg9 := (hown9.lt g9 rfl).1
            have E1 := hid (show PtsOwn (w9.setCell ⟨w.heap.size + 1, 1, none⟩ (.slice (some ⟨g9, 0, none⟩) (i + 1) cap9)) (w.heap.size + 2) (.slice (some ⟨g9, 0, none⟩) (i + 1) cap9) (L ++ [P]) by
              unfold PtsOwn
              rw [hL1.out, flatP_append, flatP_one]
              exact own_sole hown9 S10 (fun j hj h => by have h' : j = w.heap.size + 1 := h; simp [Value.ownBlock] at hj; omega))
            have E3 := hid (HB9.out.set 1 (.slice (some ⟨g9, 0, none⟩) (i + 1) cap9) (by simp))
            have E4 := hid ((((Z8.out.alloc (.cells #[.int .i64 P.id, .int .u32 P.x, .int .u32 P.y, .string P.d] 33)).drew).sole S9 (fun h => by have := ownge _ h; omega)).sole S10 (fun h => by have h' : w.heap.size = w.heap.size + 1 := h; omega))
            have d1 := (D8.out.alloc (by have := D8.out.size; exact this) (.cells #[.int .i64 P.id, .int .u32 P.x, .int .u32 P.y, .string P.d] 33)).drew
            have d4 := d1.trans (S9.below (B := w.heap.size) d1.size fun j hj => by have := ownge j hj; omega)
            have E5 := hid (d4.trans (S10.below (B := w.heap.size) d4.size fun j hj => by have h' : j = w.heap.size + 1 := hj; omega))
            have E6 := hid (show w.heap.size + 2 ≤ (w9.setCell ⟨w.heap.size + 1, 1, none⟩ (.slice (some ⟨g9, 0, none⟩) (i + 1) cap9)).heap.size by
              have q3 := S9.size
              have q4 := S10.size
              have q5 := hs9.out
              simp only [World.size_drew, World.size_alloc] at q3 q4
              omega)
            clear d1 d4 S9 S10 hown9 hgrow9
            go_wp2_with fail
            go_roundw
            case rel => exact ⟨i + 1, _, _, rest.drop N, some ⟨rb, ro + N, none⟩, rc - N, by omega, by go_num, by first | (rw [hdl.out]; done) | (rw [hdl.out]; simp), by rw [hdl.out]; omega, by omega, hOn.out, hL1.out, hk1.out, E3.out, E1.out, E4.out, E5.out, E6.out⟩
            case measure => simp [intOf]; omega
      · have hnone := hid (show leafR l = none from hbadr.out fun L' q3 _ => by
          rw [rdK_none (l.drop 3) (i := i + 1) (rdK_stop Hk.out q1) m (by omega)] at q3
          cases q3)
        have B2 := Blk.full (d := lfcells false (.slice none 0 0) 0) Z8.out rfl
        have hb2 := hid (below_fill (b := w.heap.size) (Nat.le_refl _) (lfcells false (.slice none 0 0) 0).toList 0 D8.out)
        obtain ⟨lz, kz, fz⟩ := Z8.out
        clear q1
        go_wp2_with fail
        show bodyPost _ _ _ _ _ (setAll _ w.heap.size 0 (lfcells false (.slice none 0 0) 0).toList)
        generalize setAll _ w.heap.size 0 (lfcells false (.slice none 0 0) 0).toList = w9 at *
        obtain ⟨l7, k7, f7⟩ := B2
        refine bodyPost_ret (v := .tuple #[lfval false (.slice none 0 0) 0, .bool false]) (by simp [results, Try.results43, go_sem, k7]) rfl ?_
        exact EB.out w9 hnone.out hb2.out
    · obtain rfl : i = m := by omega
      obtain ⟨b1', b2', b3'⟩ := rdK_back _ _ _ _ hk
      have hfo : ∀ j, j < i → (ptAt L j).ok := fun j hj => (b3' j hj).1
      have KN := refNode_any true pv i cv (ptAt L) hfo nx zf zf cv1 cv2 _ RV
      have nBe : nodeB true i (ptAt L) nx zf zf = leafB L.length (ptAt L) nx zf zf := by rw [hL]; rfl
      rw [nBe] at KN
      have hE : Hid (leafB L.length (ptAt L) nx zf zf = true → rest = [] → leafR l = some L) := hid (fun h hr => hfit.out L (by rw [hk, hr]) h)
      have hE2 : Hid (leafB L.length (ptAt L) nx zf zf = false ∨ rest ≠ [] → leafR l = none) := hid (fun h => hbadr.out fun L' q3 q4 => by
        rw [hk] at q3
        simp only [Option.some.injEq, Prod.mk.injEq] at q3
        obtain ⟨rfl, q3⟩ := q3
        rcases h with h | h
        · rw [h] at q4; cases q4
        · exact h q3)
      have HBN := hid BN
      have HBZ := hid BZ
      have HOV := hid OV
      have HD := hid D
      have hre : Hid (rest.length = 0 → rest = []) := hid List.eq_nil_of_length_eq_zero
      have hrn : Hid (rest.length ≠ 0 → rest ≠ []) := hid (fun h h' => h (by rw [h']; rfl))
      generalize leafB L.length (ptAt L) nx zf zf = BB at *
      generalize hrl : rest.length = rl at *
      have rI : (rl : Int) ≤ 9223372036854775807 := by omega
      replace hrl := hid hrl
      replace hk := hid hk
      replace hL := hid hL
      replace KN := hid KN
      clear BN BZ OV D RV b1' b2' b3' hfo nBe OR
      by_cases hz : 0 < (rl : Int)
      · have hz2 : 0 < rl := by omega
        have hnone := hid (hE2.out (.inr (hrn.out (by omega))))
        have B2 := Blk.full (d := lfcells false (.slice none 0 0) 0) HBZ.out rfl
        have hb2 := hid (below_fill (b := w.heap.size) (Nat.le_refl _) (lfcells false (.slice none 0 0) 0).toList 0 HD.out)
        obtain ⟨lz, kz, fz⟩ := HBZ.out
        clear KN
        go_wp2_with fail
        show bodyPost _ _ _ _ _ (setAll _ w.heap.size 0 (lfcells false (.slice none 0 0) 0).toList)
        generalize setAll _ w.heap.size 0 (lfcells false (.slice none 0 0) 0).toList = w9 at *
        obtain ⟨l7, k7, f7⟩ := B2
        refine bodyPost_ret (v := .tuple #[lfval false (.slice none 0 0) 0, .bool false]) (by simp [results, Try.results43, go_sem, k7]) rfl ?_
        exact EB.out w9 hnone.out hb2.out
      · have hz2 : rl = 0 := by omega
        subst hz2
        clear hz
        obtain ⟨ln, kn, fn⟩ := HBN.out
        go_wp2_with fail
        refine KN.out.mono ?_
        rintro e w6 ⟨rfl, hb6⟩
        have Z6 := hid (HBZ.out.more hb6)
        have N6 := hid (HBN.out.more hb6)
        have O6 := hid (HOV.out.more hb6)
        have D6 := hid (below2 HD.out hb6 HD.out.size)
        clear ln kn fn hb6 KN
        cases BB with
        | false =>
          have hnone := hid (hE2.out (.inl rfl))
          have B2 := Blk.full (d := lfcells false (.slice none 0 0) 0) Z6.out rfl
          have hb2 := hid (below_fill (b := w.heap.size) (Nat.le_refl _) (lfcells false (.slice none 0 0) 0).toList 0 D6.out)
          obtain ⟨lz, kz, fz⟩ := Z6.out
          go_wp2_with fail
          show bodyPost _ _ _ _ _ (setAll _ w.heap.size 0 (lfcells false (.slice none 0 0) 0).toList)
          generalize setAll _ w.heap.size 0 (lfcells false (.slice none 0 0) 0).toList = w9 at *
          obtain ⟨l7, k7, f7⟩ := B2
          refine bodyPost_ret (v := .tuple #[lfval false (.slice none 0 0) 0, .bool false]) (by simp [results, Try.results43, go_sem, k7]) rfl ?_
          exact EB.out w9 hnone.out hb2.out
        | true =>
          have hsome := hid (hE.out rfl (hre.out (by first | trivial | rfl)))
          have B2 := Blk.full (d := lfcells true (.slice pv i cv) nx) Z6.out rfl
          have hb2 := hid (below_fill (b := w.heap.size) (Nat.le_refl _) (lfcells true (.slice pv i cv) nx).toList 0 D6.out)
          have SG := sole_fill (b := w.heap.size) (lfcells true (.slice pv i cv) nx).toList 0 w6
          have O9 := hid (own_base (O6.out.sole SG (fun k hk h => by have h' : k = w.heap.size := h; have := (O6.out.lt k hk).1; omega)) (by omega : w.heap.size ≤ w.heap.size + 2))
          clear SG
          obtain ⟨lz, kz, fz⟩ := Z6.out
          obtain ⟨ln, kn, fn⟩ := N6.out
          go_wp2_with fail
          show bodyPost _ _ _ _ _ (setAll _ w.heap.size 0 (lfcells true (.slice pv i cv) nx).toList)
          generalize setAll _ w.heap.size 0 (lfcells true (.slice pv i cv) nx).toList = w9 at *
          obtain ⟨l7, k7, f7⟩ := B2
          refine bodyPost_ret (v := .tuple #[lfval true (.slice pv i cv) nx, .bool true]) (by simp [results, Try.results43, go_sem, k7]) rfl ?_
          exact EG.out w9 L _ hsome.out O9.out hb2.out
end Go.Proofs.Ytgnnikjpnmalmaa
