/-
  Layer 7: which points may be, any one's octets, and a point of any octets. The walk.
-/
import Derived.Test.YtgnnikjpnmalmaaRefGetPoint
import Derived.Test.YtgnnikjpnmalmaaLittleAlive
import Derived.Test.YtgnnikjpnmalmaaRegion
import Derived.Deep.DeepCutAuto
import Derived.Deep.RegionWith
import Derived.Deep.RegionHeld2
namespace Go.Proofs.Ytgnnikjpnmalmaa
open Go.RowKit
set_option linter.unusedVariables false
set_option linter.unusedSimpArgs false

set_option maxRecDepth 100000 in
theorem size_any (P : Pt) (hP : P.ok) (h : P.d.size ≤ 140737488351232) (w : World) : Calls Try.prog 27 #[pval P] w fun e w' => e = .returned (.int .i64 (13 + (P.d.size : Int))) ∧ Below w.heap.size w w' := by
  have sz : (P.d.size : Int) ≤ 140737488351232 := by omega
  clear h hP
  go_enter Try.func27, Try.ntmps27
  go_wp2
  go_ret
  exact ⟨by simp, (Below.refl _ _).alloc (Nat.le_refl _) _⟩
theorem pt0_ok : pt0.ok := ⟨by decide, by decide, by decide, by decide, by decide, by decide, Nat.zero_le _⟩
set_option maxRecDepth 100000 in
theorem alive07 (w : World) : Calls Try.prog 21 #[] w fun e w' => e = .returned (.bool true) ∧ Below w.heap.size w w' := by
  have K1 := fun w => size_any pt0 pt0_ok (Nat.zero_le _) w
  have K2 := fun w => check_any pt0 pt0_ok w
  rw [show checkC pt0 = 4 from rfl] at K2
  rw [show (13 + ((pt0.d.size : Nat) : Int)) = 13 from rfl] at K1
  replace K1 := hid K1
  replace K2 := hid K2
  go_enter Try.func21, Try.ntmps21
  go_wp2_with fail
  refine (K1.out _).mono ?_
  rintro e w1 ⟨rfl, hb1⟩
  replace hb1 := hid hb1
  go_wp2_with fail
  refine (K2.out _).mono ?_
  rintro e w2 ⟨rfl, hb2⟩
  have E := hid (below2 hb1.out hb2 hb1.out.size)
  clear hb2
  go_wp2
  go_ret
  exact ⟨rfl, E.out⟩
/-- Done, whatever there is. -/
theorem done_any (p : Nat) (a : Option Addr) (room : Int) (l : List UInt8) (er : Int) (w : World) (O : OutS w p a room l er) (hl : l.length ≤ 140737488355328) :
    Calls Try.prog 24 #[at' p] w fun e w' => ∃ v e2, e = .returned (.tuple #[v, .int .i64 e2]) ∧ Below w.heap.size w w' := by
  by_cases h : er = 0
  · subst h
    refine (done_ok p a room l w O hl).mono ?_
    rintro e w' ⟨v, he, F⟩
    obtain ⟨_, _, _, _, hb⟩ := F
    exact ⟨v, 0, he, hb⟩
  · refine (done_bad p a room l er w O (by simpa using h)).mono ?_
    rintro e w' ⟨he, hb⟩
    exact ⟨_, er, he, hb⟩
theorem size_may (P : Pt) (hP : P.ok) (h : P.may) (w : World) : Calls Try.prog 27 #[pval P] w fun e w' => e = .returned (.int .i64 (13 + (P.d.size : Int))) ∧ Below w.heap.size w w' :=
  size_any P hP (by have := h.2.2; omega) w
theorem check_ways (P : Pt) (hP : P.ok) : (∃ h : Hid (¬ P.may), checkC P = 4 ∧ P.id < 1) ∨ (∃ h : Hid (¬ P.may), checkC P = 4 ∧ decide (P.id < 1) = false ∧ 2147483648 ≤ P.id) ∨
      (∃ h : Hid (¬ P.may), checkC P = 5 ∧ decide (P.id < 1) = false ∧ P.id < 2147483648 ∧ 16 < (P.d.size : Int)) ∨
      (∃ h : Hid P.may, checkC P = 0 ∧ decide (P.id < 1) = false ∧ P.id < 2147483648 ∧ (P.d.size : Int) ≤ 16) := by
  unfold Pt.may checkC
  by_cases h1 : P.id < 1
  · exact .inl ⟨hid (by omega), by rw [if_pos (.inl h1)], h1⟩
  · by_cases h2 : 2147483648 ≤ P.id
    · exact .inr (.inl ⟨hid (by omega), by rw [if_pos (.inr (by omega))], decide_eq_false h1, h2⟩)
    · by_cases h3 : 16 < P.d.size
      · exact .inr (.inr (.inl ⟨hid (by omega), by rw [if_neg (by omega), if_pos h3], decide_eq_false h1, by omega, by omega⟩))
      · exact .inr (.inr (.inr ⟨hid (by omega), by rw [if_neg (by omega), if_neg h3], decide_eq_false h1, by omega, by omega⟩))

/-- Both readings agree. -/
theorem get_agree {l l' : List UInt8} {P1 P2 : Pt} {ok bad' : Bool} {n : Int} {w w' : World} (G : GetS l false P1 ok l' bad')
    (h : (13 + lenAt l ≤ l.length ∧ (pointOf l).may ∧ P2 = pointOf l ∧ n = 13 + (lenAt l : Int)) ∨ (¬ (13 + lenAt l ≤ l.length ∧ (pointOf l).may) ∧ P2 = pt0 ∧ n = 0)) :
    P2 = P1 ∧ ((ok = true ∧ 13 ≤ n ∧ n ≤ l.length ∧ (l'.length : Int) = l.length - n) ∨ (ok = false ∧ n = 0)) := by
  rcases G with ⟨_, hf, _, hl', hm⟩ | ⟨hb, rfl, rfl, _, _⟩
  · rcases hm with ⟨hm, rfl, rfl⟩ | ⟨hm, rfl, rfl⟩
    · rcases h with ⟨_, _, rfl, rfl⟩ | ⟨hn, _, _⟩
      · refine ⟨rfl, .inl ⟨rfl, by omega, by omega, ?_⟩⟩
        rw [hl', List.length_drop]; omega
      · exact absurd ⟨hf, hm⟩ hn
    · rcases h with ⟨_, hm', _, _⟩ | ⟨_, rfl, rfl⟩
      · exact absurd hm' hm
      · exact ⟨rfl, .inr ⟨rfl, rfl⟩⟩
  · have hs : ¬ 13 + lenAt l ≤ l.length := by
      rcases hb with hb | hb
      · cases hb
      · omega
    rcases h with ⟨hf, _⟩ | ⟨_, rfl, rfl⟩
    · exact absurd hf hs
    · exact ⟨rfl, .inr ⟨rfl, rfl⟩⟩

set_option maxRecDepth 100000 in
set_option maxHeartbeats 8000000 in
theorem pointTells (P : Pt) (hP : P.ok) (l : List UInt8) (a : Option Addr) (cap : Nat) (h1 : l.length ≤ cap) (h2 : cap ≤ maxLen) (hl : l.length ≤ 140737488355328) (w : World) (O : Octs w a l) :
    Calls Try.prog 4 #[pval P, .slice a l.length cap] w fun e w' => e = .returned (.bool true) ∧ Below w.heap.size w w' := by
  have KA := hid alive07
  have KN := hid (new_any 300)
  rw [show min (max (300 : Int) 0) 65536 = 300 from rfl] at KN
  have KC := fun w => check_any P hP w
  have ways := check_ways P hP
  have BX := Blk.new w #[.int .i64 P.id, .int .u32 P.x, .int .u32 P.y, .string P.d] 33
  have hb0 : Below w.heap.size w (w.alloc (.cells #[.int .i64 P.id, .int .u32 P.x, .int .u32 P.y, .string P.d] 33)) := (Below.refl _ _).alloc (Nat.le_refl _) _
  have O0 := hid (O.more hb0)
  have hcap := hid (And.intro h1 (And.intro h2 hl))
  have HP := hid hP
  replace hb0 := hid hb0
  replace BX := hid BX
  obtain ⟨i1, i2, x1, x2, y1, y2, d1⟩ := hP
  have sz : (P.d.size : Int) ≤ 9223372036854775807 := by unfold maxLen at d1; omega
  clear d1 h1 h2 hl O
  go_enter Try.func4, Try.ntmps4
  go_wp2_with fail
  refine (KA.out _).mono ?_
  rintro e w1 ⟨rfl, hb1⟩
  have B1 := BX.out.more hb1
  have O1 := hid (O0.out.more hb1)
  have H1 := hid (below2 hb0.out hb1 hb0.out.size)
  generalize hg : w.heap.size = g at *
  have HB1 := hid B1
  obtain ⟨lx, kx, fx⟩ := B1
  clear hb1 O0 BX hb0
  rcases ways with ⟨hm, hc, g1⟩ | ⟨hm, hc, g1, g2⟩ | ⟨hm, hc, g1, g2, g3⟩ | ⟨hm, hc, g1, g2, g3⟩
  iterate 3
   focus
    rw [hc] at KC
    replace KC := hid KC
    clear hc
    go_wp2_with fail
    refine (KN.out _).mono ?_
    rintro e w2 ⟨rfl, hw2⟩
    have O2 : OutS w2 w1.heap.size none 300 [] 0 := by rw [hw2]; exact OutS.new _ _ _
    have hb2 : Below w1.heap.size w1 w2 := by rw [hw2]; exact (Below.refl _ _).alloc (Nat.le_refl _) _
    obtain ⟨p, hp⟩ : ∃ p, w1.heap.size = p := ⟨_, rfl⟩
    have KP := hid (point_put P HP.out w1.heap.size none 300 [] 0 w2 O2 (by omega) (by omega) (by simp))
    have B2 := HB1.out.more hb2
    have HB2 := hid B2
    have hgp : ¬ Mine w1.heap.size none g := fun hk => by
      rcases hk with h | ⟨x, h, _⟩
      · omega
      · cases h
    clear lx kx fx hw2 HB1
    obtain ⟨lx, kx, fx⟩ := B2
    replace hgp := hid hgp
    rw [hp] at KP hgp
    have hp2 := O2.lt
    simp only [hp]
    replace O2 := hid O2
    replace hb2 := hid hb2
    go_wp2_with fail
    refine KP.out.mono ?_
    rintro e w3 ⟨rfl, K3⟩
    have B3 := K3.blk HB2.out hgp.out
    have HB3 := hid B3
    have hb13 : Below w1.heap.size w1 w3 := hb2.out.trans (K3.sole.below (by omega) fun k hk => by
      rcases hk with h | ⟨x, h, _⟩
      · omega
      · cases h)
    replace O1 := hid (O1.out.more hb13)
    replace H1 := hid (below2 H1.out hb13 (by have h := H1.out.size; omega))
    clear lx kx fx hb13 hp2 hb2
    obtain ⟨lx, kx, fx⟩ := B3
    obtain ⟨a3, l3, e3, O3, G3, hl3, _⟩ := K3
    have KD := hid (done_any p a3 300 l3 e3 w3 O3 (by omega))
    clear O3 G3 hl3 KP O2
    go_wp2_with fail
    refine KD.out.mono ?_
    rintro e w4 ⟨v, e2, rfl, hb4⟩
    have B4 := HB3.out.more hb4
    replace O1 := hid (O1.out.more hb4)
    replace H1 := hid (below2 H1.out hb4 (by have h := H1.out.size; omega))
    clear lx kx fx hb4
    have HB4 := hid B4
    clear B4
    go_wp2_with fail
    have q0 := fun u : Later w4 => u.blk HB4.out
    refine wp_region_late 26 (by kernel_rfl) (by kernel_rfl) ?_
    simp only [List.take_succ_cons, List.take_zero, List.drop_succ_cons, List.drop_zero]
    repeat (go_big_quiet_step ((go_at_call 25; (with_reducible exact late_call (KC.out _)))))
    refine wpQuiet_nil ?_
    intro w5 h5'
    have h5 := late_out h5'
    have O5 := hid (O1.out.more h5)
    have H5 := hid (below2 H1.out h5 (by have h := H1.out.size; omega))
    clear h5' q0 h5
    go_wp2_with fail
    refine (open_any l a cap w5 O5.out hcap.out.2.2).mono ?_
    rintro e w6 ⟨q, rfl, hq, I6, hb6⟩
    have KG := hid (point_get q l false w6 ⟨I6, fun h => by cases h⟩)
    have hq6 := I6.lt
    replace hb6 := hid hb6
    clear I6
    go_wp2_with fail
    refine KG.out.mono ?_
    rintro e w7 ⟨P1, ok, l', bad', rfl, GS, R7, S7⟩
    have hb57 : Below w5.heap.size w5 w7 := hb6.out.trans (S7.below (B := w5.heap.size) hb6.out.size fun k hk => by omega)
    have O7 := hid (O5.out.more hb57)
    have H7 := hid (below2 H5.out hb57 (by have h := H5.out.size; omega))
    have hq7 := R7.1.lt
    replace GS := hid GS
    replace R7 := hid R7
    clear S7 hb57 KG hb6 hq hq6
    go_wp2_with fail
    have hb78 : Below w7.heap.size w7 (w7.alloc (.cells #[.int .i64 P1.id, .int .u32 P1.x, .int .u32 P1.y, .string P1.d] 33)) := (Below.refl _ _).alloc (Nat.le_refl _) _
    have B8 := Blk.new w7 #[.int .i64 P1.id, .int .u32 P1.x, .int .u32 P1.y, .string P1.d] 33
    have O8 := O7.out.more hb78
    have R8 := R7.out.more hb78
    have H8 := hid (below2 H7.out hb78 (by have h := H7.out.size; omega))
    refine (refGetPoint_any l a cap _ O8 hcap.out.1 hcap.out.2.1).mono ?_
    rintro e w9 ⟨P2, n, rfl, hb9, hh⟩
    obtain ⟨rfl, fin⟩ := get_agree (w := w9) (w' := w9) GS.out hh
    have R9 := hid (R8.more hb9)
    have B9 := B8.more hb9
    have H9 := hid (below2 H8.out hb9 (by have h := H8.out.size; omega))
    have KL := hid (fun (w' : World) (hb : Below w9.heap.size w9 w') => left_any q l' _ w' (R9.out.more hb).1)
    have hc7 := hcap.out.2.2
    clear hb78 B8 O8 R8 hb9 hh GS
    generalize w7.heap.size = g7 at *
    have HB9 := hid B9
    obtain ⟨l9, k9, f9⟩ := B9
    rcases fin with ⟨rfl, n1, n2, hl'⟩ | ⟨rfl, rfl⟩
    · have n0 : 0 < n := by omega
      have un : IntKind.i64.wrap ((l.length : Int) - n) = (l.length : Int) - n := IntWalk.i64_in _ (by omega)
      replace hl' := hid hl'
      go_wp2_with fail
      refine (KL.out _ ((Below.refl _ _).alloc (Nat.le_refl _) _)).mono ?_
      rintro e w10 ⟨rfl, hw10⟩
      have H10 : Hid (Below g w w10) := hid (by rw [hw10]; exact H9.out.alloc (by have h := H9.out.size; omega) _)
      rw [hl'.out]
      clear hw10
      go_wp2
      go_ret
      exact ⟨by simp, by rw [hg]; exact H10.out⟩
    · go_wp2_with fail
      have H10 := hid (H9.out.alloc (by have h := H9.out.size; omega) (.cells #[.int .i64 P2.id, .int .u32 P2.x, .int .u32 P2.y, .string P2.d] 33))
      go_ret
      exact ⟨by simp, by rw [hg]; exact H10.out⟩
  · rw [hc] at KC
    replace KC := hid KC
    clear hc
    go_wp2_with fail
    refine (KN.out _).mono ?_
    rintro e w2 ⟨rfl, hw2⟩
    have O2 : OutS w2 w1.heap.size none 300 [] 0 := by rw [hw2]; exact OutS.new _ _ _
    have hb2 : Below w1.heap.size w1 w2 := by rw [hw2]; exact (Below.refl _ _).alloc (Nat.le_refl _) _
    obtain ⟨p, hp⟩ : ∃ p, w1.heap.size = p := ⟨_, rfl⟩
    have KP := hid (point_put P HP.out w1.heap.size none 300 [] 0 w2 O2 (by omega) (by omega) (by simp))
    have B2 := HB1.out.more hb2
    have HB2 := hid B2
    have hgp : ¬ Mine w1.heap.size none g := fun hk => by
      rcases hk with h | ⟨x, h, _⟩
      · omega
      · cases h
    clear lx kx fx hw2 HB1
    obtain ⟨lx, kx, fx⟩ := B2
    replace hgp := hid hgp
    rw [hp] at KP hgp
    have hp2 := O2.lt
    simp only [hp]
    replace O2 := hid O2
    replace hb2 := hid hb2
    go_wp2_with fail
    refine KP.out.mono ?_
    rintro e w3 ⟨rfl, K3⟩
    have B3 := K3.blk HB2.out hgp.out
    have HB3 := hid B3
    have hb13 : Below w1.heap.size w1 w3 := hb2.out.trans (K3.sole.below (by omega) fun k hk => by
      rcases hk with h | ⟨x, h, _⟩
      · omega
      · cases h)
    replace O1 := hid (O1.out.more hb13)
    replace H1 := hid (below2 H1.out hb13 (by have h := H1.out.size; omega))
    clear lx kx fx hb13 hp2 hb2
    obtain ⟨lx, kx, fx⟩ := B3
    obtain ⟨a3, l3, e3, O3, G3, hl3, hf3⟩ := K3
    obtain ⟨rfl, rfl⟩ := hf3 ⟨by first | exact rfl | trivial, hm.out, by have := pointB_length P; simp only [List.length_nil]; omega⟩
    rw [List.nil_append] at O3
    have KD := hid (done_ok p a3 300 (pointB P) w3 O3 (by rw [pointB_length]; omega))
    clear O3 G3 hl3 KP O2 hf3
    go_wp2_with fail
    refine KD.out.mono ?_
    rintro e w4 ⟨v, rfl, xa, xc, rfl, OX, hb4⟩
    have B4 := HB3.out.more hb4
    replace O1 := hid (O1.out.more hb4)
    replace H1 := hid (below2 H1.out hb4 (by have h := H1.out.size; omega))
    have XO := hid (Octs.of_own OX)
    clear lx kx fx hb4 OX
    have HB4 := hid B4
    obtain ⟨lx, kx, fx⟩ := B4
    have KS := hid (fun w => size_may P HP.out hm.out w)
    have KR := hid (fun w => refPoint_any P HP.out hm.out w)
    have kx4 := conv_octs XO.out xc
    have hpl := pointB_length P
    have hm16 : (P.d.size : Int) ≤ 16 := g3
    have hpl' : ((pointB P).length : Int) = 13 + (P.d.size : Int) := by omega
    clear hpl
    go_upto_region 11 with (fail)
    go_cut [65] (fun s wx => s = .bool false ∧ Below w4.heap.size w4 wx)
    case first =>
      have hk4 := hid (show w4.cell? ⟨g, 0, none⟩ = some (.int .i64 P.id) ∧ w4.cell? ⟨g, 1, none⟩ = some (.int .u32 P.x) ∧ w4.cell? ⟨g, 2, none⟩ = some (.int .u32 P.y) ∧ w4.cell? ⟨g, 3, none⟩ = some (.string P.d) from ⟨HB4.out.cell 0, HB4.out.cell 1, HB4.out.cell 2, HB4.out.cell 3⟩)
      go_region_held (fun w' => w'.cell? ⟨g, 0, none⟩ = some (.int .i64 P.id) ∧ w'.cell? ⟨g, 1, none⟩ = some (.int .u32 P.x) ∧ w'.cell? ⟨g, 2, none⟩ = some (.int .u32 P.y) ∧ w'.cell? ⟨g, 3, none⟩ = some (.string P.d)) (first | exact hk4.out | exact hk5.out | exact hk6.out | exact hk7.out)
        (first
        | ((with_reducible refine (KC.out _).mono ?_); rintro e w5 ⟨rfl, hb5⟩; have HB5 := hid (HB4.out.more (w' := w5) (by first | exact hb5 | exact undrew hb5)); have XO5 := hid (XO.out.more (w' := w5) (by first | exact hb5 | exact undrew hb5)); have kx5 := conv_octs XO5.out xc; have hk5 := hid (show w5.cell? ⟨g, 0, none⟩ = some (.int .i64 P.id) ∧ w5.cell? ⟨g, 1, none⟩ = some (.int .u32 P.x) ∧ w5.cell? ⟨g, 2, none⟩ = some (.int .u32 P.y) ∧ w5.cell? ⟨g, 3, none⟩ = some (.string P.d) from ⟨HB5.out.cell 0, HB5.out.cell 1, HB5.out.cell 2, HB5.out.cell 3⟩); replace hb5 := hid (show Below w4.heap.size w4 w5 by first | exact hb5 | exact undrew hb5))
        | ((with_reducible refine (KR.out _).mono ?_); rintro e w6 ⟨v2, rfl, ra, rc, rfl, RO, hb6⟩; have HB6 := hid (HB5.out.more hb6); have XO6 := hid (XO5.out.more hb6); have kx6 := conv_octs XO6.out xc; have kr6 := conv_octs (Octs.of_own RO) rc; have hk6 := hid (show w6.cell? ⟨g, 0, none⟩ = some (.int .i64 P.id) ∧ w6.cell? ⟨g, 1, none⟩ = some (.int .u32 P.x) ∧ w6.cell? ⟨g, 2, none⟩ = some (.int .u32 P.y) ∧ w6.cell? ⟨g, 3, none⟩ = some (.string P.d) from ⟨HB6.out.cell 0, HB6.out.cell 1, HB6.out.cell 2, HB6.out.cell 3⟩); replace hb6 := hid (below2 hb5.out hb6 hb5.out.size); replace RO := hid RO)
        | ((with_reducible refine (KS.out _).mono ?_); rintro e w7 ⟨rfl, hb7⟩; have HB7 := hid (HB6.out.more hb7); have hk7 := hid (show w7.cell? ⟨g, 0, none⟩ = some (.int .i64 P.id) ∧ w7.cell? ⟨g, 1, none⟩ = some (.int .u32 P.x) ∧ w7.cell? ⟨g, 2, none⟩ = some (.int .u32 P.y) ∧ w7.cell? ⟨g, 3, none⟩ = some (.string P.d) from ⟨HB7.out.cell 0, HB7.out.cell 1, HB7.out.cell 2, HB7.out.cell 3⟩); replace hb7 := hid (below2 hb6.out hb7 hb6.out.size)))
      all_goals
        go_wp2_with fail
        go_meet
        case rel => exact ⟨by simp, hb7.out⟩
    case rest =>
      obtain ⟨rfl, h5⟩ := hcut
      have O5 := hid (O1.out.more h5)
      have H5 := hid (below2 H1.out h5 (by have h := H1.out.size; omega))
      clear h5 lx kx fx
      go_wp2_with fail
      refine (open_any l a cap wc O5.out hcap.out.2.2).mono ?_
      rintro e w6 ⟨q, rfl, hq, I6, hb6⟩
      have KG := hid (point_get q l false w6 ⟨I6, fun h => by cases h⟩)
      have hq6 := I6.lt
      replace hb6 := hid hb6
      clear I6
      go_wp2_with fail
      refine KG.out.mono ?_
      rintro e w7 ⟨P1, ok, l', bad', rfl, GS, R7, S7⟩
      have hb57 : Below wc.heap.size wc w7 := hb6.out.trans (S7.below (B := wc.heap.size) hb6.out.size fun k hk => by omega)
      have O7 := hid (O5.out.more hb57)
      have H7 := hid (below2 H5.out hb57 (by have h := H5.out.size; omega))
      have hq7 := R7.1.lt
      replace GS := hid GS
      replace R7 := hid R7
      clear S7 hb57 KG hb6 hq hq6
      go_wp2_with fail
      have hb78 : Below w7.heap.size w7 (w7.alloc (.cells #[.int .i64 P1.id, .int .u32 P1.x, .int .u32 P1.y, .string P1.d] 33)) := (Below.refl _ _).alloc (Nat.le_refl _) _
      have B8 := Blk.new w7 #[.int .i64 P1.id, .int .u32 P1.x, .int .u32 P1.y, .string P1.d] 33
      have O8 := O7.out.more hb78
      have R8 := R7.out.more hb78
      have H8 := hid (below2 H7.out hb78 (by have h := H7.out.size; omega))
      refine (refGetPoint_any l a cap _ O8 hcap.out.1 hcap.out.2.1).mono ?_
      rintro e w9 ⟨P2, n, rfl, hb9, hh⟩
      obtain ⟨rfl, fin⟩ := get_agree (w := w9) (w' := w9) GS.out hh
      have R9 := hid (R8.more hb9)
      have B9 := B8.more hb9
      have H9 := hid (below2 H8.out hb9 (by have h := H8.out.size; omega))
      have KL := hid (fun (w' : World) (hb : Below w9.heap.size w9 w') => left_any q l' _ w' (R9.out.more hb).1)
      have hc7 := hcap.out.2.2
      clear hb78 B8 O8 R8 hb9 hh GS
      generalize w7.heap.size = g7 at *
      have HB9 := hid B9
      obtain ⟨l9, k9, f9⟩ := B9
      rcases fin with ⟨rfl, n1, n2, hl'⟩ | ⟨rfl, rfl⟩
      · have n0 : 0 < n := by omega
        have un : IntKind.i64.wrap ((l.length : Int) - n) = (l.length : Int) - n := IntWalk.i64_in _ (by omega)
        replace hl' := hid hl'
        go_wp2_with fail
        refine (KL.out _ ((Below.refl _ _).alloc (Nat.le_refl _) _)).mono ?_
        rintro e w10 ⟨rfl, hw10⟩
        have H10 : Hid (Below g w w10) := hid (by rw [hw10]; exact H9.out.alloc (by have h := H9.out.size; omega) _)
        rw [hl'.out]
        clear hw10
        go_wp2
        go_ret
        exact ⟨by simp, by rw [hg]; exact H10.out⟩
      · go_wp2_with fail
        have H10 := hid (H9.out.alloc (by have h := H9.out.size; omega) (.cells #[.int .i64 P2.id, .int .u32 P2.x, .int .u32 P2.y, .string P2.d] 33))
        go_ret
        exact ⟨by simp, by rw [hg]; exact H10.out⟩
end Go.Proofs.Ytgnnikjpnmalmaa
