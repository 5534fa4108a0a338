/-
  Layer 15: whatever is put and taken, a pool is a row of at most so many numbers.
-/
import Derived.Test.YtahdhgaoofpefaaPoolAt
namespace Go.Proofs.Ytahdhgaoofpefaa
open Go.RowKit Go.Conc
set_option linter.unusedVariables false
set_option linter.unusedSimpArgs false

/-- A pool, and what it should hold. -/
structure Both (w : World) (B p c g o cap : Nat) (l : List Int) : Prop where
  pool : PoolS w p c l
  own : IntsAt w B g o cap l
  lp : B ≤ p
  lc : B ≤ c
  gp : g ≠ p
  gc : g ≠ c

/-- A call's kind, as the law reckons it. -/
theorem kind_ways (K : Int) (h1 : -9223372036854775808 ≤ K) (h2 : K ≤ 9223372036854775807) : ∃ a b r, K.tmod 4 = a ∧ wrap64 (a + 4) = b ∧ b.tmod 4 = r ∧ (r = 0 ∨ r = 1 ∨ r = 2 ∨ r = 3) := by
  have h3 : -4 < K.tmod 4 := Int.lt_tmod_of_pos K (by omega)
  have h4 : K.tmod 4 < 4 := Int.tmod_lt_of_pos K (by omega)
  have e2 : wrap64 (K.tmod 4 + 4) = K.tmod 4 + 4 := by unfold wrap64; omega
  have h5 : (K.tmod 4 + 4).tmod 4 = (K.tmod 4 + 4) % 4 := Int.tmod_eq_emod_of_nonneg (by omega)
  exact ⟨_, _, _, rfl, e2, h5, by omega⟩

set_option maxRecDepth 100000 in
set_option maxHeartbeats 16000000 in
theorem poolRuns (p : Option Addr) (cap n : Nat) (f : Nat → Int) (h1 : n ≤ cap) (h2 : cap ≤ maxLen) (po : Option Addr) (co no : Nat) (kd nm : Nat → Int) (hkd : ∀ i, i < no → -9223372036854775808 ≤ kd i ∧ kd i ≤ 9223372036854775807) (h3 : no ≤ co) (h4 : co ≤ maxLen) (w : World)
    (HA : RowP w p 1 n (fun i => [.int .i64 (f i)])) (HO : RowP w po 2 no (fun i => [.int .i64 (kd i), .int .i64 (nm i)])) :
    Calls Try.prog 3 #[.slice p n cap, .slice po no co] w fun e w' => e = .returned (.bool true) ∧ Below w.heap.size w w' := by
  obtain ⟨m, hm⟩ : ∃ m, min n 32 = m := ⟨_, rfl⟩
  have hmn : m ≤ n := by omega
  have hm32 : m ≤ 32 := by omega
  have hmi : min (n : Int) 32 = (m : Int) := by omega
  obtain ⟨M, hM⟩ : ∃ M, min no 60 = M := ⟨_, rfl⟩
  have hMn : M ≤ no := by omega
  have hM60 : M ≤ 60 := by omega
  have hMor : M = no ∨ M = 60 := by omega
  have hHA := hid HA
  have hHO := hid HO
  have h12 := hid (And.intro h1 h2)
  have h34 := hid (And.intro h3 h4)
  have hkdh := hid hkd
  have hMorh := hid hMor
  have hl63 : (cap : Int) ≤ 9223372036854775807 := by unfold maxLen at h2; omega
  have h1' : (n : Int) ≤ (cap : Int) := by omega
  have hmc : (m : Int) ≤ (cap : Int) := by omega
  have hmc' : m ≤ cap := by omega
  have hmh := hid hm
  clear HA HO h1 h2 h3 h4 hkd hMor hm hM
  go_enter Try.func3, Try.ntmps3
  go_wp2_with fail
  refine (alive15 _).mono ?_
  rintro e w1 ⟨rfl, hb1⟩
  have HA1 := hHA.out.more hb1
  have HO1 := hid (hHO.out.more hb1)
  have KN := hid (newN_any p cap n f h12.out.1 h12.out.2 w1 HA1)
  have hb1h := hid hb1
  have HA1h := hid HA1
  clear hHA hHO HA1 hb1
  go_wp2_with fail
  refine KN.out.mono ?_
  rintro e w2 ⟨p1, c1, rfl, hp1, hc1, P1, hb2⟩
  obtain ⟨L, hL⟩ : ∃ L, intsL f m = L := ⟨_, rfl⟩
  have hLt : (intsL f n).take 32 = L := by
    rw [← hL, ← hmh.out]
    unfold intsL
    rw [← List.map_take, List.take_range, Nat.min_comm]
  have hLm : L.length = m := by rw [← hL, intsL_length]
  rw [hLt] at P1
  have HA2 := ((HA1h.out.take hmn).ints).more hb2
  rw [hL] at HA2
  have hbe : Below w2.heap.size w2 (w2.alloc (.cells #[] 3)) := (Below.refl _ _).alloc (Nat.le_refl _) _
  have OE : IntsOwn (w2.alloc (.cells #[] 3)) w2.heap.size (.slice (some ⟨w2.heap.size, 0, none⟩) 0 0) [] := World.ownsRow_made w2 #[] 0 (Nat.le_refl _) (Nat.zero_le _) rfl
  obtain ⟨v9, w9, hA1, O9, G9, N9⟩ := append_ints2 w2.heap.size 22 _ _ [] OE p cap L (HA2.more hbe) (by rw [hLm]; simp; omega) hbe.size
  rw [List.nil_append] at O9
  rw [hLm] at hA1
  obtain ⟨g9, cap9, rfl, I9⟩ := O9.at0 (N9 (by simp))
  have hb9 : Below w2.heap.size w2 w9 := hbe.grown G9 hbe.size (fun k e => by simp [Value.ownBlock] at e; omega)
  have hp1s := P1.box.lt
  have hc1s := P1.chan.lt
  have hb9' := hid (hb2.trans (hb9.mono hb2.size))
  have hb9' := hid (hb2.trans (hb9.mono hb2.size))
  have BB := hid (Both.mk (P1.more hb9) ⟨(by have := I9.base; have := hb2.size; omega), I9.len, I9.most, I9.cells⟩ hp1 hc1 (by have := I9.base; omega) (by have := I9.base; omega) : Both w9 w1.heap.size p1 c1 g9 0 cap9 L)
  clear hL hLt hLm P1 HA2 hbe OE O9 G9 N9 I9 hb9 hb2 hp1s hc1s hp1 hc1 KN HA1h
  go_wp2_with (at_builtin; refine Lib.wpList_append_run _ rfl _ _ _ _ rfl _ _ rfl rfl _ _ hA1 ?_)
  clear hA1
  go_loopw [5, 6, 7] (fun s5 s6 s7 wr => ∃ (k p c g o cp : Nat) (l : List Int), k ≤ M ∧ s7 = .int .i64 (k : Int) ∧ s5 = .pointer (some ⟨p, 0, none⟩) ∧ s6 = .slice (some ⟨g, o, none⟩) l.length cp ∧ Both wr w1.heap.size p c g o cp l ∧ Below w1.heap.size w1 wr) (fun _ _ s7 _ => M - (intOf s7).toNat)
  case atStart => exact ⟨0, p1, c1, g9, 0, cap9, L, by omega, rfl, rfl, rfl, BB.out, hb9'.out⟩
  case round =>
    obtain ⟨k, p, c, g, o, cp, l, hk, rfl, rfl, rfl, BB0', HB0'⟩ := hrel
    have BB0 := hid BB0'
    have HB0 := hid HB0'
    clear BB0' HB0'
    by_cases hlt : k < M
    · obtain ⟨b, ob, rfl, R0⟩ := HO1.out.row (by omega)
      have R := R0.below HB0.out R0.lt
      have hbl := R0.lt
      have z0 := R.at0 (by omega : k < no) (v := .int .i64 (kd k)) rfl
      have z1 := R.at1 (by omega : k < no) (v := .int .i64 (nm k)) rfl
      have hkk := hkdh.out k (by omega)
      obtain ⟨a1, a2, r, e1, e2, e3, hr⟩ := kind_ways (kd k) hkk.1 hkk.2
      have hlt1 : (k : Int) < (no : Int) := by omega
      have hlt2 : (k : Int) < 60 := by omega
      have hl32 := BB0.out.pool.room
      have hlth := hid hlt
      clear R R0 hkk hlt
      generalize kd k = K at *
      generalize nm k = N at *
      rcases hr with rfl | rfl | rfl | rfl
      · by_cases hroom : l.length < 32
        · have hroomI : (l.length : Int) < 32 := by omega
          have KP := hid (put_any p c l N wr BB0.out.pool)
          rw [if_pos hroom, decide_eq_true hroom] at KP
          go_wp2_with fail
          refine KP.out.mono ?_
          rintro e w3 ⟨rfl, P3, S3⟩
          have I3 := hid (BB0.out.own.sole S3 (fun e => BB0.out.gc e))
          have H3 := hid (HB0.out.trans (S3.below HB0.out.size (fun k hk => by have := BB0.out.lc; omega)))

          have z1' := (S3.cell (cell_lt z1) (fun e => by have h9 := BB0.out.lc; simp only at e; omega)).trans z1
          have hbx : Below w3.heap.size w3 (w3.alloc (.cells #[.int .i64 N] 3)) := (Below.refl _ _).alloc (Nat.le_refl _) _
          obtain ⟨g', o', cp', w4, hA, I4, hg', G4⟩ := run_append_at 22 (I3.out.more hbx) N ⟨w3.heap.size, 0, none⟩ 1 (by simp) (by omega) (by have := H3.out.size; have := hbx.size; omega)
          have S4 : Sole (fun k => k = g) w3 w4 := (Sole.made hbx).trans (Sole.grown G4 (fun k e => by cases e; rfl))
          have P4 := P3.sole S4 (fun e => BB0.out.gp e.symm) (fun e => BB0.out.gc e.symm)
          have hp3 := P3.box.lt
          have hc3 := P3.chan.lt
          have hs3 := hbx.size
          have hg4 : g' ≠ p ∧ g' ≠ c := by
            rcases hg' with rfl | h
            · exact ⟨BB0.out.gp, BB0.out.gc⟩
            · simp only [World.size_alloc] at h; omega
          obtain ⟨l', hl'⟩ : ∃ l', l ++ [N] = l' := ⟨_, rfl⟩
          have hlen' : l.length + 1 = l'.length := by rw [← hl']; simp
          rw [hl'] at I4 P4
          have BBh := hid (Both.mk P4 I4 BB0.out.lp BB0.out.lc hg4.1 hg4.2)
          have HBl := hid (H3.out.trans (S4.below H3.out.size (fun k hk => by have := BB0.out.own.base; omega)))
          rw [hlen'] at hA
          clear KP P3 S3 I3 H3 S4 P4 hl' hlen' I4 G4 hbx hg' hg4
          go_wp2_with (at_builtin; refine Lib.wpList_append_run _ rfl _ _ _ _ rfl _ _ rfl rfl _ _ hA ?_)
          clear hA z1'
          have KL := hid (len_any p c l' w4 BBh.out.pool)
          have KA := hid (all_any p c l' w4 BBh.out.pool)
          go_wp2_with fail
          refine KL.out.mono ?_
          rintro e w20 ⟨rfl, rfl⟩
          go_wp2_with fail
          refine KA.out.mono ?_
          rintro e w21 ⟨v21, rfl, O21, P21, S21⟩
          have B21 := hid (Both.mk P21 (BBh.out.own.sole S21 (fun e => BBh.out.gc e)) BBh.out.lp BBh.out.lc BBh.out.gp BBh.out.gc)
          have H21 := hid (HBl.out.trans (S21.below HBl.out.size (fun k hk => by have := BBh.out.lc; omega)))
          have KI := hid (intsSame_any l' v21 _ w21 O21 (some ⟨g', o', none⟩) cp' BBh.out.own.len BBh.out.own.most B21.out.own.row)
          clear KL KA O21 P21 S21 BBh HBl
          go_wp2_with fail
          refine KI.out.mono ?_
          rintro e w22 ⟨rfl, hb22⟩
          have B22 := hid (Both.mk (B21.out.pool.more hb22) (B21.out.own.more hb22) B21.out.lp B21.out.lc B21.out.gp B21.out.gc)
          have H22 := hid (H21.out.trans (hb22.mono H21.out.size))
          clear KI hb22 B21 H21
          go_wp2_with fail
          go_roundw
          case rel => exact ⟨k + 1, p, c, g', o', cp', l', hlth.out, by go_num, rfl, rfl, B22.out, H22.out⟩
          case measure => have := hlth.out; simp [intOf]; omega
        · have hroomI : ¬ (l.length : Int) < 32 := by omega
          have hroomD : decide ((l.length : Int) < 32) = false := decide_eq_false hroomI
          have KP := hid (put_any p c l N wr BB0.out.pool)
          rw [if_neg hroom, decide_eq_false hroom] at KP
          go_wp2_with fail
          refine KP.out.mono ?_
          rintro e w3 ⟨rfl, P3, S3⟩
          have I3 := hid (BB0.out.own.sole S3 (fun e => BB0.out.gc e))
          have H3 := hid (HB0.out.trans (S3.below HB0.out.size (fun k hk => by have := BB0.out.lc; omega)))

          have BBh := hid (Both.mk P3 I3.out BB0.out.lp BB0.out.lc BB0.out.gp BB0.out.gc)
          have HBl := H3
          clear KP P3 S3 I3
          have KL := hid (len_any p c l w3 BBh.out.pool)
          have KA := hid (all_any p c l w3 BBh.out.pool)
          go_wp2_with fail
          refine KL.out.mono ?_
          rintro e w20 ⟨rfl, rfl⟩
          go_wp2_with fail
          refine KA.out.mono ?_
          rintro e w21 ⟨v21, rfl, O21, P21, S21⟩
          have B21 := hid (Both.mk P21 (BBh.out.own.sole S21 (fun e => BBh.out.gc e)) BBh.out.lp BBh.out.lc BBh.out.gp BBh.out.gc)
          have H21 := hid (HBl.out.trans (S21.below HBl.out.size (fun k hk => by have := BBh.out.lc; omega)))
          have KI := hid (intsSame_any l v21 _ w21 O21 (some ⟨g, o, none⟩) cp BBh.out.own.len BBh.out.own.most B21.out.own.row)
          clear KL KA O21 P21 S21 BBh HBl
          go_wp2_with fail
          refine KI.out.mono ?_
          rintro e w22 ⟨rfl, hb22⟩
          have B22 := hid (Both.mk (B21.out.pool.more hb22) (B21.out.own.more hb22) B21.out.lp B21.out.lc B21.out.gp B21.out.gc)
          have H22 := hid (H21.out.trans (hb22.mono H21.out.size))
          clear KI hb22 B21 H21
          go_wp2_with fail
          go_roundw
          case rel => exact ⟨k + 1, p, c, g, o, cp, l, hlth.out, by go_num, rfl, rfl, B22.out, H22.out⟩
          case measure => have := hlth.out; simp [intOf]; omega
      · cases l with
        | nil =>
          have KT := hid (take_any p c [] wr BB0.out.pool)
          simp only [List.headD, List.length_nil, Nat.lt_irrefl, decide_false, List.tail_nil] at KT
          go_wp2_with fail
          refine KT.out.mono ?_
          rintro e w3 ⟨rfl, P3, S3⟩
          have BBh := hid (Both.mk P3 (BB0.out.own.sole S3 (fun e => BB0.out.gc e)) BB0.out.lp BB0.out.lc BB0.out.gp BB0.out.gc)
          have HBl := hid (HB0.out.trans (S3.below HB0.out.size (fun k hk => by have := BB0.out.lc; omega)))
          clear KT P3 S3
          have KL := hid (len_any p c [] w3 BBh.out.pool)
          have KA := hid (all_any p c [] w3 BBh.out.pool)
          go_wp2_with fail
          refine KL.out.mono ?_
          rintro e w20 ⟨rfl, rfl⟩
          go_wp2_with fail
          refine KA.out.mono ?_
          rintro e w21 ⟨v21, rfl, O21, P21, S21⟩
          have B21 := hid (Both.mk P21 (BBh.out.own.sole S21 (fun e => BBh.out.gc e)) BBh.out.lp BBh.out.lc BBh.out.gp BBh.out.gc)
          have H21 := hid (HBl.out.trans (S21.below HBl.out.size (fun k hk => by have := BBh.out.lc; omega)))
          have KI := hid (intsSame_any [] v21 _ w21 O21 (some ⟨g, o, none⟩) cp BBh.out.own.len BBh.out.own.most B21.out.own.row)
          clear KL KA O21 P21 S21 BBh HBl
          go_wp2_with fail
          refine KI.out.mono ?_
          rintro e w22 ⟨rfl, hb22⟩
          have B22 := hid (Both.mk (B21.out.pool.more hb22) (B21.out.own.more hb22) B21.out.lp B21.out.lc B21.out.gp B21.out.gc)
          have H22 := hid (H21.out.trans (hb22.mono H21.out.size))
          clear KI hb22 B21 H21
          go_wp2_with fail
          go_roundw
          case rel => exact ⟨k + 1, p, c, g, o, cp, [], hlth.out, by go_num, rfl, rfl, B22.out, H22.out⟩
          case measure => have := hlth.out; simp [intOf]; omega
        | cons x l =>
          by_cases hcp : cp = 1
          · subst hcp
            obtain rfl : l = [] := by
              have := BB0.out.own.len
              simp only [List.length_cons] at this
              exact List.eq_nil_of_length_eq_zero (by omega)
            have KT := hid (take_any p c [x] wr BB0.out.pool)
            have hd : decide (0 < ([x] : List Int).length) = true := rfl
            rw [hd] at KT
            simp only [List.headD, List.tail_cons] at KT
            clear hd
            simp only [List.length_cons, List.length_nil, Nat.zero_add]
            go_wp2_with fail
            refine KT.out.mono ?_
            rintro e w3 ⟨rfl, P3, S3⟩
            have I3 := BB0.out.own.sole S3 (fun e => BB0.out.gc e)
            have y0 : w3.cell? ⟨g, o, none⟩ = some (.int .i64 x) := I3.cell (j := 0) (by simp)
            have I4 := I3.tail
            rw [if_pos rfl] at I4
            have BBh := hid (Both.mk P3 I4 BB0.out.lp BB0.out.lc BB0.out.gp BB0.out.gc)
            have HBl := hid (HB0.out.trans (S3.below HB0.out.size (fun k hk => by have := BB0.out.lc; omega)))
            clear KT P3 S3 I3 I4
            have KL := hid (len_any p c [] w3 BBh.out.pool)
            have KA := hid (all_any p c [] w3 BBh.out.pool)
            go_wp2_with fail
            refine KL.out.mono ?_
            rintro e w20 ⟨rfl, rfl⟩
            go_wp2_with fail
            refine KA.out.mono ?_
            rintro e w21 ⟨v21, rfl, O21, P21, S21⟩
            have B21 := hid (Both.mk P21 (BBh.out.own.sole S21 (fun e => BBh.out.gc e)) BBh.out.lp BBh.out.lc BBh.out.gp BBh.out.gc)
            have H21 := hid (HBl.out.trans (S21.below HBl.out.size (fun k hk => by have := BBh.out.lc; omega)))
            have KI := hid (intsSame_any [] v21 _ w21 O21 (some ⟨g, o, none⟩) (1 - 1) BBh.out.own.len BBh.out.own.most B21.out.own.row)
            clear KL KA O21 P21 S21 BBh HBl
            go_wp2_with fail
            refine KI.out.mono ?_
            rintro e w22 ⟨rfl, hb22⟩
            have B22 := hid (Both.mk (B21.out.pool.more hb22) (B21.out.own.more hb22) B21.out.lp B21.out.lc B21.out.gp B21.out.gc)
            have H22 := hid (H21.out.trans (hb22.mono H21.out.size))
            clear KI hb22 B21 H21
            go_wp2_with fail
            go_roundw
            case rel => exact ⟨k + 1, p, c, g, o, (1 - 1), [], hlth.out, by go_num, rfl, rfl, B22.out, H22.out⟩
            case measure => have := hlth.out; simp [intOf]; omega
          · have hcpI : ¬ (cp : Int) = 1 := by omega
            have KT := hid (take_any p c (x :: l) wr BB0.out.pool)
            have hpos : 0 < (x :: l).length := by simp
            rw [decide_eq_true hpos] at KT
            simp only [List.headD, List.tail_cons] at KT
            have hn0 : (0 : Int) < (l.length : Int) + 1 := by omega
            have hn1 : (1 : Int) ≤ (l.length : Int) + 1 := by omega
            have hn0' : 0 < l.length + 1 := by omega
            have hn1' : 1 ≤ l.length + 1 := by omega
            have hcl := BB0.out.own.len
            simp only [List.length_cons] at hcl
            have hcp1 : (1 : Int) ≤ (cp : Int) := by omega
            have hcp2 : 1 ≤ cp := by omega
            have hcp3 : (l.length : Int) + 1 ≤ (cp : Int) := by omega
            simp only [List.length_cons]
            go_wp2_with fail
            refine KT.out.mono ?_
            rintro e w3 ⟨rfl, P3, S3⟩
            have I3 := BB0.out.own.sole S3 (fun e => BB0.out.gc e)
            have y0 : w3.cell? ⟨g, o, none⟩ = some (.int .i64 x) := I3.cell (j := 0) (by simp)
            have I4 := I3.tail
            rw [if_neg hcp] at I4
            have BBh := hid (Both.mk P3 I4 BB0.out.lp BB0.out.lc BB0.out.gp BB0.out.gc)
            have HBl := hid (HB0.out.trans (S3.below HB0.out.size (fun k hk => by have := BB0.out.lc; omega)))
            clear KT P3 S3 I3 I4
            have KL := hid (len_any p c l w3 BBh.out.pool)
            have KA := hid (all_any p c l w3 BBh.out.pool)
            go_wp2_with fail
            refine KL.out.mono ?_
            rintro e w20 ⟨rfl, rfl⟩
            go_wp2_with fail
            refine KA.out.mono ?_
            rintro e w21 ⟨v21, rfl, O21, P21, S21⟩
            have B21 := hid (Both.mk P21 (BBh.out.own.sole S21 (fun e => BBh.out.gc e)) BBh.out.lp BBh.out.lc BBh.out.gp BBh.out.gc)
            have H21 := hid (HBl.out.trans (S21.below HBl.out.size (fun k hk => by have := BBh.out.lc; omega)))
            have KI := hid (intsSame_any l v21 _ w21 O21 (some ⟨g, (o + 1), none⟩) (cp - 1) BBh.out.own.len BBh.out.own.most B21.out.own.row)
            clear KL KA O21 P21 S21 BBh HBl
            go_wp2_with fail
            refine KI.out.mono ?_
            rintro e w22 ⟨rfl, hb22⟩
            have B22 := hid (Both.mk (B21.out.pool.more hb22) (B21.out.own.more hb22) B21.out.lp B21.out.lc B21.out.gp B21.out.gc)
            have H22 := hid (H21.out.trans (hb22.mono H21.out.size))
            clear KI hb22 B21 H21
            go_wp2_with fail
            go_roundw
            case rel => exact ⟨k + 1, p, c, g, (o + 1), (cp - 1), l, hlth.out, by go_num, rfl, rfl, B22.out, H22.out⟩
            case measure => have := hlth.out; simp [intOf]; omega
      · have hl0 := hl32
        have KA0 := hid (all_any p c l wr BB0.out.pool)
        go_wp2_with fail
        refine KA0.out.mono ?_
        rintro e w3 ⟨v3, rfl, O3, P3, S3⟩
        have I3 := BB0.out.own.sole S3 (fun e => BB0.out.gc e)
        have H3 := hid (HB0.out.trans (S3.below HB0.out.size (fun k hk => by have := BB0.out.lc; omega)))
        have KI0 := hid (intsSame_any l v3 _ w3 O3 (some ⟨g, o, none⟩) cp I3.len I3.most I3.row)
        have I3h := hid I3
        have P3h := hid P3
        clear KA0 O3 P3 S3 I3
        go_wp2_with fail
        refine KI0.out.mono ?_
        rintro e w4 ⟨rfl, hb4⟩
        have BBh := hid (Both.mk (P3h.out.more hb4) (I3h.out.more hb4) BB0.out.lp BB0.out.lc BB0.out.gp BB0.out.gc)
        have HBl := hid (H3.out.trans (hb4.mono H3.out.size))
        clear KI0 hb4 P3h I3h H3
        have KL := hid (len_any p c l w4 BBh.out.pool)
        have KA := hid (all_any p c l w4 BBh.out.pool)
        go_wp2_with fail
        refine KL.out.mono ?_
        rintro e w20 ⟨rfl, rfl⟩
        go_wp2_with fail
        refine KA.out.mono ?_
        rintro e w21 ⟨v21, rfl, O21, P21, S21⟩
        have B21 := hid (Both.mk P21 (BBh.out.own.sole S21 (fun e => BBh.out.gc e)) BBh.out.lp BBh.out.lc BBh.out.gp BBh.out.gc)
        have H21 := hid (HBl.out.trans (S21.below HBl.out.size (fun k hk => by have := BBh.out.lc; omega)))
        have KI := hid (intsSame_any l v21 _ w21 O21 (some ⟨g, o, none⟩) cp BBh.out.own.len BBh.out.own.most B21.out.own.row)
        clear KL KA O21 P21 S21 BBh HBl
        go_wp2_with fail
        refine KI.out.mono ?_
        rintro e w22 ⟨rfl, hb22⟩
        have B22 := hid (Both.mk (B21.out.pool.more hb22) (B21.out.own.more hb22) B21.out.lp B21.out.lc B21.out.gp B21.out.gc)
        have H22 := hid (H21.out.trans (hb22.mono H21.out.size))
        clear KI hb22 B21 H21
        go_wp2_with fail
        go_roundw
        case rel => exact ⟨k + 1, p, c, g, o, cp, l, hlth.out, by go_num, rfl, rfl, B22.out, H22.out⟩
        case measure => have := hlth.out; simp [intOf]; omega
      · have hl0 := hl32
        have KC := hid (clone_any p c l wr BB0.out.pool)
        go_wp2_with fail
        refine KC.out.mono ?_
        rintro e w3 ⟨p', c', rfl, hp', hc', P3', P3, S3⟩
        have KT := hid (take_any p c l w3 P3)
        have I3 := hid (BB0.out.own.sole S3 (fun e => BB0.out.gc e))
        have H3 := hid (HB0.out.trans (S3.below HB0.out.size (fun k hk => by have := BB0.out.lc; omega)))
        have P3h := hid P3'
        have hgs := BB0.out.own.lt
        have hcs := BB0.out.pool.chan.lt
        have hws := HB0.out.size
        clear KC P3' P3 S3
        go_wp2_with fail
        refine KT.out.mono ?_
        rintro e w4 ⟨rfl, P4, S4⟩
        have BBh := hid (Both.mk (P3h.out.sole S4 (fun e => by omega) (fun e => by omega)) (I3.out.sole S4 (fun e => BB0.out.gc e)) (by omega : w1.heap.size ≤ p') (by omega : w1.heap.size ≤ c') (by omega) (by omega))
        have HBl := hid (H3.out.trans (S4.below H3.out.size (fun k hk => by have := BB0.out.lc; omega)))
        clear KT P4 S4 P3h I3 H3
        have KL := hid (len_any p' c' l w4 BBh.out.pool)
        have KA := hid (all_any p' c' l w4 BBh.out.pool)
        go_wp2_with fail
        refine KL.out.mono ?_
        rintro e w20 ⟨rfl, rfl⟩
        go_wp2_with fail
        refine KA.out.mono ?_
        rintro e w21 ⟨v21, rfl, O21, P21, S21⟩
        have B21 := hid (Both.mk P21 (BBh.out.own.sole S21 (fun e => BBh.out.gc e)) BBh.out.lp BBh.out.lc BBh.out.gp BBh.out.gc)
        have H21 := hid (HBl.out.trans (S21.below HBl.out.size (fun k hk => by have := BBh.out.lc; omega)))
        have KI := hid (intsSame_any l v21 _ w21 O21 (some ⟨g, o, none⟩) cp BBh.out.own.len BBh.out.own.most B21.out.own.row)
        clear KL KA O21 P21 S21 BBh HBl
        go_wp2_with fail
        refine KI.out.mono ?_
        rintro e w22 ⟨rfl, hb22⟩
        have B22 := hid (Both.mk (B21.out.pool.more hb22) (B21.out.own.more hb22) B21.out.lp B21.out.lc B21.out.gp B21.out.gc)
        have H22 := hid (H21.out.trans (hb22.mono H21.out.size))
        clear KI hb22 B21 H21
        go_wp2_with fail
        go_roundw
        case rel => exact ⟨k + 1, p', c', g, o, cp, l, hlth.out, by go_num, rfl, rfl, B22.out, H22.out⟩
        case measure => have := hlth.out; simp [intOf]; omega
    · obtain rfl : k = M := by omega
      have hfin := hid (hb1h.out.trans (HB0.out.mono hb1h.out.size))
      rcases hMorh.out with rfl | rfl
      · go_wp2_with fail
        go_ret
        exact ⟨rfl, hfin.out⟩
      · rcases Nat.lt_or_ge 60 no with hn | hn
        · have hn' : (60 : Int) < (no : Int) := by omega
          go_wp2_with fail
          go_ret
          exact ⟨rfl, hfin.out⟩
        · obtain rfl : no = 60 := by omega
          go_wp2_with fail
          go_ret
          exact ⟨rfl, hfin.out⟩
end Go.Proofs.Ytahdhgaoofpefaa
