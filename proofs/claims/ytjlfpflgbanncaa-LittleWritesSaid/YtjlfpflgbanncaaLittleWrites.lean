/-
  Layer 1: any fields are written as the page says, or the first that can't be. The walk.
-/
import Derived.Test.YtjlfpflgbanncaaLittleStep
namespace Go.Proofs.Ytjlfpflgbanncaa
open Go.RowKit
set_option linter.unusedVariables false
set_option linter.unusedSimpArgs false

theorem wpList_make_eq {P : Program} (w : World) {ops : Array Oper} {rest : List Oper} {o : Oper} {a : Act} {Q : Exit → Act → World → Prop} (hgd : o.guard = none) (l c : Operand) (t : TypeId)
    (ho : o.op = .makeSlice t l c) (vl vc : Value) (hl : a.eval l = vl) (hc : a.eval c = vc)
    (v' : Value) (w' : World) (hr : (Instr.makeSlice t vl vc).run P w = .ok v' w') (h : wpList P ops Q rest (a.put o.dst v') w') : wpList P ops Q (o :: rest) a w := by
  refine wpList_plain hgd fun K hK => ?_
  unfold Oper.wp
  simp [execOp, ho, hl, hc, hr, Result.andThen]
  exact hK _ _ h

set_option maxRecDepth 100000 in
set_option maxHeartbeats 8000000 in
theorem littleWrites (room : Int) (pf : Option Addr) (n nc : Nat) (F : Nat → Fd) (hF : ∀ i, i < n → (F i).ok) (h1 : n ≤ nc) (h2 : nc ≤ maxLen) (w : World) (HR : RowP w pf 4 n (fun i => fcells (F i))) :
    Calls Try.prog 3 #[.int .i64 room, .slice pf n nc] w fun e w' => e = .returned (.bool true) ∧ Below w.heap.size w w' := by
  have KA := hid alive01
  obtain ⟨rm, hrm, rm0, rm1⟩ : ∃ rm, min (max room 0) 65536 = rm ∧ 0 ≤ rm ∧ rm ≤ 65536 := ⟨_, rfl, by omega, by omega⟩
  have KN := hid (new_any room)
  rw [hrm] at KN
  unfold maxLen at h2
  replace hF := hid hF
  replace HR := hid HR
  go_enter Try.func3, Try.ntmps3
  go_wp2_with fail
  refine (KA.out _).mono ?_
  rintro e w1 ⟨rfl, hb1⟩
  replace HR := hid (HR.out.more hb1)
  replace hb1 := hid hb1
  clear KA
  go_wp2_with fail
  refine (KN.out _).mono ?_
  rintro e w2 ⟨rfl, hw2⟩
  have O2 : Hid (OutS w2 w1.heap.size none rm [] 0) := hid (by rw [hw2]; exact OutS.new _ _ _)
  have hb2 : Hid (Below w1.heap.size w1 w2) := hid (by rw [hw2]; exact (Below.refl w1.heap.size w1).alloc (Nat.le_refl _) _)
  obtain ⟨p, hp⟩ : ∃ p, w1.heap.size = p := ⟨_, rfl⟩
  rw [hp] at O2 hb2
  simp only [hp]
  replace hp := hid hp
  clear hw2 KN
  go_wp2_with fail
  go_loopw [6, 7, 8] (fun av wt i wx => ∃ (k : Nat) (l : List UInt8) (e : Int) (a : Option Addr) (ga : Option Addr) (gc : Nat), k ≤ n ∧ k ≤ 30 ∧ i = .int .i64 (k : Int) ∧ wt = .int .i64 e ∧ av = .slice ga l.length gc ∧ (l.length : Int) ≤ rm ∧ AllS wx p p a (.slice ga l.length gc) l ∧ OutS wx p a rm l e ∧ Below p w1 wx) (fun _ _ i _ => 30 - (intOf i).toNat)
  case atStart => exact ⟨0, [], 0, none, none, 0, by omega, by omega, rfl, rfl, rfl, rm0, ⟨World.ownsRow_nil _ _ _ _, fun k hk => by cases hk⟩, O2.out, hb2.out⟩
  case round =>
    clear O2 hb2
    obtain ⟨k, l, er, a, ga, gc, hk, hk30, rfl, rfl, rfl, hl, A, O, hb⟩ := hrel
    by_cases hlt : k < n
    · by_cases hlt30 : k < 30
      · obtain ⟨b, o, rfl, RW⟩ := HR.out.row (by omega)
        have hszp := hp.out
        have RW := RW.below hb (by have := RW.lt; omega)
        have z0 := RW.at0 hlt (v := .int .i64 (F k).k) rfl
        have z1 := RW.at1 hlt (v := .int .i64 (F k).n) rfl
        have z2 := RW.at2 hlt (v := .int .i64 (F k).z) rfl
        have z3 := RW.at3 hlt (v := .string (F k).s) rfl
        have KK := hid (kind_any (F k))
        have kb := kind_bd (F k).k
        have ok := hid (hF.out k hlt)
        obtain ⟨m, hm, hm1, hm6⟩ : ∃ m : Nat, min (max (F k).z 1) 6 = m ∧ 1 ≤ m ∧ m ≤ 6 := ⟨(min (max (F k).z 1) 6).toNat, by omega, by omega, by omega⟩
        clear RW hszp
        have hO := hid O
        have hA := hid A
        replace hb := hid hb
        clear O A
        -- @@
        go_wp2_with fail
        refine (KK.out _).mono ?_
        rintro e w3 ⟨rfl, hb3⟩
        obtain ⟨BX, hbX⟩ := boxed1 hb3
        have O3 := hid (hO.out.more hbX)
        have A3 := hid (hA.out.more hbX)
        have hb3' := hid (below2 hb.out hbX (Nat.le_trans (Nat.le_of_lt hO.out.lt) (Nat.le_refl _)))
        have hpg : p < wr.heap.size := hO.out.lt
        have hmg : Hid (∀ j, Mine p a j → j ≠ wr.heap.size) := hid (fun j hj => by have := (hO.out.mine hj).2; omega)
        have hag : Hid (∀ j, Value.ownBlock (.slice ga l.length gc) = some j → j ≠ wr.heap.size) := hid (fun j hj => by have := (hA.out.own.lt j hj).2; omega)
        clear hb hbX hb3 z0 z1 z2 z3 hO hA
        generalize wr.heap.size = g at *
        have HBX := hid BX
        obtain ⟨lx, kx, fx⟩ := BX
        generalize hkz : kindI (F k).k = kz at *
        replace hkz := hid hkz
        have three : kz = 0 ∨ kz = 1 ∨ kz = 2 := by omega
        rcases three with rfl | rfl | rfl
        · have KW := hid (fun l' e' S => ow_num (F k).n (F k).z m hm p a rm l l' er e' w3 O3.out rm0 rm1 hl S)
          have KR := hid (fun w => refNum_any (F k).n m ok.out.2.2.1 ok.out.2.2.2.1 (by omega) w)
          obtain ⟨q, hq, hq1, hq2, hq3⟩ := bound_of m hm6
          have hN := ok.out.2.2.1
          have hN' := ok.out.2.2.2.1
          rw [← hq] at KW
          replace hq := hid hq
          have ways : (∃ h : Hid ((er == 0) = false), (er == 0) = false) ∨ (er = 0 ∧ (F k).n < 0) ∨ (er = 0 ∧ decide ((F k).n < 0) = false ∧ 0 ≤ (F k).n ∧ q ≤ (F k).n) ∨
              (er = 0 ∧ decide ((F k).n < 0) = false ∧ 0 ≤ (F k).n ∧ decide (q ≤ (F k).n) = false ∧ decide (rm - (l.length : Int) < (m : Int)) = false) ∨
              (er = 0 ∧ decide ((F k).n < 0) = false ∧ 0 ≤ (F k).n ∧ decide (q ≤ (F k).n) = false ∧ rm - (l.length : Int) < (m : Int)) := by
            by_cases h : er = 0
            · by_cases h1 : (F k).n < 0
              · exact .inr (.inl ⟨h, h1⟩)
              · by_cases h2 : q ≤ (F k).n
                · exact .inr (.inr (.inl ⟨h, decide_eq_false h1, by omega, h2⟩))
                · by_cases h3 : rm - (l.length : Int) < (m : Int)
                  · exact .inr (.inr (.inr (.inr ⟨h, decide_eq_false h1, by omega, decide_eq_false h2, h3⟩)))
                  · exact .inr (.inr (.inr (.inl ⟨h, decide_eq_false h1, by omega, decide_eq_false h2, decide_eq_false h3⟩)))
            · have : (er == 0) = false := by simpa using h
              exact .inl ⟨hid this, this⟩
          rcases ways with ⟨g1, g1'⟩ | ⟨rfl, g1⟩ | ⟨rfl, g1, g2, g3⟩ | ⟨rfl, g1, g2, g3, g4⟩ | ⟨rfl, g1, g2, g3, g4⟩
          · replace KW := hid (KW.out l er (.inl ⟨g1.out, rfl, rfl⟩))
            go_wp2_with fail
            refine KW.out.mono ?_
            rintro e w4 ⟨rfl, a', O4, G4⟩
            have A4 := hid (A3.out.out G4)
            have BX4 := HBX.out.sole G4.sole fun hx => hmg.out _ hx rfl
            have hb4 := hid (hb3'.out.trans (O3.out.below G4))
            have HBX4 := hid BX4
            clear lx kx fx
            obtain ⟨lx, kx, fx⟩ := BX4
            replace O4 := hid O4
            clear G4
            go_wp2_with fail
            refine (KR.out _).mono ?_
            rintro e w5 ⟨ba, bc, bl, rfl, hbl, hle, OB, hbB⟩
            have O5 := hid (O4.out.more hbB)
            have A5 := hid (A4.out.more hbB)
            have hb5 := hid (below2 hb4.out hbB (Nat.le_trans (Nat.le_of_lt hpg) (Nat.le_of_lt lx)))
            replace hbl := hid hbl
            replace hle := hid hle
            replace OB := hid OB
            clear hbB O4 A4 hb4
            go_wp2_with fail
            go_roundw
            case rel => exact ⟨k + 1, l, er, a', ga, gc, by omega, by omega, by go_num, rfl, rfl, hl, A5.out, O5.out, hb5.out⟩
            case measure => simp [intOf]; omega
          · replace KW := hid (KW.out l 4 (.inr (.inl ⟨rfl, .inl g1, rfl, rfl⟩)))
            go_wp2_with fail
            refine KW.out.mono ?_
            rintro e w4 ⟨rfl, a', O4, G4⟩
            have A4 := hid (A3.out.out G4)
            have BX4 := HBX.out.sole G4.sole fun hx => hmg.out _ hx rfl
            have hb4 := hid (hb3'.out.trans (O3.out.below G4))
            have HBX4 := hid BX4
            clear lx kx fx
            obtain ⟨lx, kx, fx⟩ := BX4
            replace O4 := hid O4
            clear G4
            go_wp2_with fail
            refine (KR.out _).mono ?_
            rintro e w5 ⟨ba, bc, bl, rfl, hbl, hle, OB, hbB⟩
            have O5 := hid (O4.out.more hbB)
            have A5 := hid (A4.out.more hbB)
            have hb5 := hid (below2 hb4.out hbB (Nat.le_trans (Nat.le_of_lt hpg) (Nat.le_of_lt lx)))
            replace hbl := hid hbl
            replace hle := hid hle
            replace OB := hid OB
            clear hbB O4 A4 hb4
            go_wp2_with fail
            go_roundw
            case rel => exact ⟨k + 1, l, 4, a', ga, gc, by omega, by omega, by go_num, rfl, rfl, hl, A5.out, O5.out, hb5.out⟩
            case measure => simp [intOf]; omega
          · replace KW := hid (KW.out l 4 (.inr (.inl ⟨rfl, .inr g3, rfl, rfl⟩)))
            go_wp2_with fail
            refine KW.out.mono ?_
            rintro e w4 ⟨rfl, a', O4, G4⟩
            have A4 := hid (A3.out.out G4)
            have BX4 := HBX.out.sole G4.sole fun hx => hmg.out _ hx rfl
            have hb4 := hid (hb3'.out.trans (O3.out.below G4))
            have HBX4 := hid BX4
            clear lx kx fx
            obtain ⟨lx, kx, fx⟩ := BX4
            replace O4 := hid O4
            clear G4
            go_wp2_with fail
            refine (KR.out _).mono ?_
            rintro e w5 ⟨ba, bc, bl, rfl, hbl, hle, OB, hbB⟩
            have O5 := hid (O4.out.more hbB)
            have A5 := hid (A4.out.more hbB)
            have hb5 := hid (below2 hb4.out hbB (Nat.le_trans (Nat.le_of_lt hpg) (Nat.le_of_lt lx)))
            replace hbl := hid hbl
            replace hle := hid hle
            replace OB := hid OB
            clear hbB O4 A4 hb4
            go_wp2_with fail
            go_roundw
            case rel => exact ⟨k + 1, l, 4, a', ga, gc, by omega, by omega, by go_num, rfl, rfl, hl, A5.out, O5.out, hb5.out⟩
            case measure => simp [intOf]; omega
          · replace KW := hid (KW.out (l ++ leB (F k).n.toNat m) 0 (.inr (.inr (.inl ⟨rfl, fun h => h.elim (of_decide_eq_false g1) (of_decide_eq_false g3), fits_of g4, rfl, rfl⟩))))
            go_wp2_with fail
            refine KW.out.mono ?_
            rintro e w4 ⟨rfl, a', O4, G4⟩
            have A4 := hid (A3.out.out G4)
            have BX4 := HBX.out.sole G4.sole fun hx => hmg.out _ hx rfl
            have hb4 := hid (hb3'.out.trans (O3.out.below G4))
            have HBX4 := hid BX4
            clear lx kx fx
            obtain ⟨lx, kx, fx⟩ := BX4
            replace O4 := hid O4
            clear G4
            go_wp2_with fail
            refine (KR.out _).mono ?_
            rintro e w5 ⟨ba, bc, bl, rfl, hbl, hle, OB, hbB⟩
            have O5 := hid (O4.out.more hbB)
            have A5 := hid (A4.out.more hbB)
            have hb5 := hid (below2 hb4.out hbB (Nat.le_trans (Nat.le_of_lt hpg) (Nat.le_of_lt lx)))
            replace hbl := hid hbl
            replace hle := hid hle
            replace OB := hid OB
            clear hbB O4 A4 hb4
            have ap := A5.out.append O5.out (by have := O5.out.lt; omega) ba bc bl OB.out (by rw [hbl.out]; omega)
            rw [hbl.out] at ap
            obtain ⟨v', w6, hr, A6, O6, hb6⟩ := ap
            obtain ⟨ga', gc', hv⟩ := A6.form
            rw [hle.out g2] at A6 hv
            subst hv
            have hl6 : Hid ((((l ++ leB (F k).n.toNat m).length : Nat) : Int) ≤ rm) := hid (fit_len g4 (leB_length _ _))
            replace A6 := hid A6
            replace O6 := hid O6
            replace hb6 := hid (hb5.out.trans hb6)
            go_wp2_with (at_builtin; refine Lib.wpList_append_run _ rfl _ _ _ _ rfl _ _ rfl rfl _ _ hr ?_)
            go_roundw
            case rel => exact ⟨k + 1, l ++ leB (F k).n.toNat m, 0, a', ga', gc', by omega, by omega, by go_num, rfl, by rw [List.length_append], hl6.out, A6.out, O6.out, hb6.out⟩
            case measure => simp [intOf]; omega
          · replace KW := hid (KW.out l 10 (.inr (.inr (.inr ⟨rfl, fun h => h.elim (of_decide_eq_false g1) (of_decide_eq_false g3), full_of g4, rfl, rfl⟩))))
            go_wp2_with fail
            refine KW.out.mono ?_
            rintro e w4 ⟨rfl, a', O4, G4⟩
            have A4 := hid (A3.out.out G4)
            have BX4 := HBX.out.sole G4.sole fun hx => hmg.out _ hx rfl
            have hb4 := hid (hb3'.out.trans (O3.out.below G4))
            have HBX4 := hid BX4
            clear lx kx fx
            obtain ⟨lx, kx, fx⟩ := BX4
            replace O4 := hid O4
            clear G4
            go_wp2_with fail
            refine (KR.out _).mono ?_
            rintro e w5 ⟨ba, bc, bl, rfl, hbl, hle, OB, hbB⟩
            have O5 := hid (O4.out.more hbB)
            have A5 := hid (A4.out.more hbB)
            have hb5 := hid (below2 hb4.out hbB (Nat.le_trans (Nat.le_of_lt hpg) (Nat.le_of_lt lx)))
            replace hbl := hid hbl
            replace hle := hid hle
            replace OB := hid OB
            clear hbB O4 A4 hb4
            go_wp2_with fail
            go_roundw
            case rel => exact ⟨k + 1, l, 10, a', ga, gc, by omega, by omega, by go_num, rfl, rfl, hl, A5.out, O5.out, hb5.out⟩
            case measure => simp [intOf]; omega
        · have KW := hid (fun l' e' S => ow_text (F k).s p a rm l l' er e' w3 O3.out rm0 rm1 hl S)
          obtain ⟨bl, hbl⟩ : ∃ bl, (F k).s.data.toList = bl := ⟨_, rfl⟩
          rw [hbl] at KW
          replace hbl := hid hbl
          have ways : (∃ h : Hid ((er == 0) = false), (er == 0) = false) ∨ (er = 0 ∧ decide (rm - (l.length : Int) < (bl.length : Int)) = false) ∨ (er = 0 ∧ rm - (l.length : Int) < (bl.length : Int)) := by
            by_cases h : er = 0
            · by_cases h3 : rm - (l.length : Int) < (bl.length : Int)
              · exact .inr (.inr ⟨h, h3⟩)
              · exact .inr (.inl ⟨h, decide_eq_false h3⟩)
            · have : (er == 0) = false := by simpa using h
              exact .inl ⟨hid this, this⟩
          rcases ways with ⟨g1, g1'⟩ | ⟨rfl, g4⟩ | ⟨rfl, g4⟩
          · replace KW := hid (KW.out l er (.inl ⟨g1.out, rfl, rfl⟩))
            go_wp2_with fail
            refine KW.out.mono ?_
            rintro e w4 ⟨rfl, a', O4, G4⟩
            have A4 := hid (A3.out.out G4)
            have BX4 := HBX.out.sole G4.sole fun hx => hmg.out _ hx rfl
            have hb4 := hid (hb3'.out.trans (O3.out.below G4))
            clear lx kx fx
            obtain ⟨lx, kx, fx⟩ := BX4
            replace O4 := hid O4
            clear G4
            obtain ⟨ba, bc, w5, kc, OB, hbB⟩ := bytes_of_str w4 (F k).s
            rw [hbl.out] at kc OB
            have O5 := hid (O4.out.more hbB)
            have A5 := hid (A4.out.more hbB)
            have hb5 := hid (below2 hb4.out hbB (Nat.le_trans (Nat.le_of_lt hpg) (Nat.le_of_lt lx)))
            replace OB := hid OB
            clear hbB O4 A4 hb4
            go_wp2_with fail
            go_roundw
            case rel => exact ⟨k + 1, l, er, a', ga, gc, by omega, by omega, by go_num, rfl, rfl, hl, A5.out, O5.out, hb5.out⟩
            case measure => simp [intOf]; omega
          · replace KW := hid (KW.out (l ++ bl) 0 (.inr (.inr (.inl ⟨rfl, fun h => h, fits_of g4, rfl, rfl⟩))))
            go_wp2_with fail
            refine KW.out.mono ?_
            rintro e w4 ⟨rfl, a', O4, G4⟩
            have A4 := hid (A3.out.out G4)
            have BX4 := HBX.out.sole G4.sole fun hx => hmg.out _ hx rfl
            have hb4 := hid (hb3'.out.trans (O3.out.below G4))
            clear lx kx fx
            obtain ⟨lx, kx, fx⟩ := BX4
            replace O4 := hid O4
            clear G4
            obtain ⟨ba, bc, w5, kc, OB, hbB⟩ := bytes_of_str w4 (F k).s
            rw [hbl.out] at kc OB
            have O5 := hid (O4.out.more hbB)
            have A5 := hid (A4.out.more hbB)
            have hb5 := hid (below2 hb4.out hbB (Nat.le_trans (Nat.le_of_lt hpg) (Nat.le_of_lt lx)))
            replace OB := hid OB
            clear hbB O4 A4 hb4
            obtain ⟨v', w6, hr, A6, O6, hb6⟩ := A5.out.append O5.out (by have := O5.out.lt; omega) ba bc bl OB.out (by have := of_decide_eq_false g4; omega)
            obtain ⟨ga', gc', hv⟩ := A6.form
            subst hv
            have hl6 : Hid ((((l ++ bl).length : Nat) : Int) ≤ rm) := hid (fit_len g4 rfl)
            replace A6 := hid A6
            replace O6 := hid O6
            replace hb6 := hid (hb5.out.trans hb6)
            go_wp2_with (at_builtin; refine Lib.wpList_append_run _ rfl _ _ _ _ rfl _ _ rfl rfl _ _ hr ?_)
            go_roundw
            case rel => exact ⟨k + 1, l ++ bl, 0, a', ga', gc', by omega, by omega, by go_num, rfl, by rw [List.length_append], hl6.out, A6.out, O6.out, hb6.out⟩
            case measure => simp [intOf]; omega
          · replace KW := hid (KW.out l 10 (.inr (.inr (.inr ⟨rfl, fun h => h, full_of g4, rfl, rfl⟩))))
            go_wp2_with fail
            refine KW.out.mono ?_
            rintro e w4 ⟨rfl, a', O4, G4⟩
            have A4 := hid (A3.out.out G4)
            have BX4 := HBX.out.sole G4.sole fun hx => hmg.out _ hx rfl
            have hb4 := hid (hb3'.out.trans (O3.out.below G4))
            clear lx kx fx
            obtain ⟨lx, kx, fx⟩ := BX4
            replace O4 := hid O4
            clear G4
            obtain ⟨ba, bc, w5, kc, OB, hbB⟩ := bytes_of_str w4 (F k).s
            rw [hbl.out] at kc OB
            have O5 := hid (O4.out.more hbB)
            have A5 := hid (A4.out.more hbB)
            have hb5 := hid (below2 hb4.out hbB (Nat.le_trans (Nat.le_of_lt hpg) (Nat.le_of_lt lx)))
            replace OB := hid OB
            clear hbB O4 A4 hb4
            go_wp2_with fail
            go_roundw
            case rel => exact ⟨k + 1, l, 10, a', ga, gc, by omega, by omega, by go_num, rfl, rfl, hl, A5.out, O5.out, hb5.out⟩
            case measure => simp [intOf]; omega
        · have zb := ok.out.2.2.2.2.2.1
          have KW := hid (fun l' e' S => ow_pad (F k).z zb p a rm l l' er e' w3 O3.out rm0 rm1 hl S)
          have less : (F k).z ≤ l.length → (max (F k).z l.length - l.length = 0 ∧ (F k).z.toNat - l.length = 0) := fun h => by omega
          have gr8 : (l.length : Int) < (F k).z → ∃ d : Nat, (F k).z - l.length = d ∧ max (F k).z l.length - l.length = d ∧ (F k).z.toNat - l.length = d ∧ 1 ≤ d := fun h => ⟨((F k).z - l.length).toNat, by omega, by omega, by omega, by omega⟩
          have ways : (∃ h : Hid ((er == 0) = false), (er == 0) = false ∧ decide ((l.length : Int) < (F k).z) = false) ∨
              (∃ h : Hid ((er == 0) = false), ∃ d : Nat, ∃ h' : Hid ((F k).z - l.length = d), (er == 0) = false ∧ (l.length : Int) < (F k).z ∧ 70000 < (d : Int)) ∨
              (∃ h : Hid ((er == 0) = false), ∃ d : Nat, ∃ h' : Hid ((F k).z - l.length = d), (er == 0) = false ∧ (l.length : Int) < (F k).z ∧ d ≤ 70000 ∧ decide (70000 < (d : Int)) = false) ∨
              (er = 0 ∧ decide ((l.length : Int) < (F k).z) = false) ∨
              (er = 0 ∧ ∃ d : Nat, ∃ h' : Hid ((F k).z - l.length = d), (l.length : Int) < (F k).z ∧ 70000 < (d : Int)) ∨
              (er = 0 ∧ ∃ d : Nat, ∃ h' : Hid ((F k).z - l.length = d), (l.length : Int) < (F k).z ∧ d ≤ 70000 ∧ decide (70000 < (d : Int)) = false ∧ decide (rm - (l.length : Int) < (d : Int)) = false) ∨
              (er = 0 ∧ ∃ d : Nat, ∃ h' : Hid ((F k).z - l.length = d), (l.length : Int) < (F k).z ∧ d ≤ 70000 ∧ decide (70000 < (d : Int)) = false ∧ rm - (l.length : Int) < (d : Int)) := by
            by_cases hz : (l.length : Int) < (F k).z
            · obtain ⟨d, e1, _, _, d1⟩ := gr8 hz
              by_cases h : er = 0
              · by_cases h7 : 70000 < (d : Int)
                · exact .inr (.inr (.inr (.inr (.inl ⟨h, d, hid e1, hz, h7⟩))))
                · by_cases h3 : rm - (l.length : Int) < (d : Int)
                  · exact .inr (.inr (.inr (.inr (.inr (.inr ⟨h, d, hid e1, hz, by omega, decide_eq_false h7, h3⟩)))))
                  · exact .inr (.inr (.inr (.inr (.inr (.inl ⟨h, d, hid e1, hz, by omega, decide_eq_false h7, decide_eq_false h3⟩)))))
              · have he : (er == 0) = false := by simpa using h
                by_cases h7 : 70000 < (d : Int)
                · exact .inr (.inl ⟨hid he, d, hid e1, he, hz, h7⟩)
                · exact .inr (.inr (.inl ⟨hid he, d, hid e1, he, hz, by omega, decide_eq_false h7⟩))
            · by_cases h : er = 0
              · exact .inr (.inr (.inr (.inl ⟨h, decide_eq_false hz⟩)))
              · have he : (er == 0) = false := by simpa using h
                exact .inl ⟨hid he, he, decide_eq_false hz⟩
          replace less := hid less
          replace gr8 := hid gr8
          rcases ways with ⟨g1, g1', g2⟩ | ⟨g1, d, hd, g1', g2, g3⟩ | ⟨g1, d, hd, g1', g2, g3, g3'⟩ | ⟨rfl, g2⟩ | ⟨rfl, d, hd, g2, g3⟩ | ⟨rfl, d, hd, g2, g3, g3', g4⟩ | ⟨rfl, d, hd, g2, g3, g3', g4⟩
          · replace KW := hid (KW.out l er (.inl ⟨g1.out, rfl, rfl⟩))
            go_wp2_with fail
            refine KW.out.mono ?_
            rintro e w4 ⟨rfl, a', O4, G4⟩
            have A4 := hid (A3.out.out G4)
            have BX4 := HBX.out.sole G4.sole fun hx => hmg.out _ hx rfl
            have hb4 := hid (hb3'.out.trans (O3.out.below G4))
            clear lx kx fx
            obtain ⟨lx, kx, fx⟩ := BX4
            replace O4 := hid O4
            clear G4
            go_wp2_with fail
            go_roundw
            case rel => exact ⟨k + 1, l, er, a', ga, gc, by omega, by omega, by go_num, rfl, rfl, hl, A4.out, O4.out, hb4.out⟩
            case measure => simp [intOf]; omega
          · replace KW := hid (KW.out l er (.inl ⟨g1.out, rfl, rfl⟩))
            go_wp2_with fail
            refine KW.out.mono ?_
            rintro e w4 ⟨rfl, a', O4, G4⟩
            have A4 := hid (A3.out.out G4)
            have BX4 := HBX.out.sole G4.sole fun hx => hmg.out _ hx rfl
            have hb4 := hid (hb3'.out.trans (O3.out.below G4))
            clear lx kx fx
            obtain ⟨lx, kx, fx⟩ := BX4
            replace O4 := hid O4
            clear G4
            obtain ⟨w5, hm5, OB, hbB⟩ := make_octs w4 70000 (by omega) (by omega)
            skip
            have O5 := hid (O4.out.more hbB)
            have A5 := hid (A4.out.more hbB)
            have hb5 := hid (below2 hb4.out hbB (Nat.le_trans (Nat.le_of_lt hpg) (Nat.le_of_lt lx)))
            replace OB := hid OB
            clear hbB O4 A4 hb4
            have hd1 := hd.out
            go_wp2_with (at_make; refine wpList_make_eq _ rfl _ _ _ rfl _ _ rfl rfl _ _ hm5 ?_)
            go_roundw
            case rel => exact ⟨k + 1, l, er, a', ga, gc, by omega, by omega, by go_num, rfl, rfl, hl, A5.out, O5.out, hb5.out⟩
            case measure => simp [intOf]; omega
          · replace KW := hid (KW.out l er (.inl ⟨g1.out, rfl, rfl⟩))
            go_wp2_with fail
            refine KW.out.mono ?_
            rintro e w4 ⟨rfl, a', O4, G4⟩
            have A4 := hid (A3.out.out G4)
            have BX4 := HBX.out.sole G4.sole fun hx => hmg.out _ hx rfl
            have hb4 := hid (hb3'.out.trans (O3.out.below G4))
            clear lx kx fx
            obtain ⟨lx, kx, fx⟩ := BX4
            replace O4 := hid O4
            clear G4
            obtain ⟨w5, hm5, OB, hbB⟩ := make_octs w4 (d : Int) (by omega) (by omega)
            simp only [Int.toNat_natCast] at hm5 OB
            have O5 := hid (O4.out.more hbB)
            have A5 := hid (A4.out.more hbB)
            have hb5 := hid (below2 hb4.out hbB (Nat.le_trans (Nat.le_of_lt hpg) (Nat.le_of_lt lx)))
            replace OB := hid OB
            clear hbB O4 A4 hb4
            have hd1 := hd.out
            go_wp2_with (at_make; refine wpList_make_eq _ rfl _ _ _ rfl _ _ rfl rfl _ _ hm5 ?_)
            go_roundw
            case rel => exact ⟨k + 1, l, er, a', ga, gc, by omega, by omega, by go_num, rfl, rfl, hl, A5.out, O5.out, hb5.out⟩
            case measure => simp [intOf]; omega
          · replace KW := hid (KW.out (l ++ []) 0 (.inr (.inr (.inl ⟨rfl, fun h => h, by rw [(less.out (Int.not_lt.1 (of_decide_eq_false g2))).1]; omega, by rw [(less.out (Int.not_lt.1 (of_decide_eq_false g2))).2, List.replicate_zero], rfl⟩))))
            go_wp2_with fail
            refine KW.out.mono ?_
            rintro e w4 ⟨rfl, a', O4, G4⟩
            have A4 := hid (A3.out.out G4)
            have BX4 := HBX.out.sole G4.sole fun hx => hmg.out _ hx rfl
            have hb4 := hid (hb3'.out.trans (O3.out.below G4))
            clear lx kx fx
            obtain ⟨lx, kx, fx⟩ := BX4
            replace O4 := hid O4
            clear G4
            have h0 : decide (rm - (l.length : Int) < 0) = false := decide_eq_false (by omega)
            have ap := A4.out.append O4.out (by have := O4.out.lt; omega) none 0 [] (.inl rfl) (by simp; omega)
            skip
            obtain ⟨v', w6, hr, A6, O6, hb6⟩ := ap
            obtain ⟨ga', gc', hv⟩ := A6.form
            subst hv
            have hl6 : Hid ((((l ++ ([] : List UInt8)).length : Nat) : Int) ≤ rm) := hid (by simpa using hl)
            replace A6 := hid A6
            replace O6 := hid O6
            replace hb6 := hid (hb4.out.trans hb6)
            go_wp2_with (first | (at_make; refine wpList_make_eq _ rfl _ _ _ rfl _ _ rfl rfl _ _ hm5 ?_) | (at_builtin; refine Lib.wpList_append_run _ rfl _ _ _ _ rfl _ _ rfl rfl _ _ hr ?_))
            go_roundw
            case rel => exact ⟨k + 1, l ++ [], 0, a', ga', gc', by omega, by omega, by go_num, rfl, by simp, hl6.out, A6.out, O6.out, hb6.out⟩
            case measure => simp [intOf]; omega
          · replace KW := hid (KW.out l 10 (.inr (.inr (.inr ⟨rfl, fun h => h, by have := hd.out; omega, rfl, rfl⟩))))
            go_wp2_with fail
            refine KW.out.mono ?_
            rintro e w4 ⟨rfl, a', O4, G4⟩
            have A4 := hid (A3.out.out G4)
            have BX4 := HBX.out.sole G4.sole fun hx => hmg.out _ hx rfl
            have hb4 := hid (hb3'.out.trans (O3.out.below G4))
            clear lx kx fx
            obtain ⟨lx, kx, fx⟩ := BX4
            replace O4 := hid O4
            clear G4
            obtain ⟨w5, hm5, OB, hbB⟩ := make_octs w4 70000 (by omega) (by omega)
            skip
            have O5 := hid (O4.out.more hbB)
            have A5 := hid (A4.out.more hbB)
            have hb5 := hid (below2 hb4.out hbB (Nat.le_trans (Nat.le_of_lt hpg) (Nat.le_of_lt lx)))
            replace OB := hid OB
            clear hbB O4 A4 hb4
            have hd1 := hd.out
            have h0 : rm - (l.length : Int) < 70000 := by omega
            go_wp2_with (at_make; refine wpList_make_eq _ rfl _ _ _ rfl _ _ rfl rfl _ _ hm5 ?_)
            go_roundw
            case rel => exact ⟨k + 1, l, 10, a', ga, gc, by omega, by omega, by go_num, rfl, rfl, hl, A5.out, O5.out, hb5.out⟩
            case measure => simp [intOf]; omega
          · replace KW := hid (KW.out (l ++ List.replicate d 0) 0 (.inr (.inr (.inl ⟨rfl, fun h => h, by have := fits_of g4; have := gr8.out g2; have := hd.out; omega, by have := gr8.out g2; have := hd.out; rw [show (F k).z.toNat - l.length = d by omega], rfl⟩))))
            go_wp2_with fail
            refine KW.out.mono ?_
            rintro e w4 ⟨rfl, a', O4, G4⟩
            have A4 := hid (A3.out.out G4)
            have BX4 := HBX.out.sole G4.sole fun hx => hmg.out _ hx rfl
            have hb4 := hid (hb3'.out.trans (O3.out.below G4))
            clear lx kx fx
            obtain ⟨lx, kx, fx⟩ := BX4
            replace O4 := hid O4
            clear G4
            obtain ⟨w5, hm5, OB, hbB⟩ := make_octs w4 (d : Int) (by omega) (by omega)
            simp only [Int.toNat_natCast] at hm5 OB
            have O5 := hid (O4.out.more hbB)
            have A5 := hid (A4.out.more hbB)
            have hb5 := hid (below2 hb4.out hbB (Nat.le_trans (Nat.le_of_lt hpg) (Nat.le_of_lt lx)))
            replace OB := hid OB
            clear hbB O4 A4 hb4
            have hd1 := hd.out
            have ap := A5.out.append O5.out (by have := O5.out.lt; omega) _ d (List.replicate d 0) OB.out (by rw [List.length_replicate]; omega)
            simp only [List.length_replicate] at ap
            obtain ⟨v', w6, hr, A6, O6, hb6⟩ := ap
            obtain ⟨ga', gc', hv⟩ := A6.form
            subst hv
            have hl6 : Hid ((((l ++ List.replicate d (0 : UInt8)).length : Nat) : Int) ≤ rm) := hid (fit_len g4 (List.length_replicate))
            replace A6 := hid A6
            replace O6 := hid O6
            replace hb6 := hid (hb5.out.trans hb6)
            go_wp2_with (first | (at_make; refine wpList_make_eq _ rfl _ _ _ rfl _ _ rfl rfl _ _ hm5 ?_) | (at_builtin; refine Lib.wpList_append_run _ rfl _ _ _ _ rfl _ _ rfl rfl _ _ hr ?_))
            go_roundw
            case rel => exact ⟨k + 1, l ++ List.replicate d 0, 0, a', ga', gc', by omega, by omega, by go_num, rfl, by rw [List.length_append, List.length_replicate], hl6.out, A6.out, O6.out, hb6.out⟩
            case measure => simp [intOf]; omega
          · replace KW := hid (KW.out l 10 (.inr (.inr (.inr ⟨rfl, fun h => h, by have := full_of g4; have := gr8.out g2; have := hd.out; omega, rfl, rfl⟩))))
            go_wp2_with fail
            refine KW.out.mono ?_
            rintro e w4 ⟨rfl, a', O4, G4⟩
            have A4 := hid (A3.out.out G4)
            have BX4 := HBX.out.sole G4.sole fun hx => hmg.out _ hx rfl
            have hb4 := hid (hb3'.out.trans (O3.out.below G4))
            clear lx kx fx
            obtain ⟨lx, kx, fx⟩ := BX4
            replace O4 := hid O4
            clear G4
            obtain ⟨w5, hm5, OB, hbB⟩ := make_octs w4 (d : Int) (by omega) (by omega)
            simp only [Int.toNat_natCast] at hm5 OB
            have O5 := hid (O4.out.more hbB)
            have A5 := hid (A4.out.more hbB)
            have hb5 := hid (below2 hb4.out hbB (Nat.le_trans (Nat.le_of_lt hpg) (Nat.le_of_lt lx)))
            replace OB := hid OB
            clear hbB O4 A4 hb4
            have hd1 := hd.out
            go_wp2_with (at_make; refine wpList_make_eq _ rfl _ _ _ rfl _ _ rfl rfl _ _ hm5 ?_)
            go_roundw
            case rel => exact ⟨k + 1, l, 10, a', ga, gc, by omega, by omega, by go_num, rfl, rfl, hl, A5.out, O5.out, hb5.out⟩
            case measure => simp [intOf]; omega
      · obtain rfl : k = 30 := by omega
        have KO := hid (fun (h : er = 0) => done_ok p a rm l _ (h ▸ O) (by omega))
        have KB := hid (fun (h : (er == 0) = false) => done_bad p a rm l er _ O h)
        have AO := hid A.own
        have hb' := hid (show Below w.heap.size w _ from hb1.out.trans (hb.mono (by rw [← hp.out]; exact hb1.out.size)))
        have hsz := hid O.lt
        clear O A hb
        have ways : er = 0 ∨ ((er == 0) = false ∧ (er != 0) = true) := by
          by_cases h : er = 0
          · exact .inl h
          · exact .inr ⟨by simpa using h, by simpa using h⟩
        rcases ways with rfl | ⟨g1, g2⟩
        · replace KO := hid (KO.out rfl)
          clear KB
          go_wp2_with fail
          refine KO.out.mono ?_
          rintro e w4 ⟨v, rfl, ba, bc, rfl, OB, hbB⟩
          have kc1 := conv_octs (Octs.of_own OB) bc
          have kc2 := conv_octs (Octs.of_own (own_sole (S := fun _ => False) AO.out (Sole.made hbB) fun _ _ x => x)) gc
          have E := hid (below2 hb'.out hbB hb'.out.size)
          clear OB hbB
          go_wp2
          go_ret
          exact ⟨by simp, E.out⟩
        · replace KB := hid (KB.out g1)
          clear KO
          go_wp2_with fail
          refine KB.out.mono ?_
          rintro e w4 ⟨rfl, hbB⟩
          have E := hid (below2 hb'.out hbB hb'.out.size)
          clear hbB
          go_wp2
          go_ret
          exact ⟨by simp, E.out⟩
    · obtain rfl : k = n := by omega
      have KO := hid (fun (h : er = 0) => done_ok p a rm l _ (h ▸ O) (by omega))
      have KB := hid (fun (h : (er == 0) = false) => done_bad p a rm l er _ O h)
      have AO := hid A.own
      have hb' := hid (show Below w.heap.size w _ from hb1.out.trans (hb.mono (by rw [← hp.out]; exact hb1.out.size)))
      have hsz := hid O.lt
      clear O A hb
      have ways : er = 0 ∨ ((er == 0) = false ∧ (er != 0) = true) := by
        by_cases h : er = 0
        · exact .inl h
        · exact .inr ⟨by simpa using h, by simpa using h⟩
      rcases ways with rfl | ⟨g1, g2⟩
      · replace KO := hid (KO.out rfl)
        clear KB
        go_wp2_with fail
        refine KO.out.mono ?_
        rintro e w4 ⟨v, rfl, ba, bc, rfl, OB, hbB⟩
        have kc1 := conv_octs (Octs.of_own OB) bc
        have kc2 := conv_octs (Octs.of_own (own_sole (S := fun _ => False) AO.out (Sole.made hbB) fun _ _ x => x)) gc
        have E := hid (below2 hb'.out hbB hb'.out.size)
        clear OB hbB
        go_wp2
        go_ret
        exact ⟨by simp, E.out⟩
      · replace KB := hid (KB.out g1)
        clear KO
        go_wp2_with fail
        refine KB.out.mono ?_
        rintro e w4 ⟨rfl, hbB⟩
        have E := hid (below2 hb'.out hbB hb'.out.size)
        clear hbB
        go_wp2
        go_ret
        exact ⟨by simp, E.out⟩
end Go.Proofs.Ytjlfpflgbanncaa
