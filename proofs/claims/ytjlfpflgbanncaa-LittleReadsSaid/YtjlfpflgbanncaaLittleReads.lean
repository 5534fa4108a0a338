/-
  Layer 1: whatever is read of any octets is as the page says. The walk.
-/
import Derived.Test.YtjlfpflgbanncaaLittleField
import Derived.Test.YtjlfpflgbanncaaLittleAlive
import Derived.Deep.RegionWith
namespace Go.Proofs.Ytjlfpflgbanncaa
open Go.RowKit
set_option linter.unusedVariables false
set_option linter.unusedSimpArgs false

/-- A slice of octets that came in, or a part of it. -/
def LS (w : World) (a : Option Addr) (l : List UInt8) (cap : Nat) : Prop :=
  l.length ≤ cap ∧ cap ≤ maxLen ∧ Octs w a l ∧ ((a = none ∧ cap = 0) ∨ (l = [] ∧ ∃ x, a = some x) ∨ ∃ b o, a = some ⟨b, o, none⟩)
theorem LS.part {w w' : World} {a : Option Addr} {l : List UInt8} {cap : Nat} (h : LS w a l cap) (n : Nat) (hb : Below w.heap.size w w') : Octs w' a (l.take n) := (h.2.2.1.take n).more hb
theorem LS.rest {w : World} {a a' : Option Addr} {l : List UInt8} {cap n : Nat} (h : LS w a l cap) (hn : n ≤ l.length)
    (ha : (a' = a ∧ cap = n) ∨ (∃ b o, a = some ⟨b, o, none⟩ ∧ a' = some ⟨b, o + n, none⟩) ∨ (a' = a ∧ n = 0)) : LS w a' (l.drop n) (cap - n) := by
  obtain ⟨h1, h2, h3, h4⟩ := h
  have hd : (l.drop n).length = l.length - n := List.length_drop
  rcases ha with ⟨rfl, hc⟩ | ⟨b, o, rfl, rfl⟩ | ⟨rfl, rfl⟩
  · have e : l.drop n = [] := List.eq_nil_of_length_eq_zero (by omega)
    rw [e]
    refine ⟨by simp, by unfold maxLen at *; omega, .inl rfl, ?_⟩
    rcases h4 with ⟨h, hc⟩ | ⟨_, x, h⟩ | ⟨b, o, h⟩
    · exact .inl ⟨h, by omega⟩
    · exact .inr (.inl ⟨rfl, x, h⟩)
    · exact .inr (.inr ⟨b, o, h⟩)
  · exact ⟨by omega, by unfold maxLen at *; omega, h3.drop n, .inr (.inr ⟨b, o + n, rfl⟩)⟩
  · rw [List.drop_zero]
    exact ⟨h1, h2, h3, h4⟩
theorem LS.none (w : World) : LS w none [] 0 := ⟨Nat.le_refl _, Nat.zero_le _, .inl rfl, .inl ⟨rfl, rfl⟩⟩
/-- The text of octets, wherever. -/
theorem conv_octs {w : World} {a : Option Addr} {l : List UInt8} (h : Octs w a l) (cap : Nat) : (convert 26 9 (.slice a l.length cap)).run Try.prog w = .ok (.string (textOf l)) w := by
  by_cases h0 : l = []
  · subst h0
    rw [List.length_nil, run_convert_bytes_string (P := Try.prog) w _ _ _ a 0 cap Try.underlying26 Try.underlying5 Try.underlying9]
    rcases a with _ | x
    · simp [Conv.bytesToString]; rfl
    · simp [Conv.bytesToString]; rfl
  · obtain ⟨b, o, rfl, _, _⟩ := h.row h0
    exact h.text _ _ _ cap Try.underlying26 Try.underlying5 Try.underlying9 (fun x hx => by cases hx; rfl)

theorem made_drew {w w5 : World} {o : Obj} {nq : Nat} (h : Below ((w.alloc o).drewN nq).heap.size ((w.alloc o).drewN nq) w5) : Below w.heap.size w w5 := by
  have h1 : Below w.heap.size w ((w.alloc o).drewN nq) := ⟨rfl, rfl, rfl, by simp, (Below.alloc (Below.refl w.heap.size w) (Nat.le_refl _) o).block⟩
  exact below2 h1 h h1.size

set_option maxRecDepth 100000 in
set_option maxHeartbeats 8000000 in
theorem littleReads (a : Option Addr) (l : List UInt8) (cap : Nat) (pf : Option Addr) (n nc : Nat) (F : Nat → Fd) (hF : ∀ i, i < n → (F i).ok) (h1 : n ≤ nc) (h2 : nc ≤ maxLen) (hl : l.length ≤ 140737488355328) (w : World) (LL : LS w a l cap) (HR : RowP w pf 4 n (fun i => fcells (F i))) :
    Calls Try.prog 4 #[.slice a l.length cap, .slice pf n nc] w fun e w' => e = .returned (.bool true) ∧ Below w.heap.size w w' := by
  have KA := hid alive01
  unfold maxLen at h2
  replace hF := hid hF
  replace HR := hid HR
  replace LL := hid LL
  replace hl := hid hl
  go_enter Try.func4, Try.ntmps4
  go_wp2_with fail
  refine (KA.out _).mono ?_
  rintro e w1 ⟨rfl, hb1⟩
  replace LL := hid (show LS w1 a l cap from ⟨LL.out.1, LL.out.2.1, LL.out.2.2.1.more hb1, LL.out.2.2.2⟩)
  replace HR := hid (HR.out.more hb1)
  have KO := hid (open_any l a cap w1 LL.out.2.2.1 hl.out)
  replace hb1 := hid hb1
  clear hl KA
  go_wp2_with fail
  refine KO.out.mono ?_
  rintro e w2 ⟨p, rfl, hp, I2, hb2⟩
  have E := hid (And.intro I2 hb2)
  clear I2 hb2 KO
  go_wp2_with fail
  go_loopw [6, 7, 8] (fun left bd i wx => ∃ (k : Nat) (l : List UInt8) (bad : Bool) (a : Option Addr) (cap : Nat), k ≤ n ∧ k ≤ 30 ∧ i = .int .i64 (k : Int) ∧ bd = .bool bad ∧ left = .slice a l.length cap ∧ LS w1 a l cap ∧ RS wx p l bad ∧ Below w1.heap.size w1 wx) (fun _ _ i _ => 30 - (intOf i).toNat)
  case atStart => exact ⟨0, l, false, a, cap, by omega, by omega, rfl, rfl, rfl, LL.out, ⟨E.out.1, fun h => by cases h⟩, E.out.2⟩
  case round =>
    clear E LL
    obtain ⟨k, l, bad, a, cap, hk, hk30, rfl, rfl, rfl, L, R, hb⟩ := hrel
    by_cases hlt : k < n
    · by_cases hlt30 : k < 30
      · obtain ⟨b, o, rfl, RW⟩ := HR.out.row (by omega)
        have RW := RW.more hb
        have z0 := RW.at0 hlt (v := .int .i64 (F k).k) rfl
        have z1 := RW.at1 hlt (v := .int .i64 (F k).n) rfl
        have z2 := RW.at2 hlt (v := .int .i64 (F k).z) rfl
        have z3 := RW.at3 hlt (v := .string (F k).s) rfl
        have KK := hid (kind_any (F k))
        have kb := kind_bd (F k).k
        clear RW
        go_wp2_with fail
        refine (KK.out _).mono ?_
        rintro e w3 ⟨rfl, hb3⟩
        obtain ⟨BX, hbX⟩ := boxed1 hb3
        have R3 := hid (R.more hbX)
        have hb3' := hid (below2 hb hbX hb.size)
        have hpg : p < wr.heap.size := R.1.lt
        clear hb hbX hb3 z0 z1 z2 z3
        generalize wr.heap.size = g at *
        have HBX := hid BX
        obtain ⟨lx, kx, fx⟩ := BX
        clear R
        generalize hkz : kindI (F k).k = kz at *
        replace hkz := hid hkz
        by_cases hz : kz = 0
        · subst hz
          obtain ⟨m, hm, hm6⟩ : ∃ m : Nat, min (max (F k).z 1) 6 = m ∧ m ≤ 6 := ⟨(min (max (F k).z 1) 6).toNat, by omega, by omega⟩
          have KN := hid (fun bad' hb' w R => rs_num (F k).z m hm p l bad bad' hb' w R)
          have ways : (bad = true) ∨ (bad = false ∧ decide (l.length < m) = true) ∨ (bad = false ∧ m ≤ l.length ∧ decide (l.length < m) = false) := by
            cases bad with
            | true => exact .inl rfl
            | false =>
              by_cases h : l.length < m
              · exact .inr (.inl ⟨rfl, decide_eq_true h⟩)
              · exact .inr (.inr ⟨rfl, by omega, decide_eq_false h⟩)
          rcases ways with rfl | ⟨rfl, g1⟩ | ⟨rfl, hml, g1⟩
          iterate 2
           focus
            replace KN := hid (KN.out true (by first | rfl | (rw [g1]; rfl)))
            go_wp2_with fail
            refine (KK.out _).mono ?_
            rintro e w5 ⟨rfl, hb5⟩
            have hbz := hid ((Below.alloc (Below.refl w3.heap.size w3) (Nat.le_refl _) (.cells #[] 5)).trans (hb5.mono (by simp)))
            have R5 := hid (R3.out.more hbz.out)
            have BX5 := HBX.out.more hbz.out
            have hb5' := hid (below2 hb3'.out hbz.out hb3'.out.size)
            have HBX5 := hid BX5
            clear lx kx fx
            obtain ⟨lx, kx, fx⟩ := BX5
            clear hb5
            go_wp2_with fail
            refine (KN.out _ R5.out).mono ?_
            rintro e w6 ⟨rfl, R6, S6⟩
            have hb6 := hid (hb5'.out.trans (S6.below (B := w1.heap.size) hb5'.out.size fun k hk => by omega))
            simp only [if_true] at R6 ⊢
            go_wp2_with fail
            refine (refGet_any [] _ _ _ (.inl rfl) (Nat.zero_le _)).mono ?_
            rintro e w7 ⟨rfl, rfl⟩
            have KL := hid (left_any p [] 16 _ R6.1)
            have KE := hid (err_any p [] 16 _ R6.1)
            have R7 := hid R6
            clear R6 S6
            go_wp2_with fail
            refine KL.out.mono ?_
            rintro e w7 ⟨rfl, rfl⟩
            go_wp2_with fail
            refine KE.out.mono ?_
            rintro e w7 ⟨rfl, rfl⟩
            go_wp2_with fail
            refine KE.out.mono ?_
            rintro e w7 ⟨rfl, rfl⟩
            go_wp2_with fail
            go_roundw
            case rel => exact ⟨k + 1, [], true, none, 0, by omega, by omega, by go_num, rfl, rfl, LS.none _, R7.out, hb6.out⟩
            case measure => simp [intOf]; omega
          have hL := hid L
          obtain ⟨b1, o1, rfl⟩ : ∃ b1 o1, a = some ⟨b1, o1, none⟩ := by
            rcases L.2.2.2 with ⟨h, hc⟩ | ⟨h, _⟩ | h
            · have := L.1; omega
            · rw [h] at hml; simp at hml; omega
            · exact h
          have hlc := L.1
          have hcm := L.2.1
          unfold maxLen at hcm
          have ht : (l.take m).length = m := by rw [List.length_take]; omega
          have KG := hid (fun w O => refGet_any (l.take m) (some ⟨b1, o1, none⟩) cap w O (by omega))
          rw [ht] at KG
          replace KN := KN.out false (by rw [g1]; rfl)
          simp only [Bool.false_eq_true, if_false] at KN
          replace KN := hid KN
          have e1 : (m : Int) ≤ l.length := by omega
          have e2 : (m : Int) ≤ cap := by omega
          have e3 : m ≤ cap := by omega
          have hd := hid (show (l.drop m).length = l.length - m from List.length_drop)
          replace hlc := hid hlc
          replace ht := hid ht
          clear L
          have two : (∃ h : Hid (cap = m), (cap = m) = True) ∨ (∃ h : Hid (¬ cap = m), ¬ cap = m) := by
            by_cases h : cap = m
            · exact .inl ⟨hid h, eq_true h⟩
            · exact .inr ⟨hid h, h⟩
          rcases two with ⟨hcap, hct⟩ | ⟨hcap, hct⟩
          all_goals
            go_wp2_with fail
            go_quiet (fail)
            all_goals
              go_wp2_with fail
              refine (KK.out _).mono ?_
              rintro e w5 ⟨rfl, hb5⟩
              have hbz := hid (made_drew hb5)
              clear hct e1 e2 e3 g1
              have R5 := hid (R3.out.more hbz.out)
              have BX5 := HBX.out.more hbz.out
              have hb5' := hid (below2 hb3'.out hbz.out hb3'.out.size)
              have HBX5 := hid BX5
              clear lx kx fx
              obtain ⟨lx, kx, fx⟩ := BX5
              clear hb5
              -- @@
              go_wp2_with fail
              refine (KN.out _ R5.out).mono ?_
              rintro e w6 ⟨rfl, R6, S6⟩
              have hb6 := hid (hb5'.out.trans (S6.below (B := w1.heap.size) hb5'.out.size fun k hk => by omega))
              -- @@
              go_wp2_with fail
              refine (KG.out _ (hL.out.part m hb6.out)).mono ?_
              rintro e w7 ⟨rfl, rfl⟩
              have KL := left_any p (l.drop m) 0 _ R6.1
              rw [hd.out] at KL
              replace KL := hid KL
              have KE := hid (err_any p (l.drop m) 0 _ R6.1)
              have R7 := hid R6
              clear R6 S6
              -- @@
              go_wp2_with fail
              refine KL.out.mono ?_
              rintro e w7 ⟨rfl, rfl⟩
              -- @@
              go_wp2_with fail
              refine KE.out.mono ?_
              rintro e w7 ⟨rfl, rfl⟩
              -- @@
              go_wp2_with fail
              refine KE.out.mono ?_
              rintro e w7 ⟨rfl, rfl⟩
              -- @@
              go_wp2_with fail
              go_roundw
              case rel =>
                first
                  | exact ⟨k + 1, l.drop m, false, some ⟨b1, o1, none⟩, cap - m, by omega, by omega, by go_num, rfl, by rw [hd.out], hL.out.rest hml (.inl ⟨rfl, hcap.out⟩), R7.out, hb6.out⟩
                  | exact ⟨k + 1, l.drop m, false, some ⟨b1, o1 + m, none⟩, cap - m, by omega, by omega, by go_num, rfl, by rw [hd.out], hL.out.rest hml (.inr (.inl ⟨b1, o1, rfl, rfl⟩)), R7.out, hb6.out⟩
              case measure => simp [intOf]; omega
        · obtain ⟨m, hm⟩ : ∃ m : Nat, max (F k).z 0 = m := ⟨(max (F k).z 0).toNat, by omega⟩
          have hz1 : (kz == 0) = false := by simpa using hz
          have hz2 : (kz != 0) = true := by simpa using hz
          have hmb : (m : Int) ≤ 9223372036854775807 := by have := (hF.out k hlt).2.2.2.2.2.1; omega
          have KN := hid (fun bad' hb' w R => rs_text (F k).z m hm p l bad bad' hb' w R)
          have ways : (bad = true) ∨ (bad = false ∧ decide (l.length < m) = true) ∨ (bad = false ∧ m ≤ l.length ∧ decide (l.length < m) = false) := by
            cases bad with
            | true => exact .inl rfl
            | false =>
              by_cases h : l.length < m
              · exact .inr (.inl ⟨rfl, decide_eq_true h⟩)
              · exact .inr (.inr ⟨rfl, by omega, decide_eq_false h⟩)
          rcases ways with rfl | ⟨rfl, g1⟩ | ⟨rfl, hml, g1⟩
          iterate 2
           focus
            replace KN := KN.out true (by first | rfl | (rw [g1]; rfl))
            simp only [if_true] at KN
            replace KN := hid KN
            have kc0 := fun (w : World) (a : Option Addr) (c : Nat) => conv_octs (w := w) (a := a) (l := []) (.inl rfl) c
            simp only [List.length_nil] at kc0
            go_wp2_with fail
            refine (KK.out _).mono ?_
            rintro e w5 ⟨rfl, hb5⟩
            have hbz := hid ((Below.alloc (Below.refl w3.heap.size w3) (Nat.le_refl _) (.cells #[] 5)).trans (hb5.mono (by simp)))
            have R5 := hid (R3.out.more hbz.out.drew)
            have BX5 := HBX.out.more hbz.out
            have hb5' := hid (below2 hb3'.out hbz.out.drew hb3'.out.size)
            have HBX5 := hid BX5
            clear lx kx fx
            obtain ⟨lx, kx, fx⟩ := BX5
            clear hb5
            go_wp2_with fail
            go_region_with ((with_reducible refine (KN.out _ R5.out).mono ?_); rintro e w6 ⟨rfl, R6, S6⟩)
            all_goals
              have hb6 := hid (hb5'.out.trans (S6.below (B := w1.heap.size) hb5'.out.size fun k hk => by omega))
              have KL := hid (left_any p [] 16 _ R6.1)
              have KE := hid (err_any p [] 16 _ R6.1)
              have R7 := hid R6
              clear R6 S6
              go_wp2_with fail
              refine KL.out.mono ?_
              rintro e w7 ⟨rfl, rfl⟩
              go_wp2_with fail
              refine KE.out.mono ?_
              rintro e w7 ⟨rfl, rfl⟩
              go_wp2_with fail
              refine KE.out.mono ?_
              rintro e w7 ⟨rfl, rfl⟩
              go_wp2_with fail
              go_roundw
              case rel => exact ⟨k + 1, [], true, none, 0, by omega, by omega, by go_num, rfl, rfl, LS.none _, R7.out, hb6.out⟩
              case measure => simp [intOf]; omega
          have hL := hid L
          have hlc := L.1
          have hcm := L.2.1
          unfold maxLen at hcm
          have ht : (l.take m).length = m := by rw [List.length_take]; omega
          have KG := hid (fun w (O : Octs w a (l.take m)) => conv_octs O cap)
          rw [ht] at KG
          replace KN := KN.out false (by rw [g1]; rfl)
          simp only [Bool.false_eq_true, if_false] at KN
          replace KN := hid KN
          have e1 : (m : Int) ≤ l.length := by omega
          have e2 : (m : Int) ≤ cap := by omega
          have e3 : m ≤ cap := by omega
          have hd := hid (show (l.drop m).length = l.length - m from List.length_drop)
          have four : (∃ h : Hid (a = none ∧ m = 0 ∧ l.length = 0 ∧ cap = 0), True) ∨ (∃ h : Hid (l.length = 0 ∧ m = 0 ∧ ∃ x, a = some x), True) ∨
              (∃ h : Hid (cap = m ∧ ∃ b1 o1, a = some ⟨b1, o1, none⟩), (cap = m) = True) ∨ (∃ h : Hid (∃ b1 o1, a = some ⟨b1, o1, none⟩), ¬ cap = m) := by
            rcases L.2.2.2 with ⟨h, hc⟩ | ⟨h, hx⟩ | hx
            · exact .inl ⟨hid ⟨h, by omega, by omega, hc⟩, trivial⟩
            · exact .inr (.inl ⟨hid ⟨by rw [h]; rfl, by rw [h] at hml; simpa using hml, hx⟩, trivial⟩)
            · by_cases h : cap = m
              · exact .inr (.inr (.inl ⟨hid ⟨h, hx⟩, eq_true h⟩))
              · exact .inr (.inr (.inr ⟨hid hx, h⟩))
          replace hlc := hid hlc
          replace ht := hid ht
          clear L
          rcases four with ⟨hf, _⟩ | ⟨hf, _⟩ | ⟨hf, hct⟩ | ⟨hf, hct⟩
          · obtain ⟨rfl, hm0, hl0, hc0⟩ := hf.out
            replace hm0 := hid hm0
            clear hl0 hc0
            go_wp2_with fail
            go_quiet (fail)
            go_wp2_with fail
            refine (KK.out _).mono ?_
            rintro e w5 ⟨rfl, hb5⟩
            have hbz := hid (made_drew hb5)
            clear e1 e2 e3 g1
            have R5 := hid (R3.out.more hbz.out.drew)
            have BX5 := HBX.out.more hbz.out
            have hb5' := hid (below2 hb3'.out hbz.out.drew hb3'.out.size)
            have HBX5 := hid BX5
            clear lx kx fx
            obtain ⟨lx, kx, fx⟩ := BX5
            clear hb5
            have kc5 := KG.out _ (hL.out.part _ hb5'.out)
            go_wp2_with fail
            go_region_with ((with_reducible refine (KN.out _ R5.out).mono ?_); rintro e w6 ⟨rfl, R6, S6⟩; have hb6 := hid (hb5'.out.trans (S6.below (B := w1.heap.size) hb5'.out.size fun k hk => by omega)); have kc6 := KG.out _ (hL.out.part _ hb6.out))
            all_goals
              have KL := left_any p (l.drop m) 0 _ R6.1
              rw [hd.out] at KL
              replace KL := hid KL
              have KE := hid (err_any p (l.drop m) 0 _ R6.1)
              have R7 := hid R6
              clear R6 S6
              go_wp2_with fail
              refine KL.out.mono ?_
              rintro e w7 ⟨rfl, rfl⟩
              go_wp2_with fail
              refine KE.out.mono ?_
              rintro e w7 ⟨rfl, rfl⟩
              go_wp2_with fail
              refine KE.out.mono ?_
              rintro e w7 ⟨rfl, rfl⟩
              go_wp2_with fail
              go_roundw
              case rel => exact ⟨k + 1, l.drop m, false, none, cap - m, by omega, by omega, by go_num, rfl, by rw [hd.out], hL.out.rest hml (.inr (.inr ⟨rfl, hm0.out⟩)), R7.out, hb6.out⟩
              case measure => simp [intOf]; omega
          · obtain ⟨hl0, hm0, x, rfl⟩ := hf.out
            subst hm0
            clear hl0
            go_wp2_with fail
            go_quiet (fail)
            go_wp2_with fail
            refine (KK.out _).mono ?_
            rintro e w5 ⟨rfl, hb5⟩
            have hbz := hid (made_drew hb5)
            clear e1 e2 e3 g1
            have R5 := hid (R3.out.more hbz.out.drew)
            have BX5 := HBX.out.more hbz.out
            have hb5' := hid (below2 hb3'.out hbz.out.drew hb3'.out.size)
            have HBX5 := hid BX5
            clear lx kx fx
            obtain ⟨lx, kx, fx⟩ := BX5
            clear hb5
            have kc5 := KG.out _ (hL.out.part _ hb5'.out)
            go_wp2_with fail
            go_region_with ((with_reducible refine (KN.out _ R5.out).mono ?_); rintro e w6 ⟨rfl, R6, S6⟩; have hb6 := hid (hb5'.out.trans (S6.below (B := w1.heap.size) hb5'.out.size fun k hk => by omega)); have kc6 := KG.out _ (hL.out.part _ hb6.out))
            all_goals
              have KL := left_any p (l.drop 0) 0 _ R6.1
              rw [hd.out] at KL
              replace KL := hid KL
              have KE := hid (err_any p (l.drop 0) 0 _ R6.1)
              have R7 := hid R6
              clear R6 S6
              go_wp2_with fail
              refine KL.out.mono ?_
              rintro e w7 ⟨rfl, rfl⟩
              go_wp2_with fail
              refine KE.out.mono ?_
              rintro e w7 ⟨rfl, rfl⟩
              go_wp2_with fail
              refine KE.out.mono ?_
              rintro e w7 ⟨rfl, rfl⟩
              go_wp2_with fail
              go_roundw
              case rel => exact ⟨k + 1, l.drop 0, false, some x, cap - 0, by omega, by omega, by go_num, rfl, by rw [hd.out]; rfl, hL.out.rest hml (.inr (.inr ⟨rfl, rfl⟩)), R7.out, hb6.out⟩
              case measure => simp [intOf]; omega
          · obtain ⟨hcm', b1, o1, rfl⟩ := hf.out
            replace hcm' := hid hcm'
            go_wp2_with fail
            go_quiet (fail)
            go_wp2_with fail
            refine (KK.out _).mono ?_
            rintro e w5 ⟨rfl, hb5⟩
            have hbz := hid (made_drew hb5)
            clear hct e1 e2 e3 g1
            have R5 := hid (R3.out.more hbz.out.drew)
            have BX5 := HBX.out.more hbz.out
            have hb5' := hid (below2 hb3'.out hbz.out.drew hb3'.out.size)
            have HBX5 := hid BX5
            clear lx kx fx
            obtain ⟨lx, kx, fx⟩ := BX5
            clear hb5
            have kc5 := KG.out _ (hL.out.part _ hb5'.out)
            go_wp2_with fail
            go_region_with ((with_reducible refine (KN.out _ R5.out).mono ?_); rintro e w6 ⟨rfl, R6, S6⟩; have hb6 := hid (hb5'.out.trans (S6.below (B := w1.heap.size) hb5'.out.size fun k hk => by omega)); have kc6 := KG.out _ (hL.out.part _ hb6.out))
            all_goals
              have KL := left_any p (l.drop m) 0 _ R6.1
              rw [hd.out] at KL
              replace KL := hid KL
              have KE := hid (err_any p (l.drop m) 0 _ R6.1)
              have R7 := hid R6
              clear R6 S6
              go_wp2_with fail
              refine KL.out.mono ?_
              rintro e w7 ⟨rfl, rfl⟩
              go_wp2_with fail
              refine KE.out.mono ?_
              rintro e w7 ⟨rfl, rfl⟩
              go_wp2_with fail
              refine KE.out.mono ?_
              rintro e w7 ⟨rfl, rfl⟩
              go_wp2_with fail
              go_roundw
              case rel => exact ⟨k + 1, l.drop m, false, some ⟨b1, o1, none⟩, cap - m, by omega, by omega, by go_num, rfl, by rw [hd.out], hL.out.rest hml (.inl ⟨rfl, hcm'.out⟩), R7.out, hb6.out⟩
              case measure => simp [intOf]; omega
          · obtain ⟨b1, o1, rfl⟩ := hf.out
            go_wp2_with fail
            go_quiet (fail)
            go_wp2_with fail
            refine (KK.out _).mono ?_
            rintro e w5 ⟨rfl, hb5⟩
            have hbz := hid (made_drew hb5)
            clear hct e1 e2 e3 g1
            have R5 := hid (R3.out.more hbz.out.drew)
            have BX5 := HBX.out.more hbz.out
            have hb5' := hid (below2 hb3'.out hbz.out.drew hb3'.out.size)
            have HBX5 := hid BX5
            clear lx kx fx
            obtain ⟨lx, kx, fx⟩ := BX5
            clear hb5
            have kc5 := KG.out _ (hL.out.part _ hb5'.out)
            go_wp2_with fail
            go_region_with ((with_reducible refine (KN.out _ R5.out).mono ?_); rintro e w6 ⟨rfl, R6, S6⟩; have hb6 := hid (hb5'.out.trans (S6.below (B := w1.heap.size) hb5'.out.size fun k hk => by omega)); have kc6 := KG.out _ (hL.out.part _ hb6.out))
            all_goals
              have KL := left_any p (l.drop m) 0 _ R6.1
              rw [hd.out] at KL
              replace KL := hid KL
              have KE := hid (err_any p (l.drop m) 0 _ R6.1)
              have R7 := hid R6
              clear R6 S6
              go_wp2_with fail
              refine KL.out.mono ?_
              rintro e w7 ⟨rfl, rfl⟩
              go_wp2_with fail
              refine KE.out.mono ?_
              rintro e w7 ⟨rfl, rfl⟩
              go_wp2_with fail
              refine KE.out.mono ?_
              rintro e w7 ⟨rfl, rfl⟩
              go_wp2_with fail
              go_roundw
              case rel => exact ⟨k + 1, l.drop m, false, some ⟨b1, o1 + m, none⟩, cap - m, by omega, by omega, by go_num, rfl, by rw [hd.out], hL.out.rest hml (.inr (.inl ⟨b1, o1, rfl, rfl⟩)), R7.out, hb6.out⟩
              case measure => simp [intOf]; omega
      · obtain rfl : k = 30 := by omega
        have E := hid (hb1.out.trans (hb.mono hb1.out.size))
        clear hb
        go_wp2
        go_ret
        exact ⟨rfl, E.out⟩
    · obtain rfl : k = n := by omega
      have E := hid (hb1.out.trans (hb.mono hb1.out.size))
      clear hb
      go_wp2
      go_ret
      exact ⟨rfl, E.out⟩
end Go.Proofs.Ytjlfpflgbanncaa
