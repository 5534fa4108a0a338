/-
  Package node: another node of octets.
-/
import Derived.Test.YtgnnikjpnmalmaaNodeReadLeaf
namespace Go.Proofs.Ytgnnikjpnmalmaa
open Go.RowKit
set_option linter.unusedVariables false
set_option linter.unusedSimpArgs false

/-- An In that has handed out so many octets of l0, or has failed. -/
def StI (l0 : List UInt8) (bad0 : Bool) (t : Nat) (b : Bool) (l : List UInt8) : Prop := (b = false ∧ bad0 = false ∧ t ≤ l0.length ∧ l = l0.drop t) ∨ (b = true ∧ (bad0 = true ∨ l0.length < t))
theorem StI.begin (l : List UInt8) (bad : Bool) : StI l bad 0 bad l := by
  cases bad
  · exact .inl ⟨rfl, rfl, Nat.zero_le _, rfl⟩
  · exact .inr ⟨rfl, .inl rfl⟩
theorem rs_st {l0 : List UInt8} {bad0 : Bool} {t : Nat} (size : Int) (m : Nat) (hm : min (max size 1) 6 = m) (q : Nat) (b : Bool) (l : List UInt8) (w : World) (R : RS w q l b) (S : StI l0 bad0 t b l) :
    Calls Try.prog 73 #[at' q, .int .i64 size] w fun e w' => ∃ (b' : Bool) (l' : List UInt8) (x : Nat), e = .returned (.int .i64 x) ∧ RS w' q l' b' ∧ Sole (fun k => k = q) w w' ∧ StI l0 bad0 (t + m) b' l' ∧ x < 256 ^ m ∧ (b' = false → x = numOf ((l0.drop t).take m)) := by
  have bd : ∀ (c : Bool), numOf (if c then [] else l.take m) < 256 ^ m := by
    intro c
    cases c with
    | true => exact Nat.pos_of_ne_zero (by simp [numOf])
    | false =>
      have := numOf_lt (l.take m)
      have hp : (256 : Nat) ^ (l.take m).length ≤ 256 ^ m := Nat.pow_le_pow_right (by omega) (by rw [List.length_take]; omega)
      simp only [Bool.false_eq_true, if_false]
      omega
  refine (rs_num size m hm q l b _ rfl w R).mono ?_
  rintro e w' ⟨he, R', S'⟩
  refine ⟨_, _, _, he, R', S', ?_, bd _, ?_⟩
  · rcases S with ⟨rfl, h1, h2, rfl⟩ | ⟨rfl, h⟩
    · by_cases h : (l0.drop t).length < m
      · rw [List.length_drop] at h
        exact .inr ⟨by simp; omega, .inr (by omega)⟩
      · have h' := h
        rw [List.length_drop] at h'
        refine .inl ⟨by simp; omega, h1, by omega, ?_⟩
        rw [decide_eq_false h]
        simp
    · exact .inr ⟨by simp, h.imp id (fun h => by omega)⟩
  · intro hb
    rcases S with ⟨rfl, h1, h2, rfl⟩ | ⟨rfl, h⟩
    · rw [hb]; simp
    · simp at hb
abbrev otval (x0 x1 x2 x3 y0 y1 y2 y3 : Int) : Value := .agg #[.bool false, .slice none 0 0, .int .i64 0, .int .i64 x0, .int .i64 x1, .int .i64 x2, .int .i64 x3, .int .i64 y0, .int .i64 y1, .int .i64 y2, .int .i64 y3]
abbrev otcells (x0 x1 x2 x3 y0 y1 y2 y3 : Int) : Array Value := #[.bool false, .slice none 0 0, .int .i64 0, .int .i64 x0, .int .i64 x1, .int .i64 x2, .int .i64 x3, .int .i64 y0, .int .i64 y1, .int .i64 y2, .int .i64 y3]
def OtherPost (q : Nat) (l : List UInt8) (bad : Bool) (w : World) (e : Ending) (w' : World) : Prop :=
  ∃ (x0 x1 x2 x3 y0 y1 y2 y3 : Nat) (b' : Bool) (l' : List UInt8), e = .returned (otval x0 x1 x2 x3 y0 y1 y2 y3) ∧ RS w' q l' b' ∧ Sole (fun k => k = q) w w' ∧ StI l bad 12 b' l' ∧
    (b' = false → x0 = numOf ((l.drop 0).take 1) ∧ x1 = numOf ((l.drop 1).take 1) ∧ x2 = numOf ((l.drop 2).take 1) ∧ x3 = numOf ((l.drop 3).take 1) ∧ y0 = numOf ((l.drop 4).take 2) ∧ y1 = numOf ((l.drop 6).take 2) ∧ y2 = numOf ((l.drop 8).take 2) ∧ y3 = numOf ((l.drop 10).take 2))
theorem StI.was {l0 : List UInt8} {bad0 b b' : Bool} {t t' : Nat} {l l' : List UInt8} (h : StI l0 bad0 t b l) (h' : StI l0 bad0 t' b' l') (ht : t ≤ t') (hb : b' = false) : b = false := by
  rcases h with ⟨h, _⟩ | ⟨_, h⟩
  · exact h
  · rcases h' with ⟨_, h1, h2, _⟩ | ⟨h1, _⟩
    · rcases h with h | h
      · rw [h1] at h; cases h
      · omega
    · rw [hb] at h1; cases h1

set_option maxRecDepth 100000 in
set_option maxHeartbeats 16000000 in
theorem readOther_any (q : Nat) (l : List UInt8) (bad : Bool) (w : World) (R : RS w q l bad) :
    Calls Try.prog 90 #[at' q] w (OtherPost q l bad w) := by
  obtain ⟨W0, hW0⟩ : ∃ W0, (w.alloc (.cells (otcells 0 0 0 0 0 0 0 0) 61)).alloc (.cells (otcells 0 0 0 0 0 0 0 0) 61) = W0 := ⟨_, rfl⟩
  have hb0 : Below w.heap.size w W0 := by rw [← hW0]; exact ((Below.refl _ _).alloc (Nat.le_refl _) _).alloc (by simp) _
  have BZ : Blk W0 w.heap.size (otcells 0 0 0 0 0 0 0 0) := by rw [← hW0]; exact (Blk.new w _ _).alloc _
  have BN : Blk W0 (w.heap.size + 1) (otcells 0 0 0 0 0 0 0 0) := by
    rw [← hW0]
    have := Blk.new (w.alloc (.cells (otcells 0 0 0 0 0 0 0 0) 61)) (otcells 0 0 0 0 0 0 0 0) 61
    rwa [World.size_alloc] at this
  have hqw := R.1.lt
  obtain ⟨z, hz⟩ : ∃ z, w.heap.size = z := ⟨_, rfl⟩
  have N0 := BN
  have Z0 := BZ
  have R0 := R.more hb0
  have S0 := Sole.made (S := fun k => k = q) hb0
  have T0 := StI.begin l bad
  rw [hz] at N0 Z0 hqw
  replace N0 := hid N0
  replace Z0 := hid Z0
  replace R0 := hid R0
  replace S0 := hid S0
  replace T0 := hid T0
  clear BZ BN hb0 R
  go_enter Try.func90, Try.ntmps90
  go_wp2_with fail
  have hzz := hid hz
  clear hW0 hz
  refine wp_loop_rounds 5 ?_
  rw [rounds_succ]
  have K1 := hid (rs_st 1 1 rfl q _ _ _ R0.out T0.out)
  go_wp2_with fail
  refine K1.out.mono ?_
  rintro e w1 ⟨b1, l1, x0, rfl, R, S, U1, hx1, hv1⟩
  have N := N0.out.sole S (fun h => by have h' : z + 1 = q := h; omega)
  have Z := Z0.out.sole S (fun h => by have h' : z = q := h; omega)
  have S9 : Sole (fun j => j = z + 1) w1 (w1.setCell ⟨z + 1, 3, none⟩ (.int .i64 x0)) := Sole.setCell _ _ rfl
  have N1 := hid (N.set 3 (.int .i64 x0) (by simp))
  have Z1 := hid (Z.sole S9 (fun h => by have h' : z = z + 1 := h; omega))
  have R1 := hid (R.kept S9 (fun k hk h => by have h' : k = z + 1 := h; omega))
  have S1 := hid ((S0.out.trans S).trans' S9 (fun k hk h => by have h' : k = z + 1 := h; have := hzz.out; omega))
  have T1 := hid U1
  have V1 := hid hv1
  have hc1 : Hid True := hid trivial
  clear R S U1 hv1 Z S9 K1 hx1
  obtain ⟨ln, kn, fn⟩ := N
  go_wp2_with fail
  clear ln kn fn
  rw [rounds_succ]
  have K2 := hid (rs_st 1 1 rfl q _ _ _ R1.out T1.out)
  go_wp2_with fail
  refine K2.out.mono ?_
  rintro e w2 ⟨b2, l2, x1, rfl, R, S, U2, hx2, hv2⟩
  have N := N1.out.sole S (fun h => by have h' : z + 1 = q := h; omega)
  have Z := Z1.out.sole S (fun h => by have h' : z = q := h; omega)
  have S9 : Sole (fun j => j = z + 1) w2 (w2.setCell ⟨z + 1, 4, none⟩ (.int .i64 x1)) := Sole.setCell _ _ rfl
  have N2 := hid (N.set 4 (.int .i64 x1) (by simp))
  have Z2 := hid (Z.sole S9 (fun h => by have h' : z = z + 1 := h; omega))
  have R2 := hid (R.kept S9 (fun k hk h => by have h' : k = z + 1 := h; omega))
  have S2 := hid ((S1.out.trans S).trans' S9 (fun k hk h => by have h' : k = z + 1 := h; have := hzz.out; omega))
  have T2 := hid U2
  have V2 := hid hv2
  have hc2 : Hid True := hid trivial
  clear R S U2 hv2 Z S9 K2 hx2
  obtain ⟨ln, kn, fn⟩ := N
  go_wp2_with fail
  clear ln kn fn
  rw [rounds_succ]
  have K3 := hid (rs_st 1 1 rfl q _ _ _ R2.out T2.out)
  go_wp2_with fail
  refine K3.out.mono ?_
  rintro e w3 ⟨b3, l3, x2, rfl, R, S, U3, hx3, hv3⟩
  have N := N2.out.sole S (fun h => by have h' : z + 1 = q := h; omega)
  have Z := Z2.out.sole S (fun h => by have h' : z = q := h; omega)
  have S9 : Sole (fun j => j = z + 1) w3 (w3.setCell ⟨z + 1, 5, none⟩ (.int .i64 x2)) := Sole.setCell _ _ rfl
  have N3 := hid (N.set 5 (.int .i64 x2) (by simp))
  have Z3 := hid (Z.sole S9 (fun h => by have h' : z = z + 1 := h; omega))
  have R3 := hid (R.kept S9 (fun k hk h => by have h' : k = z + 1 := h; omega))
  have S3 := hid ((S2.out.trans S).trans' S9 (fun k hk h => by have h' : k = z + 1 := h; have := hzz.out; omega))
  have T3 := hid U3
  have V3 := hid hv3
  have hc3 : Hid True := hid trivial
  clear R S U3 hv3 Z S9 K3 hx3
  obtain ⟨ln, kn, fn⟩ := N
  go_wp2_with fail
  clear ln kn fn
  rw [rounds_succ]
  have K4 := hid (rs_st 1 1 rfl q _ _ _ R3.out T3.out)
  go_wp2_with fail
  refine K4.out.mono ?_
  rintro e w4 ⟨b4, l4, x3, rfl, R, S, U4, hx4, hv4⟩
  have N := N3.out.sole S (fun h => by have h' : z + 1 = q := h; omega)
  have Z := Z3.out.sole S (fun h => by have h' : z = q := h; omega)
  have S9 : Sole (fun j => j = z + 1) w4 (w4.setCell ⟨z + 1, 6, none⟩ (.int .i64 x3)) := Sole.setCell _ _ rfl
  have N4 := hid (N.set 6 (.int .i64 x3) (by simp))
  have Z4 := hid (Z.sole S9 (fun h => by have h' : z = z + 1 := h; omega))
  have R4 := hid (R.kept S9 (fun k hk h => by have h' : k = z + 1 := h; omega))
  have S4 := hid ((S3.out.trans S).trans' S9 (fun k hk h => by have h' : k = z + 1 := h; have := hzz.out; omega))
  have T4 := hid U4
  have V4 := hid hv4
  have hc4 : Hid True := hid trivial
  clear R S U4 hv4 Z S9 K4 hx4
  obtain ⟨ln, kn, fn⟩ := N
  go_wp2_with fail
  clear ln kn fn
  rw [rounds_succ]
  go_wp2_with fail
  refine wp_loop_rounds 5 ?_
  rw [rounds_succ]
  have K5 := hid (rs_st 2 2 rfl q _ _ _ R4.out T4.out)
  go_wp2_with fail
  refine K5.out.mono ?_
  rintro e w5 ⟨b5, l5, x4, rfl, R, S, U5, hx5, hv5⟩
  have N := N4.out.sole S (fun h => by have h' : z + 1 = q := h; omega)
  have Z := Z4.out.sole S (fun h => by have h' : z = q := h; omega)
  have S9 : Sole (fun j => j = z + 1) w5 (w5.setCell ⟨z + 1, 7, none⟩ (.int .i64 x4)) := Sole.setCell _ _ rfl
  have N5 := hid (N.set 7 (.int .i64 x4) (by simp))
  have Z5 := hid (Z.sole S9 (fun h => by have h' : z = z + 1 := h; omega))
  have R5 := hid (R.kept S9 (fun k hk h => by have h' : k = z + 1 := h; omega))
  have S5 := hid ((S4.out.trans S).trans' S9 (fun k hk h => by have h' : k = z + 1 := h; have := hzz.out; omega))
  have T5 := hid U5
  have V5 := hid hv5
  have hc5 : Hid True := hid trivial
  clear R S U5 hv5 Z S9 K5 hx5
  obtain ⟨ln, kn, fn⟩ := N
  go_wp2_with fail
  clear ln kn fn
  rw [rounds_succ]
  have K6 := hid (rs_st 2 2 rfl q _ _ _ R5.out T5.out)
  go_wp2_with fail
  refine K6.out.mono ?_
  rintro e w6 ⟨b6, l6, x5, rfl, R, S, U6, hx6, hv6⟩
  have N := N5.out.sole S (fun h => by have h' : z + 1 = q := h; omega)
  have Z := Z5.out.sole S (fun h => by have h' : z = q := h; omega)
  have S9 : Sole (fun j => j = z + 1) w6 (w6.setCell ⟨z + 1, 8, none⟩ (.int .i64 x5)) := Sole.setCell _ _ rfl
  have N6 := hid (N.set 8 (.int .i64 x5) (by simp))
  have Z6 := hid (Z.sole S9 (fun h => by have h' : z = z + 1 := h; omega))
  have R6 := hid (R.kept S9 (fun k hk h => by have h' : k = z + 1 := h; omega))
  have S6 := hid ((S5.out.trans S).trans' S9 (fun k hk h => by have h' : k = z + 1 := h; have := hzz.out; omega))
  have T6 := hid U6
  have V6 := hid hv6
  have hc6 : Hid True := hid trivial
  clear R S U6 hv6 Z S9 K6 hx6
  obtain ⟨ln, kn, fn⟩ := N
  go_wp2_with fail
  clear ln kn fn
  rw [rounds_succ]
  have K7 := hid (rs_st 2 2 rfl q _ _ _ R6.out T6.out)
  go_wp2_with fail
  refine K7.out.mono ?_
  rintro e w7 ⟨b7, l7, x6, rfl, R, S, U7, hx7, hv7⟩
  have N := N6.out.sole S (fun h => by have h' : z + 1 = q := h; omega)
  have Z := Z6.out.sole S (fun h => by have h' : z = q := h; omega)
  have S9 : Sole (fun j => j = z + 1) w7 (w7.setCell ⟨z + 1, 9, none⟩ (.int .i64 x6)) := Sole.setCell _ _ rfl
  have N7 := hid (N.set 9 (.int .i64 x6) (by simp))
  have Z7 := hid (Z.sole S9 (fun h => by have h' : z = z + 1 := h; omega))
  have R7 := hid (R.kept S9 (fun k hk h => by have h' : k = z + 1 := h; omega))
  have S7 := hid ((S6.out.trans S).trans' S9 (fun k hk h => by have h' : k = z + 1 := h; have := hzz.out; omega))
  have T7 := hid U7
  have V7 := hid hv7
  have hc7 : Hid True := hid trivial
  clear R S U7 hv7 Z S9 K7 hx7
  obtain ⟨ln, kn, fn⟩ := N
  go_wp2_with fail
  clear ln kn fn
  rw [rounds_succ]
  have K8 := hid (rs_st 2 2 rfl q _ _ _ R7.out T7.out)
  go_wp2_with fail
  refine K8.out.mono ?_
  rintro e w8 ⟨b8, l8, x7, rfl, R, S, U8, hx8, hv8⟩
  have N := N7.out.sole S (fun h => by have h' : z + 1 = q := h; omega)
  have Z := Z7.out.sole S (fun h => by have h' : z = q := h; omega)
  have S9 : Sole (fun j => j = z + 1) w8 (w8.setCell ⟨z + 1, 10, none⟩ (.int .i64 x7)) := Sole.setCell _ _ rfl
  have N8 := hid (N.set 10 (.int .i64 x7) (by simp))
  have Z8 := hid (Z.sole S9 (fun h => by have h' : z = z + 1 := h; omega))
  have R8 := hid (R.kept S9 (fun k hk h => by have h' : k = z + 1 := h; omega))
  have S8 := hid ((S7.out.trans S).trans' S9 (fun k hk h => by have h' : k = z + 1 := h; have := hzz.out; omega))
  have T8 := hid U8
  have V8 := hid hv8
  have hc8 : Hid True := hid trivial
  clear R S U8 hv8 Z S9 K8 hx8
  obtain ⟨ln, kn, fn⟩ := N
  go_wp2_with fail
  clear ln kn fn
  rw [rounds_succ]
  have NF := show Blk _ (z + 1) (otcells x0 x1 x2 x3 x4 x5 x6 x7) from N8.out
  obtain ⟨ln, kn, fn⟩ := NF
  obtain ⟨lz, kz, fz⟩ := Z8.out
  have B2 := Blk.fill (otcells x0 x1 x2 x3 x4 x5 x6 x7).toList 0 Z8.out (by simp)
  have R9 := hid (R8.out.kept (sole_fill (b := z) (otcells x0 x1 x2 x3 x4 x5 x6 x7).toList 0 _) (fun k hk h => by have h' : k = z := h; omega))
  have S9 := hid (S8.out.trans' (T := fun k => k = z) (sole_fill (b := z) (otcells x0 x1 x2 x3 x4 x5 x6 x7).toList 0 _) (fun k hk h => by have h' : k = z := h; have := hzz.out; omega))
  have FIN : Hid (b8 = false → x0 = numOf ((l.drop 0).take 1) ∧ x1 = numOf ((l.drop 1).take 1) ∧ x2 = numOf ((l.drop 2).take 1) ∧ x3 = numOf ((l.drop 3).take 1) ∧ x4 = numOf ((l.drop 4).take 2) ∧ x5 = numOf ((l.drop 6).take 2) ∧ x6 = numOf ((l.drop 8).take 2) ∧ x7 = numOf ((l.drop 10).take 2)) := hid (fun hb =>
    ⟨V1.out (T1.out.was T8.out (by omega) hb), V2.out (T2.out.was T8.out (by omega) hb), V3.out (T3.out.was T8.out (by omega) hb), V4.out (T4.out.was T8.out (by omega) hb), V5.out (T5.out.was T8.out (by omega) hb), V6.out (T6.out.was T8.out (by omega) hb), V7.out (T7.out.was T8.out (by omega) hb), V8.out hb⟩)
  clear N1 N2 N3 N4 N5 N6 N7 Z1 Z2 Z3 Z4 Z5 Z6 Z7 R1 R2 R3 R4 R5 R6 R7 S1 S2 S3 S4 S5 S6 S7 T1 T2 T3 T4 T5 T6 T7 V1 V2 V3 V4 V5 V6 V7 V8
  go_wp2_with fail
  show bodyPost _ _ _ _ _ (setAll _ z 0 (otcells x0 x1 x2 x3 x4 x5 x6 x7).toList)
  generalize setAll _ z 0 (otcells x0 x1 x2 x3 x4 x5 x6 x7).toList = w9 at *
  obtain ⟨l7', k7', f7'⟩ := B2
  refine bodyPost_ret (v := otval x0 x1 x2 x3 x4 x5 x6 x7) (by simp [results, Try.results90, go_sem, k7', fillC]) rfl ?_
  exact ⟨x0, x1, x2, x3, x4, x5, x6, x7, b8, l8, rfl, R9.out, S9.out, T8.out, FIN.out⟩
end Go.Proofs.Ytgnnikjpnmalmaa
