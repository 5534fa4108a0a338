/-
  Package point: Get. The walk.
-/
import Derived.Test.YtpgibngohbohdaaPointGet
namespace Go.Proofs.Ytpgibngohbohdaa
open Go.RowKit
set_option linter.unusedVariables false
set_option linter.unusedSimpArgs false

theorem sole_fill {b : Nat} : ∀ (vs : List Value) (o : Nat) (w : World), Sole (fun k => k = b) w (setAll w b o vs)
  | [], _, _ => Sole.refl _ _
  | v :: vs, o, w => (Sole.setCell (S := fun k => k = b) w v rfl).trans (sole_fill vs (o + 1) _)
theorem RS.kept {S : Nat → Prop} {w w' : World} {q : Nat} {l : List UInt8} {bad : Bool} (h : RS w q l bad) (hs : Sole S w w') (hn : ∀ k, k ≤ q → ¬ S k) : RS w' q l bad := ⟨h.1.kept hs hn, h.2⟩

def GetPost (q : Nat) (l : List UInt8) (bad : Bool) (w : World) (e : Ending) (w' : World) : Prop :=
  ∃ P ok l' bad', e = .returned (.tuple #[pval P, .bool ok]) ∧ GetS l bad P ok l' bad' ∧ RS w' q l' bad' ∧ Sole (fun k => k = q) w w'
theorem pointOf_ok (l : List UInt8) (h : (pointOf l).d.size ≤ maxLen) : (pointOf l).ok := by
  have b : ∀ m : List UInt8, numOf (m.take 4) < 256 ^ 4 := fun m => by
    have h1 := numOf_lt (m.take 4)
    have hp : (256 : Nat) ^ (m.take 4).length ≤ 256 ^ 4 := Nat.pow_le_pow_right (by omega) (by rw [List.length_take]; omega)
    omega
  have b1 := b l
  have b2 := b (l.drop 4)
  have b3 := b (l.drop 8)
  exact ⟨by show (-9223372036854775808 : Int) ≤ (numOf (l.take 4) : Int); omega, by show (numOf (l.take 4) : Int) ≤ _; omega, by show (0 : Int) ≤ (numOf ((l.drop 4).take 4) : Int); omega, by show (numOf ((l.drop 4).take 4) : Int) ≤ _; omega, by show (0 : Int) ≤ (numOf ((l.drop 8).take 4) : Int); omega, by show (numOf ((l.drop 8).take 4) : Int) ≤ _; omega, h⟩

set_option maxRecDepth 100000 in
set_option maxHeartbeats 4000000 in
theorem point_get (q : Nat) (l : List UInt8) (bad : Bool) (w : World) (R : RS w q l bad) :
    Calls Try.prog 132 #[at' q] w (GetPost q l bad w) := by
  obtain ⟨b1, b2, b3, b4, b5, l1, l2, l3, l4, l5, v1, v2, v3, v4, s, ⟨hb1, hl1, hv1⟩, ⟨hb2, hl2, hv2⟩, ⟨hb3, hl3, hv3⟩, ⟨hb4, hl4, hv4⟩, ⟨hb5, hl5, hs⟩, ⟨d1, d2, d3, d4⟩, fin⟩ := get_states l bad
  have K1 := fun w R => rs_num 4 4 rfl q l bad b1 hb1 w R
  have K2 := fun w R => rs_num 4 4 rfl q l1 b1 b2 hb2 w R
  have K3 := fun w R => rs_num 4 4 rfl q l2 b2 b3 hb3 w R
  have K4 := fun w R => rs_num 1 1 rfl q l3 b3 b4 hb4 w R
  have K5 := fun w R => rs_text (v4 : Int) v4 (by omega) q l4 b4 b5 hb5 w R
  simp only [← hl1, ← hv1] at K1
  simp only [← hl2, ← hv2] at K2
  simp only [← hl3, ← hv3] at K3
  simp only [← hl4, ← hv4] at K4
  simp only [← hl5, ← hs] at K5
  replace K1 := hid K1
  replace K2 := hid K2
  replace K3 := hid K3
  replace K4 := hid K4
  replace K5 := hid K5
  have e1 : 0 ≤ (v1 : Int) ∧ (v1 : Int) ≤ 4294967295 := by omega
  have e2 : 0 ≤ (v2 : Int) ∧ (v2 : Int) ≤ 4294967295 := by omega
  have e3 : 0 ≤ (v3 : Int) ∧ (v3 : Int) ≤ 4294967295 := by omega
  have e4 : 0 ≤ (v4 : Int) ∧ (v4 : Int) ≤ 255 := by omega
  have hsl : s.length ≤ 255 := by
    rw [hs]
    cases b5 with
    | true => simp
    | false => simp only [Bool.false_eq_true, if_false, List.length_take]; omega
  have hP : (⟨v1, v2, v3, textOf s⟩ : Pt).ok := ⟨by show (-9223372036854775808 : Int) ≤ (v1 : Int); omega, by show (v1 : Int) ≤ 9223372036854775807; omega, e2.1, e2.2, e3.1, e3.2, by
    show (textOf s).size ≤ maxLen
    rw [show (textOf s).size = s.length from by simp [ByteArray.size]]
    unfold maxLen; omega⟩
  have KC := hid (check_any ⟨v1, v2, v3, textOf s⟩ hP)
  have hq := R.1.lt
  replace R := hid R
  replace fin := hid fin
  clear hb1 hl1 hv1 hb2 hl2 hv2 hb3 hl3 hv3 hb4 hl4 hv4 hb5 hl5 hs d1 d2 d3 d4 hP hsl
  generalize textOf s = t at *
  go_enter Try.func132, Try.ntmps132
  go_wp2_with fail
  have hbA : Below w.heap.size w (w.alloc (.cells #[.int .i64 0, .int .u32 0, .int .u32 0, .string ByteArray.empty] 75)) := (Below.refl _ _).alloc (Nat.le_refl _) _
  have BA := Blk.new w #[.int .i64 0, .int .u32 0, .int .u32 0, .string ByteArray.empty] 75
  refine (K1.out _ (R.out.more hbA)).mono ?_
  rintro e w1 ⟨rfl, R1, S1⟩
  obtain ⟨g0, hg0⟩ : ∃ g0, w.heap.size = g0 := ⟨_, rfl⟩
  rw [hg0] at BA hq
  simp only [hg0]
  have B1 := BA.sole S1 (by omega)
  have T1 := hid ((Sole.made (S := fun k => k = q) hbA).trans S1)
  clear hbA BA S1 R K1
  replace hg0 := hid hg0
  go_wp2_with fail
  refine (K2.out _ R1).mono ?_
  rintro e w2 ⟨rfl, R2, S2⟩
  have B2 := B1.sole S2 (by omega)
  have T2 := hid (T1.out.trans S2)
  clear B1 S2 R1 K2 T1
  go_wp2_with fail
  refine (K3.out _ R2).mono ?_
  rintro e w3 ⟨rfl, R3, S3⟩
  have B3 := B2.sole S3 (by omega)
  have T3 := hid (T2.out.trans S3)
  clear B2 S3 R2 K3 T2
  go_wp2_with fail
  have hbB : Below w3.heap.size w3 (w3.alloc (.cells #[.int .i64 v1, .int .u32 v2, .int .u32 v3, .string ByteArray.empty] 75)) := (Below.refl _ _).alloc (Nat.le_refl _) _
  have C3 := Blk.new w3 #[.int .i64 v1, .int .u32 v2, .int .u32 v3, .string ByteArray.empty] 75
  refine (K4.out _ (R3.more hbB)).mono ?_
  rintro e w4 ⟨rfl, R4, S4⟩
  have hq3 := R3.1.lt
  have hg3 : g0 < w3.heap.size := B3.lt
  obtain ⟨g4, hg4⟩ : ∃ g4, w3.heap.size = g4 := ⟨_, rfl⟩
  rw [hg4] at C3 hq3 hg3
  simp only [hg4]
  have B4 := (B3.more hbB).sole S4 (by omega)
  have C4 := C3.sole S4 (by omega)
  have T4 := hid ((T3.out.trans (Sole.made hbB)).trans S4)
  clear hbB C3 S4 R3 K4 T3 B3
  replace hg4 := hid hg4
  -- @@
  go_wp2_with fail
  refine (K5.out _ R4).mono ?_
  rintro e w5 ⟨rfl, R5, S5⟩
  have B5 := B4.sole S5 (by omega)
  have C5 := C4.sole S5 (by omega)
  have T5 := hid (T4.out.trans S5)
  clear S5 R4 K5 T4 B4 C4
  have B6 := B5.other ⟨g4, 3, none⟩ (by show g4 ≠ g0; omega) (.string t)
  have C6 := C5.set 3 (.string t) (by simp)
  have S6 : Sole (fun k => k = g4) w5 (w5.setCell ⟨g4, 3, none⟩ (.string t)) := Sole.setCell _ _ rfl
  have R6 : RS (w5.setCell ⟨g4, 3, none⟩ (.string t)) q l5 b5 := ⟨R5.1.kept S6 (fun k hk h => by omega), R5.2⟩
  have hw0 : Hid (w.heap.size ≤ g4) := hid (by rw [hg0.out]; omega)
  have T6 := hid (T5.out.trans' S6 (fun k hk h => by have := hw0.out; omega))
  replace B5 := hid B5
  obtain ⟨lx, kx, fx⟩ := C5
  replace C6 := hid C6
  replace B6 := hid B6
  have KE := hid (err_any q l5 _ _ R6.1)
  replace R6 := hid R6
  clear R5 S6
  -- @@
  go_wp2_with fail
  refine KE.out.mono ?_
  rintro e w6 ⟨rfl, hw6⟩
  rw [← hw6] at B6 C6 R6 T6
  clear hw6
  have hg0w : Hid (w.heap.size ≤ g0) := hid (by rw [hg0.out]; exact Nat.le_refl _)
  have HB6 := B6
  obtain ⟨l6, k6, f6⟩ := B6.out
  rcases fin.out with ⟨rfl, hbl⟩ | ⟨rfl, rfl, hlen, hl5, hp⟩
  · simp only [if_true]
    replace hbl := hid hbl
    have hl5 : Hid (l5 = []) := hid (R6.out.2 rfl)
    go_wp2_with fail
    have B7 := Blk.fill [.int .i64 0, .int .u32 0, .int .u32 0, .string ByteArray.empty] 0 HB6.out (by simp)
    have S7 := sole_fill (b := g0) [.int .i64 0, .int .u32 0, .int .u32 0, .string ByteArray.empty] 0 w6
    have R7 := R6.out.kept S7 (fun k hk h => by omega)
    show bodyPost _ _ _ _ _ (setAll w6 g0 0 [.int .i64 0, .int .u32 0, .int .u32 0, .string ByteArray.empty])
    generalize setAll w6 g0 0 _ = w7 at *
    obtain ⟨l7, k7, f7⟩ := B7
    refine bodyPost_ret (v := .tuple #[pval pt0, .bool false]) (by simp [results, Try.results132, go_sem, k7, fillC]) rfl ?_
    exact ⟨pt0, false, l5, true, rfl, .inr ⟨hbl.out, rfl, rfl, rfl, hl5.out⟩, R7, T6.out.trans' S7 fun k hk h => by have := hg0w.out; omega⟩
  · simp only [Bool.false_eq_true, if_false]
    obtain ⟨l8, k8, f8⟩ := C6.out
    replace hp := hid hp
    replace hl5 := hid hl5
    replace hlen := hid hlen
    have hlt64 := hid (show True from trivial)
    by_cases hm : checkC ⟨v1, v2, v3, t⟩ = 0
    · rw [hm] at KC
      have may := hid ((check_may _).1 hm)
      clear hm
      go_wp2_with fail
      refine (KC.out _).mono ?_
      rintro e w8 ⟨rfl, hb8⟩
      have B8 := HB6.out.more hb8
      have C8 := C6.out.more hb8
      have R8 := hid (R6.out.more hb8)
      have T8 := hid (T6.out.trans (Sole.made hb8))
      clear hb8 l6 k6 f6 l8 k8 f8
      have HB8 := hid B8
      obtain ⟨l6, k6, f6⟩ := B8
      obtain ⟨l8, k8, f8⟩ := C8
      go_wp2_with fail
      have B9 := Blk.fill [.int .i64 v1, .int .u32 v2, .int .u32 v3, .string t] 0 HB8.out (by simp)
      have S9 := sole_fill (b := g0) [.int .i64 v1, .int .u32 v2, .int .u32 v3, .string t] 0 w8
      have R9 := R8.out.kept S9 (fun k hk h => by omega)
      show bodyPost _ _ _ _ _ (setAll w8 g0 0 [.int .i64 v1, .int .u32 v2, .int .u32 v3, .string t])
      generalize setAll w8 g0 0 _ = w9 at *
      obtain ⟨l9, k9, f9⟩ := B9
      refine bodyPost_ret (v := .tuple #[pval ⟨v1, v2, v3, t⟩, .bool true]) (by simp [results, Try.results132, go_sem, k9, fillC]) rfl ?_
      exact ⟨⟨v1, v2, v3, t⟩, true, l5, false, rfl, .inl ⟨rfl, hlen.out, rfl, hl5.out, .inl ⟨by rw [hp.out]; exact may.out, hp.out.symm, rfl⟩⟩, R9, T8.out.trans' S9 fun k hk h => by have := hg0w.out; omega⟩
    · have may := hid (fun h => hm ((check_may ⟨v1, v2, v3, t⟩).2 h))
      have hm2 : (checkC ⟨v1, v2, v3, t⟩ != 0) = true := by simpa using hm
      clear hm
      generalize checkC ⟨v1, v2, v3, t⟩ = cc at *
      go_wp2_with fail
      refine (KC.out _).mono ?_
      rintro e w8 ⟨rfl, hb8⟩
      have B8 := HB6.out.more hb8
      have C8 := C6.out.more hb8
      have R8 := hid (R6.out.more hb8)
      have T8 := hid (T6.out.trans (Sole.made hb8))
      clear hb8 l6 k6 f6 l8 k8 f8
      have HB8 := hid B8
      obtain ⟨l6, k6, f6⟩ := B8
      obtain ⟨l8, k8, f8⟩ := C8
      go_wp2_with fail
      have B9 := Blk.fill [.int .i64 0, .int .u32 0, .int .u32 0, .string ByteArray.empty] 0 HB8.out (by simp)
      have S9 := sole_fill (b := g0) [.int .i64 0, .int .u32 0, .int .u32 0, .string ByteArray.empty] 0 w8
      have R9 := R8.out.kept S9 (fun k hk h => by omega)
      show bodyPost _ _ _ _ _ (setAll w8 g0 0 [.int .i64 0, .int .u32 0, .int .u32 0, .string ByteArray.empty])
      generalize setAll w8 g0 0 _ = w9 at *
      obtain ⟨l9, k9, f9⟩ := B9
      refine bodyPost_ret (v := .tuple #[pval pt0, .bool false]) (by simp [results, Try.results132, go_sem, k9, fillC]) rfl ?_
      exact ⟨pt0, false, l5, false, rfl, .inl ⟨rfl, hlen.out, rfl, hl5.out, .inr ⟨by rw [hp.out]; exact may.out, rfl, rfl⟩⟩, R9, T8.out.trans' S9 fun k hk h => by have := hg0w.out; omega⟩
end Go.Proofs.Ytpgibngohbohdaa
