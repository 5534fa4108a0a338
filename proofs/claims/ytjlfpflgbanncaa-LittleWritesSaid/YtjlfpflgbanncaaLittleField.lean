/-
  Layer 1's fields: as they come in; of which kind one is.
-/
import Derived.Test.YtjlfpflgbanncaaLittleInNum
import Derived.Test.YtjlfpflgbanncaaLittlePads
import Derived.Test.YtjlfpflgbanncaaRefNum
import Derived.Test.YtjlfpflgbanncaaSlices
namespace Go.Proofs.Ytjlfpflgbanncaa
open Go.ChangeShapes Go.WideShapes Go.ChangeAt Go.RowKit Go.Joins Go.Deep
set_option linter.unusedVariables false
set_option linter.unusedSimpArgs false

structure Fd where
  k : Int
  n : Int
  z : Int
  s : ByteArray
def Fd.ok (p : Fd) : Prop := -9223372036854775808 ≤ p.k ∧ p.k ≤ 9223372036854775807 ∧ -9223372036854775808 ≤ p.n ∧ p.n ≤ 9223372036854775807 ∧ -9223372036854775808 ≤ p.z ∧ p.z ≤ 9223372036854775807 ∧ p.s.size ≤ maxLen
def fcells (p : Fd) : List Value := [.int .i64 p.k, .int .i64 p.n, .int .i64 p.z, .string p.s]

set_option maxRecDepth 100000 in
/-- A slice of fields that comes in. -/
theorem fds_of {H : Type} {enc : TypeId × Value → H} {W : World} {b0 : Nat} {v : Value} {d : DataW H} {p : List MemPlace} (hv : Value.okWide Try.prog W .any b0 22 v) (h : DataW.Trod enc Try.prog W 0 (fun _ => true) true 22 v d p) :
    ∃ (n : Nat) (f : Nat → Fd), (∀ i, i < n → (f i).ok) ∧ Sl W 4 v n (fun i => fcells (f i)) := by
  obtain ⟨n, F, ⟨p, cap, hv, h1, h2, h3⟩, hF⟩ := sl_of Try.underlying22 Try.underlying29 (by kernel_rfl) (by kernel_rfl) (by decide) hv h
  have each : ∀ i, i < n → ∃ q : Fd, q.ok ∧ [F i 0, F i 1, F i 2, F i 3] = fcells q := by
    intro i hi
    obtain ⟨m0, y0, t0⟩ := hF i hi 0 _ rfl
    obtain ⟨m1, y1, t1⟩ := hF i hi 1 _ rfl
    obtain ⟨m2, y2, t2⟩ := hF i hi 2 _ rfl
    obtain ⟨m3, y3, t3⟩ := hF i hi 3 _ rfl
    obtain ⟨a, e0, _, w0⟩ := DataW.trod_int Try.underlying3 t0
    obtain ⟨b, e1, _, w1⟩ := DataW.trod_int Try.underlying3 t1
    obtain ⟨c, e2, _, w2⟩ := DataW.trod_int Try.underlying3 t2
    obtain ⟨s, e3, _, w3⟩ := DataW.trod_string Try.underlying9 t3
    simp at e0 e1 e2 e3
    have g0 := bounds_i64 w0
    have g1 := bounds_i64 w1
    have g2 := bounds_i64 w2
    exact ⟨⟨a, b, c, s⟩, ⟨g0.1, g0.2, g1.1, g1.2, g2.1, g2.2, w3⟩, by rw [e0, e1, e2, e3]; rfl⟩
  have hg : ∃ g : Nat → Fd, ∀ i, i < n → (g i).ok ∧ [F i 0, F i 1, F i 2, F i 3] = fcells (g i) := by
    haveI : Nonempty Fd := ⟨⟨0, 0, 0, ByteArray.empty⟩⟩
    exact ⟨fun i => Classical.epsilon fun q => q.ok ∧ [F i 0, F i 1, F i 2, F i 3] = fcells q, fun i hi => Classical.epsilon_spec (each i hi)⟩
  obtain ⟨g, hg⟩ := hg
  refine ⟨n, g, fun i hi => (hg i hi).1, p, cap, hv, h1, h2, h3.imp id fun ⟨b, o, e, hlt, hc⟩ => ⟨b, o, e, hlt, fun i hi j v hv => ?_⟩⟩
  rw [← (hg i hi).2] at hv
  match j, hv with
  | 0, hv => simp at hv; subst hv; exact hc i hi 0 (by decide)
  | 1, hv => simp at hv; subst hv; exact hc i hi 1 (by decide)
  | 2, hv => simp at hv; subst hv; exact hc i hi 2 (by decide)
  | 3, hv => simp at hv; subst hv; exact hc i hi 3 (by decide)

/-- Of which kind. -/
def kindI (k : Int) : Int := (k.tmod 3 + 3) % 3
theorem kind_bd (k : Int) : 0 ≤ kindI k ∧ kindI k ≤ 2 := by unfold kindI; omega
theorem kind_any (f : Fd) (w : World) : Calls Try.prog 17 #[.agg #[.int .i64 f.k, .int .i64 f.n, .int .i64 f.z, .string f.s]] w fun e w' => e = .returned (.int .i64 (kindI f.k)) ∧ Below w.heap.size w w' := by
  have bd : -3 < f.k.tmod 3 ∧ f.k.tmod 3 < 3 := by
    have h1 := Int.tmod_lt_of_pos f.k (show (0 : Int) < 3 by decide)
    have h2 := Int.lt_tmod_of_pos f.k (show (0 : Int) < 3 by decide)
    omega
  have hk : kindI f.k = (f.k.tmod 3 + 3) % 3 := rfl
  generalize kindI f.k = z at *
  generalize hq : f.k.tmod 3 = q at *
  generalize f.k = k at *
  generalize f.n = n at *
  generalize f.z = sz at *
  generalize f.s = s at *
  replace hk := hid hk
  go_enter Try.func17, Try.ntmps17
  go_wp2
  go_ret
  exact ⟨by rw [hk.out]; rfl, (Below.refl _ _).alloc (Nat.le_refl _) _⟩

/-- What is read: of what is left, or of nothing. -/
def RS (w : World) (p : Nat) (l : List UInt8) (bad : Bool) : Prop := InS w p l (if bad then 16 else 0) ∧ (bad = true → l = [])
theorem RS.more {w w' : World} {p : Nat} {l : List UInt8} {bad : Bool} (h : RS w p l bad) (hb : Below w.heap.size w w') : RS w' p l bad := ⟨h.1.more hb, h.2⟩
theorem rs_num (size : Int) (n : Nat) (hn : min (max size 1) 6 = n) (p : Nat) (l : List UInt8) (bad bad' : Bool) (hb : bad' = (bad || decide (l.length < n))) (w : World) (R : RS w p l bad) :
    Calls Try.prog 24 #[at' p, .int .i64 size] w fun e w' => e = .returned (.int .i64 (numOf (if bad' then [] else l.take n))) ∧ RS w' p (if bad' then [] else l.drop n) bad' ∧ Sole (fun k => k = p) w w' := by
  obtain ⟨I, hl⟩ := R
  cases bad with
  | true =>
    obtain rfl : bad' = true := by rw [hb]; rfl
    obtain rfl := hl rfl
    refine (inNum_err size p [] 16 w I rfl).mono ?_
    rintro e w' ⟨he, rfl⟩
    exact ⟨he, ⟨I, fun _ => rfl⟩, Sole.refl _ _⟩
  | false =>
    by_cases h : l.length < n
    · obtain rfl : bad' = true := by rw [hb, decide_eq_true h]; rfl
      exact (inNum_short size p l w I (by omega)).mono fun e w' ⟨he, I', S⟩ => ⟨he, ⟨I', fun _ => rfl⟩, S⟩
    · obtain rfl : bad' = false := by rw [hb, decide_eq_false h]; rfl
      exact (inNum_ok size n hn p l w I (by omega)).mono fun e w' ⟨he, I', S⟩ => ⟨he, ⟨I', fun h => by cases h⟩, S⟩
theorem rs_text (size : Int) (n : Nat) (hn : max size 0 = n) (p : Nat) (l : List UInt8) (bad bad' : Bool) (hb : bad' = (bad || decide (l.length < n))) (w : World) (R : RS w p l bad) :
    Calls Try.prog 26 #[at' p, .int .i64 size] w fun e w' => e = .returned (.string (textOf (if bad' then [] else l.take n))) ∧ RS w' p (if bad' then [] else l.drop n) bad' ∧ Sole (fun k => k = p) w w' := by
  obtain ⟨I, hl⟩ := R
  cases bad with
  | true =>
    obtain rfl : bad' = true := by rw [hb]; rfl
    obtain rfl := hl rfl
    refine (inText_err size p [] 16 w I rfl).mono ?_
    rintro e w' ⟨he, rfl⟩
    exact ⟨he, ⟨I, fun _ => rfl⟩, Sole.refl _ _⟩
  | false =>
    by_cases h : l.length < n
    · obtain rfl : bad' = true := by rw [hb, decide_eq_true h]; rfl
      exact (inText_short size p l w I (by omega)).mono fun e w' ⟨he, I', S⟩ => ⟨he, ⟨I', fun _ => rfl⟩, S⟩
    · obtain rfl : bad' = false := by rw [hb, decide_eq_false h]; rfl
      have e : size.toNat = n := by omega
      refine (inText_ok size p l w I (by omega)).mono fun e' w' ⟨he, I', S⟩ => ?_
      rw [e] at he I'
      exact ⟨he, ⟨I', fun h => by cases h⟩, S⟩
end Go.Proofs.Ytjlfpflgbanncaa
