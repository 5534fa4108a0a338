/-
  Package little: Num and Text of an In; Open, Left, Err.
-/
import Derived.Test.YtpgibngohbohdaaLittleIn
namespace Go.Proofs.Ytpgibngohbohdaa
open Go.RowKit
set_option linter.unusedVariables false
set_option linter.unusedSimpArgs false

theorem left_any (p : Nat) (l : List UInt8) (er : Int) (w : World) (I : InS w p l er) : Calls Try.prog 110 #[at' p] w fun e w' => e = .returned (.int .i64 l.length) ∧ w' = w := by
  obtain ⟨a, cap, B, L⟩ := I
  clear L
  obtain ⟨l0, k0, f0⟩ := B
  go_enter Try.func110, Try.ntmps110
  go_wp2
  go_ret
  exact ⟨by simp, rfl⟩
theorem err_any (p : Nat) (l : List UInt8) (er : Int) (w : World) (I : InS w p l er) : Calls Try.prog 111 #[at' p] w fun e w' => e = .returned (.int .i64 er) ∧ w' = w := by
  obtain ⟨a, cap, B, L⟩ := I
  clear L
  obtain ⟨l0, k0, f0⟩ := B
  go_enter Try.func111, Try.ntmps111
  go_wp2
  go_ret
  exact ⟨by simp, rfl⟩
theorem open_any (l : List UInt8) (a : Option Addr) (cap : Nat) (w : World) (O : Octs w a l) (hl : l.length ≤ 140737488355328) :
    Calls Try.prog 107 #[.slice a l.length cap] w fun e w' => ∃ p, e = .returned (at' p) ∧ w.heap.size ≤ p ∧ InS w' p l 0 ∧ Below w.heap.size w w' := by
  have K := hid (clone_any l a cap w O hl)
  clear O
  replace hl := hid hl
  go_enter Try.func107, Try.ntmps107
  go_wp2_with fail
  refine K.out.mono ?_
  rintro e w1 ⟨v, rfl, a', cap', rfl, O1, hb1⟩
  have E : Hid (InS (w1.alloc (.cells (inC a' l.length cap' 0) 199)) w1.heap.size l 0 ∧ Below w.heap.size w (w1.alloc (.cells (inC a' l.length cap' 0) 199))) := hid (by
    have hb := Below.alloc (Below.refl w1.heap.size w1) (Nat.le_refl _) (.cells (inC a' l.length cap' 0) 199)
    refine ⟨⟨a', cap', Blk.new _ _ _, ?_⟩, hb1.alloc hb1.size _⟩
    have HO := (Octs.of_own O1).more hb
    rcases O1.2 with ⟨hv, hn⟩ | ⟨g, c, cur, hv, hg, hgc, h1, h2, _⟩
    · injection hv with e1 e2 e3
      subst e1 e3
      exact ⟨by omega, by unfold maxLen; omega, HO, .inl ⟨rfl, rfl⟩⟩
    · cases hv
      exact ⟨h1, h2, HO, .inr ⟨g, 0, rfl, fun _ => (O1.lt g rfl).2⟩⟩)
  have hs := hid hb1.size
  clear O1 hb1
  go_wp2
  go_ret
  exact ⟨_, rfl, hs.out, E.out⟩
/-- The text of what is left. -/
theorem inText_ok (size : Int) (p : Nat) (l : List UInt8) (w : World) (I : InS w p l 0) (h : size ≤ l.length) :
    Calls Try.prog 108 #[at' p, .int .i64 size] w fun e w' => e = .returned (.string (textOf (l.take size.toNat))) ∧ InS w' p (l.drop size.toNat) 0 ∧ Sole (fun k => k = p) w w' := by
  have K := take_ok size.toNat p l w I (by omega)
  rw [show ((size.toNat : Nat) : Int) = max size 0 by omega] at K
  replace K := hid K
  have ht : (l.take size.toNat).length = size.toNat := by rw [List.length_take]; omega
  have KC : ∀ (w1 : World) a, Lies w1 p a (l.take size.toNat) size.toNat → (convert 35 9 (.slice a size.toNat size.toNat)).run Try.prog w1 = .ok (.string (textOf (l.take size.toNat))) w1 := by
    intro w1 a L
    have := L.2.2.1.text (P := Try.prog) 35 5 9 size.toNat Try.underlying35 Try.underlying5 Try.underlying9 L.spot
    rwa [ht] at this
  replace KC := hid KC
  replace ht := hid ht
  clear I
  generalize textOf (l.take size.toNat) = T at *
  go_enter Try.func108, Try.ntmps108
  go_wp2_with fail
  refine K.out.mono ?_
  rintro e w1 ⟨a, rfl, L, I1, S1⟩
  have kc := KC.out w1 a L
  have E := hid (And.intro I1 S1)
  clear L I1 S1 KC
  go_wp2
  go_ret
  exact ⟨rfl, E.out⟩
theorem inText_short (size : Int) (p : Nat) (l : List UInt8) (w : World) (I : InS w p l 0) (h : (l.length : Int) < size) :
    Calls Try.prog 108 #[at' p, .int .i64 size] w fun e w' => e = .returned (.string ByteArray.empty) ∧ InS w' p [] 16 ∧ Sole (fun k => k = p) w w' := by
  have K := hid (take_short (max size 0) p l w I (by omega))
  have kc := nil_text
  clear I
  go_enter Try.func108, Try.ntmps108
  go_wp2_with fail
  refine K.out.mono ?_
  rintro e w1 ⟨rfl, E⟩
  replace E := hid E
  go_wp2
  go_ret
  exact ⟨rfl, E.out⟩
theorem inText_err (size : Int) (p : Nat) (l : List UInt8) (er : Int) (w : World) (I : InS w p l er) (h : (er == 0) = false) :
    Calls Try.prog 108 #[at' p, .int .i64 size] w fun e w' => e = .returned (.string ByteArray.empty) ∧ w' = w := by
  have K := hid (fun n => take_err n p l er w I h)
  have kc := nil_text
  clear I
  go_enter Try.func108, Try.ntmps108
  go_wp2_with fail
  refine (K.out _).mono ?_
  rintro e w1 ⟨rfl, rfl⟩
  go_wp2
  go_ret
  exact ⟨rfl, rfl⟩

theorem wrap_64 (x : Int) : wrap64 x = IntKind.i64.wrap x := by unfold wrap64; exact (IntKind.wrap_i64 x).symm
theorem i64_or_nat (a b : Nat) (ha : a < 2 ^ 63) (hb : b < 2 ^ 63) : bits .or .i64 (a : Int) (b : Int) = ((a ||| b : Nat) : Int) := by
  have hx : a ||| b < 2 ^ 63 := Nat.or_lt_two_pow ha hb
  have e : ∀ c : Nat, c < 2 ^ 63 → (BitVec.ofInt 64 (c : Int)).toNat = c := fun c hc => by
    rw [BitVec.ofInt_natCast, BitVec.toNat_ofNat]; exact Nat.mod_eq_of_lt (by omega)
  show IntKind.i64.wrap ((BitVec.ofInt 64 (a : Int) ||| BitVec.ofInt 64 (b : Int)).toNat : Int) = _
  rw [BitVec.toNat_or, e a ha, e b hb, IntKind.wrap_i64]
  omega
theorem or_octet (m c k : Nat) (hk : k < 6) (hm : m < 256 ^ k) (hc : c < 256) : bits .or .i64 (m : Int) (IntKind.i64.wrap (IntKind.i64.wrap (c : Int) * 2 ^ (8 * k))) = ((m + 256 ^ k * c : Nat) : Int) := by
  have e : (256 : Nat) ^ k = 2 ^ (8 * k) := by rw [Nat.pow_mul]
  have hp : (2 : Nat) ^ (8 * k) ≤ 2 ^ 40 := Nat.pow_le_pow_right (by omega) (by omega)
  have hc1 : c * 2 ^ (8 * k) ≤ 255 * 2 ^ 40 := Nat.mul_le_mul (by omega) hp
  have w1 : IntKind.i64.wrap (c : Int) = c := IntWalk.i64_in _ (by omega)
  have w2 : IntKind.i64.wrap ((c : Int) * 2 ^ (8 * k)) = ((c * 2 ^ (8 * k) : Nat) : Int) := by
    have : ((c : Int) * 2 ^ (8 * k)) = ((c * 2 ^ (8 * k) : Nat) : Int) := by simp
    rw [this]
    exact IntWalk.i64_in _ (by omega)
  rw [e] at hm ⊢
  rw [w1, w2, i64_or_nat _ _ (by omega) (by omega), ← Nat.shiftLeft_eq, Nat.or_comm, ← Nat.shiftLeft_add_eq_or_of_lt hm, Nat.shiftLeft_eq, Nat.mul_comm c]
  omega
theorem numOf_snoc (t : List UInt8) (k : Nat) (h : k < t.length) : numOf (t.take (k + 1)) = numOf (t.take k) + 256 ^ k * t[k].toNat := by
  rw [List.take_succ_eq_append_getElem h, numOf_append, List.length_take, Nat.min_eq_left (by omega)]
  simp [numOf]

set_option maxRecDepth 100000 in
theorem inNum_ok (size : Int) (s : Nat) (hs : min (max size 1) 6 = s) (p : Nat) (l : List UInt8) (w : World) (I : InS w p l 0) (h : s ≤ l.length) :
    Calls Try.prog 109 #[at' p, .int .i64 size] w fun e w' => e = .returned (.int .i64 (numOf (l.take s))) ∧ InS w' p (l.drop s) 0 ∧ Sole (fun k => k = p) w w' := by
  have KN := hid (fun w => nearest_any size 1 6 w)
  have K := hid (take_ok s p l w I h)
  have hsb : 1 ≤ s ∧ s ≤ 6 := by omega
  have ht : (l.take s).length = s := by rw [List.length_take]; omega
  rw [hs] at KN
  clear I hs
  generalize l.take s = t at *
  replace ht := hid ht
  go_enter Try.func109, Try.ntmps109
  go_wp2_with fail
  refine (KN.out _).mono ?_
  rintro e w1 ⟨rfl, rfl⟩
  go_wp2_with fail
  refine K.out.mono ?_
  rintro e w1 ⟨a, rfl, L, I1, S1⟩
  have hne : t ≠ [] := fun e => by have := ht.out; rw [e] at this; simp at this; omega
  obtain ⟨b, o, rfl, lt, hc⟩ := L.2.2.1.row hne
  have E := hid (And.intro I1 S1)
  replace hc := hid hc
  clear L I1 S1 hne K KN h
  go_wp2_with fail
  go_loop [7, 20] (fun n i => ∃ k : Nat, k ≤ s ∧ i = .int .i64 (k : Int) ∧ n = .int .i64 (numOf (t.take k))) (fun _ i => s - (intOf i).toNat)
  case atStart => exact ⟨0, by omega, rfl, rfl⟩
  case round =>
    obtain ⟨k, hk, rfl, rfl⟩ := hrel
    by_cases hlt : k < s
    · have u : IntKind.i64.wrap (8 * (k : Int)) = 8 * (k : Int) := IntWalk.i64_in _ (by omega)
      have hkt : k < t.length := by have := ht.out; omega
      have z := hc.out k hkt
      have st := or_octet (numOf (t.take k)) t[k].toNat k (by omega) (by have := numOf_lt (t.take k); rwa [List.length_take, Nat.min_eq_left (by omega)] at this) t[k].toNat_lt
      rw [← numOf_snoc t k hkt] at st
      replace st := hid st
      generalize (t[k].toNat : Int) = c at *
      generalize hm : (numOf (t.take k) : Int) = m at *
      replace hm := hid hm
      go_wp2_with fail
      go_round
      case rel => exact ⟨k + 1, by omega, by go_num, by rw [wrap_64, wrap_64]; exact congrArg _ st.out⟩
      case measure => simp [intOf]; omega
    · obtain rfl : k = s := by omega
      have e : t.take k = t := List.take_of_length_le (by rw [ht.out]; exact Nat.le_refl _)
      rw [e]
      go_wp2
      go_ret
      exact ⟨rfl, E.out⟩
theorem inNum_short (size : Int) (p : Nat) (l : List UInt8) (w : World) (I : InS w p l 0) (h : (l.length : Int) < min (max size 1) 6) :
    Calls Try.prog 109 #[at' p, .int .i64 size] w fun e w' => e = .returned (.int .i64 0) ∧ InS w' p [] 16 ∧ Sole (fun k => k = p) w w' := by
  have KN := hid (fun w => nearest_any size 1 6 w)
  have K := hid (take_short (min (max size 1) 6) p l w I h)
  clear I h
  go_enter Try.func109, Try.ntmps109
  go_wp2_with fail
  refine (KN.out _).mono ?_
  rintro e w1 ⟨rfl, rfl⟩
  go_wp2_with fail
  refine K.out.mono ?_
  rintro e w2 ⟨rfl, E⟩
  replace E := hid E
  go_wp2
  go_ret
  exact ⟨rfl, E.out⟩
theorem inNum_err (size : Int) (p : Nat) (l : List UInt8) (er : Int) (w : World) (I : InS w p l er) (h : (er == 0) = false) :
    Calls Try.prog 109 #[at' p, .int .i64 size] w fun e w' => e = .returned (.int .i64 0) ∧ w' = w := by
  have KN := hid (fun w => nearest_any size 1 6 w)
  have K := hid (fun n => take_err n p l er w I h)
  clear I h
  go_enter Try.func109, Try.ntmps109
  go_wp2_with fail
  refine (KN.out _).mono ?_
  rintro e w1 ⟨rfl, rfl⟩
  go_wp2_with fail
  refine (K.out _).mono ?_
  rintro e w2 ⟨rfl, rfl⟩
  go_wp2
  go_ret
  exact ⟨rfl, rfl⟩
end Go.Proofs.Ytpgibngohbohdaa
