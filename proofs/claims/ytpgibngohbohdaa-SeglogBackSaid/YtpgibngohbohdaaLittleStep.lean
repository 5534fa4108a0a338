/-
  Layer 1: one field written: what becomes of an Out, and of the law's own octets.
-/
import Derived.Test.YtpgibngohbohdaaLittleField
import Derived.Test.YtpgibngohbohdaaLittleAlive
namespace Go.Proofs.Ytpgibngohbohdaa
open Go.RowKit
set_option linter.unusedVariables false
set_option linter.unusedSimpArgs false

/-- What becomes of an Out with l and e by m octets more, which are nl. -/
def Step (room : Int) (l : List UInt8) (e : Int) (bad : Prop) (m : Int) (nl : List UInt8) (l' : List UInt8) (e' : Int) : Prop :=
  ((e == 0) = false ∧ l' = l ∧ e' = e) ∨ (e = 0 ∧ bad ∧ l' = l ∧ e' = 4) ∨ (e = 0 ∧ ¬ bad ∧ (l.length : Int) + m ≤ room ∧ l' = l ++ nl ∧ e' = 0) ∨ (e = 0 ∧ ¬ bad ∧ room < (l.length : Int) + m ∧ l' = l ∧ e' = 10)

theorem ow_num (N size : Int) (m : Nat) (hm : min (max size 1) 6 = m) (p : Nat) (a : Option Addr) (room : Int) (l l' : List UInt8) (e e' : Int) (w : World) (O : OutS w p a room l e) (h0 : 0 ≤ room) (h1 : room ≤ 65536) (hl : (l.length : Int) ≤ room)
    (S : Step room l e (N < 0 ∨ (256 : Int) ^ m ≤ N) m (leB N.toNat m) l' e') :
    Calls Try.prog 75 #[at' p, .int .i64 N, .int .i64 size] w fun en w' => en = .returned (.tuple #[]) ∧ ∃ a', OutS w' p a' room l' e' ∧ Grew p a a' w w' := by
  rcases S with ⟨h, rfl, rfl⟩ | ⟨rfl, hb, rfl, rfl⟩ | ⟨rfl, hb, hr, rfl, rfl⟩ | ⟨rfl, hb, hr, rfl, rfl⟩
  · refine (num_err N size p a room _ _ w O h).mono ?_
    rintro en w' ⟨he, rfl⟩
    exact ⟨he, a, O, Grew.refl _ _ _⟩
  · refine (num_range N size m hm hb p a room _ w O).mono ?_
    rintro en w' ⟨he, rfl⟩
    exact ⟨he, a, (O.fail 4).1, (O.fail 4).2⟩
  · obtain ⟨N', rfl⟩ := Int.eq_ofNat_of_zero_le (show 0 ≤ N by omega)
    have hlt : N' < 256 ^ m := by
      have : ¬ (256 : Int) ^ m ≤ (N' : Int) := fun h => hb (.inr h)
      have e : ((256 ^ m : Nat) : Int) = (256 : Int) ^ m := by simp
      omega
    exact num_ok N' size m hm hlt p a room _ w O h0 h1 hr
  · obtain ⟨N', rfl⟩ := Int.eq_ofNat_of_zero_le (show 0 ≤ N by omega)
    have hlt : N' < 256 ^ m := by
      have : ¬ (256 : Int) ^ m ≤ (N' : Int) := fun h => hb (.inr h)
      have e : ((256 ^ m : Nat) : Int) = (256 : Int) ^ m := by simp
      omega
    refine (num_full N' size m hm hlt p a room _ w O h0 h1 hl hr).mono ?_
    rintro en w' ⟨he, rfl⟩
    exact ⟨he, a, (O.fail 10).1, (O.fail 10).2⟩
theorem ow_text (s : ByteArray) (p : Nat) (a : Option Addr) (room : Int) (l l' : List UInt8) (e e' : Int) (w : World) (O : OutS w p a room l e) (h0 : 0 ≤ room) (h1 : room ≤ 65536) (hl : (l.length : Int) ≤ room)
    (S : Step room l e False s.data.toList.length s.data.toList l' e') :
    Calls Try.prog 81 #[at' p, .string s] w fun en w' => en = .returned (.tuple #[]) ∧ ∃ a', OutS w' p a' room l' e' ∧ Grew p a a' w w' := by
  rw [size_list] at S
  rcases S with ⟨h, rfl, rfl⟩ | ⟨rfl, hb, rfl, rfl⟩ | ⟨rfl, hb, hr, rfl, rfl⟩ | ⟨rfl, hb, hr, rfl, rfl⟩
  · refine (text_err s p a room _ _ w O h).mono ?_
    rintro en w' ⟨he, rfl⟩
    exact ⟨he, a, O, Grew.refl _ _ _⟩
  · exact hb.elim
  · exact text_ok s p a room _ w O h0 h1 hr
  · refine (text_full s p a room _ w O h0 h1 hl (by omega)).mono ?_
    rintro en w' ⟨he, rfl⟩
    exact ⟨he, a, (O.fail 10).1, (O.fail 10).2⟩
theorem ow_pad (size : Int) (hs : size ≤ 9223372036854775807) (p : Nat) (a : Option Addr) (room : Int) (l l' : List UInt8) (e e' : Int) (w : World) (O : OutS w p a room l e) (h0 : 0 ≤ room) (h1 : room ≤ 65536) (hl : (l.length : Int) ≤ room)
    (S : Step room l e False (max size l.length - l.length) (List.replicate (size.toNat - l.length) 0) l' e') :
    Calls Try.prog 82 #[at' p, .int .i64 size] w fun en w' => en = .returned (.tuple #[]) ∧ ∃ a', OutS w' p a' room l' e' ∧ Grew p a a' w w' := by
  rcases S with ⟨h, rfl, rfl⟩ | ⟨rfl, hb, rfl, rfl⟩ | ⟨rfl, hb, hr, rfl, rfl⟩ | ⟨rfl, hb, hr, rfl, rfl⟩
  · refine (pad_err size hs p a room _ _ w O h).mono ?_
    rintro en w' ⟨he, rfl⟩
    exact ⟨he, a, O, Grew.refl _ _ _⟩
  · exact hb.elim
  · exact pad_ok size p a room _ w O h0 h1 (by omega)
  · refine (pad_full size hs p a room _ w O h0 h1 hl (by omega)).mono ?_
    rintro en w' ⟨he, rfl⟩
    exact ⟨he, a, (O.fail 10).1, (O.fail 10).2⟩

/-- The law's own octets: a row of its own, apart from the Out's. -/
structure AllS (w : World) (base p : Nat) (a : Option Addr) (v : Value) (l : List UInt8) : Prop where
  own : w.ownsRow base 5 1 v l.length (Lib.byteCells l)
  apart : ∀ k, v.ownBlock = some k → ¬ Mine p a k
theorem AllS.more {w w' : World} {base p : Nat} {a : Option Addr} {v : Value} {l : List UInt8} (h : AllS w base p a v l) (hb : Below w.heap.size w w') : AllS w' base p a v l :=
  ⟨own_sole (S := fun _ => False) h.own (Sole.made hb) fun _ _ x => x, h.apart⟩
theorem AllS.out {w w' : World} {base p : Nat} {a a' : Option Addr} {v : Value} {l : List UInt8} (h : AllS w base p a v l) (hg : Grew p a a' w w') : AllS w' base p a' v l := by
  refine ⟨own_sole h.own hg.sole h.apart, fun k hk hm => ?_⟩
  have lt := (h.own.lt k hk).2
  rcases hm with rfl | ⟨x, hx, rfl⟩
  · exact h.apart _ hk (.inl rfl)
  · rcases hg.new with e | ⟨g, e, hgs⟩
    · exact h.apart _ hk (.inr ⟨x, e ▸ hx, rfl⟩)
    · rw [e] at hx; cases hx
      simp only at lt
      omega
/-- Octets are appended to them. -/
theorem AllS.append {w : World} {base p : Nat} {a : Option Addr} {v : Value} {l l2 : List UInt8} {room e : Int} (h : AllS w base p a v l) (hp : OutS w p a room l2 e) (hbase : base ≤ w.heap.size) (ba : Option Addr) (bc : Nat) (bl : List UInt8) (hb : Octs w ba bl) (hn : l.length + bl.length ≤ 140737488355328) :
    ∃ v' w', (Builtin.append_ #[35, 35] 35 #[v, .slice ba bl.length bc]).run Try.prog w = .ok v' w' ∧ AllS w' base p a v' (l ++ bl) ∧ OutS w' p a room l2 e ∧ Below base w w' := by
  obtain ⟨v', w', hr, O, gr, mv⟩ := append_octs base 35 w v l.length _ h.own ba bc bl hb hn hbase
  have S : Sole (fun k => v.ownBlock = some k) w w' := Sole.grown gr fun k hk => hk
  refine ⟨v', w', hr, ⟨by rw [List.length_append, Lib.byteCells_append]; exact O, fun k hk hm => ?_⟩, hp.kept S fun k hk hv => h.apart k hv hk, S.below hbase fun k hk => (h.own.lt k hk).1⟩
  rcases mv with e | ⟨g, e, hg⟩
  · exact h.apart k (e ▸ hk) hm
  · rw [e] at hk; cases hk
    have := (hp.mine hm).2
    omega
/-- A text's octets. -/
theorem bytes_of_str (w : World) (s : ByteArray) : ∃ ba bc w', (convert 9 35 (.string s)).run Try.prog w = .ok (.slice ba s.data.toList.length bc) w' ∧ Octs w' ba s.data.toList ∧ Below w.heap.size w w' := by
  have h := run_bytes_of_string (P := Try.prog) w 9 35 5 s Try.underlying9 Try.underlying35 Try.underlying5
  refine ⟨_, _, _, by rw [size_list]; exact h, ?_, (Below.refl w.heap.size w).drew.alloc (Nat.le_refl _) _⟩
  refine .inr ⟨w.heap.size, 0, rfl, by simp, fun i hi => ?_⟩
  have hi' : i < s.data.size := by simpa using hi
  rw [Nat.zero_add, cell_of_row _ w.heap.size i _ _ _ (heap_alloc_new w.drew _), bytesRow_at s _ i hi']
  simp
/-- Zeros made. -/
theorem make_octs (w : World) (n : Int) (h0 : 0 ≤ n) (h1 : n ≤ 140737488355328) : ∃ w', (Instr.makeSlice 35 (.int .i64 n) (.int .i64 n)).run Try.prog w = .ok (.slice (some ⟨w.heap.size, 0, none⟩) n.toNat n.toNat) w' ∧ Octs w' (some ⟨w.heap.size, 0, none⟩) (List.replicate n.toNat 0) ∧ Below w.heap.size w w' := by
  obtain ⟨i, hi, hz, hs, hby⟩ := info_parts u8Info
  have hr := run_make (P := Try.prog) w 35 5 i (.int .u8 0) Try.underlying35 hi hz .i64 .i64 n n h0 (Int.le_refl _) (by rw [hby]; omega) (by omega)
  refine ⟨_, hr, ?_, (Below.refl w.heap.size w).alloc (Nat.le_refl _) _⟩
  refine .inr ⟨w.heap.size, 0, rfl, by simp, fun j hj => ?_⟩
  rw [Nat.zero_add, cell_of_row _ w.heap.size j _ _ _ (heap_alloc_new w _), ← Array.getElem?_toList, show (Value.int IntKind.u8 0).cells = #[.int .u8 0] from rfl, toList_madeCells_one, List.getElem?_replicate, hs]
  simp at hj
  rw [if_pos (by omega)]
  simp
theorem fits_of {r l m : Int} (h : decide (r - l < m) = false) : l + m ≤ r := by have := of_decide_eq_false h; omega
theorem full_of {r l m : Int} (h : r - l < m) : r < l + m := by omega
theorem fit_len {r : Int} {l nl : List UInt8} {m : Nat} (h : decide (r - (l.length : Int) < (m : Int)) = false) (hn : nl.length = m) : (((l ++ nl).length : Nat) : Int) ≤ r := by
  have := of_decide_eq_false h
  rw [List.length_append, hn]; omega
/-- The law's own bound of m octets. -/
theorem bound_of (m : Nat) (h : m ≤ 6) : ∃ q : Int, q = 256 ^ m ∧ IntKind.i64.wrap (2 ^ (8 * m)) = q ∧ wrap64 (2 ^ (8 * m)) = q ∧ 1 ≤ q := by
  have c : m = 0 ∨ m = 1 ∨ m = 2 ∨ m = 3 ∨ m = 4 ∨ m = 5 ∨ m = 6 := by omega
  rcases c with rfl | rfl | rfl | rfl | rfl | rfl | rfl <;> exact ⟨_, rfl, by decide, by unfold wrap64; decide, by decide⟩
/-- The value of the law's own row. -/
theorem AllS.form {w : World} {base p : Nat} {a : Option Addr} {v : Value} {l : List UInt8} (h : AllS w base p a v l) : ∃ ga gc, v = .slice ga l.length gc := by
  rcases h.own.2 with ⟨rfl, h0⟩ | ⟨g, c, cur, rfl, _⟩
  · exact ⟨none, 0, by rw [h0]⟩
  · exact ⟨_, c, rfl⟩
end Go.Proofs.Ytpgibngohbohdaa
