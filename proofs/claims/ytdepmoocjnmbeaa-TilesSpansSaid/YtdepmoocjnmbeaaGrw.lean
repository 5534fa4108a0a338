/-
  What a callee that makes memory at most leaves: so many draws, blocks behind those that were there.
-/
import Derived.Test.YtdepmoocjnmbeaaRegion
import Derived.Test.YtdepmoocjnmbeaaAid
import Derived.Sort.Grow
namespace Go.Proofs.Ytdepmoocjnmbeaa
open Go.RowKit
set_option linter.unusedVariables false

structure Grw (w w' : World) : Prop where
  low : Below w.heap.size w w'
  drawn : w.drawn ≤ w'.drawn
theorem Grw.refl (w : World) : Grw w w := ⟨Below.refl _ _, Nat.le_refl _⟩
theorem Grw.trans {a b c : World} (h : Grw a b) (k : Grw b c) : Grw a c := ⟨below2 h.low k.low h.low.size, Nat.le_trans h.drawn k.drawn⟩
theorem Grw.alloc {a b : World} (h : Grw a b) (o : Obj) : Grw a (b.alloc o) := ⟨h.low.alloc h.low.size o, h.drawn⟩
theorem Grw.drew {a b : World} (h : Grw a b) : Grw a b.drew := ⟨h.low.drew, Nat.le_succ_of_le h.drawn⟩
theorem Grw.size {a b : World} (h : Grw a b) : a.heap.size ≤ b.heap.size := h.low.size
theorem Grw.form {w w' : World} (h : Grw w w') : ∃ q os', w' = Go.Sort.grow (w.drewN q) os' := by
  refine ⟨w'.drawn - w.drawn, w'.heap.extract w.heap.size w'.heap.size, ?_⟩
  obtain ⟨⟨h1, h2, h3, h4, h5⟩, h6⟩ := h
  have hh : w'.heap = w.heap ++ w'.heap.extract w.heap.size w'.heap.size := by
    apply Array.ext_getElem?
    intro i
    by_cases hi : i < w.heap.size
    · rw [Array.getElem?_append_left hi, h5 i hi]
    · rw [Array.getElem?_append_right (by omega)]
      by_cases hj : i < w'.heap.size
      · rw [Array.getElem?_eq_getElem hj, Array.getElem?_eq_getElem (by simp; omega)]
        simp only [Array.getElem_extract]
        congr 2
        omega
      · rw [Array.getElem?_eq_none (by omega), Array.getElem?_eq_none (by simp; omega)]
  cases w'
  cases w
  simp only [World.drewN, Go.Sort.grow] at *
  subst h1 h2 h3
  congr 1
  omega
theorem Grw.of {w w' : World} {q : Nat} {os : Array Obj} (h : w' = Go.Sort.grow (w.drewN q) os) : Grw w w' := by
  subst h
  refine ⟨⟨rfl, rfl, rfl, ?_, fun k hk => ?_⟩, ?_⟩
  · simp [Go.Sort.grow, World.drewN]
  · show (w.heap ++ os)[k]? = _
    rw [Array.getElem?_append_left hk]
  · show w.drawn ≤ w.drawn + q; omega

section
variable {P : Program}
structure LaterG (W : World) where
  val : World
  h : Grw W val
instance (W : World) : Nonempty (LaterG W) := ⟨⟨W, Grw.refl W⟩⟩
theorem LaterG.cell {W : World} (b o : Nat) (hb : b < W.heap.size) (u : LaterG W) : u.val.cell? ⟨b, o, none⟩ = W.cell? ⟨b, o, none⟩ := u.h.low.cell (p := ⟨b, o, none⟩) hb
theorem LaterG.blk {W : World} {b : Nat} {c : Array Value} (h : Blk W b c) (u : LaterG W) (o : Nat) : u.val.cell? ⟨b, o, none⟩ = c[o]? := (u.cell b o h.lt).trans (h.cell o)
theorem lateg_out {W w' : World} (h : ∃ u : LaterG W, w' = u.val) : Grw W w' := by obtain ⟨u, rfl⟩ := h; exact u.h
theorem lateg_call {W : World} {u : LaterG W} {f : FuncId} {args : Array Value} {v : Value} (h : Calls P f args u.val fun e w' => e = .returned v ∧ Grw u.val w') :
    Calls P f args u.val fun e w'' => e = .returned v ∧ ∃ u' : LaterG W, w'' = u'.val :=
  h.mono fun _ w' ⟨he, hb⟩ => ⟨he, ⟨w', u.h.trans hb⟩, rfl⟩
theorem lateg_same {W : World} {u : LaterG W} {f : FuncId} {args : Array Value} {v : Value} (h : Calls P f args u.val fun e w' => e = .returned v ∧ w' = u.val) :
    Calls P f args u.val fun e w'' => e = .returned v ∧ ∃ u' : LaterG W, w'' = u'.val :=
  h.mono fun _ _ ⟨he, hw⟩ => ⟨he, u, hw⟩
theorem wp_region_lateg {id : Nat} {Q : Exit → Act → World → Prop} {a0 : Act} {W : World} {l : List Oper} (n : Nat) (hm : P.follows .mixedOrders = true)
    (hB : quietTailB l.toArray n a0.tmps.size = true)
    (h : wpQuiet P l.toArray (fun w' => ∃ u : LaterG W, w' = u.val) (fun a' => ∀ w', (∃ u : LaterG W, w' = u.val) → wpList P l.toArray Q (l.drop n) a' w') (l.take n) a0) : (Code.region id l.toArray true).wp P Q a0 W :=
  wp_region_quiet_tail n hm hB ⟨⟨W.drew, (Grw.refl W).drew⟩, rfl⟩ h
end
end Go.Proofs.Ytdepmoocjnmbeaa
