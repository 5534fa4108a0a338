/-
  Package plan: parts in a row of the call's own.
-/
import Derived.Test.YtibjccfillhfpaaPlanMay
namespace Go.Proofs.Ytibjccfillhfpaa
open Go.RowKit
set_option linter.unusedVariables false
set_option linter.unusedSimpArgs false

/-- A part as it lies: its entries are in a row of their own. -/
structure PtV where
  pl : Plc
  last : Bool
  q : Option Addr
  cap : Nat
  es : List En
abbrev PtV.v (x : PtV) : Value := .slice x.q x.es.length x.cap
def PtV.data (x : PtV) : PtD := ⟨x.pl, x.last, x.es⟩
def ptcells (x : PtV) : List Value := [.int .i64 x.pl.seg, .int .i64 x.pl.off, .int .i64 x.pl.next, .int .i64 x.pl.next, .bool x.last, .slice x.q x.es.length x.cap]
def ptT : RowT PtV := { ty := 41, sl := 29, sz := 6, bytes := 64, zero := .agg #[.int .i64 0, .int .i64 0, .int .i64 0, .int .i64 0, .bool false, .slice none 0 0], cells := ptcells, dflt := ⟨⟨0, 0, 0⟩, false, none, 0, []⟩ }
theorem ptOk : ptT.Ok := ⟨Try.underlying29, by kernel_rfl, rfl, by decide, fun _ => rfl, fun x u hu => by
  simp [ptT, ptcells] at hu
  rcases hu with rfl | rfl | rfl | rfl | rfl | rfl <;> rfl⟩
abbrev ptAt (L : List PtV) (i : Nat) : PtV := atR ptT L i

/-- Parts of the call's own, with their entries. -/
structure PartsOwn (w : World) (B : Nat) (v : Value) (V : List PtV) : Prop where
  row : RowOwn ptT w B v V
  es : ∀ x ∈ V, RowOwn enT w B x.v x.es
  apart : ∀ x ∈ V, ∀ k, x.v.ownBlock = some k → v.ownBlock ≠ some k

theorem PartsOwn.nil (w : World) (B : Nat) : PartsOwn w B (.slice none 0 0) [] := ⟨RowOwn.nil _ _, fun x h => (by cases h), fun x h => (by cases h)⟩
theorem PartsOwn.more {w w' : World} {B : Nat} {v : Value} {V : List PtV} (h : PartsOwn w B v V) (hb : Below w.heap.size w w') : PartsOwn w' B v V :=
  ⟨h.row.more hb, fun x hx => (h.es x hx).more hb, h.apart⟩
theorem PartsOwn.sole {S : Nat → Prop} {w w' : World} {B : Nat} {v : Value} {V : List PtV} (h : PartsOwn w B v V) (hs : Sole S w w') (hn : ∀ k, B ≤ k → ¬ S k) : PartsOwn w' B v V :=
  ⟨h.row.sole hs fun k hk => hn k (h.row.within k hk).1, fun x hx => (h.es x hx).sole hs fun k hk => hn k ((h.es x hx).within k hk).1, h.apart⟩
theorem PartsOwn.mono {w : World} {A B : Nat} {v : Value} {V : List PtV} (h : PartsOwn w B v V) (hA : A ≤ B) : PartsOwn w A v V :=
  ⟨h.row.mono hA, fun x hx => (h.es x hx).mono hA, h.apart⟩
/-- One more part: behind the append. -/
theorem PartsOwn.grow {w0 w1 w2 : World} {B : Nat} {v v' : Value} {V : List PtV} {x : PtV} {o : Obj} (h : PartsOwn w0 B v V) (hx : RowOwn enT w0 B x.v x.es) (hxa : ∀ k, x.v.ownBlock = some k → v.ownBlock ≠ some k)
    (hb : w1 = w0.alloc o) (O : RowOwn ptT w2 B v' (V ++ [x])) (G : w1.grownBy w2 v.ownBlock) (hat : v'.ownBlock = v.ownBlock ∨ v'.ownBlock = some w1.heap.size) : PartsOwn w2 B v' (V ++ [x]) := by
  subst hb
  have hs : Sole (fun k => v.ownBlock = some k) (w0.alloc o) w2 := Sole.grown G fun k hk => hk
  have all : ∀ y, y ∈ V ++ [x] → RowOwn enT w0 B y.v y.es ∧ ∀ k, y.v.ownBlock = some k → v.ownBlock ≠ some k := by
    intro y hy
    rcases List.mem_append.1 hy with hy | hy
    · exact ⟨h.es y hy, h.apart y hy⟩
    · rw [List.mem_singleton] at hy; subst hy; exact ⟨hx, hxa⟩
  refine ⟨O, fun y hy => ?_, fun y hy k hk => ?_⟩
  · exact ((all y hy).1.alloc o).sole hs fun k hk => (all y hy).2 k hk
  · rcases hat with e | e
    · rw [e]; exact (all y hy).2 k hk
    · rw [e]
      have := ((all y hy).1.within k hk).2
      intro e2
      have e3 := Option.some.inj e2
      rw [World.size_alloc] at e3
      omega

/-- A slice's value, its parts as they lie. -/
theorem rowOwn_slice {w : World} {B : Nat} {v : Value} {L : List En} (h : RowOwn enT w B v L) : ∃ q cap, v = .slice q L.length cap ∧ (q = none → L = []) := by
  rcases h.form with ⟨rfl, rfl⟩ | ⟨g, cap, rfl, _⟩
  · exact ⟨none, 0, rfl, fun _ => rfl⟩
  · exact ⟨_, cap, rfl, fun e => by cases e⟩
end Go.Proofs.Ytibjccfillhfpaa
