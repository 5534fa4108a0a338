/-
  Layer 21: the law's own row of items, apart from the heap; where a new one goes.
-/
import Derived.Test.YtibjccfillhfpaaHeapAppend
import Derived.Test.YtibjccfillhfpaaHeapEq
import Derived.Test.YtibjccfillhfpaaHeapLaw
namespace Go.Proofs.Ytibjccfillhfpaa
open Go.RowKit
set_option linter.unusedVariables false
set_option linter.unusedSimpArgs false

structure OwnR (w : World) (h : Nat) (vh : Value) (q : Option Addr) (cap : Nat) (S : List It) : Prop where
  len : S.length ≤ cap
  most : cap ≤ maxLen
  row : RowP w q 4 S.length (fun i => icells (itAt S i))
  far : ∀ b o, q = some ⟨b, o, none⟩ → b < w.heap.size ∧ b ≠ h ∧ vh.ownBlock ≠ some b
  flat : ∀ a, q = some a → a.spot = none
  null : q = none → cap = 0

theorem RowP.sole {T : Nat → Prop} {w w' : World} {q : Option Addr} {sz n : Nat} {f : Nat → List Value} (h : RowP w q sz n f) (hs : Sole T w w') (hn : ∀ b o, q = some ⟨b, o, none⟩ → ¬ T b) : RowP w' q sz n f := by
  rcases h with h | ⟨b, o, e, r⟩
  · exact .inl h
  · exact .inr ⟨b, o, e, Nat.lt_of_lt_of_le r.lt hs.size, fun i hi j v hv => (hs.cell r.lt (hn b o e)).trans (r.cell i hi j v hv)⟩
theorem OwnR.more {w w' : World} {h : Nat} {vh : Value} {q : Option Addr} {cap : Nat} {S : List It} (H : OwnR w h vh q cap S) (hb : Below w.heap.size w w') : OwnR w' h vh q cap S :=
  ⟨H.len, H.most, H.row.more hb, fun b o e => ⟨Nat.lt_of_lt_of_le (H.far b o e).1 hb.size, (H.far b o e).2⟩, H.flat, H.null⟩
/-- Behind a call of the heap. -/
theorem OwnR.call {w w' : World} {h : Nat} {vh vh' : Value} {q : Option Addr} {cap : Nat} {S : List It} (H : OwnR w h vh q cap S) (hs : Sole (fun j => j = h ∨ vh.ownBlock = some j) w w') (hv : ∀ k, vh'.ownBlock = some k → vh.ownBlock = some k ∨ w.heap.size ≤ k) : OwnR w' h vh' q cap S :=
  ⟨H.len, H.most, H.row.sole hs fun b o e hT => by
      obtain ⟨_, h1, h2⟩ := H.far b o e
      rcases hT with e | e
      · exact h1 e
      · exact h2 e,
    fun b o e => by
      obtain ⟨h0, h1, h2⟩ := H.far b o e
      refine ⟨Nat.lt_of_lt_of_le h0 hs.size, h1, fun e2 => ?_⟩
      rcases hv b e2 with e3 | e3
      · exact h2 e3
      · omega, H.flat, H.null⟩

theorem itAt_take (S : List It) (k i : Nat) (h : i < k) : itAt (S.take k) i = itAt S i := by
  unfold itAt; rw [List.getD_eq_getElem?_getD, List.getElem?_take_of_lt h, List.getD_eq_getElem?_getD]
theorem itAt_drop (S : List It) (k i : Nat) : itAt (S.drop k) i = itAt S (k + i) := by
  unfold itAt; rw [List.getD_eq_getElem?_getD, List.getElem?_drop, List.getD_eq_getElem?_getD]
theorem OwnR.front {w : World} {h : Nat} {vh : Value} {q : Option Addr} {cap : Nat} {S : List It} (H : OwnR w h vh q cap S) (k : Nat) (hk : k ≤ S.length) : RowP w q 4 k (fun i => icells (itAt (S.take k) i)) := by
  rcases H.row.take hk with h0 | ⟨b, o, e, r⟩
  · exact .inl h0
  · exact .inr ⟨b, o, e, r.lt, fun i hi j v hv => r.cell i hi j v (by rw [itAt_take S k i hi] at hv; exact hv)⟩
/-- Where a slice from its k-th one on begins. -/
def from4 (q : Option Addr) (cap k : Nat) : Option Addr := if cap = k then q else q.map (·.add (k * 4))
theorem OwnR.back {w : World} {h : Nat} {vh : Value} {q : Option Addr} {cap : Nat} {S : List It} (H : OwnR w h vh q cap S) (k : Nat) (hk : k ≤ S.length) : OwnR w h vh (from4 q cap k) (cap - k) (S.drop k) := by
  have hl := H.len
  have hadd : ∀ (b o j : Nat), Addr.add ⟨b, o, none⟩ j = ⟨b, o + j, none⟩ := fun b o j => by
    unfold Addr.add
    split
    · subst j; rfl
    · rfl
  refine ⟨by rw [List.length_drop]; omega, by have := H.most; omega, ?_, ?_, ?_, ?_⟩
  · rw [List.length_drop]
    by_cases h0 : S.length - k = 0
    · exact .inl h0
    · obtain ⟨b, o, rfl, r⟩ := H.row.row (by omega)
      refine .inr ⟨b, o + k * 4, ?_, ?_⟩
      · unfold from4; rw [if_neg (by omega), Option.map_some, hadd]
      · have r2 := r.drop k
        exact ⟨r2.lt, fun i hi j v hv => r2.cell i hi j v (by rw [itAt_drop] at hv; exact hv)⟩
  · intro b o e
    unfold from4 at e
    split at e
    · exact H.far b o e
    · rcases q with _ | a
      · simp at e
      · rw [Option.map_some] at e
        obtain ⟨b', o', sp⟩ := a
        obtain rfl : sp = none := H.flat _ rfl
        rw [hadd] at e
        cases e
        exact H.far b o' rfl
  · intro a e
    unfold from4 at e
    split at e
    · exact H.flat a e
    · rcases q with _ | a'
      · simp at e
      · rw [Option.map_some] at e
        cases e
        obtain ⟨b', o', sp⟩ := a'
        obtain rfl : sp = none := H.flat _ rfl
        rw [hadd]
  · intro e
    unfold from4 at e
    split at e
    · have := H.null e; omega
    · rcases q with _ | a'
      · have := H.null rfl; omega
      · simp at e

/-- Where the new one goes: behind the last one that it is not ahead of. -/
def putAt (S : List It) (x : It) (k : Nat) : List It := S.take k ++ [x] ++ S.drop k
theorem putAt_len (S : List It) (x : It) (k : Nat) (hk : k ≤ S.length) : (putAt S x k).length = S.length + 1 := by
  simp [putAt]; omega
theorem putAt_perm (S : List It) (x : It) (k : Nat) : (putAt S x k).Perm (S ++ [x]) := by
  unfold putAt
  rw [List.append_assoc]
  refine (List.perm_middle (l₁ := S.take k) (l₂ := S.drop k) (a := x)).trans ?_
  rw [List.take_append_drop]
  exact List.perm_append_comm (l₁ := [x])
theorem putAt_sorted {S : List It} {x : It} {k : Nat} (hS : S.Pairwise leI) (hk : k ≤ S.length) (h1 : ∀ j, k ≤ j → j < S.length → ltI x (itAt S j)) (h2 : k = 0 ∨ ¬ ltI x (itAt S (k - 1))) : (putAt S x k).Pairwise leI := by
  unfold putAt
  rw [List.append_assoc]
  have hmem : ∀ b ∈ S.drop k, leI x b := by
    intro b hb
    obtain ⟨i, hi, e⟩ := itAt_of_mem _ b hb
    rw [List.length_drop] at hi
    rw [itAt_drop] at e
    rw [← e]
    exact ltI_le (h1 (k + i) (by omega) (by omega))
  have htake : ∀ a ∈ S.take k, leI a x := by
    intro a ha
    obtain ⟨i, hi, e⟩ := itAt_of_mem _ a ha
    rw [List.length_take] at hi
    rw [itAt_take _ _ _ (by omega)] at e
    rcases h2 with h2 | h2
    · omega
    · rw [← e]
      refine leI_trans ?_ h2
      by_cases e2 : i = k - 1
      · rw [e2]; exact leI_refl _
      · have := (List.pairwise_iff_getElem.1 hS) i (k - 1) (by omega) (by omega) (by omega)
        rw [itAt_eq S i (by omega), itAt_eq S (k - 1) (by omega)]
        exact this
  have hcross : ∀ a ∈ S.take k, ∀ b ∈ S.drop k, leI a b := fun a ha b hb => leI_trans (htake a ha) (hmem b hb)
  rw [List.pairwise_append]
  refine ⟨hS.sublist (List.take_sublist _ _), ?_, fun a ha b hb => ?_⟩
  · show (x :: S.drop k).Pairwise leI
    exact List.pairwise_cons.2 ⟨hmem, hS.sublist (List.drop_sublist _ _)⟩
  · rcases List.mem_cons.1 hb with rfl | hb
    · exact htake a ha
    · exact hcross a ha b hb

theorem ownR_of_its {w : World} {C h : Nat} {vh v : Value} {L : List It} (O : ItsOwn w C v L) (h1 : h < C) (h2 : ∀ j, vh.ownBlock = some j → j < C) : ∃ q cap, v = .slice q L.length cap ∧ OwnR w h vh q cap L := by
  obtain ⟨p, cap, e, l1, l2, R⟩ := O.open
  refine ⟨p, cap, e, l1, l2, R, fun b o hb => ?_, fun a ha => ?_, fun hn => ?_⟩
  · subst e; subst hb
    have := O.lt b rfl
    exact ⟨this.2, by omega, fun e2 => by have := h2 b e2; omega⟩
  · subst ha
    rcases O.2 with ⟨ev, _⟩ | ⟨g, c, cur, ev, _⟩
    · rw [e] at ev; simp at ev
    · rw [e] at ev; simp at ev; rw [ev.1]
  · subst hn
    rcases O.2 with ⟨ev, _⟩ | ⟨g, c, cur, ev, _⟩
    · rw [e] at ev; simp at ev; exact ev.2
    · rw [e] at ev; simp at ev

theorem rowX_new (w : World) (x : It) (t : TypeId) : RowP (w.alloc (.cells #[.int .u64 x.h, .int .u64 x.l, .int .i64 x.o, .int .i64 x.i] t)) (some ⟨w.heap.size, 0, none⟩) 4 1 (fun i => icells (itAt [x] i)) := by
  have B := Blk.new w #[.int .u64 x.h, .int .u64 x.l, .int .i64 x.o, .int .i64 x.i] t
  refine .inr ⟨_, _, rfl, B.lt, fun i hi j v hv => ?_⟩
  obtain rfl : i = 0 := by omega
  rw [Nat.zero_mul, Nat.zero_add, B.cell]
  have e : itAt [x] 0 = x := rfl
  rw [e] at hv
  rw [← hv]
  unfold icells
  simp
theorem rowX_mk (w : World) (a b c d : Int) (t : TypeId) : RowP (w.alloc (.cells #[.int .u64 a, .int .u64 b, .int .i64 c, .int .i64 d] t)) (some ⟨w.heap.size, 0, none⟩) 4 1 (fun i => icells (itAt [⟨a, b, c, d⟩] i)) := rowX_new w ⟨a, b, c, d⟩ t
theorem RowP.grown {w w' : World} {b o : Nat} {sz n : Nat} {f : Nat → List Value} {r : Option Nat} (h : RowP w (some ⟨b, o, none⟩) sz n f) (G : w.grownBy w' r) (hne : r ≠ some b) : RowP w' (some ⟨b, o, none⟩) sz n f :=
  h.sole (Sole.grown (S := fun j => r = some j) G (fun k hk => hk)) (fun b' o' e hr => by cases e; exact hne hr)
theorem RowP.drew {w : World} {q : Option Addr} {sz n : Nat} {f : Nat → List Value} (h : RowP w q sz n f) : RowP w.drew q sz n f := h.sole (Sole.refl (fun _ => False) w).drew (fun _ _ _ x => x)
theorem ItsOwn.alloc {w : World} {B : Nat} {v : Value} {L : List It} (h : ItsOwn w B v L) (o : Obj) : ItsOwn (w.alloc o) B v L := h.more ((Below.refl _ _).alloc (Nat.le_refl _) _)
theorem its_empty (w : World) (t : TypeId) (B : Nat) (hB : B ≤ w.heap.size) : ItsOwn (w.alloc (.cells #[] 55)) B (.slice (some ⟨w.heap.size, 0, none⟩) 0 0) [] := World.ownsRow_made w #[] 0 hB (Nat.zero_le _) rfl
end Go.Proofs.Ytibjccfillhfpaa
