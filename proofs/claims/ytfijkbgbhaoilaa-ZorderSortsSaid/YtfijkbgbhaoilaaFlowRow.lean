/-
  Rows of the call's own, made out of one another in a region that draws its order.
-/
import Derived.Test.YtfijkbgbhaoilaaRegionFlow
import Derived.Test.YtfijkbgbhaoilaaOwnRow
namespace Go.Proofs.Ytfijkbgbhaoilaa
open Go.RowKit
set_option linter.unusedVariables false
set_option linter.unusedSimpArgs false

section
variable {α : Type} {T : RowT α}
/-- What is known of the k-th one made. -/
abbrev RowG (T : RowT α) (base : Nat) (LL : Nat → List α) (k : Nat) (v : Value) (w : World) : Prop := RowOwn T w base v (LL k)
theorem rowG_sole (base : Nat) (LL : Nat → List α) : ∀ k v w w' (S : Nat → Prop), RowG T base LL k v w → Sole S w w' → (∀ b, v.ownBlock = some b → ¬ S b) → RowG T base LL k v w' := fun k v w w' S h hs hn => RowOwn.sole h hs hn
theorem rowG_own (base : Nat) (LL : Nat → List α) : ∀ k v w, RowG T base LL k v w → ∀ b, v.ownBlock = some b → base ≤ b ∧ b < w.heap.size := fun k v w h => RowOwn.within h

/-- A row made of nothing, of one. -/
theorem made_nil (K : T.Ok) (base : Nat) (w : World) (hb : base ≤ w.heap.size) : RowOwn T (w.alloc (.cells #[] T.ty)) base (.slice (some ⟨w.heap.size, 0, none⟩) 0 0) [] := World.ownsRow_made (size := T.sz) w #[] 0 hb (Nat.zero_le _) (by simp)
theorem made_one (K : T.Ok) (base : Nat) (w : World) (hb : base ≤ w.heap.size) (x : α) : RowOwn T (w.alloc (.cells (T.cells x).toArray T.ty)) base (.slice (some ⟨w.heap.size, 0, none⟩) 1 1) [x] := by
  unfold RowOwn
  rw [flatR_one]
  refine ⟨by simp [K.len], .inr ⟨w.heap.size, 1, (T.cells x).toArray, rfl, hb, heap_alloc_new w _, Nat.le_refl _, by unfold maxLen; omega, by simp [K.len], ?_⟩⟩
  rw [List.toList_toArray, List.take_of_length_le (by rw [K.len]; simp)]
theorem made_keeps (w : World) (o : Obj) (S : Nat → Prop) : Sole S w (w.alloc o) := Sole.alloc w o
/-- A row of its own grows. -/
theorem flow_append (K : T.Ok) (base : Nat) (ty : TypeId) (w : World) (v : Value) (l : List α) (hown : RowOwn T w base v l) (q : Option Addr) (c : Nat) (M : List α) (R : RowOf T w q M) (hn : (l.length + M.length) * T.bytes ≤ 140737488355328) (h63 : l.length + M.length ≤ maxLen) (hbase : base ≤ w.heap.size) :
    ∃ v' w', (Builtin.append_ #[T.sl, T.sl] ty #[v, .slice q M.length c]).run Try.prog w = .ok v' w' ∧ RowOwn T w' base v' (l ++ M) ∧ (∀ b, v'.ownBlock = some b → w.heap.size ≤ b ∨ v.ownBlock = some b) ∧ ∀ S : Nat → Prop, (∀ b, v.ownBlock = some b → S b) → Sole S w w' := by
  obtain ⟨v', w', hr, O, G, at'⟩ := append_row K base ty w v l hown q c M R hn h63 hbase
  refine ⟨v', w', hr, O, fun b hb => ?_, fun S hS => Sole.grown G fun k hk => hS k hk⟩
  rcases at' with h | h
  · exact .inr (by rw [← h]; exact hb)
  · rw [h] at hb
    cases hb
    exact .inl (Nat.le_refl _)
/-- s[:k], s[k:] of a row, whatever it is. -/
theorem row_upto (K : T.Ok) (q : Option Addr) (i c k : Nat) (hk : k ≤ i) (hi : i ≤ c) (hq : (q = none ∧ c = 0) ∨ ∃ b o, q = some ⟨b, o, none⟩) (w : World) : (Instr.sliceAt T.sl (.slice q i c) none (some (.int .i64 (k : Int))) none).run Try.prog w = .ok (.slice q k c) w := by
  have hu := K.under
  obtain ⟨j, hj, hz, hs, hby⟩ := info_parts K.tab
  rcases hq with ⟨rfl, rfl⟩ | ⟨b, o, rfl⟩
  · have h0 : k = 0 := by omega
    have h1 : i = 0 := by omega
    subst h0; subst h1
    simp [go_sem, hu, run_underlying hu, sizeOf, typeInfo, hj, hs]
  · have hkc : k ≤ c := by omega
    simp [go_sem, hu, hkc, run_underlying hu, sizeOf, typeInfo, hj, hs]
theorem row_behind (K : T.Ok) (q : Option Addr) (i c k : Nat) (hk : k ≤ i) (hi : i ≤ c) (hq : (q = none ∧ c = 0) ∨ ∃ b o, q = some ⟨b, o, none⟩) (L : List α) (hL : L.length = i) : ∃ q', (∀ w, (Instr.sliceAt T.sl (.slice q i c) (some (.int .i64 (k : Int))) none none).run Try.prog w = .ok (.slice q' (i - k) (c - k)) w) ∧ ∀ w, RowOf T w q L → RowOf T w q' (L.drop k) := by
  have hu := K.under
  obtain ⟨j, hj, hz, hs, hby⟩ := info_parts K.tab
  rcases hq with ⟨rfl, rfl⟩ | ⟨b, o, rfl⟩
  · have h0 : k = 0 := by omega
    have h1 : i = 0 := by omega
    subst h0; subst h1
    refine ⟨none, fun w => by simp [go_sem, hu, run_underlying hu, sizeOf, typeInfo, hj, hs], fun w R => ?_⟩
    rw [List.drop_zero]; exact R
  · by_cases hkc : c = k
    · have hik : i = k := by omega
      subst hkc
      subst hik
      refine ⟨some ⟨b, o, none⟩, fun w => ?_, fun w R => ?_⟩
      · simp [go_sem, hu, run_underlying hu, sizeOf, typeInfo, hj, hs]
      · rw [← hL, List.drop_length]; exact .inl rfl
    · refine ⟨some ⟨b, o + k * T.sz, none⟩, fun w => ?_, fun w R => RowOf.drop R k⟩
      simp [go_sem, hu, run_underlying hu, sizeOf, typeInfo, hj, hs, hk, hi, hkc]
end
end Go.Proofs.Ytfijkbgbhaoilaa
