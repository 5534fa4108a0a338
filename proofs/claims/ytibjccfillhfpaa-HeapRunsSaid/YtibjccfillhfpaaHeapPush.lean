/-
  package heap: Push.
-/
import Derived.Test.YtibjccfillhfpaaHeapRise
namespace Go.Proofs.Ytibjccfillhfpaa
open Go.RowKit
set_option linter.unusedVariables false
set_option linter.unusedSimpArgs false

theorem newsH (w : World) (c : Array Value) (t : TypeId) : ∀ j u, c.toList[j]? = some u → (w.alloc (.cells c t)).cell? (Addr.add ⟨w.heap.size, 0, none⟩ j) = some u :=
  World.news_of_block (cs := c) (t := t) (fr := (0, 0)) (heap_alloc_new w _)
theorem newsHd (w : World) (c : Array Value) (t : TypeId) : ∀ j u, c.toList[j]? = some u → (w.alloc (.cells c t)).drew.cell? (Addr.add ⟨w.heap.size, 0, none⟩ j) = some u := newsH w c t
theorem newsHe (w : World) (c : Array Value) (t : TypeId) : ∀ j u, c.toList[j]? = some u → (w.drew.alloc (.cells c t)).cell? (Addr.add ⟨w.heap.size, 0, none⟩ j) = some u := newsH w.drew c t

set_option maxRecDepth 100000 in
set_option maxHeartbeats 4000000 in
theorem push_any (h B : Nat) (v : Value) (L : List It) (x : It) (hok : HeapOk L) (hsm : L.length < 100000) (w : World) (hB : B ≤ w.heap.size) (H : HeapS w h B v L) :
    Calls Try.prog 13 #[.pointer (some ⟨h, 0, none⟩), itval x] w fun e w' => e = .returned (.tuple #[]) ∧ ∃ v' L', L'.length = L.length + 1 ∧ HeapOk L' ∧ L'.Perm (L ++ [x]) ∧ HeapS w' h B v' L' ∧ (∀ k, v'.ownBlock = some k → v.ownBlock = some k ∨ w.heap.size ≤ k) ∧ Sole (fun j => j = h ∨ v.ownBlock = some j) w w' := by
  obtain ⟨i0, hi, hz0, hz1, hz2⟩ := info_parts itTab
  obtain ⟨p, cap, rfl, c1, c2, -⟩ := H.own.open
  obtain ⟨n, hn⟩ : ∃ n, L.length = n := ⟨_, rfl⟩
  have hokh := hid hok
  obtain ⟨xh, xl, xo, xi⟩ := x
  unfold itval
  simp only
  have hwl := H.box.lt
  obtain ⟨W8, hW8⟩ : ∃ W, w.alloc (.cells #[.int .u64 xh, .int .u64 xl, .int .i64 xo, .int .i64 xi] 55) = W := ⟨_, rfl⟩
  have C8 : Blk W8 w.heap.size #[.int .u64 xh, .int .u64 xl, .int .i64 xo, .int .i64 xi] := hW8 ▸ Blk.new w _ _
  have hb8 : Below w.heap.size w W8 := hW8 ▸ (Below.refl _ _).alloc (Nat.le_refl _) _
  have H8 := H.more hb8
  have N8 := hid H8.box
  have O8 : World.ownsRow W8 B 55 4 (.slice p n cap) n (flatI L) := by have h := H8.own; unfold ItsOwn at h; rw [hn] at h; exact h
  have ne8 := H8.ne
  rw [hn] at ne8 c1 hsm N8 ⊢
  have hs8 := hid (show W8.heap.size = w.heap.size + 1 by rw [← hW8]; simp)
  obtain ⟨l8, k8, f8⟩ := C8
  obtain ⟨m8, j8, g8⟩ := N8.out
  have hBh := hid hB
  have hb8h := hid hb8
  have hnh := hid hn
  have hn1 : (0 : Int) ≤ (n : Int) := by omega
  have hst := hid (rise_start hokh.out ⟨xh, xl, xo, xi⟩)
  have hwr : IntKind.i64.wrap ((n : Int) + 1 - 1) = (n : Int) := by rw [show (n : Int) + 1 - 1 = (n : Int) by omega]; exact IntWalk.i64_in _ ⟨by omega, by omega⟩
  clear H H8 hok hn hB hb8
  go_enter Try.func13, Try.ntmps13
  go_wp2_with fail
  try rw [hW8]
  clear hW8
  go_region_law (refine step_append_lies _ (by rfl) _ _ _ (by rfl) B 55 i0 _ 4 32 Try.underlying46 hi hz0 hz1 hz2 rfl (by omega) (.slice p n cap) n (flatI L) (by rfl) (by first | with_reducible exact (O8.alloc _).drew | with_reducible exact O8.alloc _) _ 1 1 (#[.int .u64 xh, .int .u64 xl, .int .i64 xo, .int .i64 xi] : Array Value).toList (by rfl) (by rfl) (by first | with_reducible exact newsHd _ _ _ | with_reducible exact newsHe _ _ _ | with_reducible exact newsH _ _ _) (by simp [Value.oneCell']) (by omega) (by unfold maxLen; omega) (by omega) (by have := hBh.out; have := hs8.out; simp; omega) _ rfl ?_; intro g9 cap9 w9 hown9 hgrow9 hat9 hlt9; have S9 := Sole.grown (S := fun j => (Value.slice p n cap).ownBlock = some j) hgrow9 (fun j hj => hj); have B9 := ((N8.out.alloc _).drew).sole S9 (fun hj => ne8 _ hj rfl); have HB9 := hid B9; obtain ⟨l9, k9, f9⟩ := B9)
  all_goals
    have O9 : ItsOwn w9 B (.slice (some ⟨g9, 0, none⟩) (n + 1) cap9) (L ++ [⟨xh, xl, xo, xi⟩]) := by
      unfold ItsOwn
      rw [List.length_append, hnh.out, flatI_append, flatI_one]
      exact hown9
    have hg9 : g9 ≠ h := by
      rcases hat9 with e | e
      · exact ne8 _ e
      · intro e2; simp at e; omega
    have hg9' : (Value.slice p n cap).ownBlock = some g9 ∨ w.heap.size ≤ g9 := by
      rcases hat9 with e | e
      · exact .inl e
      · right; simp at e; have := hs8.out; omega
    have SX : Sole (fun j => j = h) w9 (w9.setCell ⟨h, 0, none⟩ (.slice (some ⟨g9, 0, none⟩) (n + 1) cap9)) := Sole.setCell _ _ rfl
    have OX := O9.sole SX (fun k hk e => by simp [Value.ownBlock] at hk; omega)
    have BX := HB9.out.set 0 (.slice (some ⟨g9, 0, none⟩) (n + 1) cap9) (by simp)
    have HX := hid (show HeapS _ h B (.slice (some ⟨g9, 0, none⟩) (n + 1) cap9) (L ++ [⟨xh, xl, xo, xi⟩]) from ⟨BX, OX, fun k hk => by simp [Value.ownBlock] at hk; omega⟩)
    have S8 : Sole (fun j => j = h ∨ (Value.slice p n cap).ownBlock = some j) w9 (w9.setCell ⟨h, 0, none⟩ (.slice (some ⟨g9, 0, none⟩) (n + 1) cap9)) := SX.mono (fun k _ e => .inl e)
    have S7 := S9.mono (T := fun j => j = h ∨ (Value.slice p n cap).ownBlock = some j) (fun k _ e => .inr e)
    have S6 : Sole (fun j => j = h ∨ (Value.slice p n cap).ownBlock = some j) w W8 := Sole.made hb8h.out
    have hSX := hid ((S6.trans ((Sole.alloc W8 _).drew.trans S7)).trans S8)
    have KR := hid (fun w H => rise_any h B g9 cap9 (n + 1) n (L ++ [⟨xh, xl, xo, xi⟩]) (by rw [List.length_append, hnh.out]; rfl) (by omega) (by have := hst.out; rw [hnh.out] at this; exact this) w H)
    obtain ⟨lx, kx, fx⟩ := BX
    clear hown9 hgrow9 hat9 hlt9 S9 HB9 l9 k9 f9 O9 SX OX S8 S7 S6 m8 j8 g8 l8 k8 f8 N8 O8 ne8 hst hi hz0 hz1 hz2
    generalize World.setCell _ _ _ = W9 at *
    go_wp2_with fail
    refine (KR.out _ HX.out).mono ?_
    rintro e w4 ⟨rfl, L', hl', hok', hp', H', S'⟩
    go_wp2_with fail
    go_end0
    refine ⟨rfl, _, L', hl', hok', hp', H', fun k hk => ?_, hSX.out.trans' S' (fun k hk e => ?_)⟩
    · simp [Value.ownBlock] at hk
      subst hk
      exact hg9'
    · subst e
      rcases hg9' with e | e
      · exact .inr e
      · omega
end Go.Proofs.Ytibjccfillhfpaa
