/-
  Package kdtree: of a tree of nothing.
-/
import Derived.Test.YtghcfidmhabfhaaKdLib
import Derived.Test.YtghcfidmhabfhaaSole
import Derived.Deep.RegionWith
import Derived.Deep.DeepCutAuto
namespace Go.Proofs.Ytghcfidmhabfhaa
open Go.RowKit
set_option linter.unusedVariables false
set_option linter.unusedSimpArgs false

/-- A function's value is stored as any other. -/
@[go_sem] theorem run_store_func {P : Program} {w : World} {a : Addr} {m : Mode} (f : Fn) (ts : Array Value) (cs : Array Value) : (store a (.func f ts cs) m).run P w = stored P w a (.func f ts cs) m := run_store P w a _ m rfl
/-- A tree of nothing: none, or one without a top. -/
def NoTree (w : World) (v : Value) : Prop := v = .pointer none ∨ ∃ p, v = .pointer (some ⟨p, 0, none⟩) ∧ Blk w p #[.pointer none]
theorem NoTree.more {w w' : World} {v : Value} (h : NoTree w v) (hb : Below w.heap.size w w') : NoTree w' v := h.imp id fun ⟨p, e, B⟩ => ⟨p, e, B.more hb⟩
set_option maxRecDepth 100000 in
theorem kat_nil (a b : Value) (d : Int) (w : World) : Calls Try.prog 82 #[.pointer none, .int .i64 d, a, b] w fun e w' => e = .returned (.tuple #[]) ∧ w' = w := by
  go_enter Try.func82, Try.ntmps82
  go_wp2
  (try simp only [Exit.inBlock, Exit.then]); refine bodyPost_ret (results_none rfl _ _ _) rfl ?_
  exact ⟨rfl, rfl⟩
/-- The function that a walk goes on with. -/
abbrev katf (w : World) : Value := .func (.func 82) #[] #[.pointer (some ⟨w.heap.size, 0, none⟩), .pointer (some ⟨w.heap.size + 1, 0, none⟩)]
set_option maxRecDepth 100000 in
set_option maxHeartbeats 1000000 in
/-- A walk of a tree that is there. -/
theorem kwalk_of (p : Nat) (tv : Value) (ht : tv.oneCell' = true) (g : FuncId) (cs : Array Value) (w : World) (B : Blk w p #[tv]) (Q : World → Prop)
    (hat : ∀ W3, Below w.heap.size w W3 → Blk W3 w.heap.size #[.func (.func g) #[] cs] → Blk W3 (w.heap.size + 1) #[katf w] → Calls Try.prog 82 #[tv, .int .i64 0, .pointer (some ⟨w.heap.size, 0, none⟩), .pointer (some ⟨w.heap.size + 1, 0, none⟩)] W3 fun e w' => e = .returned (.tuple #[]) ∧ Q w') :
    Calls Try.prog 55 #[.pointer (some ⟨p, 0, none⟩), .func (.func g) #[] cs] w fun e w' => e = .returned (.tuple #[]) ∧ Q w' := by
  have B1 := Blk.new w #[.func (.func g) #[] cs] 109
  have B2 := Blk.new (w.alloc (.cells #[.func (.func g) #[] cs] 109)) #[Value.nilFunc] 113
  have hb1 := (Below.refl w.heap.size w).alloc (Nat.le_refl _) (.cells #[.func (.func g) #[] cs] 109)
  have hb12 := (Below.refl _ (w.alloc (.cells #[.func (.func g) #[] cs] 109))).alloc (Nat.le_refl _) (.cells #[Value.nilFunc] 113)
  have hb2 := hb1.alloc (by simp) (.cells #[Value.nilFunc] 113)
  rw [World.size_alloc] at B2
  have B1' := B1.more hb12
  have hpl := B.lt
  have BP := B.more hb2
  have hath := hid hat
  clear hat B1 hb1 hb12 B
  go_enter Try.func55, Try.ntmps55
  go_upto_region 2 with (fail)
  generalize (w.alloc _).alloc _ = W2 at *
  have S3 : Sole (fun k => k = w.heap.size + 1) W2 (W2.setCell ⟨w.heap.size + 1, 0, none⟩ (katf w)) := Sole.setCell _ _ rfl
  have B3 := B2.set 0 (katf w) (by simp)
  have hb3 := S3.below (B := w.heap.size) hb2.size (fun k hk => by omega)
  have D3 := hb2.trans hb3
  have B13 := B1'.sole S3 (by omega)
  have BP3 := BP.sole S3 (by omega)
  have K := hid (hath.out _ D3.drew (B13.drew) (B3.drew))
  obtain ⟨l2, k2, f2⟩ := B2
  obtain ⟨l3, k3, f3⟩ := B3
  obtain ⟨l4, k4, f4⟩ := BP3
  clear hb2 hb3 D3 B13 BP B1' S3 hath
  go_wp2_with fail
  generalize World.setCell _ _ _ = W3 at *
  clear l2 k2 f2
  go_region_with ((with_reducible refine K.out.mono ?_); rintro e w6 ⟨rfl, hQ⟩)
  all_goals
    replace hQ := hid hQ
    go_wp2_with fail
    go_end0
    exact ⟨rfl, hQ.out⟩
set_option maxRecDepth 100000 in
theorem kwalk_none (g : FuncId) (cs : Array Value) (w : World) : Calls Try.prog 55 #[.pointer none, .func (.func g) #[] cs] w fun e w' => e = .returned (.tuple #[]) ∧ Below w.heap.size w w' := by
  have B2 := Blk.new (w.alloc (.cells #[.func (.func g) #[] cs] 109)) #[Value.nilFunc] 113
  have hb2 := ((Below.refl w.heap.size w).alloc (Nat.le_refl _) (.cells #[.func (.func g) #[] cs] 109)).alloc (by simp) (.cells #[Value.nilFunc] 113)
  rw [World.size_alloc] at B2
  go_enter Try.func55, Try.ntmps55
  go_upto_region 2 with (fail)
  generalize (w.alloc _).alloc _ = W2 at *
  have D3 := hid (hb2.setCell (p := ⟨w.heap.size + 1, 0, none⟩) (by show w.heap.size ≤ w.heap.size + 1; omega) (katf w))
  obtain ⟨l2, k2, f2⟩ := B2
  clear hb2
  go_wp2_with fail
  go_end0
  exact ⟨rfl, D3.out⟩
theorem kwalk_nil (v : Value) (g : FuncId) (cs : Array Value) (w : World) (h : NoTree w v) : Calls Try.prog 55 #[v, .func (.func g) #[] cs] w fun e w' => e = .returned (.tuple #[]) ∧ Below w.heap.size w w' := by
  rcases h with rfl | ⟨p, rfl, B⟩
  · exact kwalk_none g cs w
  · exact kwalk_of p (.pointer none) rfl g cs w B _ (fun W3 hb _ _ => (kat_nil _ _ 0 W3).mono fun e w' h => ⟨h.1, by rw [h.2]; exact hb⟩)
end Go.Proofs.Ytghcfidmhabfhaa
