/-
  Package little: an Out's state; lend, where there is room.
-/
import Derived.Test.YtpgibngohbohdaaLittleOut
import Derived.Test.YtpgibngohbohdaaOctAppend
import Derived.WalkKit
namespace Go.Proofs.Ytpgibngohbohdaa
open Go.RowKit
set_option linter.unusedVariables false
set_option linter.unusedSimpArgs false

/-- An Out's own blocks: its cells, and its row. -/
def Mine (p : Nat) (a : Option Addr) (k : Nat) : Prop := k = p ∨ ∃ x : Addr, a = some x ∧ x.block = k
/-- An Out: what was written, its error. -/
def OutS (w : World) (p : Nat) (a : Option Addr) (room : Int) (l : List UInt8) (e : Int) : Prop :=
  ∃ cap, Blk w p (outC room a l.length cap e) ∧ w.ownsRow (p + 1) 5 1 (.slice a l.length cap) l.length (Lib.byteCells l)
/-- What a call of an Out changes. -/
structure Grew (p : Nat) (a a' : Option Addr) (w w' : World) : Prop where
  sole : Sole (Mine p a) w w'
  new : a' = a ∨ ∃ g, a' = some ⟨g, 0, none⟩ ∧ w.heap.size ≤ g

theorem Grew.refl (p : Nat) (a : Option Addr) (w : World) : Grew p a a w w := ⟨Sole.refl _ _, .inl rfl⟩
theorem Grew.trans {p : Nat} {a a' a'' : Option Addr} {w w1 w2 : World} (h : Grew p a a' w w1) (k : Grew p a' a'' w1 w2) : Grew p a a'' w w2 := by
  refine ⟨h.sole.trans' k.sole fun j hj hm => ?_, ?_⟩
  · rcases hm with rfl | ⟨x, hx, rfl⟩
    · exact .inl rfl
    · rcases h.new with e | ⟨g, e, hg⟩
      · exact .inr ⟨x, e ▸ hx, rfl⟩
      · rw [e] at hx; cases hx
        simp only at hj
        omega
  · rcases k.new with e | ⟨g, e, hg⟩
    · rcases h.new with e' | ⟨g, e', hg⟩
      · exact .inl (e.trans e')
      · exact .inr ⟨g, e.trans e', hg⟩
    · exact .inr ⟨g, e, Nat.le_trans h.sole.size hg⟩
theorem OutS.lt {w : World} {p : Nat} {a : Option Addr} {room : Int} {l : List UInt8} {e : Int} (h : OutS w p a room l e) : p < w.heap.size := by
  obtain ⟨cap, B, _⟩ := h; exact B.lt
/-- Its row lies behind its cells. -/
theorem OutS.mine {w : World} {p : Nat} {a : Option Addr} {room : Int} {l : List UInt8} {e : Int} (h : OutS w p a room l e) {k : Nat} (hk : Mine p a k) : p ≤ k ∧ k < w.heap.size := by
  obtain ⟨cap, B, O⟩ := h
  rcases hk with rfl | ⟨x, rfl, rfl⟩
  · exact ⟨Nat.le_refl _, B.lt⟩
  · have := O.lt x.block rfl
    exact ⟨by omega, this.2⟩
theorem OutS.kept {S : Nat → Prop} {w w' : World} {p : Nat} {a : Option Addr} {room : Int} {l : List UInt8} {e : Int} (h : OutS w p a room l e) (hs : Sole S w w') (hn : ∀ k, Mine p a k → ¬ S k) : OutS w' p a room l e := by
  obtain ⟨cap, B, O⟩ := h
  refine ⟨cap, B.sole hs (hn p (.inl rfl)), own_sole O hs fun k hk => ?_⟩
  rcases a with _ | x
  · cases hk
  · exact hn k (.inr ⟨x, rfl, by simpa [Value.ownBlock] using hk⟩)
theorem OutS.more {w w' : World} {p : Nat} {a : Option Addr} {room : Int} {l : List UInt8} {e : Int} (h : OutS w p a room l e) (hb : Below w.heap.size w w') : OutS w' p a room l e :=
  h.kept (S := fun _ => False) (Sole.made hb) fun _ _ x => x
theorem OutS.below {w w' : World} {p : Nat} {a a' : Option Addr} {room : Int} {l : List UInt8} {e : Int} (h : OutS w p a room l e) (hb : Grew p a a' w w') : Below p w w' :=
  hb.sole.below (Nat.le_of_lt h.lt) fun k hk => (h.mine hk).1
theorem OutS.new (w : World) (room : Int) (t : TypeId) : OutS (w.alloc (.cells (outC room none 0 0 0) t)) w.heap.size none room [] 0 :=
  ⟨0, Blk.new w _ t, World.ownsRow_nil _ _ _ _⟩
theorem OutS.fail {w : World} {p : Nat} {a : Option Addr} {room : Int} {l : List UInt8} {e : Int} (h : OutS w p a room l e) (c : Int) : OutS (w.setCell ⟨p, 3, none⟩ (.int .i64 c)) p a room l c ∧ Grew p a a w (w.setCell ⟨p, 3, none⟩ (.int .i64 c)) := by
  obtain ⟨cap, B, O⟩ := h
  exact ⟨⟨cap, B.set 3 _ (by simp), ownsRow_setCell_below O (Nat.lt_succ_self p) _⟩, Sole.setCell _ _ (.inl rfl), .inl rfl⟩

set_option maxRecDepth 100000 in
set_option maxHeartbeats 4000000 in
theorem lend_ok (size : Nat) (room : Int) (a : Option Addr) (n cap : Nat) (xs : List Value) (p : Nat) (w : World) (B : Blk w p (outC room a n cap 0)) (O : w.ownsRow (p + 1) 5 1 (.slice a n cap) n xs) (h0 : 0 ≤ room) (h1 : room ≤ 65536) (h : (n : Int) + size ≤ room) (hs : 1 ≤ size) :
    Calls Try.prog 100 #[at' p, .int .i64 size] w fun e w' => ∃ g cap', e = .returned (.tuple #[.slice (some ⟨g, n, none⟩) size size, .bool true]) ∧ Blk w' p (outC room (some ⟨g, 0, none⟩) (n + size) cap' 0) ∧ w'.ownsRow (p + 1) 5 1 (.slice (some ⟨g, 0, none⟩) (n + size) cap') (n + size) (xs ++ List.replicate size (.int .u8 0)) ∧ Grew p a (some ⟨g, 0, none⟩) w w' := by
  have u : IntKind.i64.wrap (room - n) = room - n := IntWalk.i64_in _ (by omega)
  have u2 : IntKind.i64.wrap ((n : Int) + size) = (n : Int) + size := IntWalk.i64_in _ (by omega)
  have g1 : decide (room - n < (size : Int)) = false := decide_eq_false (by omega)
  have HB := hid B
  have lt := B.lt
  obtain ⟨v', w', hr, O', gr, mv⟩ := append_zeros_new (p + 1) 35 w (.slice a n cap) n xs O size (by omega) (by omega)
  obtain ⟨g, cap', cur, rfl, hbg, hgc, hn', hc', hcs, htk⟩ := O'.2.resolve_left (fun x => by have := x.2; omega)
  have hb : Below (p + 1) w w' := Below.grown (Below.refl _ _) gr (by omega) (fun k e => (O.lt k e).1)
  have HG : Hid (Grew p a (some ⟨g, 0, none⟩) w w') := hid (by
    refine ⟨Sole.grown gr fun k hk => ?_, ?_⟩
    · rcases a with _ | x
      · cases hk
      · exact .inr ⟨x, rfl, by simpa [Value.ownBlock] using hk⟩
    · rcases mv with e | ⟨g', e, hg'⟩
      · rcases a with _ | x
        · cases e
        · obtain ⟨g2, c2, cu2, hv, _⟩ := O.2.resolve_left (fun x => by cases x.1)
          cases hv
          simp [Value.ownBlock] at e
          exact .inl (by rw [e])
      · simp [Value.ownBlock] at e
        exact .inr ⟨g, rfl, by omega⟩)
  have HB' := hid (HB.out.below hb (by omega))
  obtain ⟨l0, k0, f0⟩ := B
  obtain ⟨l1, k1, f1⟩ := HB'.out
  have e1 : ¬ n + size = n := by omega
  have e2 : n + size ≤ cap' := hn'
  have e3 : ((n : Int) + size) ≤ cap' := by omega
  have e4 : n + size - n = size := by omega
  have e5 : (n : Int) ≤ n + size := by omega
  have HO := hid O'
  clear O gr hcs htk hgc hc' O' hn' mv
  go_enter Try.func100, Try.ntmps100
  go_wp2_with (at_builtin; refine Lib.wpList_append_run _ rfl _ _ _ _ rfl _ _ rfl rfl _ _ hr ?_)
  go_ret2
  exact ⟨g, cap', by rw [e4]; rfl, HB'.out.set 2 _ (by simp), ownsRow_setCell_below HO.out (Nat.lt_succ_self p) _, HG.out.sole.trans (Sole.setCell _ _ (.inl rfl)), HG.out.new⟩
end Go.Proofs.Ytpgibngohbohdaa
