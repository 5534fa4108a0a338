/-
  Package little: Text of an Out.
-/
import Derived.Test.YtpgibngohbohdaaLittlePad
namespace Go.Proofs.Ytpgibngohbohdaa
open Go.RowKit
set_option linter.unusedVariables false
set_option linter.unusedSimpArgs false

/-- An Out with an error stays as it is. -/
theorem text_err (s : ByteArray) (p : Nat) (a : Option Addr) (room : Int) (l : List UInt8) (er : Int) (w : World) (O : OutS w p a room l er) (h : (er == 0) = false) :
    Calls Try.prog 81 #[at' p, .string s] w fun e w' => e = .returned (.tuple #[]) ∧ w' = w := by
  obtain ⟨cap, B, _⟩ := O
  have K := hid (fun size => lend_err size room er a l.length cap p w B h)
  clear B
  go_enter Try.func81, Try.ntmps81
  go_wp2_with fail
  refine (K.out _).mono ?_
  rintro e w1 ⟨rfl, rfl⟩
  go_wp2
  go_end0
  exact ⟨rfl, rfl⟩
theorem text_full (s : ByteArray) (p : Nat) (a : Option Addr) (room : Int) (l : List UInt8) (w : World) (O : OutS w p a room l 0) (h0 : 0 ≤ room) (h1 : room ≤ 65536) (hn : (l.length : Int) ≤ room) (h : room - l.length < s.size) :
    Calls Try.prog 81 #[at' p, .string s] w fun e w' => e = .returned (.tuple #[]) ∧ w' = w.setCell ⟨p, 3, none⟩ (.int .i64 10) := by
  obtain ⟨cap, B, _⟩ := O
  have K := hid (lend_full s.size room a l.length cap p w B h0 h1 hn h)
  clear B
  go_enter Try.func81, Try.ntmps81
  go_wp2_with fail
  refine K.out.mono ?_
  rintro e w1 ⟨rfl, rfl⟩
  go_wp2
  go_end0
  exact ⟨rfl, rfl⟩

theorem wpList_copy_eq {P : Program} (w : World) {ops : Array Oper} {rest : List Oper} {o : Oper} {a : Act} {Q : Exit → Act → World → Prop} (hgd : o.guard = none) (d s : Operand) (t t' : TypeId)
    (ho : o.op = .call { callee := .builtin .copy, args := #[d, s], argTypes := #[t, t'] }) (vd vs : Value) (hd : a.eval d = vd) (hs : a.eval s = vs)
    (v' : Value) (w' : World) (hr : (Builtin.copy_ #[t, t'] o.type #[vd, vs]).run P w = .ok v' w') (h : wpList P ops Q rest (a.put o.dst v') w') : wpList P ops Q (o :: rest) a w := by
  refine wpList_plain hgd fun K hK => ?_
  unfold Oper.wp
  simp [execOp, ho, resolve, invoke, builtin, hd, hs, hr, Result.andThen]
  exact hK _ _ h

theorem size_list (s : ByteArray) : s.data.toList.length = s.size := Array.length_toList
theorem u8One : (Try.prog.info? 5).map (·.size) = some 1 := by kernel_rfl

/-- A store of what is there. -/
theorem set_same {w : World} {p : Nat} {room : Int} {a : Option Addr} {l : List UInt8} {e : Int} {cap : Nat} (B : Blk w p (outC room a l.length cap e)) (O : w.ownsRow (p + 1) 5 1 (.slice a l.length cap) l.length (Lib.byteCells l)) :
    OutS (w.setCell ⟨p, 2, none⟩ (.slice a l.length cap)) p a room l e ∧ Grew p a a w (w.setCell ⟨p, 2, none⟩ (.slice a l.length cap)) :=
  ⟨⟨cap, B.set 2 _ (by simp), ownsRow_setCell_below O (Nat.lt_succ_self p) _⟩, Sole.setCell _ _ (.inl rfl), .inl rfl⟩

set_option maxRecDepth 100000 in
set_option maxHeartbeats 2000000 in
theorem text_ok (s : ByteArray) (p : Nat) (a : Option Addr) (room : Int) (l : List UInt8) (w : World) (O : OutS w p a room l 0) (h0 : 0 ≤ room) (h1 : room ≤ 65536) (h : (l.length : Int) + s.size ≤ room) :
    Calls Try.prog 81 #[at' p, .string s] w fun e w' => e = .returned (.tuple #[]) ∧ ∃ a', OutS w' p a' room (l ++ s.data.toList) 0 ∧ Grew p a a' w w' := by
  obtain ⟨cap, B, O⟩ := O
  by_cases hs : s.size = 0
  · have K := hid (lend_zero room a l.length cap (Lib.byteCells l) p w B O h0 h1 (by omega))
    have E := hid (set_same B O)
    have e0 : s.data.toList = [] := by
      apply List.eq_nil_of_length_eq_zero
      rw [size_list]; exact hs
    rw [← show ((s.size : Nat) : Int) = 0 by omega] at K
    have kc := fun (w : World) ty => Lib.run_copy_empty_string (P := Try.prog) w 35 9 ty 5 a 0 0 s Try.underlying35 (by rw [u8One]; rfl) hs
    have HE := hid e0
    replace kc := hid kc
    clear e0 B O hs
    go_enter Try.func81, Try.ntmps81
    go_wp2_with fail
    refine K.out.mono ?_
    rintro e w1 ⟨rfl, rfl⟩
    go_wp2_with (with_reducible refine wpList_copy_eq _ rfl (.tmp 14) (.tmp 15) _ _ rfl _ _ rfl rfl _ _ (kc.out _ _) ?_)
    go_end0
    exact ⟨rfl, a, by rw [HE.out, List.append_nil]; exact E.out.1, E.out.2⟩
  · have K := hid (lend_ok s.size room a l.length cap (Lib.byteCells l) p w B O h0 h1 h (by omega))
    clear B O
    go_enter Try.func81, Try.ntmps81
    go_wp2_with fail
    refine K.out.mono ?_
    rintro e w1 ⟨g, cap', rfl, B1, O1, G1⟩
    obtain ⟨g', c', cur, hv, hbg, hg, hn', hc', hcs, htk⟩ := O1.2.resolve_left (fun x => by cases x.1)
    cases hv
    have kc := hid (fun ty => Lib.run_copy_row_string (P := Try.prog) w1 35 9 ty 5 g l.length s.size s.size s cur 5 Try.underlying35 u8One hg (Nat.le_refl _) (by omega))
    have hgp : p ≠ g := by omega
    have E : Hid (∃ a', OutS (w1.setRow g (cur.toList.take l.length ++ Lib.byteCells s.data.toList ++ cur.toList.drop (l.length + s.size)).toArray) p a' room (l ++ s.data.toList) 0 ∧ Grew p a a' w (w1.setRow g (cur.toList.take l.length ++ Lib.byteCells s.data.toList ++ cur.toList.drop (l.length + s.size)).toArray)) := hid (by
      have hsz : s.data.toList.length = s.size := size_list s
      have hcl : cur.toList.length = cap' := by simpa using hcs
      have hS : Sole (Mine p (some ⟨g, 0, none⟩)) w1 (w1.setRow g (cur.toList.take l.length ++ Lib.byteCells s.data.toList ++ cur.toList.drop (l.length + s.size)).toArray) :=
        ⟨rfl, rfl, rfl, by simp [World.setRow], fun k _ hk => setRow_other _ _ _ _ fun e => hk (.inr ⟨_, rfl, e.symm⟩)⟩
      refine ⟨some ⟨g, 0, none⟩, ⟨cap', ?_, ?_⟩, G1.trans ⟨hS, .inl rfl⟩⟩
      · have := B1.sole (S := fun k => k = g) (w' := w1.setRow g (cur.toList.take l.length ++ Lib.byteCells s.data.toList ++ cur.toList.drop (l.length + s.size)).toArray)
          ⟨rfl, rfl, rfl, by simp [World.setRow], fun k _ hk => setRow_other _ _ _ _ hk⟩ hgp
        rw [List.length_append, hsz]
        exact this
      · rw [List.length_append, hsz]
        refine ⟨by rw [Lib.byteCells_length, List.length_append, hsz, Nat.mul_one], .inr ⟨g, cap', _, rfl, hbg, setRow_heap _ _ _ _ _ _ hg, hn', hc', ?_, ?_⟩⟩
        · simp only [List.size_toArray, List.length_append, List.length_take, List.length_drop, Lib.byteCells_length, hsz, hcl]
          omega
        · have ht : cur.toList.take l.length = Lib.byteCells l := by
            have := congrArg (List.take l.length) htk
            rw [List.take_take, Nat.mul_one, Nat.min_eq_left (by omega)] at this
            rw [this, List.take_append_of_le_length (by rw [Lib.byteCells_length]; exact Nat.le_refl _), List.take_of_length_le (by rw [Lib.byteCells_length]; exact Nat.le_refl _)]
          rw [ht, Lib.byteCells_append, Nat.mul_one]
          exact List.take_left' (by rw [List.length_append, Lib.byteCells_length, Lib.byteCells_length, hsz]))
    clear B1 O1 G1 hg hcs htk hc' hn'
    go_wp2_with (with_reducible refine wpList_copy_eq _ rfl (.tmp 14) (.tmp 15) _ _ rfl _ _ rfl rfl _ _ (kc.out _) ?_)
    go_end0
    exact ⟨rfl, by have h := E.out; simp only [List.append_assoc] at h ⊢; exact h⟩
end Go.Proofs.Ytpgibngohbohdaa
