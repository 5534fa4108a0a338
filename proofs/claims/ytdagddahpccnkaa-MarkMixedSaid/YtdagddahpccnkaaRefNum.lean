/-
  The document's own numbers as octets, and back.
-/
import Derived.Test.YtdagddahpccnkaaOctClone
import Derived.Test.YtdagddahpccnkaaLittleNum
namespace Go.Proofs.Ytdagddahpccnkaa
open Go.RowKit
set_option linter.unusedVariables false
set_option linter.unusedSimpArgs false

/-- append(s, b): one octet more. -/
theorem push_octet (base : Nat) (ty : TypeId) (w : World) (v : Value) (l : List UInt8) (hown : w.ownsRow base 5 1 v l.length (Lib.byteCells l)) (c : UInt8) (hn : l.length ≤ 10000000000) (hbase : base ≤ w.heap.size) :
    ∃ v' w', (Builtin.append_ #[33, 33] ty #[v, .slice (some ⟨w.heap.size, 0, none⟩) 1 1]).run Try.prog (w.alloc (.cells #[.int .u8 (c.toNat : Int)] 5)) = .ok v' w' ∧ w'.ownsRow base 5 1 v' (l ++ [c]).length (Lib.byteCells (l ++ [c])) ∧ Sole (fun k => v.ownBlock = some k) w w' ∧ Moved w v v' := by
  have hb := Below.alloc (Below.refl w.heap.size w) (Nat.le_refl _) (.cells #[.int .u8 (c.toNat : Int)] 5)
  have O1 := hown.alloc (.cells #[.int .u8 (c.toNat : Int)] 5)
  have hc : Octs (w.alloc (.cells #[.int .u8 (c.toNat : Int)] 5)) (some ⟨w.heap.size, 0, none⟩) [c] := by
    refine .inr ⟨w.heap.size, 0, rfl, by simp, fun i hi => ?_⟩
    have : i = 0 := by simpa using hi
    subst this
    have := (Blk.new w #[.int .u8 (c.toNat : Int)] 5).cell 0
    simp [this]
  obtain ⟨v', w', hr, O, gr, mv⟩ := append_octs base ty _ v l.length _ O1 _ 1 [c] hc (by simp; omega) (by simp; omega)
  refine ⟨v', w', hr, ?_, (Sole.made hb).trans (Sole.grown gr fun k hk => hk), ?_⟩
  · rw [List.length_append, Lib.byteCells_append]; exact O
  · rcases mv with h | ⟨g, h, hg⟩
    · exact .inl h
    · exact .inr ⟨g, h, by simp at hg; omega⟩

theorem refNum_pos (n s : Nat) (hn : n < 2 ^ 63) (hs : s ≤ 1000) (w : World) :
    Calls Try.prog 23 #[.int .i64 n, .int .i64 s] w fun e w' => ∃ v, e = .returned v ∧ Fresh w w' v (leB n s) := by
  replace hn := hid hn
  go_enter Try.func23, Try.ntmps23
  go_wp2_with fail
  go_loopw [0, 5, 6] (fun m out i wx => ∃ k : Nat, k ≤ s ∧ i = .int .i64 (k : Int) ∧ m = .int .i64 ((n / 256 ^ k : Nat) : Int) ∧ (∃ a cap, out = .slice a k cap ∧ wx.ownsRow w.heap.size 5 1 (.slice a k cap) (leB n k).length (Lib.byteCells (leB n k))) ∧ Below w.heap.size w wx) (fun _ _ i _ => s - (intOf i).toNat)
  case atStart => exact ⟨0, by omega, rfl, by simp, ⟨none, 0, rfl, World.ownsRow_nil _ _ _ _⟩, Below.refl _ _⟩
  case round =>
    obtain ⟨k, hk, rfl, rfl, ⟨a, cap, rfl, O⟩, hb⟩ := hrel
    by_cases hlt : k < s
    · have sn := leB_snoc k n
      have hm : n / 256 ^ k < 2 ^ 63 := Nat.lt_of_le_of_lt (Nat.div_le_self _ _) hn.out
      have e2 : n / 256 ^ (k + 1) = n / 256 ^ k / 256 := by rw [Nat.div_div_eq_div_mul, ← Nat.pow_succ]
      obtain ⟨v', w', hr, O', S', mv⟩ := push_octet w.heap.size 33 _ _ _ O (UInt8.ofNat (n / 256 ^ k)) (by rw [leB_length]; omega) hb.size
      rw [← sn] at O'
      have hb' := hb.trans (S'.below (B := w.heap.size) hb.size fun j hj => (O.lt j hj).1)
      rw [byte_ofNat] at hr
      replace sn := hid sn
      replace e2 := hid e2
      have E : Hid (∃ a cap, v' = .slice a (k + 1) cap ∧ w'.ownsRow w.heap.size 5 1 (.slice a (k + 1) cap) (leB n (k + 1)).length (Lib.byteCells (leB n (k + 1)))) := hid (by
        rcases O'.2 with ⟨_, h0⟩ | ⟨g, c, cur, hv, _⟩
        · rw [leB_length] at h0; omega
        · rw [leB_length] at hv
          exact ⟨_, c, hv, hv ▸ O'⟩)
      replace hb' := hid hb'
      clear O S' mv O' hb
      generalize hq : n / 256 ^ k = q at *
      replace hq := hid hq
      have b1 : 0 ≤ (q : Int) ∧ (q : Int) ≤ 9223372036854775807 := by omega
      clear hm
      go_wp2_with (at_builtin; refine Lib.wpList_append_run _ rfl _ _ _ _ rfl _ _ rfl rfl _ _ hr ?_)
      go_roundw
      case rel => exact ⟨k + 1, by omega, by go_num, by rw [e2.out]; go_num, E.out, hb'.out⟩
      case measure => simp [intOf]; omega
    · obtain rfl : k = s := by omega
      have E := hid (show Fresh w _ (.slice a k cap) (leB n k) from ⟨a, cap, by rw [leB_length], by rw [leB_length] at O ⊢; exact O, hb⟩)
      clear O hb
      go_wp2
      go_ret
      exact ⟨_, rfl, E.out⟩
theorem neg_tdiv (q : Int) (h1 : -9223372036854775808 ≤ q) (h2 : q ≤ 0) : -9223372036854775808 ≤ q.tdiv 256 ∧ q.tdiv 256 ≤ 0 := by
  have e : q.tdiv 256 = -((-q) / 256) := by
    have := Int.neg_tdiv (-q) 256
    rw [Int.neg_neg] at this
    rw [this, Int.tdiv_eq_ediv_of_nonneg (by omega)]
  omega
theorem neg_octet (m : Int) : ((UInt8.ofNat (m % 256).toNat).toNat : Int) = m % 256 := by
  rw [byte_ofNat]; omega
theorem refNum_neg (n : Int) (s : Nat) (hn : n < 0) (h63 : -9223372036854775808 ≤ n) (hs : s ≤ 1000) (w : World) :
    Calls Try.prog 23 #[.int .i64 n, .int .i64 s] w fun e w' => ∃ v l, e = .returned v ∧ l.length = s ∧ Fresh w w' v l := by
  go_enter Try.func23, Try.ntmps23
  go_wp2_with fail
  go_loopw [0, 5, 6] (fun m out i wx => ∃ (k : Nat) (q : Int) (l : List UInt8), k ≤ s ∧ l.length = k ∧ i = .int .i64 (k : Int) ∧ m = .int .i64 q ∧ -9223372036854775808 ≤ q ∧ q ≤ 0 ∧ (∃ a cap, out = .slice a k cap ∧ wx.ownsRow w.heap.size 5 1 (.slice a k cap) l.length (Lib.byteCells l)) ∧ Below w.heap.size w wx) (fun _ _ i _ => s - (intOf i).toNat)
  case atStart => exact ⟨0, n, [], by omega, rfl, rfl, rfl, h63, by omega, ⟨none, 0, rfl, World.ownsRow_nil _ _ _ _⟩, Below.refl _ _⟩
  case round =>
    clear hn h63
    obtain ⟨k, q, l, hk, hl, rfl, rfl, q1, q2, ⟨a, cap, rfl, O⟩, hb⟩ := hrel
    by_cases hlt : k < s
    · obtain ⟨c, hc⟩ : ∃ c : UInt8, (c.toNat : Int) = q.tmod 256 % 256 := ⟨_, neg_octet _⟩
      obtain ⟨q', hq', r1, r2⟩ : ∃ q' : Int, q.tdiv 256 = q' ∧ -9223372036854775808 ≤ q' ∧ q' ≤ 0 := ⟨_, rfl, (neg_tdiv q q1 q2).1, (neg_tdiv q q1 q2).2⟩
      obtain ⟨v', w', hr, O', S', mv⟩ := push_octet w.heap.size 33 _ _ _ O c (by omega) hb.size
      have hb' := hid (hb.trans (S'.below (B := w.heap.size) hb.size fun j hj => (O.lt j hj).1))
      rw [hc] at hr
      have E : Hid (∃ a cap, v' = .slice a (k + 1) cap ∧ w'.ownsRow w.heap.size 5 1 (.slice a (k + 1) cap) (l ++ [c]).length (Lib.byteCells (l ++ [c]))) := hid (by
        rcases O'.2 with ⟨_, h0⟩ | ⟨g, c', cur, hv, _⟩
        · simp at h0
        · rw [show (l ++ [c]).length = k + 1 by simp [hl]] at hv
          exact ⟨_, _, hv, hv ▸ O'⟩)
      replace hc := hid hc
      replace hl := hid hl
      clear O S' mv O' hb
      go_wp2_with (at_builtin; refine Lib.wpList_append_run _ rfl _ _ _ _ rfl _ _ rfl rfl _ _ hr ?_)
      go_roundw
      case rel => exact ⟨k + 1, q', l ++ [c], by omega, by simp [hl.out], by go_num, rfl, r1, r2, E.out, hb'.out⟩
      case measure => simp [intOf]; omega
    · obtain rfl : k = s := by omega
      have E := hid (show Fresh w _ (.slice a k cap) l from ⟨a, cap, by rw [hl], by rw [hl] at O ⊢; exact O, hb⟩)
      replace hl := hid hl
      clear O hb
      go_wp2
      go_ret
      exact ⟨_, l, rfl, hl.out, E.out⟩
theorem numOf_drop (l : List UInt8) (j : Nat) (h : j < l.length) : numOf (l.drop j) = numOf (l.drop (j + 1)) * 256 + l[j].toNat := by
  rw [List.drop_eq_getElem_cons h]
  simp only [numOf]
  omega
end Go.Proofs.Ytdagddahpccnkaa
