/-
  Layer 44: of a tree that nobody made nothing is told.
-/
import Derived.Test.YtghcfidmhabfhaaKdAlive
namespace Go.Proofs.Ytghcfidmhabfhaa
open Go.RowKit
set_option linter.unusedVariables false
set_option linter.unusedSimpArgs false

set_option maxRecDepth 100000 in
set_option maxHeartbeats 1000000 in
theorem kdepth_one (x : Pt) (t b : Nat) (w : World) (Bt : Blk w t #[.pointer (some ⟨b, 0, none⟩)]) (Bb : Blk w b #[.int .i64 x.id, .int .u32 x.x, .int .u32 x.y, .string x.d, .pointer none, .pointer none]) :
    Calls Try.prog 29 #[.pointer (some ⟨t, 0, none⟩)] w fun e w' => e = .returned (.int .i64 1) ∧ Below w.heap.size w w' := by
  have hb1 := (Below.refl w.heap.size w).alloc (Nat.le_refl _) (.cells #[.int .i64 0] 3)
  have B1 := Blk.new w #[.int .i64 0] 3
  have Bt1 := Bt.more hb1
  have Bb1 := Bb.more hb1
  have hbl := Bb.lt
  have hsz : (w.alloc (.cells #[.int .i64 0] 3)).heap.size = w.heap.size + 1 := by simp
  have K := hid (kwalk_of t (.pointer (some ⟨b, 0, none⟩)) rfl 61 #[.pointer (some ⟨w.heap.size, 0, none⟩)] _ Bt1 (fun w' => Blk w' w.heap.size #[.int .i64 1] ∧ Below w.heap.size w w') (fun W3 h3 Bv Ba => kat_depth x b _ _ w.heap.size W3 (Bb1.more h3) Bv Ba (fun k => k = w.heap.size) (by omega) (by omega) _ (fun w2 h => ⟨h.1.drew, h.2.drew⟩)
    ((kdepth1 x w.heap.size W3.drew (B1.more h3).drew).mono fun e w' h => ⟨h.1, h.2.1, h.2.2, ((hb1.trans (h3.mono hb1.size)).drew).trans (h.2.1.below (B := w.heap.size) (Nat.le_trans hb1.size h3.size) (fun k hk => by omega))⟩)))
  clear hb1 B1 Bt1 Bb1 Bt Bb
  go_enter Try.func29, Try.ntmps29
  go_wp2_with fail
  refine K.out.mono ?_
  rintro e w2 ⟨rfl, B2, D2⟩
  obtain ⟨l2, k2, f2⟩ := B2
  replace D2 := hid D2
  clear K
  go_wp2
  go_ret
  exact ⟨rfl, D2.out⟩
set_option maxRecDepth 100000 in
set_option maxHeartbeats 1000000 in
theorem korder_one (x : Pt) (t b : Nat) (w : World) (Bt : Blk w t #[.pointer (some ⟨b, 0, none⟩)]) (Bb : Blk w b #[.int .i64 x.id, .int .u32 x.x, .int .u32 x.y, .string x.d, .pointer none, .pointer none]) :
    Calls Try.prog 28 #[.pointer (some ⟨t, 0, none⟩)] w fun e w' => ∃ g cap, e = .returned (.slice (some ⟨g, 0, none⟩) 1 cap) ∧ 1 ≤ cap ∧ cap ≤ maxLen ∧ RowOf kiT w' (some ⟨g, 0, none⟩) [x.id] ∧ Below w.heap.size w w' := by
  have hb1 := (Below.refl w.heap.size w).alloc (Nat.le_refl _) (.cells #[.slice none 0 0] 23)
  have B1 := Blk.new w #[.slice none 0 0] 23
  have Bt1 := Bt.more hb1
  have Bb1 := Bb.more hb1
  have hbl := Bb.lt
  have hsz : (w.alloc (.cells #[.slice none 0 0] 23)).heap.size = w.heap.size + 1 := by simp
  have K := hid (kwalk_of t (.pointer (some ⟨b, 0, none⟩)) rfl 60 #[.pointer (some ⟨w.heap.size, 0, none⟩)] _ Bt1 (fun w' => (∃ g cap, Blk w' w.heap.size #[.slice (some ⟨g, 0, none⟩) 1 cap] ∧ 1 ≤ cap ∧ cap ≤ maxLen ∧ RowOf kiT w' (some ⟨g, 0, none⟩) [x.id]) ∧ Below w.heap.size w w') (fun W3 h3 Bv Ba => kat_order x b _ _ w.heap.size W3 (Bb1.more h3) Bv Ba (fun k => k = w.heap.size) (by omega) (by omega) _ (fun w2 h => ⟨by obtain ⟨⟨g, cap, h1, h2, h3, h4⟩, _⟩ := h; exact ⟨g, cap, h1.drew, h2, h3, RowOf.more h4 (Below.refl _ _).drew⟩, h.2.drew⟩)
    ((korder1 x w.heap.size 0 W3.drew (B1.more h3).drew (Nat.zero_le _)).mono fun e w' h => ⟨h.1, h.2.1, h.2.2, ((hb1.trans (h3.mono hb1.size)).drew).trans (h.2.1.below (B := w.heap.size) (Nat.le_trans hb1.size h3.size) (fun k hk => by omega))⟩)))
  clear hb1 B1 Bt1 Bb1 Bt Bb
  go_enter Try.func28, Try.ntmps28
  go_wp2_with fail
  refine K.out.mono ?_
  rintro e w2 ⟨rfl, ⟨g, cap, B2, c1, c2, R2⟩, D2⟩
  obtain ⟨l2, k2, f2⟩ := B2
  replace D2 := hid D2
  replace R2 := hid R2
  clear K
  go_wp2
  go_ret
  exact ⟨g, cap, rfl, c1, c2, R2.out, D2.out⟩
set_option maxRecDepth 100000 in
set_option maxHeartbeats 1000000 in
theorem alive44 (w : World) : Calls Try.prog 30 #[] w fun e w' => e = .returned (.bool true) ∧ Below w.heap.size w w' := by
  have B := Blk.new w #[.int .i64 5, .int .u32 0, .int .u32 0, .string ByteArray.empty] 102
  have hb := (Below.refl w.heap.size w).alloc (Nat.le_refl _) (.cells #[.int .i64 5, .int .u32 0, .int .u32 0, .string ByteArray.empty] 102)
  have K := hid (knew_one ⟨5, 0, 0, ByteArray.empty⟩ ⟨w.heap.size, 0, none⟩ 1 _ (rowOf_one kpOk B rfl))
  have hbh := hid hb
  clear B hb
  go_enter Try.func30, Try.ntmps30
  go_wp2_with fail
  refine K.out.mono ?_
  rintro e w1 ⟨t, b, rfl, _, _, Bt, Bb, hb1⟩
  have KD := hid (kdepth_one ⟨5, 0, 0, ByteArray.empty⟩ t b w1 Bt Bb)
  have Bth := hid Bt
  have Bbh := hid Bb
  have D1 := hid (below2 hbh.out hb1 hbh.out.size)
  clear K Bt Bb hb1
  go_wp2_with fail
  refine KD.out.mono ?_
  rintro e w2 ⟨rfl, hb2⟩
  have KO := hid (korder_one ⟨5, 0, 0, ByteArray.empty⟩ t b w2 (Bth.out.more hb2) (Bbh.out.more hb2))
  have D2 := hid (below2 D1.out hb2 D1.out.size)
  clear KD hb2
  go_wp2_with fail
  refine KO.out.mono ?_
  rintro e w3 ⟨g, cap, rfl, c1, c2, R3, hb3⟩
  have D3 := hid (below2 D2.out hb3 D2.out.size)
  have hbI := (Below.refl w3.heap.size w3).alloc (Nat.le_refl _) (.cells #[.int .i64 5] 3)
  have BI := Blk.new w3 #[.int .i64 5] 3
  have RI : RowOf kiT _ (some ⟨w3.heap.size, 0, none⟩) [5] := rowOf_one kiOk BI rfl
  have KI := hid (plainInts_same (some ⟨g, 0, none⟩) (some ⟨w3.heap.size, 0, none⟩) 1 cap 1 (fun i => atR kiT [5] i) c1 c2 (Nat.le_refl _) (by unfold maxLen; omega) _ (RowOf.more R3 hbI) RI)
  have D4 := hid (D3.out.alloc D3.out.size (.cells #[.int .i64 5] 3))
  clear KO R3 hb3 hbI BI RI
  go_wp2_with fail
  refine KI.out.mono ?_
  rintro e w5 ⟨rfl, hb5⟩
  have D5 := hid (below2 D4.out hb5 D4.out.size)
  clear KI hb5
  go_wp2_with fail
  go_ret
  exact ⟨rfl, D5.out⟩

set_option maxRecDepth 100000 in
set_option maxHeartbeats 8000000 in
theorem kdtreeNobody (ra rb rc rd k : Int) (w : World) : Calls Try.prog 5 #[.agg #[.int .u32 ra, .int .u32 rb, .int .u32 rc, .int .u32 rd], .int .i64 k] w fun e w' => e = .returned (.bool true) ∧ Below w.heap.size w w' := by
  have BX := Blk.new w #[.int .u32 ra, .int .u32 rb, .int .u32 rc, .int .u32 rd] 70
  have hb0 := (Below.refl w.heap.size w).alloc (Nat.le_refl _) (.cells #[.int .u32 ra, .int .u32 rb, .int .u32 rc, .int .u32 rd] 70)
  have hbz := (Below.refl _ (w.alloc (.cells #[.int .u32 ra, .int .u32 rb, .int .u32 rc, .int .u32 rd] 70))).alloc (Nat.le_refl _) (.cells #[.pointer none] 74)
  have Bz := Blk.new (w.alloc (.cells #[.int .u32 ra, .int .u32 rb, .int .u32 rc, .int .u32 rd] 70)) #[.pointer none] 74
  have K := hid (fun w => knew_nil w)
  have X1 := BX.more hbz
  have D1 := below2 hb0 hbz hb0.size
  rw [World.size_alloc] at Bz
  clear BX hb0 hbz
  go_enter Try.func5, Try.ntmps5
  go_wp2_with fail
  generalize (w.alloc _).alloc _ = Wz at *
  refine (K.out _).mono ?_
  rintro e Wn ⟨p, rfl, hp, Bp, hbn⟩
  have X2 := X1.more hbn
  have Bz2 := Bz.more hbn
  have D2 := below2 D1 hbn D1.size
  have hbs := (Below.refl Wn.heap.size Wn).alloc (Nat.le_refl _) (.cells #[.pointer none, .pointer (some ⟨w.heap.size + 1, 0, none⟩), .pointer (some ⟨p, 0, none⟩)] 71)
  have Bs := Blk.new Wn #[.pointer none, .pointer (some ⟨w.heap.size + 1, 0, none⟩), .pointer (some ⟨p, 0, none⟩)] 71
  have M1 := hid (show NoTree _ (.pointer (some ⟨w.heap.size + 1, 0, none⟩)) from .inr ⟨_, rfl, Bz2.more hbs⟩)
  have N1 := hid (show NoTree _ (.pointer (some ⟨p, 0, none⟩)) from .inr ⟨_, rfl, Bp.more hbs⟩)
  have S1 := hid Bs
  have X3 := hid (X2.more hbs)
  have D3 := hid (below2 D2 hbs D2.size)
  clear X1 X2 Bz Bz2 Bp hbs Bs D1 D2 hbn hp K
  go_wp2_with fail
  generalize hW1 : Wn.alloc _ = W1 at *
  generalize Wn.heap.size = gs at *
  clear hW1
  have X1 := X3
  have D1 := D3
  clear X3 D3
  refine wp_loop_rounds 4 ?_
  rw [rounds_succ]
  obtain ⟨l0, j0, f0⟩ := S1.out
  go_wp2_with fail
  have KR := hid (fun (u : Later W1) => krange_nil (.pointer none) ra rb rc rd u.val ((show NoTree W1 (.pointer none) from .inl rfl).more u.h))
  have KN := hid (fun x y (u : Later W1) => knear_nil (.pointer none) x y k u.val ((show NoTree W1 (.pointer none) from .inl rfl).more u.h))
  have KO := hid (fun (u : Later W1) => korder_nil (.pointer none) u.val ((show NoTree W1 (.pointer none) from .inl rfl).more u.h))
  have KD := hid (fun (u : Later W1) => kdepth_nil (.pointer none) u.val ((show NoTree W1 (.pointer none) from .inl rfl).more u.h))
  have q0 := fun u : Later W1 => u.blk S1.out
  have q1 := fun u : Later W1 => u.blk X1.out
  go_upto_region 6 with (fail)
  refine wp_region_late 28 (by kernel_rfl) (by kernel_rfl) ?_
  simp only [List.take_succ_cons, List.take_zero, List.drop_succ_cons, List.drop_zero]
  repeat (go_big_quiet_step (first
      | (go_at_call 26; with_reducible exact late_call (KR.out _))
      | (go_at_call 27; with_reducible exact late_call (KN.out _ _ _))
      | (go_at_call 28; with_reducible exact late_call (KO.out _))
      | (go_at_call 29; with_reducible exact late_call (KD.out _))))
  refine wpQuiet_nil ?_
  intro W2 h1'
  have h1 := late_out h1'
  clear h1'
  have M2 := hid (M1.out.more h1)
  have N2 := hid (N1.out.more h1)
  have S2 := hid (S1.out.more h1)
  have X2 := hid (X1.out.more h1)
  have D2 := hid (below2 D1.out h1 D1.out.size)
  clear KR KN KO KD q0 q1 h1 l0 j0 f0
  obtain ⟨l0, j0, f0⟩ := S2.out
  go_wp2_with fail
  rw [rounds_succ]
  go_wp2_with fail
  have KR := hid (fun (u : Later W2) => krange_nil (.pointer (some ⟨w.heap.size + 1, 0, none⟩)) ra rb rc rd u.val (M2.out.more u.h))
  have KN := hid (fun x y (u : Later W2) => knear_nil (.pointer (some ⟨w.heap.size + 1, 0, none⟩)) x y k u.val (M2.out.more u.h))
  have KO := hid (fun (u : Later W2) => korder_nil (.pointer (some ⟨w.heap.size + 1, 0, none⟩)) u.val (M2.out.more u.h))
  have KD := hid (fun (u : Later W2) => kdepth_nil (.pointer (some ⟨w.heap.size + 1, 0, none⟩)) u.val (M2.out.more u.h))
  have q0 := fun u : Later W2 => u.blk S2.out
  have q1 := fun u : Later W2 => u.blk X2.out
  go_upto_region 6 with (fail)
  refine wp_region_late 28 (by kernel_rfl) (by kernel_rfl) ?_
  simp only [List.take_succ_cons, List.take_zero, List.drop_succ_cons, List.drop_zero]
  repeat (go_big_quiet_step (first
      | (go_at_call 26; with_reducible exact late_call (KR.out _))
      | (go_at_call 27; with_reducible exact late_call (KN.out _ _ _))
      | (go_at_call 28; with_reducible exact late_call (KO.out _))
      | (go_at_call 29; with_reducible exact late_call (KD.out _))))
  refine wpQuiet_nil ?_
  intro W3 h2'
  have h2 := late_out h2'
  clear h2'
  have M3 := hid (M2.out.more h2)
  have N3 := hid (N2.out.more h2)
  have S3 := hid (S2.out.more h2)
  have X3 := hid (X2.out.more h2)
  have D3 := hid (below2 D2.out h2 D2.out.size)
  clear KR KN KO KD q0 q1 h2 l0 j0 f0
  obtain ⟨l0, j0, f0⟩ := S3.out
  go_wp2_with fail
  rw [rounds_succ]
  go_wp2_with fail
  have KR := hid (fun (u : Later W3) => krange_nil (.pointer (some ⟨p, 0, none⟩)) ra rb rc rd u.val (N3.out.more u.h))
  have KN := hid (fun x y (u : Later W3) => knear_nil (.pointer (some ⟨p, 0, none⟩)) x y k u.val (N3.out.more u.h))
  have KO := hid (fun (u : Later W3) => korder_nil (.pointer (some ⟨p, 0, none⟩)) u.val (N3.out.more u.h))
  have KD := hid (fun (u : Later W3) => kdepth_nil (.pointer (some ⟨p, 0, none⟩)) u.val (N3.out.more u.h))
  have q0 := fun u : Later W3 => u.blk S3.out
  have q1 := fun u : Later W3 => u.blk X3.out
  go_upto_region 6 with (fail)
  refine wp_region_late 28 (by kernel_rfl) (by kernel_rfl) ?_
  simp only [List.take_succ_cons, List.take_zero, List.drop_succ_cons, List.drop_zero]
  repeat (go_big_quiet_step (first
      | (go_at_call 26; with_reducible exact late_call (KR.out _))
      | (go_at_call 27; with_reducible exact late_call (KN.out _ _ _))
      | (go_at_call 28; with_reducible exact late_call (KO.out _))
      | (go_at_call 29; with_reducible exact late_call (KD.out _))))
  refine wpQuiet_nil ?_
  intro W4 h3'
  have h3 := late_out h3'
  clear h3'
  have M4 := hid (M3.out.more h3)
  have N4 := hid (N3.out.more h3)
  have S4 := hid (S3.out.more h3)
  have X4 := hid (X3.out.more h3)
  have D4 := hid (below2 D3.out h3 D3.out.size)
  clear KR KN KO KD q0 q1 h3 l0 j0 f0
  obtain ⟨l0, j0, f0⟩ := S4.out
  go_wp2_with fail
  rw [rounds_succ]
  go_wp2_with fail
  refine (alive44 _).mono ?_
  rintro e w6 ⟨rfl, hb6⟩
  have hb7 := hid (below2 D4.out hb6 D4.out.size)
  clear hb6
  go_wp2_with fail
  go_ret
  exact ⟨rfl, hb7.out⟩
end Go.Proofs.Ytghcfidmhabfhaa
