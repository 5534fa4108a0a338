/-
  Package disk: Write whatever comes, Fail.
-/
import Derived.Test.YtpgibngohbohdaaDiskRead
import Derived.Test.YtpgibngohbohdaaSbkA
import Derived.Test.YtpgibngohbohdaaDiskNew
import Derived.Test.YtpgibngohbohdaaDiskPower
import Derived.Test.YtpgibngohbohdaaDiskSettle
import Derived.Test.YtpgibngohbohdaaAidMore
import Derived.Lib.BufferMore
import Derived.Test.YtpgibngohbohdaaDiskSettle0
import Derived.Test.YtpgibngohbohdaaDiskFlush

/-
  Package seglog: Load of no sector.
-/

namespace Go.Proofs.Ytpgibngohbohdaa
open Go.RowKit Go.Maps
set_option linter.unusedVariables false
set_option linter.unusedSimpArgs false

theorem below_al1 (w : World) (o : Obj) : Below w.heap.size w (w.alloc o) := (Below.refl _ _).alloc (Nat.le_refl _) _
/-- An item of none. -/
abbrev item0 : Value := .agg #[.int .i64 0, .bool false, .slice none 0 0, .int .i64 0, .int .i64 0, .int .i64 0, .int .i64 0, .int .i64 0, .int .i64 0, .int .i64 0, .int .i64 0, .int .i64 0]
abbrev item0c : List Value := [.int .i64 0, .bool false, .slice none 0 0, .int .i64 0, .int .i64 0, .int .i64 0, .int .i64 0, .int .i64 0, .int .i64 0, .int .i64 0, .int .i64 0, .int .i64 0]
set_option maxRecDepth 100000 in
set_option maxHeartbeats 4000000 in
theorem load_far (m : DM) (b : Nat) (z : Int) (hz : (Lit.int .i64 z).wf = true) (K : Nat → Prop) (w : World) (D : DiskM w b m K) (h : m.trb = false) (hr : ¬ (0 ≤ z ∧ z < (m.Ls.length : Int))) :
    Calls Try.prog 20 #[.pointer (some ⟨b, 0, none⟩), .int .i64 z] w fun e w' => e = .returned (.tuple #[item0, .int .i64 4]) ∧ Sole K w w' := by
  obtain ⟨W0, hW0⟩ : ∃ W0, w.alloc (.cells #[.int .i64 0, .bool false, .slice none 0 0, .int .i64 0, .int .i64 0, .int .i64 0, .int .i64 0, .int .i64 0, .int .i64 0, .int .i64 0, .int .i64 0, .int .i64 0] 58) = W0 := ⟨_, rfl⟩
  have hb0 : Below w.heap.size w W0 := by rw [← hW0]; exact (Below.refl _ _).alloc (Nat.le_refl _) _
  have BX : Blk W0 w.heap.size #[.int .i64 0, .bool false, .slice none 0 0, .int .i64 0, .int .i64 0, .int .i64 0, .int .i64 0, .int .i64 0, .int .i64 0, .int .i64 0, .int .i64 0, .int .i64 0] := by rw [← hW0]; exact Blk.new w _ _
  have KR := hid (read_any m b z hz K W0 (D.more hb0) h)
  have HBX := hid BX
  have D0 := hid hb0
  have hKs := hid (fun k (hk : K k) => D.klt k hk)
  have hrh := hid hr
  clear BX hb0 D hr
  go_enter Try.func20, Try.ntmps20
  go_wp2_with fail
  refine KR.out.mono ?_
  rintro e w1 ⟨_, h4, _, S1⟩
  obtain rfl := h4 hrh.out
  have HB1 := HBX.out.sole S1 (fun hk => by have := hKs.out _ hk; omega)
  have S01 := hid ((Sole.made (S := K) D0.out).trans S1)
  clear h4 S1 KR HBX D0 hW0
  obtain ⟨lx, kx, fx⟩ := HB1
  go_wp2
  have B3 : Blk (setAll w1 w.heap.size 0 item0c) w.heap.size _ := Blk.fill item0c 0 ⟨lx, kx, fx⟩ (by simp)
  have S3 := hid (S01.out.trans' (Sole.of_below (S := fun k => w.heap.size ≤ k) (below_fill (B := w.heap.size) (b := w.heap.size) (Nat.le_refl _) item0c 0 (Below.refl w.heap.size w1)) (fun k h1 h2 => h2)) (fun k hk e => by omega))
  simp only [setAll, Nat.zero_add, Nat.reduceAdd] at B3 S3
  generalize World.setCell _ _ _ = W3 at *
  obtain ⟨l3, k3, f3⟩ := B3
  clear lx kx fx
  refine bodyPost_ret (v := .tuple #[item0, .int .i64 4]) (by simp [results, Try.results20, go_sem, k3, fillC]) rfl ⟨rfl, S3.out⟩
end Go.Proofs.Ytpgibngohbohdaa

/-
  Package seglog: of a sector that is none nothing is told.
-/


namespace Go.Proofs.Ytpgibngohbohdaa
open Go.RowKit Go.Maps
set_option linter.unusedVariables false
set_option linter.unusedSimpArgs false

/-- A summary of none. -/
abbrev summ0 : Value := .agg #[.int .i64 0, .bool false, .slice none 0 0]
theorem open_none (l : List UInt8) (a : Option Addr) (cap : Nat) (h1 : l.length ≤ cap) (h2 : cap ≤ maxLen) (w : World) (O : Octs w a l) (hg : goodB l = false) :
    Calls Try.prog 84 #[.slice a l.length cap] w fun e w' => ∃ q c, e = .returned (.tuple #[.int .i64 0, sval ⟨0, 0, 0⟩, .slice q 0 c, .int .i64 16]) ∧ Below w.heap.size w w' := by
  obtain ⟨eK, eS, eT, eE⟩ := open_bad hg
  refine (fopen_any l a cap h1 h2 w O).mono ?_
  rintro e w' ⟨v, rfl, ⟨q, c, rfl, _⟩, hb⟩
  rw [eK, eS, eE, eT]
  exact ⟨q, c, rfl, hb⟩

set_option maxRecDepth 100000 in
set_option maxHeartbeats 4000000 in
theorem snode_bad (l : List UInt8) (a : Option Addr) (cap : Nat) (h1 : l.length ≤ cap) (h2 : cap ≤ maxLen) (w : World) (O : Octs w a l) (hg : goodB l = false) :
    Calls Try.prog 49 #[.slice a l.length cap] w fun e w' => e = .returned (.tuple #[item0, .int .i64 21]) ∧ Below w.heap.size w w' := by
  obtain ⟨W0, hW0⟩ : ∃ W0, w.alloc (.cells #[.int .i64 0, .bool false, .slice none 0 0, .int .i64 0, .int .i64 0, .int .i64 0, .int .i64 0, .int .i64 0, .int .i64 0, .int .i64 0, .int .i64 0, .int .i64 0] 58) = W0 := ⟨_, rfl⟩
  have hb0 : Below w.heap.size w W0 := by rw [← hW0]; exact (Below.refl _ _).alloc (Nat.le_refl _) _
  have BX : Blk W0 w.heap.size #[.int .i64 0, .bool false, .slice none 0 0, .int .i64 0, .int .i64 0, .int .i64 0, .int .i64 0, .int .i64 0, .int .i64 0, .int .i64 0, .int .i64 0, .int .i64 0] := by rw [← hW0]; exact Blk.new w _ _
  have KO := hid (open_none l a cap h1 h2 W0 (O.more hb0) hg)
  have HBX := hid BX
  have D0 := hid hb0
  clear BX O h1 h2 hg hb0
  generalize l.length = ll at *
  go_enter Try.func49, Try.ntmps49
  go_wp2_with fail
  refine KO.out.mono ?_
  rintro e w1 ⟨q, c, rfl, hb1⟩
  have HB1 := HBX.out.more hb1
  have D1 := hid (below2 D0.out hb1 D0.out.size)
  have HB2 := HB1.more (below_al1 w1 (.cells (scells ⟨0, 0, 0⟩) 108))
  have D2 := hid (D1.out.alloc D1.out.size (.cells (scells ⟨0, 0, 0⟩) 108))
  clear hb1 KO HBX D0 hW0 HB1
  obtain ⟨lx, kx, fx⟩ := HB2
  go_wp2
  have B3 : Blk (setAll (w1.alloc (.cells (scells ⟨0, 0, 0⟩) 108)) w.heap.size 0 [.int .i64 0, .bool false, .slice none 0 0, .int .i64 0, .int .i64 0, .int .i64 0, .int .i64 0, .int .i64 0, .int .i64 0, .int .i64 0, .int .i64 0, .int .i64 0]) w.heap.size _ := Blk.fill [.int .i64 0, .bool false, .slice none 0 0, .int .i64 0, .int .i64 0, .int .i64 0, .int .i64 0, .int .i64 0, .int .i64 0, .int .i64 0, .int .i64 0, .int .i64 0] 0 ⟨lx, kx, fx⟩ (by simp)
  have D3 := hid (below_fill (b := w.heap.size) (Nat.le_refl _) [.int .i64 0, .bool false, .slice none 0 0, .int .i64 0, .int .i64 0, .int .i64 0, .int .i64 0, .int .i64 0, .int .i64 0, .int .i64 0, .int .i64 0, .int .i64 0] 0 D2.out)
  simp only [setAll, Nat.zero_add, Nat.reduceAdd, scells] at B3 D3
  generalize World.setCell _ _ _ = W3 at *
  obtain ⟨l3, k3, f3⟩ := B3
  clear lx kx fx
  refine bodyPost_ret (v := .tuple #[item0, .int .i64 21]) (by simp [results, Try.results49, go_sem, k3, fillC]) rfl ⟨rfl, D3.out⟩
end Go.Proofs.Ytpgibngohbohdaa

/-
  The example of layer 19.
-/



namespace Go.Proofs.Ytpgibngohbohdaa
open Go.RowKit Go.Maps
set_option linter.unusedVariables false
set_option linter.unusedSimpArgs false

set_option maxRecDepth 100000 in
set_option maxHeartbeats 4000000 in
theorem ssum_bad (l : List UInt8) (a : Option Addr) (cap : Nat) (t : Stp) (h1 : l.length ≤ cap) (h2 : cap ≤ maxLen) (w : World) (O : Octs w a l) (hg : goodB l = false) :
    Calls Try.prog 47 #[.slice a l.length cap, sval t] w fun e w' => e = .returned (.tuple #[summ0, .bool false]) ∧ Below w.heap.size w w' := by
  obtain ⟨W0, hW0⟩ : ∃ W0, (w.alloc (.cells (scells t) 108)).alloc (.cells #[.int .i64 0, .bool false, .slice none 0 0] 44) = W0 := ⟨_, rfl⟩
  have hb0 : Below w.heap.size w W0 := by rw [← hW0]; exact (below_al1 _ _).trans ((below_al1 _ _).mono (by simp))
  have BX : Blk W0 (w.heap.size + 1) #[.int .i64 0, .bool false, .slice none 0 0] := by
    rw [← hW0]
    have := Blk.new (w.alloc (.cells (scells t) 108)) #[.int .i64 0, .bool false, .slice none 0 0] 44
    simpa using this
  have KO := hid (open_none l a cap h1 h2 W0 (O.more hb0) hg)
  have HBX := hid BX
  have D0 := hid hb0
  clear BX O h1 h2 hg hb0
  generalize l.length = ll at *
  go_enter Try.func47, Try.ntmps47
  go_wp2_with fail
  refine KO.out.mono ?_
  rintro e w1 ⟨q, c, rfl, hb1⟩
  have HB1 := HBX.out.more hb1
  have D1 := hid (below2 D0.out hb1 D0.out.size)
  have HB2 := HB1.more (below_al1 w1 (.cells (scells ⟨0, 0, 0⟩) 108))
  have D2 := hid (D1.out.alloc D1.out.size (.cells (scells ⟨0, 0, 0⟩) 108))
  clear hb1 KO HBX D0 hW0 HB1
  obtain ⟨lx, kx, fx⟩ := HB2
  go_wp2
  have B3 : Blk (setAll (w1.alloc (.cells (scells ⟨0, 0, 0⟩) 108)) (w.heap.size + 1) 0 [.int .i64 0, .bool false, .slice none 0 0]) (w.heap.size + 1) _ := Blk.fill [.int .i64 0, .bool false, .slice none 0 0] 0 ⟨lx, kx, fx⟩ (by simp)
  have D3 := hid (below_fill (b := w.heap.size + 1) (Nat.le_succ _) [.int .i64 0, .bool false, .slice none 0 0] 0 D2.out)
  simp only [setAll, Nat.zero_add, Nat.reduceAdd, scells] at B3 D3
  generalize World.setCell _ _ _ = W3 at *
  obtain ⟨l3, k3, f3⟩ := B3
  clear lx kx fx
  refine bodyPost_ret (v := .tuple #[summ0, .bool false]) (by simp [results, Try.results47, go_sem, k3, fillC]) rfl ⟨rfl, D3.out⟩

set_option maxRecDepth 100000 in
set_option maxHeartbeats 4000000 in
theorem sload_bad (m : DM) (b : Nat) (z : Int) (hz : (Lit.int .i64 z).wf = true) (K : Nat → Prop) (w : World) (D : DiskM w b m K) (h : m.trb = false) (hr : 0 ≤ z ∧ z < (m.Ls.length : Int)) (hl : (m.cur z).l.length ≤ 1000) (hg : goodB (m.cur z).l = false) :
    Calls Try.prog 20 #[.pointer (some ⟨b, 0, none⟩), .int .i64 z] w fun e w' => e = .returned (.tuple #[item0, .int .i64 21]) ∧ Sole K w w' := by
  obtain ⟨W0, hW0⟩ : ∃ W0, w.alloc (.cells #[.int .i64 0, .bool false, .slice none 0 0, .int .i64 0, .int .i64 0, .int .i64 0, .int .i64 0, .int .i64 0, .int .i64 0, .int .i64 0, .int .i64 0, .int .i64 0] 58) = W0 := ⟨_, rfl⟩
  have hb0 : Below w.heap.size w W0 := by rw [← hW0]; exact (Below.refl _ _).alloc (Nat.le_refl _) _
  have BX : Blk W0 w.heap.size #[.int .i64 0, .bool false, .slice none 0 0, .int .i64 0, .int .i64 0, .int .i64 0, .int .i64 0, .int .i64 0, .int .i64 0, .int .i64 0, .int .i64 0, .int .i64 0] := by rw [← hW0]; exact Blk.new w _ _
  have KR := hid (read_any m b z hz K W0 (D.more hb0) h)
  have HBX := hid BX
  have D0 := hid hb0
  have hKs := hid (fun k (hk : K k) => D.klt k hk)
  have hrh := hid hr
  have KN := hid (fun a cap w h1 h2 O => snode_bad (m.cur z).l a cap h1 h2 w O hg)
  clear BX hb0 D hr hg
  generalize (m.cur z).l = l at *
  go_enter Try.func20, Try.ntmps20
  go_wp2_with fail
  refine KR.out.mono ?_
  rintro e w1 ⟨h4, _, _, S1⟩
  obtain ⟨v, rfl, a1, c1, rfl, O1⟩ := h4 hrh.out
  have HB1 := HBX.out.sole S1 (fun hk => by have := hKs.out _ hk; omega)
  have hcc : l.length ≤ c1 ∧ c1 ≤ maxLen := by
    rcases O1.2 with ⟨e, h0⟩ | ⟨g, cap, cur, e, hb, hg, h1, h2, _⟩
    · simp only [Value.slice.injEq] at e; exact ⟨by omega, by rw [e.2.2]; exact Nat.zero_le _⟩
    · simp only [Value.slice.injEq] at e; obtain ⟨_, _, rfl⟩ := e; exact ⟨h1, h2⟩
  have KN1 := hid (KN.out a1 c1 w1 hcc.1 hcc.2 (Octs.of_own O1))
  have HB1h := hid HB1
  have S01 := hid ((Sole.made (S := K) D0.out).trans S1)
  have hw1 := hid (show w.heap.size ≤ w1.heap.size from S01.out.size)
  clear h4 S1 KR HBX D0 hW0 O1 hcc KN HB1
  generalize l.length = ll at *
  go_wp2_with fail
  refine KN1.out.mono ?_
  rintro e w2 ⟨rfl, hb2⟩
  have HB2 := HB1h.out.more hb2
  have S02 := hid (S01.out.trans (Sole.made hb2))
  clear hb2 KN1 HB1h
  obtain ⟨lx, kx, fx⟩ := HB2
  go_wp2
  have B3 : Blk (setAll w2 w.heap.size 0 item0c) w.heap.size _ := Blk.fill item0c 0 ⟨lx, kx, fx⟩ (by simp)
  have S3 := hid (S02.out.trans' (Sole.of_below (S := fun k => w.heap.size ≤ k) (below_fill (B := w.heap.size) (b := w.heap.size) (Nat.le_refl _) item0c 0 (Below.refl w.heap.size w2)) (fun k h1 h2 => h2)) (fun k hk e => by omega))
  simp only [setAll, Nat.zero_add, Nat.reduceAdd] at B3 S3
  generalize World.setCell _ _ _ = W3 at *
  obtain ⟨l3, k3, f3⟩ := B3
  clear lx kx fx
  refine bodyPost_ret (v := .tuple #[item0, .int .i64 21]) (by simp [results, Try.results20, go_sem, k3, fillC]) rfl ⟨rfl, S3.out⟩

set_option maxRecDepth 100000 in
set_option maxHeartbeats 4000000 in
theorem sbatch_bad (m : DM) (b : Nat) (z : Int) (hz : (Lit.int .i64 z).wf = true) (K : Nat → Prop) (w : World) (D : DiskM w b m K) (h : m.trb = false) (hr : 0 ≤ z ∧ z < (m.Ls.length : Int)) (hl : (m.cur z).l.length ≤ 1000) (hg : goodB (m.cur z).l = false) (left ep sq : Int) :
    Calls Try.prog 18 #[.pointer (some ⟨b, 0, none⟩), .int .i64 z, .int .i64 left, .int .i64 ep, .int .i64 sq] w fun e w' => e = .returned (.tuple #[summ0, .bool false, .int .i64 0]) ∧ DiskM w' b m.after K ∧ Sole K w w' := by
  obtain ⟨W0, hW0⟩ : ∃ W0, (w.alloc (.cells #[.int .i64 0, .bool false, .slice none 0 0] 44)).alloc (.cells #[.int .i64 0, .bool false, .slice none 0 0] 44) = W0 := ⟨_, rfl⟩
  have hb0 : Below w.heap.size w W0 := by rw [← hW0]; exact (below_al1 _ _).trans ((below_al1 _ _).mono (by simp))
  have BX : Blk W0 w.heap.size #[.int .i64 0, .bool false, .slice none 0 0] := by
    rw [← hW0]
    exact (Blk.new w #[.int .i64 0, .bool false, .slice none 0 0] 44).more (below_al1 _ _)
  have BY : Blk W0 (w.heap.size + 1) #[.int .i64 0, .bool false, .slice none 0 0] := by
    rw [← hW0]
    have := Blk.new (w.alloc (.cells #[.int .i64 0, .bool false, .slice none 0 0] 44)) #[.int .i64 0, .bool false, .slice none 0 0] 44
    simpa using this
  have BY1 := ((BY.set 0 (.int .i64 0) (by simp)).set 1 (.bool false) (by simp)).set 2 (.slice none 0 0) (by simp)
  have SY := ((Sole.setCell (S := fun k => k = w.heap.size + 1) W0 (b := w.heap.size + 1) (o := 0) (.int .i64 0) rfl).trans (Sole.setCell _ (b := w.heap.size + 1) (o := 1) (.bool false) rfl)).trans (Sole.setCell _ (b := w.heap.size + 1) (o := 2) (.slice none 0 0) rfl)
  have BX1 := BX.sole SY (by omega)
  have hb1 := hb0.trans (SY.below (B := w.heap.size) hb0.size fun k e => by omega)
  have KR := hid (read_any m b z hz K _ (D.more hb1) h)
  have HBX := hid BX1
  have HBY := hid BY1
  have D0 := hid hb1
  have hKs := hid (fun k (hk : K k) => D.klt k hk)
  have hrh := hid hr
  have KN := hid (fun a cap t w h1 h2 O => ssum_bad (m.cur z).l a cap t h1 h2 w O hg)
  clear BX hb0 D hr hg BX1 BY1 SY hb1
  obtain ⟨l0, k0, f0⟩ := BY
  generalize (m.cur z).l = l at *
  go_enter Try.func18, Try.ntmps18
  go_wp2_with fail
  refine KR.out.mono ?_
  rintro e w1 ⟨h4, _, D1, S1⟩
  obtain ⟨v, rfl, a1, c1, rfl, O1⟩ := h4 hrh.out
  have HB1 := HBX.out.sole S1 (fun hk => by have := hKs.out _ hk; omega)
  have HY1 := HBY.out.sole S1 (fun hk => by have := hKs.out _ hk; omega)
  have hcc : l.length ≤ c1 ∧ c1 ≤ maxLen := by
    rcases O1.2 with ⟨e, h0⟩ | ⟨g, cap, cur, e, hb, hg, h1, h2, _⟩
    · simp only [Value.slice.injEq] at e; exact ⟨by omega, by rw [e.2.2]; exact Nat.zero_le _⟩
    · simp only [Value.slice.injEq] at e; obtain ⟨_, _, rfl⟩ := e; exact ⟨h1, h2⟩
  have KN1 := hid (KN.out a1 c1 ⟨ep, sq, 0⟩ w1 hcc.1 hcc.2 (Octs.of_own O1))
  have HB1h := hid HB1
  have HY1h := hid HY1
  have D1h := hid D1
  have S01 := hid ((Sole.made (S := K) D0.out).trans S1)
  have hw1 := hid (show w.heap.size ≤ w1.heap.size from S01.out.size)
  clear h4 S1 KR HBX HBY D0 hW0 O1 hcc KN HB1 HY1 D1
  generalize l.length = ll at *
  go_wp2_with fail
  refine KN1.out.mono ?_
  rintro e w2 ⟨rfl, hb2⟩
  have hb3 := below2 hb2 (below_al1 w2 (.cells #[.int .i64 0, .bool false, .slice none 0 0] 44)) hb2.size
  have HB2 := HB1h.out.more hb3
  have HY2 := HY1h.out.more hb3
  have S02 := hid (S01.out.trans (Sole.made hb3))
  have D2h := hid (D1h.out.more hb3)
  clear hb2 hb3 KN1 HB1h HY1h D1h
  obtain ⟨lx, kx, fx⟩ := HB2
  obtain ⟨ly, ky, fy⟩ := HY2
  go_wp2
  have B3 : Blk (setAll (w2.alloc (.cells #[.int .i64 0, .bool false, .slice none 0 0] 44)) w.heap.size 0 [.int .i64 0, .bool false, .slice none 0 0]) w.heap.size _ := Blk.fill [.int .i64 0, .bool false, .slice none 0 0] 0 ⟨lx, kx, fx⟩ (by simp)
  have SB := Sole.of_below (S := fun k => w.heap.size ≤ k) (below_fill (B := w.heap.size) (b := w.heap.size) (Nat.le_refl _) [.int .i64 0, .bool false, .slice none 0 0] 0 (Below.refl w.heap.size (w2.alloc (.cells #[.int .i64 0, .bool false, .slice none 0 0] 44)))) (fun k h1 h2 => h2)
  have S3 := hid (S02.out.trans' SB (fun k hk e => by omega))
  have D3 := hid (D2h.out.kept SB (fun k hk h => by have := hKs.out k hk; omega))
  clear SB
  simp only [setAll, Nat.zero_add, Nat.reduceAdd] at B3 S3 D3
  generalize World.setCell _ _ _ = W3 at *
  obtain ⟨l3, k3, f3⟩ := B3
  clear lx kx fx
  refine bodyPost_ret (v := .tuple #[summ0, .bool false, .int .i64 0]) (by simp [results, Try.results18, go_sem, k3, fillC]) rfl ⟨rfl, D3.out, S3.out⟩

theorem goodB_zeros : goodB (zerosN 256) = false := by
  unfold goodB
  rw [decide_eq_false (show ¬ (zerosN 256).take 2 = [67, 82] by decide), Bool.false_and, Bool.and_false]
set_option maxRecDepth 100000 in
set_option maxHeartbeats 4000000 in
theorem alive19 (w : World) : Calls Try.prog 15 #[] w fun e w' => e = .returned (.bool true) ∧ Below w.heap.size w w' := by
  have KN := hid (dnew_any 4 w)
  go_enter Try.func15, Try.ntmps15
  go_wp2_with fail
  refine KN.out.mono ?_
  rintro e w1 ⟨L, rfl, D1, N1, hb1⟩
  rw [show sectorsN 4 = 4 from rfl] at D1 N1
  have E1 := hid hb1
  have hcur : ((newM w.heap.size 4 L).cur 1).l = zerosN 256 := by
    show (ocA L 1).l = _
    exact N1.Z _ (ocA_mem L 1 (by have : L.length = 4 := N1.S; omega))
  have hlen := hid (show L.length = 4 from N1.S)
  have KB := hid (sbatch_bad (newM w.heap.size 4 L) _ 1 (by decide) _ w1 D1 rfl ⟨by omega, by rw [N1.S]; decide⟩ (by rw [hcur, zerosN_len]; omega) (by rw [hcur]; exact goodB_zeros) 3 1 0)
  have hch := hid hcur
  clear hb1 D1 N1 KN hcur
  generalize w.heap.size + 3 = bd at *
  go_wp2_with fail
  refine KB.out.mono ?_
  rintro e w2 ⟨rfl, D2, S2⟩
  have E2 := hid (E1.out.trans (S2.below (B := w.heap.size) E1.out.size fun k h => h.1))
  have hb3 := below_al1 w2 (.cells #[.int .i64 0, .bool false, .slice none 0 0] 44)
  have E3 := hid (E2.out.trans (hb3.mono E2.out.size))
  have KL := hid (sload_bad (newM w.heap.size 4 L).after bd 1 (by decide) _ _ (D2.more hb3) rfl ⟨by omega, by show (1 : Int) < (L.length : Int); rw [hlen.out]; decide⟩ (by show ((newM w.heap.size 4 L).cur 1).l.length ≤ 1000; rw [hch.out, zerosN_len]; omega) (by show goodB ((newM w.heap.size 4 L).cur 1).l = false; rw [hch.out]; exact goodB_zeros))
  clear hb3 D2 S2 KB
  go_wp2_with fail
  refine KL.out.mono ?_
  rintro e w4 ⟨rfl, S4⟩
  have E4 := hid (E3.out.trans (S4.below (B := w.heap.size) E3.out.size fun k h => h.1))
  have E5 := hid (E4.out.trans ((below_al1 w4 (.cells item0c.toArray 58)).mono E4.out.size))
  clear S4 KL
  go_wp2_with fail
  go_ret
  exact ⟨rfl, E5.out⟩
end Go.Proofs.Ytpgibngohbohdaa

/-
  The document's own disk: what it holds; Broken.
-/



namespace Go.Proofs.Ytpgibngohbohdaa
open Go.RowKit Go.Maps
set_option linter.unusedVariables false
set_option linter.unusedSimpArgs false

def blT : RowT Bool := { ty := 4, sl := 28, sz := 1, bytes := 1, zero := .bool false, cells := fun x => [.bool x], dflt := false }
theorem blOk : blT.Ok := ⟨Try.underlying28, by kernel_rfl, rfl, by decide, fun _ => rfl, fun x u hu => by
  simp [blT] at hu
  rcases hu with rfl; rfl⟩
def rwT : RowT WtS := { ty := 131, sl := 27, sz := 2, bytes := 32, zero := .agg #[.int .i64 0, .slice none 0 0], cells := fun y => [.int .i64 y.at_, .slice y.x.a y.x.l.length y.x.cap], dflt := ⟨0, ⟨none, 0, []⟩⟩ }
theorem rwOk : rwT.Ok := ⟨Try.underlying27, by kernel_rfl, rfl, by decide, fun _ => rfl, fun x u hu => by
  simp [rwT] at hu
  rcases hu with rfl | rfl <;> rfl⟩
/-- The cells of such a disk. -/
abbrev rdv (p0 : Option Addr) (n0 c0 : Nat) (p1 : Option Addr) (n1 c1 : Nat) (p2 : Option Addr) (n2 c2 : Nat) (off : Bool) (cut : Int) (p5 : Option Addr) (n5 c5 : Nat) (fail : Int) : List Value :=
  [.slice p0 n0 c0, .slice p1 n1 c1, .slice p2 n2 c2, .bool off, .int .i64 cut, .slice p5 n5 c5, .int .i64 fail]
theorem rbelow_one (w : World) (o : Obj) : Below w.heap.size w (w.alloc o) := (Below.refl _ _).alloc (Nat.le_refl _) _

/-- Is a call broken, and what is left to fail. -/
def bkB (off : Bool) (fail : Int) : Bool := off || decide (fail = 0)
def bkF (off : Bool) (fail : Int) : Int := if off then fail else if 0 < fail then fail - 1 else if fail = 0 then -1 else fail
set_option maxRecDepth 100000 in
set_option maxHeartbeats 4000000 in
theorem rbroken_any (p0 : Option Addr) (n0 c0 : Nat) (p1 : Option Addr) (n1 c1 : Nat) (p2 : Option Addr) (n2 c2 : Nat) (off : Bool) (cut : Int) (p5 : Option Addr) (n5 c5 : Nat) (fail : Int) (hf : fail ≤ 9223372036854775807) (w : World) :
    Calls Try.prog 34 #[.agg (rdv p0 n0 c0 p1 n1 c1 p2 n2 c2 off cut p5 n5 c5 fail).toArray] w fun e w' => e = .returned (.tuple #[.agg (rdv p0 n0 c0 p1 n1 c1 p2 n2 c2 off cut p5 n5 c5 (bkF off fail)).toArray, .bool (bkB off fail)]) ∧ Below w.heap.size w w' := by
  obtain ⟨W0, hW0⟩ : ∃ W0, (w.alloc (.cells (rdv p0 n0 c0 p1 n1 c1 p2 n2 c2 off cut p5 n5 c5 fail).toArray 31)).alloc (.cells (rdv none 0 0 none 0 0 none 0 0 false 0 none 0 0 0).toArray 31) = W0 := ⟨_, rfl⟩
  have hb0 : Below w.heap.size w W0 := by rw [← hW0]; exact (rbelow_one _ _).trans ((rbelow_one _ _).mono (by simp))
  have B1 : Blk W0 w.heap.size (rdv p0 n0 c0 p1 n1 c1 p2 n2 c2 off cut p5 n5 c5 fail).toArray := by
    rw [← hW0]
    exact (Blk.new w _ _).more (rbelow_one _ _)
  have B2 : Blk W0 (w.heap.size + 1) (rdv none 0 0 none 0 0 none 0 0 false 0 none 0 0 0).toArray := by
    rw [← hW0]
    have := Blk.new (w.alloc (.cells (rdv p0 n0 c0 p1 n1 c1 p2 n2 c2 off cut p5 n5 c5 fail).toArray 31)) (rdv none 0 0 none 0 0 none 0 0 false 0 none 0 0 0).toArray 31
    simpa using this
  have D0 := hid hb0
  have B1h := hid B1
  have B2h := hid B2
  clear hb0
  obtain ⟨l1, m1, f1⟩ := B1
  obtain ⟨l2, m2, f2⟩ := B2
  go_enter Try.func34, Try.ntmps34
  cases off with
  | true =>
    go_wp2
    have B3 := Blk.fill (rdv p0 n0 c0 p1 n1 c1 p2 n2 c2 true cut p5 n5 c5 fail) 0 B2h.out (by simp)
    have D3 := hid (below_fill (b := w.heap.size + 1) (Nat.le_succ _) (rdv p0 n0 c0 p1 n1 c1 p2 n2 c2 true cut p5 n5 c5 fail) 0 D0.out)
    simp only [setAll, Nat.zero_add, Nat.reduceAdd] at B3 D3
    clear hW0 l1 m1 f1 l2 m2 f2 B1h B2h
    generalize World.setCell _ _ _ = W3 at *
    obtain ⟨l9, g9, f9⟩ := B3
    refine bodyPost_ret (v := .tuple #[.agg (rdv p0 n0 c0 p1 n1 c1 p2 n2 c2 true cut p5 n5 c5 fail).toArray, .bool true]) (by simp [results, Try.results34, go_sem, g9, fillC]) rfl ⟨by simp [bkF, bkB], D3.out⟩
  | false =>
    by_cases h1 : 0 < fail
    · have h1' : decide (fail > 0) = true := decide_eq_true h1
      have hw : wrap64 (fail - 1) = fail - 1 := IntWalk.wrap64_in _ ⟨by omega, by omega⟩
      have hne : ¬ fail = 0 := by omega
      have B2s := hid (B2h.out.other ⟨w.heap.size, 6, none⟩ (by simp) (.int .i64 (fail - 1)))
      have D1 := hid (D0.out.trans ((Sole.setCell (S := fun k => k = w.heap.size) W0 (b := w.heap.size) (o := 6) (.int .i64 (fail - 1)) rfl).below (B := w.heap.size) D0.out.size fun k e => by omega))
      go_wp2
      have B3 := Blk.fill (rdv p0 n0 c0 p1 n1 c1 p2 n2 c2 false cut p5 n5 c5 (fail - 1)) 0 B2s.out (by simp)
      have D3 := hid (below_fill (b := w.heap.size + 1) (Nat.le_succ _) (rdv p0 n0 c0 p1 n1 c1 p2 n2 c2 false cut p5 n5 c5 (fail - 1)) 0 D1.out)
      simp only [setAll, Nat.zero_add, Nat.reduceAdd] at B3 D3
      clear hW0 l1 m1 f1 l2 m2 f2 B1h B2h B2s D0 D1
      generalize World.setCell _ _ _ = W3 at *
      obtain ⟨l9, g9, f9⟩ := B3
      refine bodyPost_ret (v := .tuple #[.agg (rdv p0 n0 c0 p1 n1 c1 p2 n2 c2 false cut p5 n5 c5 (fail - 1)).toArray, .bool false]) (by simp [results, Try.results34, go_sem, g9, fillC]) rfl ⟨by simp [bkF, bkB, h1, hne], D3.out⟩
    · have h1' : decide (fail > 0) = false := decide_eq_false h1
      by_cases h2 : fail = 0
      · subst h2
        have B2s := hid (B2h.out.other ⟨w.heap.size, 6, none⟩ (by simp) (.int .i64 (-1)))
        have D1 := hid (D0.out.trans ((Sole.setCell (S := fun k => k = w.heap.size) W0 (b := w.heap.size) (o := 6) (.int .i64 (-1)) rfl).below (B := w.heap.size) D0.out.size fun k e => by omega))
        go_wp2
        have B3 := Blk.fill (rdv p0 n0 c0 p1 n1 c1 p2 n2 c2 false cut p5 n5 c5 (-1)) 0 B2s.out (by simp)
        have D3 := hid (below_fill (b := w.heap.size + 1) (Nat.le_succ _) (rdv p0 n0 c0 p1 n1 c1 p2 n2 c2 false cut p5 n5 c5 (-1)) 0 D1.out)
        simp only [setAll, Nat.zero_add, Nat.reduceAdd] at B3 D3
        clear hW0 l1 m1 f1 l2 m2 f2 B1h B2h B2s D0 D1
        generalize World.setCell _ _ _ = W3 at *
        obtain ⟨l9, g9, f9⟩ := B3
        refine bodyPost_ret (v := .tuple #[.agg (rdv p0 n0 c0 p1 n1 c1 p2 n2 c2 false cut p5 n5 c5 (-1)).toArray, .bool true]) (by simp [results, Try.results34, go_sem, g9, fillC]) rfl ⟨by simp [bkF, bkB], D3.out⟩
      · have h2' : (fail == 0) = false := by rw [beq_eq_false_iff_ne]; exact h2
        go_wp2
        have B3 := Blk.fill (rdv p0 n0 c0 p1 n1 c1 p2 n2 c2 false cut p5 n5 c5 fail) 0 B2h.out (by simp)
        have D3 := hid (below_fill (b := w.heap.size + 1) (Nat.le_succ _) (rdv p0 n0 c0 p1 n1 c1 p2 n2 c2 false cut p5 n5 c5 fail) 0 D0.out)
        simp only [setAll, Nat.zero_add, Nat.reduceAdd] at B3 D3
        clear hW0 l1 m1 f1 l2 m2 f2 B1h B2h D0
        generalize World.setCell _ _ _ = W3 at *
        obtain ⟨l9, g9, f9⟩ := B3
        refine bodyPost_ret (v := .tuple #[.agg (rdv p0 n0 c0 p1 n1 c1 p2 n2 c2 false cut p5 n5 c5 fail).toArray, .bool false]) (by simp [results, Try.results34, go_sem, g9, fillC]) rfl ⟨by simp [bkF, bkB, h2]; omega, D3.out⟩
end Go.Proofs.Ytpgibngohbohdaa

/-
  The document's own disk as data, and where it lies; copies of rows.
-/

namespace Go.Proofs.Ytpgibngohbohdaa
open Go.RowKit Go.Maps
set_option linter.unusedVariables false
set_option linter.unusedSimpArgs false

theorem r_rowp_sole {S : Nat → Prop} {w w' : World} {p : Option Addr} {sz n : Nat} {f : Nat → List Value} (h : RowP w p sz n f) (hs : Sole S w w') (hn : ∀ b o, p = some ⟨b, o, none⟩ → ¬ S b) : RowP w' p sz n f := by
  rcases h with h | ⟨b, o, e, R⟩
  · exact .inl h
  · exact .inr ⟨b, o, e, Nat.lt_of_lt_of_le R.lt hs.size, fun i hi j v hv => (hs.cell R.lt (hn b o e)).trans (R.cell i hi j v hv)⟩
/-- The document's disk. -/
structure RM where
  p0 : Option Addr
  c0 : Nat
  L : List OcS
  p1 : Option Addr
  c1 : Nat
  Q : List WtS
  p2 : Option Addr
  c2 : Nat
  O : List Bool
  off : Bool
  cut : Int
  p5 : Option Addr
  c5 : Nat
  F : List Int
  fail : Int
abbrev RM.cells (m : RM) : List Value := rdv m.p0 m.L.length m.c0 m.p1 m.Q.length m.c1 m.p2 m.O.length m.c2 m.off m.cut m.p5 m.F.length m.c5 m.fail
abbrev RM.v (m : RM) : Value := .agg m.cells.toArray
/-- Its parts lie in blocks of J. -/
structure RefM (w : World) (m : RM) (J : Nat → Prop) : Prop where
  L : RowOf ocT w m.p0 m.L
  Q : RowOf rwT w m.p1 m.Q
  O : RowOf blT w m.p2 m.O
  F : RowOf fatT w m.p5 m.F
  LO : ∀ x ∈ m.L, x.there w ∧ x.l.length = 256 ∧ ∀ b o, x.a = some ⟨b, o, none⟩ → J b
  QO : ∀ y ∈ m.Q, (y.x.there w ∧ y.x.l.length = 256 ∧ ∀ b o, y.x.a = some ⟨b, o, none⟩ → J b) ∧ 0 ≤ y.at_ ∧ y.at_ < (m.L.length : Int)
  lO : m.O.length = m.L.length
  lL : m.L.length ≤ 4096
  lQ : m.Q.length ≤ 4096
  lF : m.F.length ≤ 17592186044416
  j0 : ∀ b o, m.p0 = some ⟨b, o, none⟩ → J b
  j1 : ∀ b o, m.p1 = some ⟨b, o, none⟩ → J b
  j2 : ∀ b o, m.p2 = some ⟨b, o, none⟩ → J b
  j5 : ∀ b o, m.p5 = some ⟨b, o, none⟩ → J b
  jlt : ∀ k, J k → k < w.heap.size
theorem RefM.sole {S : Nat → Prop} {w w' : World} {m : RM} {J : Nat → Prop} (h : RefM w m J) (hs : Sole S w w') (hn : ∀ k, J k → ¬ S k) : RefM w' m J :=
  ⟨r_rowp_sole h.L hs fun b o e => hn _ (h.j0 b o e), r_rowp_sole h.Q hs fun b o e => hn _ (h.j1 b o e), r_rowp_sole h.O hs fun b o e => hn _ (h.j2 b o e), r_rowp_sole h.F hs fun b o e => hn _ (h.j5 b o e),
    fun x hx => ⟨oc_sole (h.LO x hx).1 hs fun b o e => hn _ ((h.LO x hx).2.2 b o e), (h.LO x hx).2⟩,
    fun y hy => ⟨⟨oc_sole (h.QO y hy).1.1 hs fun b o e => hn _ ((h.QO y hy).1.2.2 b o e), (h.QO y hy).1.2⟩, (h.QO y hy).2⟩,
    h.lO, h.lL, h.lQ, h.lF, h.j0, h.j1, h.j2, h.j5, fun k hk => Nat.lt_of_lt_of_le (h.jlt k hk) hs.size⟩
theorem RefM.more {w w' : World} {m : RM} {J : Nat → Prop} (h : RefM w m J) (hb : Below w.heap.size w w') : RefM w' m J := h.sole (Sole.made (S := fun _ => False) hb) fun _ _ x => x
theorem RefM.wide {w : World} {m : RM} {J J' : Nat → Prop} (h : RefM w m J) (hj : ∀ k, J k → J' k) (hlt : ∀ k, J' k → k < w.heap.size) : RefM w m J' :=
  ⟨h.L, h.Q, h.O, h.F, fun x hx => ⟨(h.LO x hx).1, (h.LO x hx).2.1, fun b o e => hj _ ((h.LO x hx).2.2 b o e)⟩, fun y hy => ⟨⟨(h.QO y hy).1.1, (h.QO y hy).1.2.1, fun b o e => hj _ ((h.QO y hy).1.2.2 b o e)⟩, (h.QO y hy).2⟩,
    h.lO, h.lL, h.lQ, h.lF, fun b o e => hj _ (h.j0 b o e), fun b o e => hj _ (h.j1 b o e), fun b o e => hj _ (h.j2 b o e), fun b o e => hj _ (h.j5 b o e), hlt⟩
/-- Its own numbers become others. -/
theorem RefM.scal {w : World} {m : RM} {J : Nat → Prop} (h : RefM w m J) (off : Bool) (cut fail : Int) : RefM w { m with off := off, cut := cut, fail := fail } J :=
  ⟨h.L, h.Q, h.O, h.F, h.LO, h.QO, h.lO, h.lL, h.lQ, h.lF, h.j0, h.j1, h.j2, h.j5, h.jlt⟩
/-- Nothing waits any more. -/
theorem RefM.clean {w : World} {m : RM} {J : Nat → Prop} (h : RefM w m J) : RefM w { m with p1 := none, c1 := 0, Q := [] } J :=
  ⟨h.L, .inl rfl, h.O, h.F, h.LO, (fun _ hy => by cases hy), h.lO, h.lL, Nat.zero_le _, h.lF, h.j0, (fun _ _ e => by cases e), h.j2, h.j5, h.jlt⟩

/-- Blocks of J, and those made since. -/
def JN (J : Nat → Prop) (w w' : World) : Nat → Prop := fun k => J k ∨ (w.heap.size ≤ k ∧ k < w'.heap.size)
theorem jn_trans {J : Nat → Prop} {a b c : World} (h1 : a.heap.size ≤ b.heap.size) (h2 : b.heap.size ≤ c.heap.size) : ∀ k, JN (JN J a b) b c k → JN J a c k := by
  intro k hk
  rcases hk with (h | h) | h
  · exact .inl h
  · exact .inr ⟨h.1, by omega⟩
  · exact .inr ⟨by omega, h.2⟩
theorem jn_lt {J : Nat → Prop} {a b : World} (h1 : a.heap.size ≤ b.heap.size) (hJ : ∀ k, J k → k < a.heap.size) : ∀ k, JN J a b k → k < b.heap.size := by
  intro k hk
  rcases hk with h | h
  · have := hJ k h; omega
  · exact h.2

theorem sole_setAll {S : Nat → Prop} {b : Nat} (hb : S b) : ∀ (vs : List Value) (o : Nat) (w : World), Sole S w (setAll w b o vs)
  | [], _, w => Sole.refl S w
  | v :: vs, o, w => (Sole.setCell (S := S) w (b := b) (o := o) v hb).trans (sole_setAll hb vs (o + 1) _)
/-- The result is stored into the call's own block: the disk is as it was. -/
theorem RefM.fill {w W : World} {m : RM} {J : Nat → Prop} {b : Nat} (h : RefM W m (fun k => J k ∨ (b + 1 ≤ k ∧ k < W.heap.size))) (hJ : ∀ k, J k → k < w.heap.size) (hb : w.heap.size ≤ b) (vs : List Value) : RefM (setAll W b 0 vs) m (JN J w (setAll W b 0 vs)) := by
  have hs := size_setAll (b := b) vs 0 W
  refine (h.sole (sole_setAll (S := fun k => k = b) rfl vs 0 W) fun k hk e => ?_).wide (fun k hk => ?_) (fun k hk => ?_)
  · rcases hk with h1 | h1
    · have := hJ k h1; omega
    · omega
  · rcases hk with h1 | h1
    · exact .inl h1
    · exact .inr ⟨by omega, by rw [hs]; exact h1.2⟩
  · rcases hk with h1 | h1
    · rw [hs]; exact h.jlt k (.inl h1)
    · exact h1.2
/-- append([]T{}, L...): a row of the call's own. -/
theorem copy_row {α : Type} {T : RowT α} (K : T.Ok) (W : World) (s : Nat) (hs : W.heap.size = s) (q : Option Addr) (c : Nat) (L : List α) (R : RowOf T W q L) (h1 : L.length * T.bytes ≤ 140737488355328) (h2 : L.length ≤ maxLen) :
    ∃ g c' w', (∀ ty, (Builtin.append_ #[T.sl, T.sl] ty #[.slice (some ⟨s, 0, none⟩) 0 0, .slice q L.length c]).run Try.prog (W.alloc (.cells #[] T.ty)) = .ok (.slice (some ⟨g, 0, none⟩) L.length c') w') ∧
      RowOwn T w' W.heap.size (.slice (some ⟨g, 0, none⟩) L.length c') L ∧ Below W.heap.size W w' ∧ W.heap.size ≤ g ∧ g < w'.heap.size := by
  subst hs
  have OM : RowOwn T (W.alloc (.cells #[] T.ty)) W.heap.size (.slice (some ⟨W.heap.size, 0, none⟩) 0 0) [] := World.ownsRow_made (size := T.sz) W #[] 0 (Nat.le_refl _) (Nat.zero_le _) (by simp)
  have hb0 : Below W.heap.size W (W.alloc (.cells #[] T.ty)) := Below.alloc (Below.refl _ _) (Nat.le_refl _) _
  obtain ⟨v', w', hr, O', gr, mv⟩ := append_row K W.heap.size T.sl (W.alloc (.cells #[] T.ty)) _ [] OM q c L (RowOf.more R hb0) (by simpa using h1) (by simpa using h2) (by simp)
  rw [List.nil_append] at O'
  have hg : ∃ g, v'.ownBlock = some g := by
    rcases mv with e | e
    · exact ⟨_, e⟩
    · exact ⟨_, e⟩
  obtain ⟨g, hg⟩ := hg
  rcases O'.form with ⟨rfl, _⟩ | ⟨g', cap, rfl, hb1, hb2, _, _⟩
  · cases hg
  · exact ⟨g', cap, w', fun ty => hr, O', Below.grown hb0 gr (by simp) fun k hk => (OM.within k hk).1, hb1, hb2⟩
theorem copy_octs (W : World) (s : Nat) (hs : W.heap.size = s) (a : Option Addr) (c : Nat) (l : List UInt8) (hl : Octs W a l) (h1 : l.length ≤ 140737488355328) :
    ∃ g c' w', (∀ ty, (Builtin.append_ #[35, 35] ty #[.slice (some ⟨s, 0, none⟩) 0 0, .slice a l.length c]).run Try.prog (W.alloc (.cells #[] 5)) = .ok (.slice (some ⟨g, 0, none⟩) l.length c') w') ∧
      (⟨some ⟨g, 0, none⟩, c', l⟩ : OcS).there w' ∧ w'.ownsRow W.heap.size 5 1 (.slice (some ⟨g, 0, none⟩) l.length c') l.length (Lib.byteCells l) ∧ Below W.heap.size W w' ∧ W.heap.size ≤ g ∧ g < w'.heap.size := by
  subst hs
  have OM := World.ownsRow_made (size := 1) (e := 5) (base := W.heap.size) W #[] 0 (Nat.le_refl _) (Nat.zero_le _) rfl
  have hb0 : Below W.heap.size W (W.alloc (.cells #[] 5)) := Below.alloc (Below.refl _ _) (Nat.le_refl _) _
  obtain ⟨v', w', hr, O', gr, mv⟩ := append_octs W.heap.size 35 (W.alloc (.cells #[] 5)) _ 0 [] OM a c l (hl.more hb0) (by omega) (by simp)
  rw [Nat.zero_add, List.nil_append] at O'
  have hg : ∃ g, v'.ownBlock = some g := by
    rcases mv with e | ⟨g, e, _⟩
    · exact ⟨_, e⟩
    · exact ⟨_, e⟩
  obtain ⟨g, hg⟩ := hg
  have hlt := O'.lt g hg
  rcases O'.2 with ⟨rfl, _⟩ | ⟨g', cap, cur, rfl, hb1, hg1, hc1, hc2, _, _⟩
  · cases hg
  · cases hg
    exact ⟨g', cap, w', fun ty => hr, ⟨Octs.of_own O', hc1, hc2⟩, O', Below.grown hb0 gr (by simp) fun k hk => (OM.lt k hk).1, hlt.1, hlt.2⟩
end Go.Proofs.Ytpgibngohbohdaa

/-
  The law's own small check of a disk: alive.
-/



namespace Go.Proofs.Ytpgibngohbohdaa
open Go.RowKit Go.Maps
set_option linter.unusedVariables false
set_option linter.unusedSimpArgs false

theorem settle_none (m : DM) (b : Nat) (K : Nat → Prop) (w : World) (D : DiskM w b m K) (fp : Option Addr) (fc : Nat) (Fs : List Int) (RF : RowOf fatT w fp Fs) (hl2 : Fs.length ≤ maxLen) (h0 : min m.Qs.length Fs.length = 0) :
    Calls Try.prog 63 #[.pointer (some ⟨b, 0, none⟩), .slice fp Fs.length fc] w fun e w' => e = .returned (.tuple #[]) ∧ DiskM w' b m.clean K ∧ Sole K w w' := callsIn_wide.1 (settle_none_in m b K w D fp fc Fs RF hl2 h0)
theorem kbelow {K : Nat → Prop} {B : Nat} {w w' : World} (h : Sole K w w') (hB : B ≤ w.heap.size) (hK : ∀ k, K k → B ≤ k) : Below B w w' := h.below hB hK

theorem seven_octs (t : TypeId) (n : Nat) (w : World) : Octs (w.alloc (.cells ((madeCells #[.int .u8 0] n).setIfInBounds 0 (.int .u8 7)) t)) (some ⟨w.heap.size, 0, none⟩) ((zerosN n).set 0 7) := by
  refine .inr ⟨_, _, rfl, by simp, fun i hi => ?_⟩
  have h := (Blk.new w ((madeCells #[.int .u8 0] n).setIfInBounds 0 (.int .u8 7)) t).cell (0 + i)
  rw [h, Nat.zero_add]
  have hi' : i < n := by rw [List.length_set, zerosN_len] at hi; exact hi
  rcases i with _ | i
  · rw [Array.getElem?_setIfInBounds_self_of_lt (by rw [size_madeCells]; exact hi')]
    simp
  · rw [Array.getElem?_setIfInBounds_ne (by omega)]
    simp [madeCells, zerosN, hi', Nat.mod_one]
set_option maxRecDepth 100000 in
set_option maxHeartbeats 4000000 in
theorem alive14 (w : World) : Calls Try.prog 7 #[] w fun e w' => e = .returned (.bool true) ∧ Below w.heap.size w w' := by
  have KN := hid (dnew_any 2 w)
  have mk : ∀ w, (Instr.makeSlice 35 (.int .i64 256) (.int .i64 256)).run Try.prog w = .ok (.slice (some ⟨w.heap.size, 0, none⟩) 256 256) (w.alloc (.cells (madeCells #[.int .u8 0] 256) 5)) := fun w => run_zeros 256 (by omega) w
  go_enter Try.func7, Try.ntmps7
  go_wp2_with fail
  refine KN.out.mono ?_
  rintro e w1 ⟨L, rfl, D1, N1, hb1⟩
  rw [show sectorsN 2 = 2 from rfl] at D1 N1
  have hs1 := hb1.size
  have B2 := Blk.new w1 (madeCells #[.int .u8 0] 256) 5
  have hb2 : Below w1.heap.size w1 (w1.alloc (.cells (madeCells #[.int .u8 0] 256) 5)) := (Below.refl _ _).alloc (Nat.le_refl _) _
  have D1h := hid D1
  have N1h := hid N1
  have O2 := made_octs 5 256 w1
  have c0 : (w1.alloc (.cells (madeCells #[.int .u8 0] 256) 5)).cell? ⟨w1.heap.size, 0, none⟩ = some (.int .u8 0) := by
    obtain ⟨b', o', e, hlt, hc⟩ := O2.row (by intro h; have := congrArg List.length h; rw [zerosN_len] at this; simp at this)
    cases e
    have := hc 0 (by rw [zerosN_len]; omega)
    simpa [zerosN] using this
  have f0 := B2.frz 0
  have hb2h := hid hb2
  have hb1h := hid hb1
  have O2h := hid O2
  clear D1 N1 KN hb1 hb2 B2 O2
  have O7 := seven_octs 5 256 w1
  have hb7 : Below w1.heap.size w1 (w1.alloc (.cells ((madeCells #[.int .u8 0] 256).setIfInBounds 0 (.int .u8 7)) 5)) := (Below.refl _ _).alloc (Nat.le_refl _) _
  have hs7 : (w1.alloc (.cells ((madeCells #[.int .u8 0] 256).setIfInBounds 0 (.int .u8 7)) 5)).heap.size = w1.heap.size + 1 := by simp
  have hl7 : ((zerosN 256).set 0 7).length = 256 := by rw [List.length_set, zerosN_len]
  have D2 := D1h.out.more hb7
  have KW := hid (write_any (G := fun _ _ w1 w' => w' = w1) (newM w.heap.size 2 L) (w.heap.size + 3) 1 _ _ D2 (⟨some ⟨w1.heap.size, 0, none⟩, 256, (zerosN 256).set 0 7⟩ : OcS) ⟨O7, by rw [hl7]; exact Nat.le_refl _, by show 256 ≤ maxLen; unfold maxLen; omega⟩ (fun b' o e hk => by cases e; omega) hl7 (by decide) (by omega)
    (by rw [N1h.out.S]; omega) rfl (by rw [N1h.out.n]; omega) (by rw [N1h.out.Q]; exact Nat.zero_le _) (fun y q c w1 K1 Dx => goz_off _ _ _ Dx.blk rfl))
  have E7 := hid (hb1h.out.trans (hb7.mono hs1))
  clear hb7 hl7 O7 D2 hb2h O2h
  go_wp2_with fail
  generalize w1.alloc (.cells ((madeCells #[.int .u8 0] 256).setIfInBounds 0 (.int .u8 7)) 5) = W2 at *
  refine KW.out.mono ?_
  rintro e w3 ⟨rfl, y, q, c, w3', K1, hyl, D3, S3, hK3, hw3⟩
  rw [hw3]
  clear hw3 w3 KW
  have hK : ∀ k, K1 k → w.heap.size ≤ k := fun k hk => by rcases hK3 k hk with r | r; exact r.1; omega
  have E3 := hid (E7.out.trans (S3.below (B := w.heap.size) E7.out.size (fun k hk => hk.1)))
  have KP := hid (power_on (G := fun m2 K2 w2 => m2 = (((newM w.heap.size 2 L).after.wrote 1 y q c).counted).clean ∧ K2 = K1 ∧ Sole K1 w3' w2) _ _ K1 w3' D3 rfl none 0 0
    ((settle_none _ _ K1 w3' D3 none 0 [] (.inl rfl) (Nat.zero_le _) (by simp)).mono fun e w2 ⟨he, Dc, Sc⟩ => ⟨he, _, K1, Dc, rfl, rfl, Sc⟩))
  clear D3 S3 hK3
  go_wp2_with fail
  refine KP.out.mono ?_
  rintro e w5 ⟨rfl, m2, K2, w4, D5, S5, D4, rfl, rfl, S4⟩
  have S45 : Sole K2 w3' w5 := S4.trans (S5.mono fun k _ e => e ▸ D4.kk _ (.inl rfl))
  have E5 := hid (E3.out.trans (S45.below (B := w.heap.size) E3.out.size hK))
  have KR := hid (read_any _ _ 1 (by decide) K2 w5 D5 rfl)
  have hNS := hid (show ((newM w.heap.size 2 L).Ls.length = 2) from N1h.out.S)
  have hNZ := hid N1h.out.Z
  clear D5 S5 D4 S4 S45 KP N1h D1h
  go_wp2_with fail
  refine KR.out.mono ?_
  rintro e w6 ⟨hin, _, D6, S6⟩
  obtain ⟨v, rfl, a6, c6, hv, O6⟩ := hin ⟨by omega, by show (1 : Int) < ((newM w.heap.size 2 L).Ls.length : Int); rw [hNS.out]; omega⟩
  have E6 := hid (E5.out.trans (S6.below (B := w.heap.size) E5.out.size hK))
  have hcl : (DM.cur ((((newM w.heap.size 2 L).after.wrote 1 y q c).counted).clean.reset) 1).l = zerosN 256 := by
    show (ocA L 1).l = _
    exact hNZ.out _ (ocA_mem L 1 (by have : L.length = 2 := hNS.out; omega))
  rw [hcl] at hv O6
  have hr6 := (Octs.of_own O6).row (by intro h; have := congrArg List.length h; rw [zerosN_len] at this; simp at this)
  obtain ⟨b6, o6, rfl, hlt6, hc6⟩ := hr6
  have d6 : w6.cell? ⟨b6, o6, none⟩ = some (.int .u8 0) := by
    have := hc6 0 (by rw [zerosN_len]; omega)
    simpa [zerosN] using this
  rw [zerosN_len] at hv
  subst hv
  clear hin D6 S6 O6 hc6 hcl KR
  go_wp2_with fail
  go_ret
  exact ⟨rfl, E6.out⟩
end Go.Proofs.Ytpgibngohbohdaa

/-
  Layer 14: the law's own full sectors.
-/

namespace Go.Proofs.Ytpgibngohbohdaa
open Go.RowKit Go.Maps
set_option linter.unusedVariables false
set_option linter.unusedSimpArgs false

def fullV (n : Int) (j : Nat) : Int := (n + ((j / 100 : Nat) : Int)) % 256
def fullL (n : Int) : List UInt8 := (List.range 256).map fun j => UInt8.ofNat (fullV n j).toNat
theorem fullL_len (n : Int) : (fullL n).length = 256 := by unfold fullL; rw [List.length_map, List.length_range]
theorem full_cell (n : Int) (j : Nat) (h : j < (fullL n).length) : ((fullL n)[j].toNat : Int) = fullV n j := by
  have h0 : 0 ≤ fullV n j := Int.emod_nonneg _ (by omega)
  have h1 : fullV n j < 256 := Int.emod_lt_of_pos _ (by omega)
  have : (fullL n)[j] = UInt8.ofNat (fullV n j).toNat := by simp [fullL]
  rw [this]
  have h2 : (UInt8.ofNat (fullV n j).toNat).toNat = (fullV n j).toNat := by
    rw [UInt8.toNat_ofNat']
    omega
  rw [h2]
  omega
set_option maxRecDepth 100000 in
set_option maxHeartbeats 2000000 in
theorem full_any (n : Int) (hn : 0 ≤ n) (hn' : n ≤ 255) (w : World) : Calls Try.prog 35 #[.int .u8 n] w fun e w' => ∃ x : OcS, e = .returned (.slice x.a 256 x.cap) ∧ x.l = fullL n ∧ x.there w' ∧ x.a = some ⟨w.heap.size, 0, none⟩ ∧ Below w.heap.size w w' := by
  have mk : ∀ w, (Instr.makeSlice 35 (.int .i64 256) (.int .i64 256)).run Try.prog w = .ok (.slice (some ⟨w.heap.size, 0, none⟩) 256 256) (w.alloc (.cells (madeCells #[.int .u8 0] 256) 5)) := fun w => run_zeros 256 (by omega) w
  have B0 := hid (Blk.new w (madeCells #[.int .u8 0] 256) 5)
  have hb0 := hid (show Below w.heap.size w (w.alloc (.cells (madeCells #[.int .u8 0] 256) 5)) from (Below.refl _ _).alloc (Nat.le_refl _) _)
  go_enter Try.func35, Try.ntmps35
  go_wp2_with fail
  generalize w.alloc (.cells (madeCells #[.int .u8 0] 256) 5) = w1 at *
  go_loopw [4] (fun i wr => ∃ k : Nat, k ≤ 256 ∧ i = .int .i64 (k : Int) ∧ Below w.heap.size w wr ∧ ∃ c : Array Value, Blk wr w.heap.size c ∧ c.size = 256 ∧ ∀ j, j < k → c[j]? = some (.int .u8 (fullV n j))) (fun i _ => 256 - (intOf i).toNat)
  case atStart => exact ⟨0, by omega, rfl, hb0.out, _, B0.out, size_madeCells _ _, fun j h => absurd h (Nat.not_lt_zero _)⟩
  case round =>
    obtain ⟨k, hk, rfl, hb, c, B, hcs, hc⟩ := hrel
    by_cases hlt : k < 256
    · have hlt' : (k : Int) < 256 := by omega
      have hk0 : (0 : Int) ≤ (k : Int) := by omega
      obtain ⟨v0, x0⟩ : ∃ v0, wr.cell? ⟨w.heap.size, k, none⟩ = some v0 := ⟨c[k]'(by omega), by rw [B.cell]; exact Array.getElem?_eq_getElem (by omega)⟩
      obtain ⟨q, hq⟩ : ∃ q : Nat, k / 100 = q := ⟨_, rfl⟩
      have hqi : Int.tdiv (k : Int) 100 = (q : Int) := by rw [← hq]; rfl
      have hfv : fullV n k = (n + (q : Int)) % 256 := by unfold fullV; rw [hq]
      have y0 := B.frz k
      have E := hid (show Below w.heap.size w (wr.setCell ⟨w.heap.size, k, none⟩ (.int .u8 (fullV n k))) ∧ ∃ c : Array Value, Blk (wr.setCell ⟨w.heap.size, k, none⟩ (.int .u8 (fullV n k))) w.heap.size c ∧ c.size = 256 ∧ ∀ j, j < k + 1 → c[j]? = some (.int .u8 (fullV n j)) from
        ⟨hb.setCell (p := ⟨w.heap.size, k, none⟩) (Nat.le_refl _) _, _, B.set k _ (by omega), by simp [hcs], fun j hj => by
          by_cases e : j = k
          · subst e; rw [Array.getElem?_setIfInBounds_self_of_lt (by omega)]
          · rw [Array.getElem?_setIfInBounds_ne (by omega)]; exact hc j (by omega)⟩)
      have hltn := hid hlt
      clear hb B hcs hc B0 hb0
      have hwq : wrap64 (q : Int) = (q : Int) := IntWalk.wrap64_in _ ⟨by omega, by omega⟩
      clear hq
      rw [hfv] at E
      clear hfv
      replace hn := hid hn
      replace hn' := hid hn'
      go_wp2_with fail
      refine ⟨⟨k + 1, by have := hltn.out; omega, by simp, E.out.1, E.out.2⟩, ?_⟩
      have := hltn.out
      simp [intOf]
      omega
    · obtain rfl : k = 256 := by omega
      have E := hid (show ∃ x : OcS, Ending.returned (.slice (some ⟨w.heap.size, 0, none⟩) 256 256) = .returned (.slice x.a 256 x.cap) ∧ x.l = fullL n ∧ x.there wr ∧ x.a = some ⟨w.heap.size, 0, none⟩ ∧ Below w.heap.size w wr from
        ⟨⟨some ⟨w.heap.size, 0, none⟩, 256, fullL n⟩, rfl, rfl, ⟨.inr ⟨_, _, rfl, B.lt, fun i hi => by
          rw [Nat.zero_add, B.cell, full_cell n i hi]
          rw [fullL_len] at hi
          exact hc i hi⟩, by rw [fullL_len]; exact Nat.le_refl _, by show 256 ≤ maxLen; unfold maxLen; omega⟩, rfl, hb⟩)
      clear hb B hcs hc B0 hb0
      go_wp2_with fail
      go_ret
      exact E.out
end Go.Proofs.Ytpgibngohbohdaa

/-
  Package disk: Waits and Count of a disk; Power where it is off; what settling leaves alone.
-/



namespace Go.Proofs.Ytpgibngohbohdaa
open Go.RowKit Go.Maps
set_option linter.unusedVariables false
set_option linter.unusedSimpArgs false

set_option maxRecDepth 100000 in
theorem waits_any (m : DM) (b : Nat) (w : World) (B : Blk w b m.cells) : Calls Try.prog 13 #[.pointer (some ⟨b, 0, none⟩)] w fun e w' => e = .returned (.int .i64 (m.Qs.length : Int)) ∧ w' = w := by
  simp only [DM.cells, DM.sv, DM.wv, DM.fv] at B
  obtain ⟨l0, k0, f0⟩ := B
  go_enter Try.func13, Try.ntmps13
  go_wp2_with fail
  go_ret
  exact ⟨rfl, rfl⟩
set_option maxRecDepth 100000 in
set_option maxHeartbeats 2000000 in
theorem power_off (m : DM) (b : Nat) (K : Nat → Prop) (w : World) (D : DiskM w b m K) (hoff : m.off = true) (fp : Option Addr) (n fc : Nat) :
    Calls Try.prog 32 #[.pointer (some ⟨b, 0, none⟩), .slice fp n fc] w fun e w' => e = .returned (.tuple #[]) ∧ DiskM w' b m.reset K ∧ Sole K w w' := by
  have B2 := D.blk
  have B7 := (((((B2.set 1 (.bool false) (by simp [DM.cells])).set 6 (.bool false) (by simp [DM.cells])).set 7 (.int .i64 0) (by simp [DM.cells])).set 8 (.slice none 0 0) (by simp [DM.cells])).set 9 (.bool false) (by simp [DM.cells])).set 10 (.int .i64 0) (by simp [DM.cells])
  have S7 := (((((Sole.setCell (S := fun k => k = b) w (b := b) (o := 1) (.bool false) rfl).trans (Sole.setCell _ (b := b) (o := 6) (.bool false) rfl)).trans (Sole.setCell _ (b := b) (o := 7) (.int .i64 0) rfl)).trans (Sole.setCell _ (b := b) (o := 8) (.slice none 0 0) rfl)).trans (Sole.setCell _ (b := b) (o := 9) (.bool false) rfl)).trans (Sole.setCell _ (b := b) (o := 10) (.int .i64 0) rfl)
  have E7 := hid (And.intro (D.reset S7 B7) (S7.mono (T := K) fun k _ e => e ▸ D.kk _ (.inl rfl)))
  clear D B7 S7
  simp only [DM.cells, DM.sv, DM.wv, DM.fv, hoff] at B2
  obtain ⟨l2, k2, f2⟩ := B2
  go_enter Try.func32, Try.ntmps32
  go_wp2_with fail
  refine bodyPost_end (results_none rfl _ _ _) rfl ?_
  exact ⟨rfl, E7.out⟩
/-- A sector that none of these writes is for stays. -/
theorem stepD_other (s : SD) (z : Int) (l : List UInt8) (f : Int) (i : Nat) (h : z.toNat ≠ i) : (stepD s z l f).1[i]? = s.1[i]? := by
  unfold stepD
  split
  · exact List.getElem?_set_ne h
  · rfl
theorem settleD_other (Qs : List WtS) (Fs : List Int) {N : Nat} (i : Nat) (hN : N ≤ Qs.length) (h : ∀ y ∈ Qs, y.at_.toNat ≠ i) : ∀ (pre : List (Fin N)) (s : SD), (settleD Qs Fs s pre).1[i]? = s.1[i]?
  | [], s => rfl
  | j :: pre, s => by
    have ih := settleD_other Qs Fs i hN h pre (stepD s (atR wtT Qs j.val).at_ (atR wtT Qs j.val).x.l (atR fatT Fs j.val))
    have hj := j.isLt
    show (settleD Qs Fs (stepD s (atR wtT Qs j.val).at_ (atR wtT Qs j.val).x.l (atR fatT Fs j.val)) pre).1[i]? = _
    rw [ih]
    exact stepD_other s _ _ _ i (h _ (atR_mem (T := wtT) Qs j.val (by omega)))
end Go.Proofs.Ytpgibngohbohdaa

/-
  The document's own disk: put: a sector is as it is told.
-/


namespace Go.Proofs.Ytpgibngohbohdaa
open Go.RowKit Go.Maps
set_option linter.unusedVariables false
set_option linter.unusedSimpArgs false

theorem flatR_set1 {α : Type} {T : RowT α} (hsz : T.sz = 1) (K : T.Ok) (c : α → Value) (hc : ∀ x, T.cells x = [c x]) (L : List α) (k : Nat) (x : α) : (flatR T L).set k (c x) = flatR T (L.set k x) := by
  have hf : ∀ M : List α, flatR T M = M.map c := fun M => by
    induction M with
    | nil => rfl
    | cons a M ih => simp only [flatR, List.flatMap_cons, List.map_cons, hc] at ih ⊢; rw [ih]; rfl
  rw [hf, hf, List.map_set]
/-- A store into an owned row whose elements are one cell each. -/
theorem row_set1 {α : Type} {T : RowT α} (hsz : T.sz = 1) (K : T.Ok) (c : α → Value) (hc : ∀ x, T.cells x = [c x]) {w : World} {base g cap : Nat} {L : List α} (h : RowOwn T w base (.slice (some ⟨g, 0, none⟩) L.length cap) L) (k : Nat) (x : α) :
    RowOwn T (w.setCell ⟨g, k, none⟩ (c x)) base (.slice (some ⟨g, 0, none⟩) (L.set k x).length cap) (L.set k x) := by
  unfold RowOwn at h ⊢
  rw [hsz] at h ⊢
  rw [List.length_set, ← flatR_set1 hsz K c hc]
  exact own_set h k (c x)
/-- A row of the call's own as a block that may be written. -/
theorem row_blk1 {α : Type} {T : RowT α} (hsz : T.sz = 1) {w : World} {base g cap : Nat} {L : List α} (h : RowOwn T w base (.slice (some ⟨g, 0, none⟩) L.length cap) L) (hn : L.length ≠ 0) : ∃ cur, Blk w g cur ∧ L.length ≤ cur.size := by
  unfold RowOwn at h
  rw [hsz] at h
  obtain ⟨g', cap', cur, e, _, h1, _, B, hs, _⟩ := own_blk h hn
  cases e
  exact ⟨cur, B, by omega⟩
theorem row_of {α : Type} {T : RowT α} (K : T.Ok) {w : World} {base : Nat} {p : Option Addr} {n cap : Nat} {L : List α} (h : RowOwn T w base (.slice p n cap) L) : RowOf T w p L := by
  obtain ⟨p', c', e, _, _, R⟩ := RowOwn.open K h
  simp only [Value.slice.injEq] at e
  rw [e.1]; exact R

theorem own_g {g n c j : Nat} (e : (Value.slice (some ⟨g, 0, none⟩) n c).ownBlock = some j) : j = g := by cases e; rfl
/-- The disk with this sector. -/
abbrev RM.put (m : RM) (p0 : Option Addr) (c0 : Nat) (p2 : Option Addr) (c2 : Nat) (k : Nat) (y : OcS) (odd : Bool) : RM := { m with p0 := p0, c0 := c0, L := m.L.set k y, p2 := p2, c2 := c2, O := m.O.set k odd }
set_option maxRecDepth 100000 in
set_option maxHeartbeats 1000000 in
theorem rput_any (m : RM) (J : Nat → Prop) (w : World) (R : RefM w m J) (k : Nat) (hk : k < m.L.length) (x : OcS) (hx : x.there w) (hxl : x.l.length = 256) (odd : Bool) :
    Calls Try.prog 67 #[m.v, .int .i64 (k : Int), .slice x.a x.l.length x.cap, .bool odd] w fun e w' => ∃ p0 c0 p2 c2 y, y.l = x.l ∧ e = .returned (m.put p0 c0 p2 c2 k y odd).v ∧ RefM w' (m.put p0 c0 p2 c2 k y odd) (JN J w w') ∧ Below w.heap.size w w' := by
  have hlO := R.lO
  have hlL := R.lL
  have hOn : 0 < m.L.length := by omega
  -- the blocks of the call's own
  obtain ⟨W0, hW0⟩ : ∃ W0, (w.alloc (.cells m.cells.toArray 31)).alloc (.cells (rdv none 0 0 none 0 0 none 0 0 false 0 none 0 0 0).toArray 31) = W0 := ⟨_, rfl⟩
  have hb0 : Below w.heap.size w W0 := by rw [← hW0]; exact (rbelow_one _ _).trans ((rbelow_one _ _).mono (by simp))
  have hs0 : W0.heap.size = w.heap.size + 2 := by rw [← hW0]; simp
  have B1 : Blk W0 w.heap.size m.cells.toArray := by rw [← hW0]; exact (Blk.new w _ _).more (rbelow_one _ _)
  have B2 : Blk W0 (w.heap.size + 1) (rdv none 0 0 none 0 0 none 0 0 false 0 none 0 0 0).toArray := by
    rw [← hW0]
    have := Blk.new (w.alloc (.cells m.cells.toArray 31)) (rdv none 0 0 none 0 0 none 0 0 false 0 none 0 0 0).toArray 31
    simpa using this
  -- sure, anew
  obtain ⟨g0, c0, W2, hr1, O2, b2, hg0, hg0'⟩ := copy_row ocOk W0 _ rfl m.p0 m.c0 m.L (RowOf.more R.L hb0) (by show m.L.length * 24 ≤ _; omega) (by unfold maxLen; omega)
  have A2 := B1.more b2
  have B1' := (B1.more b2).set 0 (.slice (some ⟨g0, 0, none⟩) m.L.length c0) (by simp)
  have B2' := (B2.more b2).other ⟨w.heap.size, 0, none⟩ (by simp) (.slice (some ⟨g0, 0, none⟩) m.L.length c0)
  have b02 : Below w.heap.size w (W2.setCell ⟨w.heap.size, 0, none⟩ (.slice (some ⟨g0, 0, none⟩) m.L.length c0)) := Below.setCell (p := ⟨w.heap.size, 0, none⟩) (hb0.trans (b2.mono hb0.size)) (Nat.le_refl _) _
  have S2 : Sole (fun k => k = w.heap.size) W2 (W2.setCell ⟨w.heap.size, 0, none⟩ (.slice (some ⟨g0, 0, none⟩) m.L.length c0)) := Sole.setCell W2 _ rfl
  have O2' := O2.sole S2 (fun k e e' => by have := own_g e; omega)
  have s2 : (W2.setCell ⟨w.heap.size, 0, none⟩ (.slice (some ⟨g0, 0, none⟩) m.L.length c0)).heap.size = W2.heap.size := by simp [World.setCell]
  -- odd, anew
  obtain ⟨g2, c2, W5, hr2, O5, b5, hg2, hg2'⟩ := copy_row blOk (W2.setCell ⟨w.heap.size, 0, none⟩ (.slice (some ⟨g0, 0, none⟩) m.L.length c0)) W2.heap.size s2 m.p2 m.c2 m.O (RowOf.more R.O b02) (by show m.O.length * 1 ≤ _; omega) (by unfold maxLen; omega)
  have hg02 : g0 ≠ g2 := by omega
  have O2'' := RowOwn.more O2' b5
  have A5 := B1'.more b5
  have B1'' := (B1'.more b5).set 2 (.slice (some ⟨g2, 0, none⟩) m.O.length c2) (by simp)
  have B2'' := (B2'.more b5).other ⟨w.heap.size, 2, none⟩ (by simp) (.slice (some ⟨g2, 0, none⟩) m.O.length c2)
  have hz2 := b02.size
  have S5 : Sole (fun k => k = w.heap.size) W5 (W5.setCell ⟨w.heap.size, 2, none⟩ (.slice (some ⟨g2, 0, none⟩) m.O.length c2)) := Sole.setCell W5 _ rfl
  have b05 : Below w.heap.size w (W5.setCell ⟨w.heap.size, 2, none⟩ (.slice (some ⟨g2, 0, none⟩) m.O.length c2)) := Below.setCell (p := ⟨w.heap.size, 2, none⟩) (b02.trans (b5.mono hz2)) (Nat.le_refl _) _
  have O5' := O5.sole S5 (fun k e e' => by have := own_g e; omega)
  have O2x := O2''.sole S5 (fun k e e' => by have := own_g e; omega)
  have hs5 : W2.heap.size ≤ W5.heap.size := by have := b5.size; omega
  have s5 : (W5.setCell ⟨w.heap.size, 2, none⟩ (.slice (some ⟨g2, 0, none⟩) m.O.length c2)).drew.heap.size = W5.heap.size := by simp [World.setCell, World.drew]
  -- the octets, anew
  obtain ⟨g8, c8, W8, hr3, T8, O8, b8, hg8, hg8'⟩ := copy_octs (W5.setCell ⟨w.heap.size, 2, none⟩ (.slice (some ⟨g2, 0, none⟩) m.O.length c2)).drew W5.heap.size s5 x.a x.cap x.l (hx.more b05).1 (by omega)
  have b58 : Below (W5.setCell ⟨w.heap.size, 2, none⟩ (.slice (some ⟨g2, 0, none⟩) m.O.length c2)).heap.size (W5.setCell ⟨w.heap.size, 2, none⟩ (.slice (some ⟨g2, 0, none⟩) m.O.length c2)) W8 := (Below.refl _ _).drew.trans b8
  have b08 : Below w.heap.size w W8 := b05.trans (b58.mono b05.size)
  have B18 := B1''.more b58
  have B28 := B2''.more b58
  have X0 := RowOwn.more O2x b58
  have X2 := RowOwn.more O5' b58
  obtain ⟨cur0, C0, hc0⟩ := row_blk1 rfl X0 (by omega)
  obtain ⟨cur2, C2, hc2⟩ := row_blk1 rfl X2 (by omega)
  have hge0 := hid (show w.heap.size + 2 ≤ g0 ∧ w.heap.size + 2 ≤ g2 ∧ g0 ≠ g2 ∧ w.heap.size + 2 ≤ g8 ∧ g8 ≠ g0 ∧ g8 ≠ g2 from ⟨by omega, by omega, hg02, by omega, by omega, by omega⟩)
  -- stores
  have C2s := hid (C2.other ⟨g0, k, none⟩ (fun e => hge0.out.2.2.1 e) (.slice (some ⟨g8, 0, none⟩) x.l.length c8))
  have S9 : Sole (fun j => j = g0 ∨ j = g2) W8 ((W8.setCell ⟨g0, k, none⟩ (.slice (some ⟨g8, 0, none⟩) x.l.length c8)).setCell ⟨g2, k, none⟩ (.bool odd)) := (Sole.setCell (S := fun j => j = g0 ∨ j = g2) W8 (b := g0) (o := k) _ (.inl rfl)).trans (Sole.setCell _ (b := g2) (o := k) _ (.inr rfl))
  have Y0 := (row_set1 rfl ocOk (fun y => .slice y.a y.l.length y.cap) (fun _ => rfl) X0 k (⟨some ⟨g8, 0, none⟩, c8, x.l⟩ : OcS)).sole (Sole.setCell (S := fun j => j = g2) _ (b := g2) (o := k) (.bool odd) rfl) (fun j e e' => by have := own_g e; exact hge0.out.2.2.1 (this.symm.trans e'))
  have X2' := X2.sole (Sole.setCell (S := fun j => j = g0) W8 (b := g0) (o := k) (.slice (some ⟨g8, 0, none⟩) x.l.length c8) rfl) (fun j e e' => by have := own_g e; exact hge0.out.2.2.1 (e'.symm.trans this))
  have Y2 := row_set1 rfl blOk (fun y => .bool y) (fun _ => rfl) X2' k odd
  have BM := B18.other ⟨g0, k, none⟩ (by have := hge0.out; show g0 ≠ _; omega) (.slice (some ⟨g8, 0, none⟩) x.l.length c8)
  have BE1 := hid ((B18.other ⟨g0, k, none⟩ (by have := hge0.out; show g0 ≠ _; omega) (.slice (some ⟨g8, 0, none⟩) x.l.length c8)).other ⟨g2, k, none⟩ (by have := hge0.out; show g2 ≠ _; omega) (.bool odd))
  have BE2 := hid ((B28.other ⟨g0, k, none⟩ (by have := hge0.out; show g0 ≠ _; omega) (.slice (some ⟨g8, 0, none⟩) x.l.length c8)).other ⟨g2, k, none⟩ (by have := hge0.out; show g2 ≠ _; omega) (.bool odd))
  have b09 := b08.trans (S9.below (B := w.heap.size) b08.size fun j e => by have := hge0.out; omega)
  have hm : ∀ W', Below w.heap.size w W' → RefM W' m J := fun W' hb => R.more hb
  have sz9 : ((W8.setCell ⟨g0, k, none⟩ (.slice (some ⟨g8, 0, none⟩) x.l.length c8)).setCell ⟨g2, k, none⟩ (.bool odd)).heap.size = W8.heap.size := by simp [World.setCell]
  have hJlt := hid R.jlt
  have FIN := hid (show RefM ((W8.setCell ⟨g0, k, none⟩ (.slice (some ⟨g8, 0, none⟩) x.l.length c8)).setCell ⟨g2, k, none⟩ (.bool odd)) (m.put (some ⟨g0, 0, none⟩) c0 (some ⟨g2, 0, none⟩) c2 k ⟨some ⟨g8, 0, none⟩, c8, x.l⟩ odd) (fun j => J j ∨ (w.heap.size + 1 + 1 ≤ j ∧ j < ((W8.setCell ⟨g0, k, none⟩ (.slice (some ⟨g8, 0, none⟩) x.l.length c8)).setCell ⟨g2, k, none⟩ (.bool odd)).heap.size)) from by
    have M9 := R.more b09
    have hw8 : ∀ j, w.heap.size + 2 ≤ j → j < W8.heap.size → J j ∨ (w.heap.size + 1 + 1 ≤ j ∧ j < ((W8.setCell ⟨g0, k, none⟩ (.slice (some ⟨g8, 0, none⟩) x.l.length c8)).setCell ⟨g2, k, none⟩ (.bool odd)).heap.size) := fun j h1 h2 => .inr ⟨by omega, by rw [sz9]; exact h2⟩
    exact
    { L := row_of ocOk Y0
      Q := M9.Q
      O := row_of blOk Y2
      F := M9.F
      LO := fun y hy => by
        rcases List.mem_or_eq_of_mem_set hy with h | rfl
        · obtain ⟨h1, h2, h3⟩ := M9.LO y h
          exact ⟨h1, h2, fun b o e => .inl (h3 b o e)⟩
        · exact ⟨oc_sole T8 S9 fun b o e => by cases e; have := hge0.out; omega, hxl, fun b o e => by cases e; exact hw8 g8 (by have := hge0.out; omega) hg8'⟩
      QO := fun y hy => by
        obtain ⟨⟨h1, h2, h3⟩, h4⟩ := M9.QO y hy
        exact ⟨⟨h1, h2, fun b o e => .inl (h3 b o e)⟩, by simpa using h4⟩
      lO := by simp [hlO]
      lL := by simpa using hlL
      lQ := R.lQ
      lF := R.lF
      j0 := fun b o e => by cases e; exact hw8 g0 (by have := hge0.out; omega) C0.lt
      j1 := fun b o e => .inl (R.j1 b o e)
      j2 := fun b o e => by cases e; exact hw8 g2 (by have := hge0.out; omega) C2.lt
      j5 := fun b o e => .inl (R.j5 b o e)
      jlt := fun j hj => by
        rcases hj with h | h
        · have := R.jlt j h; have := b09.size; omega
        · exact h.2 })
  have D9 := hid b09
  have hcells : m.cells = rdv m.p0 m.L.length m.c0 m.p1 m.Q.length m.c1 m.p2 m.O.length m.c2 m.off m.cut m.p5 m.F.length m.c5 m.fail := rfl
  replace hr1 := hid hr1
  replace hr2 := hid hr2
  replace hr3 := hid hr3
  clear R hm Y0 Y2 X2' X0 X2 S9 b09 sz9 T8 O8 b8 b58 b08 S5 b05 O5 O5' O2x O2'' S2 b02 O2' O2 b2 b5 hb0 hx hxl s2 s5 hz2 hs5 hg0 hg0' hg2 hg2' hg8 hg8' hlL hs0
  simp only [RM.cells, rdv, List.setIfInBounds_toArray, List.set_cons_zero, List.set_cons_succ] at B1 B1' B1'' B18 A2 A5 BM
  obtain ⟨lm, mm, fm⟩ := BM
  obtain ⟨l1, m1, f1⟩ := B1
  obtain ⟨l2, m2, f2⟩ := B1'
  obtain ⟨l5, m5, f5⟩ := B1''
  obtain ⟨l8, m8, f8⟩ := B18
  obtain ⟨l2', m2', f2'⟩ := A2
  obtain ⟨l5', m5', f5'⟩ := A5
  obtain ⟨la, ma, fa⟩ := C0
  obtain ⟨lb, mb, fb⟩ := C2s.out
  have hk2 : k < m.O.length := by omega
  have hlOh := hid hlO
  clear hlO hOn hcells
  change Calls _ _ #[.agg (rdv m.p0 m.L.length m.c0 m.p1 m.Q.length m.c1 m.p2 m.O.length m.c2 m.off m.cut m.p5 m.F.length m.c5 m.fail).toArray, _, _, _] _ _
  go_enter Try.func67, Try.ntmps67
  go_wp2_with (at_builtin; first
    | refine Lib.wpList_append_run _ rfl _ _ _ _ rfl _ _ rfl rfl _ _ (hr1.out _) ?_
    | refine Lib.wpList_append_run _ rfl _ _ _ _ rfl _ _ rfl rfl _ _ (hr2.out _) ?_)
  obtain ⟨u0, hu0⟩ : ∃ u, cur0[k]? = some u := ⟨_, Array.getElem?_eq_getElem (by omega)⟩
  obtain ⟨u2, hu2⟩ : ∃ u, cur2[k]? = some u := ⟨_, Array.getElem?_eq_getElem (by omega)⟩
  have hr3' := hr3.out
  rw [show (W5.setCell ⟨w.heap.size, 2, none⟩ (.slice (some ⟨g2, 0, none⟩) m.O.length c2)).drew.alloc (.cells #[] 5) = ((W5.setCell ⟨w.heap.size, 2, none⟩ (.slice (some ⟨g2, 0, none⟩) m.O.length c2)).alloc (.cells #[] 5)).drew from rfl] at hr3'
  clear hr3
  go_region_law (first
    | (refine step_append_run (by rfl) _ _ _ (by rfl) _ _ (by rfl) (by rfl) _ _ hr3' ?_))
  all_goals
    have B1e := BE1.out
    have B2e := BE2.out
    simp only [RM.cells, rdv, List.setIfInBounds_toArray, List.set_cons_zero, List.set_cons_succ] at B1e
    clear hr3' l1 m1 f1 l2 m2 f2 l5 m5 f5 l8 m8 f8 lm mm fm l2' m2' f2' l5' m5' f5' la ma fa lb mb fb hr1 hr2 hW0 hu0 hu2 B2 B2' B2'' B28 C2 C2s hc0 hc2 hge0 BE1
    generalize (W8.setCell ⟨g0, k, none⟩ (.slice (some ⟨g8, 0, none⟩) x.l.length c8)).setCell ⟨g2, k, none⟩ (.bool odd) = W9 at *
    obtain ⟨l1, m1, f1⟩ := B1e
    obtain ⟨l2, m2, f2⟩ := B2e
    go_wp2
    have hcell : (m.put (some ⟨g0, 0, none⟩) c0 (some ⟨g2, 0, none⟩) c2 k ⟨some ⟨g8, 0, none⟩, c8, x.l⟩ odd).cells = rdv (some ⟨g0, 0, none⟩) m.L.length c0 m.p1 m.Q.length m.c1 (some ⟨g2, 0, none⟩) m.O.length c2 m.off m.cut m.p5 m.F.length m.c5 m.fail := by simp [RM.cells]
    have B3 := Blk.fill (rdv (some ⟨g0, 0, none⟩) m.L.length c0 m.p1 m.Q.length m.c1 (some ⟨g2, 0, none⟩) m.O.length c2 m.off m.cut m.p5 m.F.length m.c5 m.fail) 0 BE2.out (by simp)
    have D3 := hid (below_fill (b := w.heap.size + 1) (Nat.le_succ _) (rdv (some ⟨g0, 0, none⟩) m.L.length c0 m.p1 m.Q.length m.c1 (some ⟨g2, 0, none⟩) m.O.length c2 m.off m.cut m.p5 m.F.length m.c5 m.fail) 0 D9.out)
    have F3 := hid (RefM.fill FIN.out hJlt.out (Nat.le_succ _) (rdv (some ⟨g0, 0, none⟩) m.L.length c0 m.p1 m.Q.length m.c1 (some ⟨g2, 0, none⟩) m.O.length c2 m.off m.cut m.p5 m.F.length m.c5 m.fail))
    simp only [setAll, Nat.zero_add, Nat.reduceAdd] at B3 D3 F3
    clear l1 m1 f1 l2 m2 f2 BE2 D9 FIN
    generalize World.setCell _ _ _ = W3 at *
    obtain ⟨l9, q9, f9⟩ := B3
    refine bodyPost_ret (v := .agg (rdv (some ⟨g0, 0, none⟩) m.L.length c0 m.p1 m.Q.length m.c1 (some ⟨g2, 0, none⟩) m.O.length c2 m.off m.cut m.p5 m.F.length m.c5 m.fail).toArray) (by simp [results, Try.results67, go_sem, q9, fillC]) rfl ⟨_, c0, _, c2, ⟨some ⟨g8, 0, none⟩, c8, x.l⟩, rfl, by unfold RM.v; rw [hcell], F3.out, D3.out⟩
end Go.Proofs.Ytpgibngohbohdaa

namespace Go.Proofs.Ytpgibngohbohdaa
open Go.RowKit Go.Maps
set_option linter.unusedVariables false
set_option linter.unusedSimpArgs false

theorem wr_bad (m : DM) (b : Nat) (z : Int) (K : Nat → Prop) (w : World) (D : DiskM w b m K) (h : m.trb = true) (a : Option Addr) (n cap : Nat) :
    Calls Try.prog 23 #[.pointer (some ⟨b, 0, none⟩), .int .i64 z, .slice a n cap] w fun e w' => e = .returned (.int .i64 20) ∧ DiskM w' b m.after K ∧ Sole K w w' := by
  have KT := hid (trouble_any m b w D.blk)
  have Dh := hid D
  have ht := h
  clear D h
  simp only [ht, if_true, ↓reduceIte] at KT
  go_enter Try.func23, Try.ntmps23
  go_wp2_with fail
  refine KT.out.mono ?_
  rintro e w1 ⟨rfl, hB, hS⟩
  have E := hid (show DiskM w1 b m.after K ∧ Sole K w w1 from ⟨Dh.out.after hB hS, hS.mono fun k _ e => e ▸ Dh.out.kk _ (.inl rfl)⟩)
  clear hB hS KT Dh
  go_wp2_with fail
  go_ret
  exact ⟨rfl, E.out⟩
theorem wr_far (m : DM) (b : Nat) (z : Int) (K : Nat → Prop) (w : World) (D : DiskM w b m K) (h : m.trb = false) (hr : ¬ (0 ≤ z ∧ z < (m.Ls.length : Int))) (a : Option Addr) (n cap : Nat) :
    Calls Try.prog 23 #[.pointer (some ⟨b, 0, none⟩), .int .i64 z, .slice a n cap] w fun e w' => e = .returned (.int .i64 4) ∧ DiskM w' b m.after K ∧ Sole K w w' := by
  have KT := hid (trouble_any m b w D.blk)
  have Dh := hid D
  have ht := h
  clear D h
  simp only [ht, Bool.false_eq_true, if_false, ↓reduceIte] at KT
  go_enter Try.func23, Try.ntmps23
  go_wp2_with fail
  refine KT.out.mono ?_
  rintro e w1 ⟨rfl, hB, hS⟩
  have KH := has_any m.after b z w1 hB
  rw [show decide (0 ≤ z ∧ z < (m.after.Ls.length : Int)) = false from decide_eq_false hr] at KH
  replace KH := hid KH
  have E := hid (show DiskM w1 b m.after K ∧ Sole K w w1 from ⟨Dh.out.after hB hS, hS.mono fun k _ e => e ▸ Dh.out.kk _ (.inl rfl)⟩)
  clear hB hS KT Dh hr
  go_wp2_with fail
  refine KH.out.mono ?_
  rintro e w2 ⟨rfl, hw⟩
  rw [hw]
  clear hw w2 KH
  go_wp2_with fail
  go_ret
  exact ⟨rfl, E.out⟩
theorem wr_long (m : DM) (b : Nat) (z : Int) (K : Nat → Prop) (w : World) (D : DiskM w b m K) (h : m.trb = false) (hr : 0 ≤ z ∧ z < (m.Ls.length : Int)) (a : Option Addr) (n cap : Nat) (hn : n ≠ 256) :
    Calls Try.prog 23 #[.pointer (some ⟨b, 0, none⟩), .int .i64 z, .slice a n cap] w fun e w' => e = .returned (.int .i64 5) ∧ DiskM w' b m.after K ∧ Sole K w w' := by
  have KT := hid (trouble_any m b w D.blk)
  have Dh := hid D
  have ht := h
  clear D h
  simp only [ht, Bool.false_eq_true, if_false, ↓reduceIte] at KT
  go_enter Try.func23, Try.ntmps23
  go_wp2_with fail
  refine KT.out.mono ?_
  rintro e w1 ⟨rfl, hB, hS⟩
  have KH := has_any m.after b z w1 hB
  rw [show decide (0 ≤ z ∧ z < (m.after.Ls.length : Int)) = true from decide_eq_true hr] at KH
  replace KH := hid KH
  have E := hid (show DiskM w1 b m.after K ∧ Sole K w w1 from ⟨Dh.out.after hB hS, hS.mono fun k _ e => e ▸ Dh.out.kk _ (.inl rfl)⟩)
  have hn' : ((n : Int) == 256) = false := by rw [beq_eq_false_iff_ne]; omega
  clear hB hS KT Dh hr hn
  go_wp2_with fail
  refine KH.out.mono ?_
  rintro e w2 ⟨rfl, hw⟩
  rw [hw]
  clear hw w2 KH
  go_wp2_with fail
  go_ret
  exact ⟨rfl, E.out⟩

/-- What a write answers where there is no trouble. -/
def wrC (N : Nat) (z : Int) (n : Nat) : Int := if 0 ≤ z ∧ z < (N : Int) then (if n = 256 then 0 else 5) else 4
/-- What of a disk no write changes, where no power goes. -/
structure Same (m m' : DM) : Prop where
  off : m'.off = m.off
  tl : m'.tl = m.tl
  tf : m'.tf = m.after.tf
  fl : m'.fl = m.after.fl
  L : m'.Ls = m.Ls
  O : m'.DO = m.DO
  o : m'.n' = m.n'
  q : m'.Qs.length ≤ m.Qs.length + 1
  n : m'.n ≤ m.n + 1
theorem wr_off (m : DM) (b : Nat) (z : Int) (K : Nat → Prop) (w : World) (D : DiskM w b m K) (htr : m.trb = false) (htl : m.tl = false) (hz : (Lit.int .i64 z).wf = true) (hn : m.n < 1000000) (hq : m.Qs.length ≤ 1000000)
    (x : OcS) (hx : x.there w) (hxK : ∀ b' o, x.a = some ⟨b', o, none⟩ → ¬ K b') :
    Calls Try.prog 23 #[.pointer (some ⟨b, 0, none⟩), .int .i64 z, .slice x.a x.l.length x.cap] w fun e w' => e = .returned (.int .i64 (wrC m.Ls.length z x.l.length)) ∧
      ∃ m' K', DiskM w' b m' K' ∧ Sole K w w' ∧ (∀ k, K' k → K k ∨ w.heap.size ≤ k) ∧ Same m m' := by
  unfold wrC
  by_cases hr : 0 ≤ z ∧ z < (m.Ls.length : Int)
  · rw [if_pos hr]
    by_cases hl : x.l.length = 256
    · rw [if_pos hl]
      have h := write_any (G := fun _ _ w1 w' => w' = w1) m b z K w D x hx hxK hl hz hr.1 hr.2 htr hn hq (fun y q c w1 K1 Dx => goz_off _ _ _ Dx.blk htl)
      rw [hl]
      refine h.mono ?_
      rintro e w' ⟨rfl, y, q, c, w1, K1, hy, D1, S1, hK, rfl⟩
      refine ⟨rfl, _, K1, D1, S1, hK, ⟨rfl, rfl, rfl, rfl, rfl, rfl, rfl, ?_, Nat.le_refl _⟩⟩
      show (m.Qs ++ [(⟨z, y⟩ : WtS)]).length ≤ _
      simp
    · rw [if_neg hl]
      refine (wr_long m b z K w D htr hr x.a x.l.length x.cap hl).mono ?_
      rintro e w' ⟨rfl, D1, S1⟩
      exact ⟨rfl, _, K, D1, S1, fun k h => .inl h, ⟨rfl, rfl, rfl, rfl, rfl, rfl, rfl, Nat.le_succ _, Nat.le_succ _⟩⟩
  · rw [if_neg hr]
    refine (wr_far m b z K w D htr hr x.a x.l.length x.cap).mono ?_
    rintro e w' ⟨rfl, D1, S1⟩
    exact ⟨rfl, _, K, D1, S1, fun k h => .inl h, ⟨rfl, rfl, rfl, rfl, rfl, rfl, rfl, Nat.le_succ _, Nat.le_succ _⟩⟩

/-- A call that fails is told. -/
theorem fail_any (m : DM) (b : Nat) (K : Nat → Prop) (w : World) (D : DiskM w b m K) (z : Int) (hz : (Lit.int .i64 z).wf = true) :
    Calls Try.prog 24 #[.pointer (some ⟨b, 0, none⟩), .int .i64 z] w fun e w' => e = .returned (.tuple #[]) ∧ DiskM w' b { m with tf := true, fl := z } K ∧ Sole (fun k => k = b) w w' := by
  have B0 := D.blk
  have B1 := (B0.set 9 (.bool true) (by simp [DM.cells])).set 10 (.int .i64 z) (by simp [DM.cells])
  have S1 := (Sole.setCell (S := fun k => k = b) w (b := b) (o := 9) (.bool true) rfl).trans (Sole.setCell _ (b := b) (o := 10) (.int .i64 z) rfl)
  have E := hid (And.intro (D.scal m.off m.tl true m.cl z D.cwf hz S1 B1) S1)
  clear B1 S1 D
  simp only [DM.cells, DM.sv, DM.wv, DM.fv] at B0
  obtain ⟨l0, k0, f0⟩ := B0
  go_enter Try.func24, Try.ntmps24
  go_wp2_with fail
  refine bodyPost_end (results_none rfl _ _ _) rfl ?_
  exact ⟨rfl, E.out⟩
end Go.Proofs.Ytpgibngohbohdaa
