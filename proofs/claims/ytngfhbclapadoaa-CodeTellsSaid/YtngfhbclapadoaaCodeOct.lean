/-
  Layer 30: the document's own octets of a step.
-/
import Derived.Test.YtngfhbclapadoaaCodeAlive
import Derived.Deep.RegionWith
import Derived.Deep.RegionLaw
import Derived.Deep.AppendLies
import Derived.Deep.DeepCutAuto
namespace Go.Proofs.Ytngfhbclapadoaa
open Go.RowKit
set_option linter.unusedVariables false
set_option linter.unusedSimpArgs false

/-- A new block of one octet. -/
theorem octs_one (w : World) (z : Int) (t : TypeId) (h0 : 0 ≤ z) (h1 : z < 256) : Octs (w.alloc (.cells #[.int .u8 z] t)) (some ⟨w.heap.size, 0, none⟩) (leB z.toNat 1) := by
  refine .inr ⟨w.heap.size, 0, rfl, by simp, fun i hi => ?_⟩
  have hi0 : i = 0 := by rw [leB_length] at hi; omega
  subst hi0
  have := (Blk.new w #[.int .u8 z] t).cell 0
  rw [Nat.zero_add, this]
  have hg := leB_get 1 z.toNat 0 (by omega)
  have hl : 0 < (leB z.toNat 1).length := by rw [leB_length]; omega
  rw [List.getElem?_eq_getElem hl] at hg
  rw [Option.some.inj hg, byte_ofNat]
  simp
  omega
theorem octs_one_d (w : World) (z : Int) (t : TypeId) (h0 : 0 ≤ z) (h1 : z < 256) : Octs (w.drew.alloc (.cells #[.int .u8 z] t)) (some ⟨w.heap.size, 0, none⟩) (leB z.toNat 1) := octs_one w.drew z t h0 h1
theorem octs_one_e (w : World) (z : Int) (t : TypeId) (h0 : 0 ≤ z) (h1 : z < 256) : Octs (w.alloc (.cells #[.int .u8 z] t)).drew (some ⟨w.heap.size, 0, none⟩) (leB z.toNat 1) := (octs_one w z t h0 h1).more (Below.refl _ _).drew
/-- Two rows, the second one's length known. -/
theorem refCat_two (l1 l2 : List UInt8) (n2 : Nat) (h2 : l2.length = n2) (a1 a2 : Option Addr) (c1 c2 : Nat) (w : World) (O1 : Octs w a1 l1) (O2 : Octs w a2 l2) (hl : l1.length + n2 ≤ 140737488355328) :
    Calls Try.prog 28 #[.slice a1 l1.length c1, .slice a2 n2 c2] w fun e w' => ∃ a c, e = .returned (.slice a (l1 ++ l2).length c) ∧ w'.ownsRow w.heap.size 5 1 (.slice a (l1 ++ l2).length c) (l1 ++ l2).length (Lib.byteCells (l1 ++ l2)) ∧ Below w.heap.size w w' := by
  subst h2
  refine (refCat_any l1 l2 a1 a2 c1 c2 w O1 O2 hl).mono ?_
  rintro e w' ⟨v, rfl, a, cap, rfl, O, hb⟩
  exact ⟨a, cap, rfl, O, hb⟩
/-- A text's octets: a new block. -/
theorem bytes_new (w : World) (s : ByteArray) : ∃ bc w', (convert 9 33 (.string s)).run Try.prog w = .ok (.slice (some ⟨w.heap.size, 0, none⟩) s.size bc) w' ∧ Octs w' (some ⟨w.heap.size, 0, none⟩) s.data.toList ∧ Below w.heap.size w w' ∧ w.heap.size < w'.heap.size := by
  have h := run_bytes_of_string (P := Try.prog) w 9 33 5 s Try.underlying9 Try.underlying33 Try.underlying5
  refine ⟨_, _, h, ?_, (Below.refl w.heap.size w).drew.alloc (Nat.le_refl _) _, by simp⟩
  refine .inr ⟨w.heap.size, 0, rfl, by simp, fun i hi => ?_⟩
  have hi' : i < s.data.size := by simpa using hi
  rw [Nat.zero_add, cell_of_row _ w.heap.size i _ _ _ (heap_alloc_new w.drew _), bytesRow_at s _ i hi']
  simp
theorem below_one' (w : World) (o : Obj) : Below w.heap.size w (w.alloc o) := (Below.refl _ _).alloc (Nat.le_refl _) _
/-- What stands ahead of an append of one octet: the row, the octet, the step. -/
structure Pre7 (X : World) (base b g : Nat) (v : Value) (n : Nat) (A : List UInt8) (z : Int) (box : Array Value) : Prop where
  own : X.ownsRow base 5 1 v n (Lib.byteCells A)
  one : Blk X b #[.int .u8 z]
  box : Blk X g box
  le : base ≤ X.heap.size
  gb : g < base
theorem Pre7.news {X : World} {base b g n : Nat} {v : Value} {A : List UInt8} {z : Int} {box : Array Value} (h : Pre7 X base b g v n A z box) : ∀ j u, (#[.int .u8 z] : Array Value).toList[j]? = some u → X.cell? (Addr.add ⟨b, 0, none⟩ j) = some u := fun j u hu => by
  rw [addr_plus, Nat.zero_add, h.one.cell j, ← hu]
  simp
theorem Pre7.more {X X' : World} {base b g n : Nat} {v : Value} {A : List UInt8} {z : Int} {box : Array Value} (h : Pre7 X base b g v n A z box) (hb : Below X.heap.size X X') : Pre7 X' base b g v n A z box :=
  ⟨own_sole h.own (Sole.made (S := fun _ => False) hb) (fun _ _ x => x), h.one.more hb, h.box.more hb, Nat.le_trans h.le hb.size, h.gb⟩
theorem Pre7.new {w : World} {base g n : Nat} {v : Value} {A : List UInt8} {box : Array Value} (z : Int) (t : TypeId) (own : w.ownsRow base 5 1 v n (Lib.byteCells A)) (B : Blk w g box) (le : base ≤ w.heap.size) (gb : g < base) : Pre7 (w.alloc (.cells #[.int .u8 z] t)) base w.heap.size g v n A z box :=
  ⟨own_sole own (Sole.made (S := fun _ => False) (below_one' w _)) (fun _ _ x => x), Blk.new w _ t, B.more (below_one' w _), by simp; omega, gb⟩
theorem octs_n {w : World} {base n cap : Nat} {e : TypeId} {a : Option Addr} {l : List UInt8} (hl : l.length = n) (h : w.ownsRow base e 1 (.slice a n cap) n (Lib.byteCells l)) : Octs w a l := by
  subst hl; exact Octs.of_own h
/-- What stands behind it. -/
theorem Pre7.post {X X' : World} {base b g n m : Nat} {v v' : Value} {A : List UInt8} {z : Int} {box : Array Value} (h : Pre7 X base b g v n A z box) (z0 : 0 ≤ z) (z1 : z < 256) (A' : List UInt8) (hA : A ++ leB z.toNat 1 = A') (O : X'.ownsRow base 5 1 v' m (Lib.byteCells A ++ [.int .u8 z])) (G : X.grownBy X' v.ownBlock) :
    X'.ownsRow base 5 1 v' m (Lib.byteCells A') ∧ Blk X' g box ∧ Sole (fun k => v.ownBlock = some k) X X' ∧ (∀ k, v.ownBlock = some k → base ≤ k ∧ k < X.heap.size) ∧ base ≤ X'.heap.size := by
  have S : Sole (fun k => v.ownBlock = some k) X X' := Sole.grown G fun k hk => hk
  have e : Lib.byteCells (leB z.toNat 1) = [.int .u8 z] := by
    simp [Lib.byteCells, leB, byte_ofNat]
    omega
  refine ⟨by rw [← hA, Lib.byteCells_append, e]; exact O, h.box.sole S (fun hk => ?_), S, h.own.lt, Nat.le_trans h.le S.size⟩
  have := (h.own.lt _ hk).1
  have := h.gb
  omega
theorem below_one (w : World) (o : Obj) : Below w.heap.size w (w.alloc o) := (Below.refl _ _).alloc (Nat.le_refl _) _

set_option maxRecDepth 100000 in
set_option maxHeartbeats 8000000 in
theorem octets_any (s : Sp) (hs : s.ok) (hz : spCk s = 0) (w : World) (hT : s.there w) :
    Calls Try.prog 17 #[spval s] w fun e w' => ∃ v, e = .returned v ∧ Fresh w w' v (stepO s) := by
  obtain ⟨k1, k2, a1, a2, hF, d1, f1⟩ := spCk_zero hz
  obtain ⟨i0, hi, hz0, hz1, hz2⟩ := info_parts u8Info
  have x0 := hs.x0
  have x9 := hs.x9
  have y0 := hs.y0
  have y9 := hs.y9
  have x10 := hs.x10
  have x19 := hs.x19
  have y10 := hs.y10
  have y19 := hs.y19
  have hR0 : Hid (RowP w s.q 1 s.f.length (fun i => [.int .i64 (faAt s.f i)])) := hid hT
  have hFk := hid (fun k hk => fateB_of hF k hk)
  have hFt := hid (fun k hk => fateO_take s.f k hk)
  have hF0 : Hid (fateO (s.f.take 0) = []) := hid (by simp [fateO])
  have hF9 : Hid (fateO (s.f.take s.f.length) = fateO s.f) := hid (by rw [List.take_length])
  have hFl : Hid (∀ k, k ≤ s.f.length → (fateO (s.f.take k)).length = 2 * k) := hid (fun k hk => by rw [fateO_length, List.length_take, Nat.min_eq_left hk])
  have KA := hid (fun w => refNum_fit s.a 4 4 rfl a1 (by omega) (by omega) w)
  have KX := hid (fun w => refNum_fit s.x 4 4 rfl x0 (by omega) (by omega) w)
  have KY := hid (fun w => refNum_fit s.y 4 4 rfl y0 (by omega) (by omega) w)
  have KX1 := hid (fun w => refNum_fit s.x1 4 4 rfl x10 (by omega) (by omega) w)
  have KY1 := hid (fun w => refNum_fit s.y1 4 4 rfl y10 (by omega) (by omega) w)
  have BX := hid (Blk.new w (sparr s) 49)
  have hb0 : Hid (Below w.heap.size w (w.alloc (.cells (sparr s) 49))) := hid ((Below.refl _ _).alloc (Nat.le_refl _) _)
  have u1 : IntKind.i64.wrap s.x = s.x := IntWalk.i64_in _ (by omega)
  have u2 : IntKind.i64.wrap s.y = s.y := IntWalk.i64_in _ (by omega)
  have u3 : IntKind.i64.wrap s.x1 = s.x1 := IntWalk.i64_in _ (by omega)
  have u4 : IntKind.i64.wrap s.y1 = s.y1 := IntWalk.i64_in _ (by omega)
  have v1 : IntKind.u8.wrap s.k = s.k := IntWalk.u8_in s.k ⟨by omega, by omega⟩
  have m1 : s.k % 256 = s.k := by omega
  have m2 : (s.d.size : Int) % 256 = s.d.size := by omega
  have m3 : (s.f.length : Int) % 256 = s.f.length := by omega
  obtain ⟨Z, hZ⟩ : ∃ Z, stepO s = Z := ⟨_, rfl⟩
  have hZ2 := hid hZ
  rw [hZ]
  clear hs hz hT hF hZ
  obtain ⟨sk, sa, sx, sy, sx1, sy1, sd, sq, sfc, sf⟩ := s
  dsimp only [spval, sparr] at *
  go_enter Try.func17, Try.ntmps17
  go_upto_region 1 with (fail)
  generalize hg : w.heap.size = g at *
  generalize hw0 : w.alloc _ = W0 at *
  have hg0 : g < W0.heap.size := by rw [← hw0, ← hg]; simp
  obtain ⟨lx, kx, fx⟩ := BX.out
  have HBY := hid BX.out.drew
  go_cut [3] (fun v wx => ∃ a c, v = .slice a 5 c ∧ wx.ownsRow W0.heap.size 5 1 (.slice a 5 c) 5 (Lib.byteCells (leB sk.toNat 1 ++ leB sa.toNat 4)) ∧ Below W0.heap.size W0 wx)
  case first =>
    go_region_with (first
      | ((with_reducible refine (KA.out _).mono ?_); rintro e w1 ⟨ba1, bc1, rfl, OA1, hb1⟩; have HB1 : Blk w1 g _ := (by first | exact HBY.out.more hb1 | exact (HBY.out.more (below_one _ _)).more hb1); obtain ⟨lx1, kx1, fx1⟩ := HB1; have B1 : Below W0.heap.size W0 w1 := (by first | with_reducible exact ((Below.refl _ _).drew).trans (hb1.mono (Nat.le_refl _)) | with_reducible exact (((Below.refl _ _).drew).alloc (Nat.le_refl _) _).trans (hb1.mono (by simp)) | with_reducible exact (((Below.refl _ _).alloc (Nat.le_refl _) _).drew).trans (hb1.mono (by simp))))
      | ((with_reducible refine (refCat_len (leB sk.toNat 1) (leB sa.toNat 4) 1 4 (leB_length 1 _) (leB_length 4 _) _ _ _ _ _ (by first | exact (octs_one_d W0 sk _ (by omega) (by omega)).more hb1 | exact (octs_one_e W0 sk _ (by omega) (by omega)).more hb1 | exact octs_one w1 sk _ (by omega) (by omega)) (by first | exact OA1 | exact OA1.more (below_one _ _)) (by omega)).mono ?_); rintro e w2 ⟨ba2, bc2, rfl, R2, hb2⟩))
    all_goals
      have E : Hid (w2.ownsRow W0.heap.size 5 1 (.slice ba2 5 bc2) 5 (Lib.byteCells (leB sk.toNat 1 ++ leB sa.toNat 4)) ∧ Below W0.heap.size W0 w2) := hid (by first | exact ⟨own_base R2 B1.size, below2 B1 hb2 B1.size⟩ | exact ⟨own_base R2 (by have h := B1.size; simp; omega), below2 (B1.alloc B1.size _) hb2 (by have h := B1.size; simp; omega)⟩)
      clear R2 hb2 B1 hb1
      go_wp2_with fail
      go_meet
      case rel => exact ⟨ba2, bc2, rfl, E.out⟩
  case rest =>
    obtain ⟨a0, c0, rfl, R0, hbx⟩ := hcut
    obtain ⟨A0, e0⟩ : ∃ A, leB sk.toNat 1 ++ leB sa.toNat 4 = A := ⟨_, rfl⟩
    obtain ⟨A1, e1⟩ : ∃ A, A0 ++ leB sx.toNat 4 = A := ⟨_, rfl⟩
    obtain ⟨A2, e2⟩ : ∃ A, A1 ++ leB sy.toNat 4 = A := ⟨_, rfl⟩
    obtain ⟨A3, e3⟩ : ∃ A, A2 ++ leB sx1.toNat 4 = A := ⟨_, rfl⟩
    obtain ⟨A4, e4⟩ : ∃ A, A3 ++ leB sy1.toNat 4 = A := ⟨_, rfl⟩
    obtain ⟨A5, e5⟩ : ∃ A, A4 ++ leB (sd.size : Int).toNat 1 = A := ⟨_, rfl⟩
    obtain ⟨A6, e6⟩ : ∃ A, A5 ++ sd.data.toList = A := ⟨_, rfl⟩
    obtain ⟨A7, e7⟩ : ∃ A, A6 ++ leB (sf.length : Int).toNat 1 = A := ⟨_, rfl⟩
    have hend : Hid (A7 ++ fateO sf = Z) := hid (by
      rw [← e7, ← e6, ← e5, ← e4, ← e3, ← e2, ← e1, ← e0, ← hZ2.out]
      simp only [stepO, Int.toNat_natCast, List.append_assoc])
    have n0 : A0.length = 5 := by rw [← e0]; simp [leB_length]
    have n1 : A1.length = 9 := by rw [← e1, List.length_append, n0, leB_length]
    have n2 : A2.length = 13 := by rw [← e2, List.length_append, n1, leB_length]
    have n3 : A3.length = 17 := by rw [← e3, List.length_append, n2, leB_length]
    have n4 : A4.length = 21 := by rw [← e4, List.length_append, n3, leB_length]
    have n5 : A5.length = 22 := by rw [← e5, List.length_append, n4, leB_length]
    have n6 : A6.length = 22 + sd.size := by rw [← e6, List.length_append, n5, size_list]
    have n7 : A7.length = 23 + sd.size := by rw [← e7, List.length_append, n6, leB_length]; omega
    rw [e0] at R0
    have R0' : wc.ownsRow W0.heap.size 5 1 (.slice a0 A0.length c0) A0.length (Lib.byteCells A0) := by rw [n0]; exact R0
    clear R0
    have hBx := hid (hbx.size : W0.heap.size ≤ wc.heap.size)
    have BQ := hid (Blk.new wc #[.int .u32 sx, .int .u32 sy, .int .u32 sx1, .int .u32 sy1] 46)
    have RQ := hid (own_sole R0' (Sole.made (S := fun _ => False) (below_one wc (.cells #[.int .u32 sx, .int .u32 sy, .int .u32 sx1, .int .u32 sy1] 46))) (fun _ _ x => x))
    have HBX := hid (BX.out.below hbx (by omega))
    have HBQ := hid (HBX.out.more (below_one wc (.cells #[.int .u32 sx, .int .u32 sy, .int .u32 sx1, .int .u32 sy1] 46)))
    have D := hid (hbx.alloc hbx.size (.cells #[.int .u32 sx, .int .u32 sy, .int .u32 sx1, .int .u32 sy1] 46))
    obtain ⟨lx, kx, fx⟩ := HBX.out
    replace e0 := hid e0
    replace e1 := hid e1
    replace e2 := hid e2
    replace e3 := hid e3
    replace e4 := hid e4
    replace e5 := hid e5
    replace e6 := hid e6
    replace e7 := hid e7
    clear R0' hbx
    replace n0 := hid n0
    replace n1 := hid n1
    replace n2 := hid n2
    replace n3 := hid n3
    replace n4 := hid n4
    replace n5 := hid n5
    replace n6 := hid n6
    replace n7 := hid n7
    replace hg := hid hg
    go_wp2_with fail
    generalize hWQ : wc.alloc _ = WQ at *
    have hsz : Hid (WQ.heap.size = wc.heap.size + 1) := hid (by rw [← hWQ]; simp)
    generalize hq : wc.heap.size = q at *
    clear lx kx fx
    go_loopw [3, 5] (fun v i wr => Below WQ.heap.size WQ wr ∧ ∃ a c, (i = .int .i64 0 ∧ v = .slice a A0.length c ∧ wr.ownsRow W0.heap.size 5 1 (.slice a A0.length c) A0.length (Lib.byteCells A0)) ∨ (i = .int .i64 1 ∧ v = .slice a A1.length c ∧ wr.ownsRow W0.heap.size 5 1 (.slice a A1.length c) A1.length (Lib.byteCells A1)) ∨ (i = .int .i64 2 ∧ v = .slice a A2.length c ∧ wr.ownsRow W0.heap.size 5 1 (.slice a A2.length c) A2.length (Lib.byteCells A2)) ∨ (i = .int .i64 3 ∧ v = .slice a A3.length c ∧ wr.ownsRow W0.heap.size 5 1 (.slice a A3.length c) A3.length (Lib.byteCells A3)) ∨ (i = .int .i64 4 ∧ v = .slice a A4.length c ∧ wr.ownsRow W0.heap.size 5 1 (.slice a A4.length c) A4.length (Lib.byteCells A4))) (fun _ i _ => 4 - (intOf i).toNat)
    case atStart => exact ⟨Below.refl _ _, a0, c0, .inl ⟨rfl, by rw [n0.out], RQ.out⟩⟩
    case round =>
      obtain ⟨hb, a, c, hh⟩ := hrel
      have hbh := hid hb
      obtain ⟨lq, kq, fq⟩ := BQ.out.more hb
      clear hb
      rcases hh with ⟨rfl, rfl, R⟩ | ⟨rfl, rfl, R⟩ | ⟨rfl, rfl, R⟩ | ⟨rfl, rfl, R⟩ | ⟨rfl, rfl, R⟩
      · have O := hid (Octs.of_own R)
        clear R
        go_wp2_with fail
        refine (KX.out _).mono ?_
        rintro e w5 ⟨ba5, bc5, rfl, OA5, hb5⟩
        have D4 := hid (below2 hbh.out hb5 hbh.out.size)
        have O5 := hid (O.out.more hb5)
        clear O lq kq fq hb5
        replace OA5 := hid OA5
        go_wp2_with fail
        refine (refCat_two A0 _ 4 (leB_length 4 _) _ _ _ _ _ O5.out OA5.out (by have := n0.out; have := n1.out; have := n2.out; have := n3.out; omega)).mono ?_
        rintro e w6 ⟨a6, c6, he6, R6, hb6⟩
        rw [e1.out] at he6 R6
        subst he6
        have D5 := hid (below2 D4.out hb6 D4.out.size)
        replace R6 := hid (own_base (base' := W0.heap.size) R6 (by have h1 := D4.out.size; have h2 := hBx.out; have h3 := hsz.out; omega))
        clear hb6 O5 OA5 D4
        go_wp2_with fail
        go_roundw
        case rel => exact ⟨D5.out, a6, c6, .inr (.inl ⟨by go_num, rfl, R6.out⟩)⟩
        case measure => simp [intOf]
      · have O := hid (Octs.of_own R)
        clear R
        go_wp2_with fail
        refine (KY.out _).mono ?_
        rintro e w5 ⟨ba5, bc5, rfl, OA5, hb5⟩
        have D4 := hid (below2 hbh.out hb5 hbh.out.size)
        have O5 := hid (O.out.more hb5)
        clear O lq kq fq hb5
        replace OA5 := hid OA5
        go_wp2_with fail
        refine (refCat_two A1 _ 4 (leB_length 4 _) _ _ _ _ _ O5.out OA5.out (by have := n0.out; have := n1.out; have := n2.out; have := n3.out; omega)).mono ?_
        rintro e w6 ⟨a6, c6, he6, R6, hb6⟩
        rw [e2.out] at he6 R6
        subst he6
        have D5 := hid (below2 D4.out hb6 D4.out.size)
        replace R6 := hid (own_base (base' := W0.heap.size) R6 (by have h1 := D4.out.size; have h2 := hBx.out; have h3 := hsz.out; omega))
        clear hb6 O5 OA5 D4
        go_wp2_with fail
        go_roundw
        case rel => exact ⟨D5.out, a6, c6, .inr (.inr (.inl ⟨by go_num, rfl, R6.out⟩))⟩
        case measure => simp [intOf]
      · have O := hid (Octs.of_own R)
        clear R
        go_wp2_with fail
        refine (KX1.out _).mono ?_
        rintro e w5 ⟨ba5, bc5, rfl, OA5, hb5⟩
        have D4 := hid (below2 hbh.out hb5 hbh.out.size)
        have O5 := hid (O.out.more hb5)
        clear O lq kq fq hb5
        replace OA5 := hid OA5
        go_wp2_with fail
        refine (refCat_two A2 _ 4 (leB_length 4 _) _ _ _ _ _ O5.out OA5.out (by have := n0.out; have := n1.out; have := n2.out; have := n3.out; omega)).mono ?_
        rintro e w6 ⟨a6, c6, he6, R6, hb6⟩
        rw [e3.out] at he6 R6
        subst he6
        have D5 := hid (below2 D4.out hb6 D4.out.size)
        replace R6 := hid (own_base (base' := W0.heap.size) R6 (by have h1 := D4.out.size; have h2 := hBx.out; have h3 := hsz.out; omega))
        clear hb6 O5 OA5 D4
        go_wp2_with fail
        go_roundw
        case rel => exact ⟨D5.out, a6, c6, .inr (.inr (.inr (.inl ⟨by go_num, rfl, R6.out⟩)))⟩
        case measure => simp [intOf]
      · have O := hid (Octs.of_own R)
        clear R
        go_wp2_with fail
        refine (KY1.out _).mono ?_
        rintro e w5 ⟨ba5, bc5, rfl, OA5, hb5⟩
        have D4 := hid (below2 hbh.out hb5 hbh.out.size)
        have O5 := hid (O.out.more hb5)
        clear O lq kq fq hb5
        replace OA5 := hid OA5
        go_wp2_with fail
        refine (refCat_two A3 _ 4 (leB_length 4 _) _ _ _ _ _ O5.out OA5.out (by have := n0.out; have := n1.out; have := n2.out; have := n3.out; omega)).mono ?_
        rintro e w6 ⟨a6, c6, he6, R6, hb6⟩
        rw [e4.out] at he6 R6
        subst he6
        have D5 := hid (below2 D4.out hb6 D4.out.size)
        replace R6 := hid (own_base (base' := W0.heap.size) R6 (by have h1 := D4.out.size; have h2 := hBx.out; have h3 := hsz.out; omega))
        clear hb6 O5 OA5 D4
        go_wp2_with fail
        go_roundw
        case rel => exact ⟨D5.out, a6, c6, .inr (.inr (.inr (.inr (⟨by go_num, rfl, R6.out⟩))))⟩
        case measure => simp [intOf]
      · have HB := hid (HBQ.out.more hbh.out)
        have D4 := hid (D.out.trans (hbh.out.mono (by have h2 := hBx.out; have h3 := hsz.out; omega)))
        clear hbh lq kq fq BQ HBQ HBX D RQ
        have R21 : wr.ownsRow W0.heap.size 5 1 (.slice a 21 c) 21 (Lib.byteCells A4) := by have h := R; rw [n4.out] at h; exact h
        have v2 : IntKind.u8.wrap (sd.size : Int) = (sd.size : Int) := IntWalk.u8_in _ ⟨by omega, by omega⟩
        have v3 : IntKind.u8.wrap (sf.length : Int) = (sf.length : Int) := IntWalk.u8_in _ ⟨by omega, by omega⟩
        obtain ⟨lx, kx, fx⟩ := HB.out
        have kn4 := n4.out
        have dz : (0 : Int) ≤ sd.size ∧ (sd.size : Int) < 256 := by omega
        clear R
        go_upto_region 7 with (fail)
        go_cut [3] (fun v wx => ∃ a c, v = .slice a (22 + sd.size) c ∧ wx.ownsRow W0.heap.size 5 1 (.slice a (22 + sd.size) c) (22 + sd.size) (Lib.byteCells A6) ∧ Below W0.heap.size W0 wx)
        case first =>
          have FA := hid ((Pre7.new (sd.size : Int) 5 R21 HB.out D4.out.size hg0).more (Below.refl _ _).drew)
          obtain ⟨cA, wA, kA, OA, hA, sA⟩ := bytes_new wr.drew sd
          obtain ⟨cB, wB, kB, OB, hB, sB⟩ := bytes_new (wr.alloc (.cells #[.int .u8 (sd.size : Int)] 5)).drew sd
          have FB := hid (FA.out.more hB)
          have FC := hid (Pre7.new (sd.size : Int) 5 (own_sole R21 (Sole.made (S := fun _ => False) ((Below.refl _ _).drew.trans hA)) (fun _ _ x => x)) (HB.out.drew.more hA) (Nat.le_trans D4.out.size hA.size) hg0)
          simp only [World.size_drew, World.size_alloc] at OA
          have OAc := hid (OA.more (below_one wA (.cells #[.int .u8 (sd.size : Int)] 5)))
          have DA := hid ((D4.out.alloc D4.out.size (.cells #[.int .u8 (sd.size : Int)] 5)).drew)
          have DB := hid (DA.out.trans (hB.mono DA.out.size))
          have DC0 := D4.out.drew.trans (hA.mono D4.out.size)
          have DC := hid (DC0.alloc DC0.size (.cells #[.int .u8 (sd.size : Int)] 5))
          have hown := hid R21.lt
          have n22 := n5.out
          simp only [World.size_drew, World.size_alloc] at OB
          replace OB := hid OB
          obtain ⟨lA, kAx, fA⟩ := HB.out.drew.more hA
          clear OA DC0 hA
          go_region_law (first
            | (refine step_append_lies _ (by rfl) _ _ _ (by rfl) W0.heap.size 5 i0 _ 1 1 Try.underlying33 hi hz0 hz1 hz2 rfl (by omega) (.slice a 21 c) 21 (Lib.byteCells A4) (by rfl) (by with_reducible exact FA.out.own) _ 1 1 (#[.int .u8 (sd.size : Int)] : Array Value).toList (by rfl) (by rfl) (by with_reducible exact FA.out.news) (by simp [Value.oneCell']) (by omega) (by unfold maxLen; omega) (by omega) FA.out.le _ rfl ?_; intro g9 cap9 w9 hown9 hgrow9 hat9 hlt9; obtain ⟨P9, ⟨l9, k9, f9⟩, S9, lt9, le9⟩ := FA.out.post dz.1 dz.2 A5 e5.out hown9 hgrow9; have D9 := DA.out.trans (S9.below (B := W0.heap.size) FA.out.le (fun k hk => (lt9 k hk).1)); obtain ⟨cC, wC, kC, OC, hC, sC⟩ := bytes_new w9 sd; have D8 := D9.trans (hC.mono le9); have O8 := (octs_n n22 P9).more hC)
            | (refine step_append_lies _ (by rfl) _ _ _ (by rfl) W0.heap.size 5 i0 _ 1 1 Try.underlying33 hi hz0 hz1 hz2 rfl (by omega) (.slice a 21 c) 21 (Lib.byteCells A4) (by rfl) (by with_reducible exact FB.out.own) _ 1 1 (#[.int .u8 (sd.size : Int)] : Array Value).toList (by rfl) (by rfl) (by with_reducible exact FB.out.news) (by simp [Value.oneCell']) (by omega) (by unfold maxLen; omega) (by omega) FB.out.le _ rfl ?_; intro g9 cap9 w9 hown9 hgrow9 hat9 hlt9; obtain ⟨P9, ⟨l9, k9, f9⟩, S9, lt9, le9⟩ := FB.out.post dz.1 dz.2 A5 e5.out hown9 hgrow9; have D8 := DB.out.trans (S9.below (B := W0.heap.size) FB.out.le (fun k hk => (lt9 k hk).1)); have O8 := octs_n n22 P9; have OC := OB.out.sole S9 (fun b o e _ hk => by have q1 := (hown.out _ hk).2; cases e; omega))
            | (refine step_append_lies _ (by rfl) _ _ _ (by rfl) W0.heap.size 5 i0 _ 1 1 Try.underlying33 hi hz0 hz1 hz2 rfl (by omega) (.slice a 21 c) 21 (Lib.byteCells A4) (by rfl) (by with_reducible exact FC.out.own) _ 1 1 (#[.int .u8 (sd.size : Int)] : Array Value).toList (by rfl) (by rfl) (by with_reducible exact FC.out.news) (by simp [Value.oneCell']) (by omega) (by unfold maxLen; omega) (by omega) FC.out.le _ rfl ?_; intro g9 cap9 w9 hown9 hgrow9 hat9 hlt9; obtain ⟨P9, ⟨l9, k9, f9⟩, S9, lt9, le9⟩ := FC.out.post dz.1 dz.2 A5 e5.out hown9 hgrow9; have D8 := DC.out.trans (S9.below (B := W0.heap.size) FC.out.le (fun k hk => (lt9 k hk).1)); have O8 := octs_n n22 P9; have OC := OAc.out.sole S9 (fun b o e _ hk => by have q1 := (hown.out _ hk).2; cases e; omega))
            | (go_simp; (with_reducible refine (refCat_len A5 sd.data.toList 22 sd.size n22 (size_list _) _ _ _ _ _ O8 OC (by omega)).mono ?_); rintro e w10 ⟨a10, c10, rfl, R10, hb10⟩))
          all_goals
            have E : Hid (w10.ownsRow W0.heap.size 5 1 (.slice a10 (22 + sd.size) c10) (22 + sd.size) (Lib.byteCells A6) ∧ Below W0.heap.size W0 w10) := hid ⟨by rw [← e6.out]; exact own_base R10 D8.size, below2 D8 hb10 D8.size⟩
            clear R10 hb10 D8 O8 OC P9 S9 lt9 hown9 hgrow9 hat9 hlt9 l9 k9 f9
            go_wp2_with fail
            go_meet
            case rel => exact ⟨a10, c10, rfl, E.out⟩
        case rest =>
          obtain ⟨a8, c8, rfl, R8, hb8⟩ := hcut
          have hu8 : (UInt8.ofNat sf.length).toNat = sf.length := by
            have := byte_ofNat sf.length
            omega
          have e7' : A6 ++ [UInt8.ofNat sf.length] = A7 := by rw [← e7.out]; simp [leB]
          have kn6 := n6.out
          have R8' : wc.ownsRow W0.heap.size 5 1 (.slice a8 (22 + sd.size) c8) A6.length (Lib.byteCells A6) := by rw [kn6]; exact R8
          obtain ⟨v9, w9, hr, R9, S9, mv9⟩ := push_octet W0.heap.size 33 wc (.slice a8 (22 + sd.size) c8) A6 R8' (UInt8.ofNat sf.length) (by omega) hb8.size
          rw [hu8] at hr
          rw [e7'] at R9
          have HB8 := hid (BX.out.below hb8 hg0)
          have D9 := hid (hb8.trans (S9.below (B := W0.heap.size) hb8.size (fun k hk => (R8.lt k hk).1)))
          obtain ⟨g9, c9, cur9, hv9, _⟩ := R9.2.resolve_left (fun x => by have := x.2; have := n7.out; omega)
          subst hv9
          replace R9 := hid R9
          obtain ⟨lx, kx, fx⟩ := HB8.out
          replace e7' := hid e7'
          replace hu8 := hid hu8
          clear kn6 kn4 S9 mv9 hb8 HB D4 R21
          go_wp2_with (at_builtin; refine Lib.wpList_append_run _ rfl _ _ _ _ rfl _ _ rfl rfl _ _ hr ?_)
          clear hr
          go_loopw [3, 6] (fun v i wr => ∃ (q : Nat) (a : Option Addr) (c : Nat), q ≤ sf.length ∧ i = .int .i64 (q : Int) ∧ v = .slice a (A7 ++ fateO (sf.take q)).length c ∧ wr.ownsRow W0.heap.size 5 1 (.slice a (A7 ++ fateO (sf.take q)).length c) (A7 ++ fateO (sf.take q)).length (Lib.byteCells (A7 ++ fateO (sf.take q))) ∧ Below W0.heap.size W0 wr) (fun _ i _ => sf.length - (intOf i).toNat)
          case atStart => exact ⟨0, _, c9, by omega, rfl, by rw [hF0.out, List.append_nil], by rw [hF0.out, List.append_nil]; exact R9.out, D9.out⟩
          case round =>
            clear R9 D9 lx kx fx HB8
            obtain ⟨q, a, c, hq, rfl, rfl, R, hb⟩ := hrel
            have HBk := BX.out.below hb hg0
            have hbh := hid hb
            have fl := f1
            by_cases hlt : q < sf.length
            · have hbw : Below w.heap.size w wr := by rw [hg.out]; exact hb0.out.trans (hb.mono (Nat.le_of_lt hg0))
              obtain ⟨b, o, rfl, RR⟩ := hR0.out.row (by omega)
              have RM := RR.more hbw
              have z0 := RM.at0 hlt (v := .int .i64 (faAt sf q)) rfl
              rw [Nat.mul_one] at z0
              have hz := hFk.out q hlt
              have hst := hid (hFt.out q hlt)
              have K := hid (fun w => refNum_fit (faAt sf q) 2 2 rfl hz.1 (by omega) (by omega) w)
              have O := hid (Octs.of_own R)
              have hl := hid (show (A7 ++ fateO (sf.take q)).length + 2 ≤ 140737488355328 by rw [List.length_append, hFl.out q hq, n7.out]; omega)
              generalize hLq : A7 ++ fateO (sf.take q) = Lq at *
              have hLq' := hid hLq
              obtain ⟨lx, kx, fx⟩ := HBk
              clear hbw RR RM hz R hb hLq
              go_wp2_with fail
              refine (K.out _).mono ?_
              rintro e w5 ⟨ba5, bc5, rfl, OA5, hb5⟩
              have D5 := hid (below2 hbh.out hb5 hbh.out.size)
              have O5 := hid (O.out.more hb5)
              replace OA5 := hid OA5
              clear K O hb5 lx kx fx z0
              go_wp2_with fail
              refine (refCat_two Lq _ 2 (leB_length 2 _) _ _ _ _ _ O5.out OA5.out hl.out).mono ?_
              rintro e w6 ⟨a6, c6, he6, R6, hb6⟩
              have eL : Lq ++ leB (faAt sf q).toNat 2 = A7 ++ fateO (sf.take (q + 1)) := by rw [hst.out, ← hLq'.out, List.append_assoc]
              rw [eL] at he6 R6
              subst he6
              have D6 := hid (below2 D5.out hb6 D5.out.size)
              replace R6 := hid (own_base (base' := W0.heap.size) R6 D5.out.size)
              clear hb6 O5 OA5 D5 eL
              go_wp2_with fail
              go_roundw
              case rel => exact ⟨q + 1, a6, c6, by omega, by go_num, by first | rfl | rw [List.length_append], R6.out, D6.out⟩
              case measure => simp [intOf]; omega
            · obtain rfl : q = sf.length := by omega
              rw [hF9.out, hend.out] at R ⊢
              have F : Hid (Fresh w wr (.slice a Z.length c) Z) := hid ⟨a, c, rfl, by rw [hg.out]; exact own_base R (Nat.le_of_lt hg0), by rw [hg.out]; exact hb0.out.trans (hb.mono (Nat.le_of_lt hg0))⟩
              obtain ⟨lx, kx, fx⟩ := HBk
              clear R hb
              go_wp2
              go_ret
              exact ⟨_, rfl, F.out⟩
end Go.Proofs.Ytngfhbclapadoaa
