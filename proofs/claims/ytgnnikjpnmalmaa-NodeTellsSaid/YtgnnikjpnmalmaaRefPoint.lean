/-
  The document's own points as octets: a point's octets.
-/
import Derived.Test.YtgnnikjpnmalmaaPointGetWalk
import Derived.Test.YtgnnikjpnmalmaaRefCat
import Derived.Deep.RegionWith
import Derived.Deep.DeepCutAuto
namespace Go.Proofs.Ytgnnikjpnmalmaa
open Go.RowKit
set_option linter.unusedVariables false
set_option linter.unusedSimpArgs false

theorem Fresh.octs {w w' : World} {v : Value} {l : List UInt8} (h : Fresh w w' v l) : ∃ a cap, v = .slice a l.length cap ∧ Octs w' a l ∧ Below w.heap.size w w' := by
  obtain ⟨a, cap, rfl, O, hb⟩ := h
  exact ⟨a, cap, rfl, Octs.of_own O, hb⟩
theorem refNum_fit (N : Int) (m : Nat) (M : Int) (hM : (m : Int) = M) (h1 : 0 ≤ N) (h2 : N ≤ 9223372036854775807) (hm : m ≤ 1000) (w : World) :
    Calls Try.prog 72 #[.int .i64 N, .int .i64 M] w fun e w' => ∃ ba bc, e = .returned (.slice ba m bc) ∧ Octs w' ba (leB N.toNat m) ∧ Below w.heap.size w w' := by
  subst hM
  refine (refNum_any N m (by omega) h2 hm w).mono ?_
  rintro e w' ⟨ba, bc, bl, he, hl, hle, O, hb⟩
  exact ⟨ba, bc, he, by rw [← hle h1]; exact O, hb⟩
theorem own_base {w : World} {base base' : Nat} {e : TypeId} {size : Nat} {v : Value} {n : Nat} {xs : List Value} (h : w.ownsRow base e size v n xs) (hb : base' ≤ base) : w.ownsRow base' e size v n xs := by
  refine ⟨h.1, h.2.imp id ?_⟩
  rintro ⟨g, cap, cur, hv, hg, rest⟩
  exact ⟨g, cap, cur, hv, Nat.le_trans hb hg, rest⟩
theorem undrew {w w' : World} (h : Below w.drew.heap.size w.drew w') : Below w.heap.size w w' := ⟨h.os, h.tape, h.output, h.size, h.block⟩
/-- Two rows of known lengths. -/
theorem refCat_len (l1 l2 : List UInt8) (n1 n2 : Nat) (h1 : l1.length = n1) (h2 : l2.length = n2) (a1 a2 : Option Addr) (c1 c2 : Nat) (w : World) (O1 : Octs w a1 l1) (O2 : Octs w a2 l2) (hl : n1 + n2 ≤ 140737488355328) :
    Calls Try.prog 19 #[.slice a1 n1 c1, .slice a2 n2 c2] w fun e w' => ∃ a cap, e = .returned (.slice a (n1 + n2) cap) ∧ w'.ownsRow w.heap.size 5 1 (.slice a (n1 + n2) cap) (n1 + n2) (Lib.byteCells (l1 ++ l2)) ∧ Below w.heap.size w w' := by
  subst h1 h2
  refine (refCat_any l1 l2 a1 a2 c1 c2 w O1 O2 hl).mono ?_
  rintro e w' ⟨v, rfl, a, cap, rfl, O, hb⟩
  rw [List.length_append] at O ⊢
  exact ⟨a, cap, rfl, O, hb⟩

set_option maxRecDepth 100000 in
set_option maxHeartbeats 4000000 in
theorem refPoint_any (P : Pt) (hP : P.ok) (hm : P.may) (w : World) :
    Calls Try.prog 26 #[pval P] w fun e w' => ∃ v, e = .returned v ∧ Fresh w w' v (pointB P) := by
  obtain ⟨i1, i2, x1, x2, y1, y2, d1⟩ := hP
  obtain ⟨m1, m2, m3⟩ := hm
  have KI := hid (fun w => refNum_fit P.id 4 4 rfl (by omega) i2 (by omega) w)
  have KX := hid (fun w => refNum_fit P.x 4 4 rfl x1 (by omega) (by omega) w)
  have KY := hid (fun w => refNum_fit P.y 4 4 rfl y1 (by omega) (by omega) w)
  have BX := Blk.new w #[.int .i64 P.id, .int .u32 P.x, .int .u32 P.y, .string P.d] 33
  have hb0 : Hid (Below w.heap.size w (w.alloc (.cells #[.int .i64 P.id, .int .u32 P.x, .int .u32 P.y, .string P.d] 33))) := hid ((Below.refl _ _).alloc (Nat.le_refl _) _)
  have sz : (P.d.size : Int) ≤ 16 := by omega
  have HBX := hid BX
  clear d1 i1 i2 BX
  go_enter Try.func26, Try.ntmps26
  go_upto_region 1 with (fail)
  generalize hg : w.heap.size = g at *
  generalize hw0 : w.alloc (.cells #[.int .i64 P.id, .int .u32 P.x, .int .u32 P.y, .string P.d] 33) = w0 at *
  obtain ⟨lx, kx, fx⟩ := HBX.out
  have HBY := hid HBX.out.drew
  have ux : IntKind.i64.wrap P.x = P.x := IntWalk.i64_in _ (by omega)
  go_cut [3] (fun v wx => ∃ a c, v = .slice a 8 c ∧ wx.ownsRow w0.heap.size 5 1 (.slice a 8 c) 8 (Lib.byteCells (leB P.id.toNat 4 ++ leB P.x.toNat 4)) ∧ Below w0.heap.size w0 wx)
  case first =>
    go_region_with (first
      | ((with_reducible refine (KI.out _).mono ?_); rintro e w1 ⟨ba1, bc1, rfl, OA1, hb1⟩; have HB1 := hid (HBY.out.more hb1); obtain ⟨lx1, kx1, fx1⟩ := HB1.out)
      | ((with_reducible refine (KX.out _).mono ?_); rintro e w2 ⟨ba2, bc2, rfl, OA2, hb2⟩; have HB2 := hid (HB1.out.more hb2); obtain ⟨lx2, kx2, fx2⟩ := HB2.out; replace OA1 := OA1.more hb2; replace hb2 := hid (hb1.trans (hb2.mono hb1.size)))
      | ((with_reducible refine (refCat_len _ _ 4 4 (leB_length 4 _) (leB_length 4 _) _ _ _ _ _ OA1 OA2 (by omega)).mono ?_); rintro e w3 ⟨ba3, bc3, rfl, RC3, hb3⟩))
    all_goals
      have E := hid (And.intro (own_base RC3 hb2.out.size) (undrew (hb2.out.trans (hb3.mono hb2.out.size))))
      clear RC3 hb2 hb3
      go_wp2_with fail
      go_meet
      case rel => exact ⟨ba3, bc3, rfl, E.out⟩
  case rest =>
    obtain ⟨a, c, rfl, RC, hbx⟩ := hcut
    have HB2 := HBX.out.more hbx
    have hw := hid (hb0.out.trans (hbx.mono (by have h := hb0.out.size; omega)))
    have OC := hid (Octs.of_own (l := leB P.id.toNat 4 ++ leB P.x.toNat 4) (by rw [show (leB P.id.toNat 4 ++ leB P.x.toNat 4).length = 8 by simp [leB_length]]; exact RC))
    clear lx kx fx RC hbx
    have HB3 := hid HB2
    obtain ⟨lx, kx, fx⟩ := HB2
    go_wp2_with fail
    refine (KY.out _).mono ?_
    rintro e w4 ⟨ba4, bc4, rfl, OA4, hb4⟩
    have HB4 := HB3.out.more hb4
    replace OC := hid (OC.out.more hb4)
    replace hw := hid (below2 hw.out hb4 (by have h := hw.out.size; omega))
    replace OA4 := hid OA4
    clear lx kx fx hb4
    have HB5 := hid HB4
    obtain ⟨lx, kx, fx⟩ := HB4
    go_wp2_with fail
    refine (refCat_len _ _ 8 4 (by simp [leB_length]) (leB_length 4 _) _ _ _ _ _ OC.out OA4.out (by omega)).mono ?_
    rintro e w5 ⟨a5, c5, rfl, R5, hb5⟩
    have HB6 := HB5.out.more hb5
    have hw5 := hid (below2 hw.out hb5 (by have h := hw.out.size; omega))
    clear lx kx fx hw
    have hu8 : (UInt8.ofNat P.d.size).toNat = P.d.size := by
      have := byte_ofNat P.d.size
      omega
    have hl12 : (leB P.id.toNat 4 ++ leB P.x.toNat 4 ++ leB P.y.toNat 4).length = 12 := by simp [leB_length]
    have ps := push_octet w4.heap.size 22 w5 (.slice a5 (8 + 4) c5) (leB P.id.toNat 4 ++ leB P.x.toNat 4 ++ leB P.y.toNat 4) (by rw [hl12]; exact R5) (UInt8.ofNat P.d.size) (by rw [hl12]; omega) hb5.size
    rw [hu8] at ps
    obtain ⟨v6, w6, hr, R6, S6, mv6⟩ := ps
    have hb6 := S6.below (B := w4.heap.size) hb5.size fun k hk => (R5.lt k hk).1
    have HB7 := HB6.sole S6 (fun hx => by have := (R5.lt _ hx).1; have := HB5.out.lt; omega)
    have hwg := hid (show g ≤ w5.heap.size by have h := hw5.out.size; omega)
    have hw6 := hid (hw5.out.trans (S6.below (B := g) hwg.out fun k hk => by have := (R5.lt k hk).1; have := HB5.out.lt; omega))
    have hm16 : (P.d.size : Int) % 256 = P.d.size := by omega
    have hf6 := R6.2
    obtain ⟨g6, c6, cur6, hv6, _⟩ := hf6.resolve_left (fun x => by have := x.2; simp at this)
    rw [show (leB P.id.toNat 4 ++ leB P.x.toNat 4 ++ leB P.y.toNat 4 ++ [UInt8.ofNat P.d.size]).length = 13 by simp [leB_length]] at R6 hv6
    subst hv6
    have O6 := hid (Octs.of_own (l := leB P.id.toNat 4 ++ leB P.x.toNat 4 ++ leB P.y.toNat 4 ++ [UInt8.ofNat P.d.size]) (by rw [show (leB P.id.toNat 4 ++ leB P.x.toNat 4 ++ leB P.y.toNat 4 ++ [UInt8.ofNat P.d.size]).length = 13 by simp [leB_length]]; exact R6))
    simp only [Nat.reduceAdd] at hr
    obtain ⟨lx5, kx5, fx5⟩ := HB6
    clear R5 R6 S6 hb5 hb6 mv6 hf6 hl12 hu8
    have HB8 := hid HB7
    obtain ⟨lx, kx, fx⟩ := HB7
    obtain ⟨ba7, bc7, w7, kc, O7, hb7⟩ := bytes_of_str w6 P.d
    rw [size_list] at kc
    replace O6 := hid (O6.out.more hb7)
    have hw7 := hid (below2 hw6.out hb7 (by have h := hw6.out.size; omega))
    replace O7 := hid O7
    clear hb7
    go_wp2_with (at_builtin; refine Lib.wpList_append_run _ rfl _ _ _ _ rfl _ _ rfl rfl _ _ hr ?_)
    refine (refCat_len _ _ 13 P.d.size (by simp [leB_length]) (size_list _) _ _ _ _ _ O6.out O7.out (by omega)).mono ?_
    rintro e w8 ⟨a8, c8, rfl, R8, hb8⟩
    have E : Hid (Fresh w w8 (.slice a8 (13 + P.d.size) c8) (pointB P)) := hid (by
      have e1 : leB P.id.toNat 4 ++ leB P.x.toNat 4 ++ leB P.y.toNat 4 ++ [UInt8.ofNat P.d.size] ++ P.d.data.toList = pointB P := by simp [pointB, leB]
      rw [e1] at R8
      refine ⟨a8, c8, by rw [pointB_length], by rw [pointB_length]; exact own_base R8 (by have h := hw7.out.size; omega), ?_⟩
      rw [hg]
      exact below2 hw7.out hb8 (by have h := hw7.out.size; omega))
    clear R8 hb8
    go_wp2
    go_ret
    exact ⟨_, rfl, E.out⟩
end Go.Proofs.Ytgnnikjpnmalmaa
