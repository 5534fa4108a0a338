/-
  Layer 10: which summaries may be, any one's octets, and how many sectors stand behind, are as the page says. The walk.
-/
import Derived.Test.YtgnnikjpnmalmaaBatchPut
import Derived.Test.YtgnnikjpnmalmaaBatchSame
import Derived.Test.YtgnnikjpnmalmaaRegion
import Derived.Deep.RegionHeld3
namespace Go.Proofs.Ytgnnikjpnmalmaa
open Go.RowKit
set_option linter.unusedVariables false
set_option linter.unusedSimpArgs false

set_option maxRecDepth 100000 in
theorem alive10 (w : World) : Calls Try.prog 55 #[] w fun e w' => e = .returned (.bool true) ∧ Below w.heap.size w w' := by
  have K := bput_any 0 false none 0 0 (fun _ => ⟨0, 0⟩) (Nat.le_refl _) (Nat.zero_le _) w (.inl rfl)
  rw [show bCk 0 0 (fun _ => ⟨0, 0⟩) = 0 from by decide, show smL 0 false 0 (fun _ => ⟨0, 0⟩) = [0, 0, 0] from by decide] at K
  replace K := hid K
  go_enter Try.func55, Try.ntmps55
  go_wp2_with fail
  refine K.out.mono ?_
  rintro e w1 ⟨v, rfl, a, cap, rfl, OX, hb1⟩
  have kc := conv_octs (Octs.of_own OX) cap
  rw [show ([0, 0, 0] : List UInt8).length = 3 from rfl] at kc ⊢
  have D := hid hb1
  clear OX hb1 K
  go_wp2_with fail
  go_ret
  exact ⟨rfl, D.out⟩

/-- The octet of any number. -/
def oc (z : Int) : UInt8 := UInt8.ofNat (z % 256).toNat
theorem oc_int (z : Int) : ((oc z).toNat : Int) = z % 256 := by
  unfold oc
  rw [byte_ofNat]; omega
theorem oc_one (z : Int) (h0 : 0 ≤ z) (h1 : z ≤ 255) : leB z.toNat 1 = [oc z] := by
  have : (z % 256).toNat = z.toNat := by omega
  simp [leB, oc, this]
def entO (f : Nat → En) : Nat → List UInt8
  | 0 => []
  | k + 1 => entO f k ++ [oc (f k).k, oc (f k).i]
theorem entO_length (f : Nat → En) : ∀ k, (entO f k).length = 2 * k
  | 0 => rfl
  | k + 1 => by simp only [entO, List.length_append, entO_length f k, List.length_cons, List.length_nil]; omega
theorem entO_eq (f : Nat → En) : ∀ n, (∀ i, i < n → ((f i).k = 1 ∨ (f i).k = 2) ∧ 1 ≤ (f i).i ∧ (f i).i ≤ 255) → entB f n = entO f n
  | 0, _ => rfl
  | n + 1, h => by
    obtain ⟨h1, h2, h3⟩ := h n (by omega)
    simp only [entB, entO]
    rw [entO_eq f n fun i hi => h i (by omega), oc_one (f n).k (by omega) (by omega), oc_one (f n).i (by omega) (by omega), List.append_assoc]
    rfl
theorem three_new (w : World) (x y z : UInt8) (t : TypeId) : w.heap.size = w.heap.size ∧ (w.alloc (.cells #[.int .u8 (x.toNat : Int), .int .u8 (y.toNat : Int), .int .u8 (z.toNat : Int)] 5)).ownsRow w.heap.size 5 1 (.slice (some ⟨w.heap.size, 0, none⟩) 3 3) 3 (Lib.byteCells [x, y, z]) := by
  refine ⟨rfl, by simp [Lib.byteCells], .inr ⟨w.heap.size, 3, _, rfl, Nat.le_refl _, heap_alloc_new w _, Nat.le_refl _, by decide, rfl, ?_⟩⟩
  rfl
theorem pair_new (w : World) (x y : UInt8) (t : TypeId) : Octs (w.alloc (.cells #[.int .u8 (x.toNat : Int), .int .u8 (y.toNat : Int)] t)) (some ⟨w.heap.size, 0, none⟩) [x, y] := by
  refine .inr ⟨w.heap.size, 0, rfl, by simp, fun i hi => ?_⟩
  have : i = 0 ∨ i = 1 := by simp at hi; omega
  rcases this with rfl | rfl <;> simp
theorem ownc_more {w w' : World} {base : Nat} {e : TypeId} {size : Nat} {v : Value} {n : Nat} {xs : List Value} (h : w.ownsRow base e size v n xs) (hb : Below w.heap.size w w') : w'.ownsRow base e size v n xs :=
  own_sole h (Sole.made (S := fun _ => False) hb) fun _ _ x => x
theorem octs_drew {w : World} {a : Option Addr} {l : List UInt8} (h : Octs w a l) : Octs w.drew a l := h
theorem step_append_eq {P : Program} {w : World} {ops : Array Oper} {o : Oper} {a : Act} {K : Act → World → Prop} {Q : Exit → Act → World → Prop} {E : Prop} (hgd : o.guard = none) (s x : Operand) (t tn : TypeId)
    (ho : o.op = .call { callee := .builtin .append, args := #[s, x], argTypes := #[t, tn] }) (vs vx : Value) (hs : a.eval s = vs) (hx : a.eval x = vx)
    (v' : Value) (w' : World) (hr : (Builtin.append_ #[t, tn] o.type #[vs, vx]).run P w = .ok v' w') (h : K (a.put o.dst v') w') : if Region.wanted o (yielded ops a.tmps) = true then Oper.wp P o a w K Q else E := by
  have hw : Region.wanted o (yielded ops a.tmps) = true := by simp [Region.wanted, hgd]
  rw [if_pos hw]
  exact Lib.wp_append_run w s x t tn ho vs vx hs hx v' w' hr h
theorem own_shape {w : World} {b n : Nat} {v : Value} {L : List UInt8} (own : w.ownsRow b 5 1 v n (Lib.byteCells L)) : ∃ a cap, v = .slice a n cap := by
  rcases own.2 with ⟨rfl, h0⟩ | ⟨g, c, cur, rfl, _⟩
  · exact ⟨none, 0, by rw [h0]⟩
  · exact ⟨_, c, rfl⟩

set_option maxRecDepth 100000 in
set_option maxHeartbeats 16000000 in
theorem batchTells (nx nx' : Int) (la la' : Bool) (p p' : Option Addr) (n n' cap cap' : Nat) (f g : Nat → En) (h1 : n ≤ cap) (h2 : cap ≤ maxLen) (hr : n ≤ 8796093022208) (h3 : n' ≤ cap') (h4 : cap' ≤ maxLen) (w : World) (HR : RowP w p 2 n (fun i => ecells (f i))) (HQ : RowP w p' 2 n' (fun i => ecells (g i))) :
    Calls Try.prog 12 #[smval nx la p n cap, smval nx' la' p' n' cap'] w fun e w' => e = .returned (.bool true) ∧ Below w.heap.size w w' := by
  obtain ⟨W0, hW0⟩ : ∃ W0, (w.alloc (.cells (smcells nx la p n cap) 90)).alloc (.cells (smcells nx' la' p' n' cap') 90) = W0 := ⟨_, rfl⟩
  have hb0 : Below w.heap.size w W0 := by rw [← hW0]; exact ((Below.refl _ _).alloc (Nat.le_refl _) _).alloc (by simp) _
  have BX : Blk W0 w.heap.size (smcells nx la p n cap) := by rw [← hW0]; exact (Blk.new w _ _).alloc _
  have BY : Blk W0 (w.heap.size + 1) (smcells nx' la' p' n' cap') := by
    rw [← hW0]
    have := Blk.new (w.alloc (.cells (smcells nx la p n cap) 90)) (smcells nx' la' p' n' cap') 90
    rwa [World.size_alloc] at this
  have KA := hid alive10
  have KM := hid (fun wx (hb : Below w.heap.size w wx) => bmay_any nx la p n cap f h1 h2 wx (HR.more hb))
  have KC := hid (fun wx (hb : Below w.heap.size w wx) => bcheck_any nx la p n cap f h1 h2 wx (HR.more hb))
  have KP := hid (fun wx (hb : Below w.heap.size w wx) => bput_any nx la p n cap f h1 h2 wx (HR.more hb))
  have KW := hid (fun wx (hb : Below w.heap.size w wx) => bwritten_any nx la p n cap f h1 h2 wx (HR.more hb))
  have KS := hid (fun wx (hb : Below w.heap.size w wx) => bsame_any nx nx' la la' p p' n n' cap cap' f g h1 h2 h3 h4 wx (HR.more hb) (HQ.more hb))
  have KL := hid (fun wx (hb : Below w.heap.size w wx) => bsame_law nx nx' la la' p p' n n' cap cap' f g h1 h2 h3 h4 wx (HR.more hb) (HQ.more hb))
  have hR0 := hid HR
  have D0 := hid hb0
  have HBX := hid BX
  have HBY := hid BY
  have wy := hid (bCk_ways nx n f)
  have hzz := hid (fun h => bCk_zero (nx := nx) (n := n) (f := f) h)
  have hL : Hid (smL nx la n f = if bCk nx n f = 0 then smB nx la n f else []) := hid rfl
  generalize bSame nx nx' la la' n n' f g = SM at *
  generalize bCk nx n f = C at *
  unfold maxLen at h2 h4
  clear HR HQ hb0 BX BY
  obtain ⟨lx, kx, fx⟩ := HBX.out
  obtain ⟨ly, ky, fy⟩ := HBY.out
  go_enter Try.func12, Try.ntmps12
  go_wp2_with fail
  refine (KA.out _).mono ?_
  rintro e w1 ⟨rfl, hb1⟩
  have HX1 := hid (HBX.out.more hb1)
  have HY1 := hid (HBY.out.more hb1)
  have D1 := hid (below2 D0.out hb1 D0.out.size)
  clear hb1 lx kx fx ly ky fy HBX HBY D0 hW0 KA
  obtain ⟨lx, kx, fx⟩ := HX1.out
  go_wp2_with fail
  refine (KM.out _ D1.out).mono ?_
  rintro e w2 ⟨rfl, hb2⟩
  have HX2 := hid (HX1.out.more hb2)
  have HY2 := hid (HY1.out.more hb2)
  have D2 := hid (below2 D1.out hb2 D1.out.size)
  clear hb2 lx kx fx HX1 HY1 D1 KM
  obtain ⟨lx, kx, fx⟩ := HX2.out
  cases la with
  | true =>
    go_wp2_with fail
    have hbA : Below w2.heap.size w2 (w2.alloc (.cells #[.int .u8 (nx % 256), .int .u8 1, .int .u8 ((n : Int) % 256)] 5)) := (Below.refl _ _).alloc (Nat.le_refl _) _
    have OW := (three_new w2 (oc nx) 1 (oc n) 5).2
    rw [oc_int, oc_int, show (((1 : UInt8).toNat : Nat) : Int) = 1 from rfl] at OW
    have HX3 := hid (HX2.out.more hbA)
    have HY3 := hid (HY2.out.more hbA)
    have D3 := hid (below2 D2.out hbA D2.out.size)
    have hz2 := hid D2.out.size
    have hy2 := hid HY2.out.lt
    replace OW := hid OW
    clear lx kx fx hbA HX2 HY2 D2
    go_loopw [7, 8, 9] (fun v c i wx => ∃ (k : Nat) (va : Option Addr) (vc : Nat), k ≤ n ∧ i = .int .i64 (k : Int) ∧ c = .int .i64 (cntW f k : Int) ∧ v = .slice va (3 + 2 * k) vc ∧ wx.ownsRow w2.heap.size 5 1 (.slice va (3 + 2 * k) vc) (3 + 2 * k) (Lib.byteCells ([oc nx, 1, oc n] ++ entO f k)) ∧ Below w.heap.size w wx ∧ w2.heap.size ≤ wx.heap.size ∧ Blk wx w.heap.size (smcells nx true p n cap) ∧ Blk wx (w.heap.size + 1) (smcells nx' la' p' n' cap')) (fun _ _ i _ => n - (intOf i).toNat)
    case atStart => exact ⟨0, some ⟨w2.heap.size, 0, none⟩, 3, by omega, rfl, rfl, rfl, by simpa [entO] using OW.out, D3.out, by simp, HX3.out, HY3.out⟩
    case round =>
      clear OW HX3 HY3 D3
      obtain ⟨k, va, vc, hk, rfl, rfl, rfl, OW, D, hz, BX, BY⟩ := hrel
      have HX := hid BX
      have HY := hid BY
      obtain ⟨lx, kx, fx⟩ := BX
      by_cases hlt : k < n
      · obtain ⟨b, o, rfl, R0⟩ := hR0.out.row (by omega)
        have HR0 := hid R0
        have R := R0.more D
        have z0 := R.at0 hlt (v := .int .i64 (f k).k) rfl
        have z1 := R.at1 hlt (v := .int .i64 (f k).i) rfl
        have hle := cntW_le f k
        have hst : cntW f (k + 1) = cntW f k + if (f k).k = 1 then 1 else 0 := rfl
        have x2 : wr.cell? ⟨w.heap.size, 2, none⟩ = some (.slice (some ⟨b, o, none⟩) n cap) := kx 2
        have k0 : (0 : Int) ≤ (k : Int) := by omega
        have k1 : (k : Int) < (n : Int) := by omega
        have hen := hid (show [oc nx, 1, oc n] ++ entO f (k + 1) = [oc nx, 1, oc n] ++ entO f k ++ [oc (f k).k, oc (f k).i] by simp [entO])
        generalize hX : [oc nx, 1, oc n] ++ entO f k = X at *
        replace hst := hid hst
        generalize hek : (f k).k = ek at *
        generalize hei : (f k).i = ei at *
        generalize hcc : cntW f k = cc at *
        replace hX := hid hX
        replace hek := hid hek
        replace hei := hid hei
        replace hcc := hid hcc
        replace OW := hid OW
        replace D := hid D
        replace hz := hid hz
        clear R R0
        have h5 : Below wr.heap.size wr wr := Below.refl _ _
        have hbP : Below wr.heap.size wr (wr.alloc (.cells #[.int .u8 (ek % 256), .int .u8 (ei % 256)] 5)) := (Below.refl _ _).alloc (Nat.le_refl _) _
        have PN := pair_new wr (oc ek) (oc ei) 5
        rw [oc_int, oc_int] at PN
        have OW5 := (ownc_more OW.out h5).alloc (.cells #[.int .u8 (ek % 256), .int .u8 (ei % 256)] 5)
        have hz5 : w2.heap.size ≤ (wr.alloc (.cells #[.int .u8 (ek % 256), .int .u8 (ei % 256)] 5)).heap.size := by have q1 := hz.out; have q2 := h5.size; rw [World.size_alloc]; omega
        obtain ⟨v9, w9, hr9, R9, gr9, _⟩ := append_octs w2.heap.size 22 (wr.alloc (.cells #[.int .u8 (ek % 256), .int .u8 (ei % 256)] 5)).drew _ (3 + 2 * k) _ OW5.drew (some ⟨wr.heap.size, 0, none⟩) 2 [oc ek, oc ei] (octs_drew PN) (by simp; omega) hz5
        rw [← Lib.byteCells_append, ← hen.out] at R9
        have e5 : 3 + 2 * k + [oc ek, oc ei].length = 3 + 2 * (k + 1) := by simp; omega
        rw [e5] at R9
        obtain ⟨va9, vc9, rfl⟩ := own_shape R9
        have hbW : Below w.heap.size w (wr.alloc (.cells #[.int .u8 (ek % 256), .int .u8 (ei % 256)] 5)).drew := ((below2 D.out h5 D.out.size).alloc (by have q1 := D.out.size; have q2 := h5.size; omega) _).drew
        have S9 := Sole.grown (S := fun i => (Value.slice va (3 + 2 * k) vc).ownBlock = some i) gr9 fun i hi => hi
        have own_ge := fun i (hi : (Value.slice va (3 + 2 * k) vc).ownBlock = some i) => (OW5.lt i hi).1
        have hy := hy2.out
        have D9 := hbW.trans (S9.below (B := w.heap.size) hbW.size fun i hi => by have := own_ge i hi; omega)
        have BX9 := hid (((HX.out.more h5).alloc (.cells #[.int .u8 (ek % 256), .int .u8 (ei % 256)] 5)).drew.sole S9 (fun hi => by have := own_ge _ hi; omega))
        have BY9 := hid (((HY.out.more h5).alloc (.cells #[.int .u8 (ek % 256), .int .u8 (ei % 256)] 5)).drew.sole S9 (fun hi => by have := own_ge _ hi; omega))
        have hz9 := hid (Nat.le_trans hz5 S9.size)
        have RR := HR0.out.more D9
        have y0 := RR.at0 hlt (v := .int .i64 ek) (by show (ecells (f k))[0]? = _; rw [← hek.out]; rfl)
        simp only [List.length_cons, List.length_nil, Nat.zero_add, Nat.reduceAdd] at hr9
        replace R9 := hid R9
        replace D9 := hid D9
        have y1 := RR.at1 hlt (v := .int .i64 ei) (by show (ecells (f k))[1]? = _; rw [← hei.out]; rfl)
        have x9 : w9.cell? ⟨w.heap.size, 2, none⟩ = some (.slice (some ⟨b, o, none⟩) n cap) := BX9.out.cell 2
        clear h5 hbP PN OW5 hz5 gr9 e5 hbW S9 own_ge hy RR
        go_wp2_with fail
        go_region_held3 (fun w' => w'.cell? ⟨w.heap.size, 2, none⟩ = some (.slice (some ⟨b, o, none⟩) n cap) ∧ w'.cell? ⟨b, o + k * 2, none⟩ = some (.int .i64 ek) ∧ w'.cell? ⟨b, o + k * 2 + 1, none⟩ = some (.int .i64 ei))
          (first | exact ⟨x9, y0, y1⟩ | go_keep)
          (refine step_append_eq (by rfl) _ _ _ _ (by rfl) _ _ (by rfl) (by rfl) _ _ hr9 ?_)
        clear lx kx fx x2 z0 z1 x9 y1
        obtain ⟨lx, kx, fx⟩ := BX9.out
        by_cases hk1 : ek = 1
        · have hst2 := hid (show cntW f (k + 1) = cc + 1 by rw [hst.out, if_pos hk1])
          rw [hk1] at y0
          replace hk1 := hid hk1
          have uc : IntKind.i64.wrap ((cc : Int) + 1) = (cc : Int) + 1 := IntWalk.i64_in _ (by omega)
          go_wp2_with fail
          go_roundw
          case rel => exact ⟨k + 1, va9, vc9, by omega, by go_num, by rw [hst2.out]; go_num, rfl, R9.out, D9.out, hz9.out, BX9.out, BY9.out⟩
          case measure => simp [intOf]; omega
        · have hst2 := hid (show cntW f (k + 1) = cc by rw [hst.out, if_neg hk1]; rfl)
          have hk1' : (ek == 1) = false := by simpa using hk1
          clear hk1
          go_wp2_with fail
          go_roundw
          case rel => exact ⟨k + 1, va9, vc9, by omega, by go_num, by rw [hst2.out], rfl, R9.out, D9.out, hz9.out, BX9.out, BY9.out⟩
          case measure => simp [intOf]; omega
      · obtain rfl : k = n := by omega
        have hbl : ([oc nx, 1, oc k] ++ entO f k).length = 3 + 2 * k := by rw [List.length_append, entO_length]; rfl
        have OB := hid (Octs.of_own (l := [oc nx, 1, oc k] ++ entO f k) (a := va) (cap := vc) (by rw [hbl]; exact OW))
        have hsm : C = 0 → smL nx true k f = [oc nx, 1, oc k] ++ entO f k := fun h => by
          obtain ⟨q1, q2, q3, q4⟩ := hzz.out h
          have e1 := hL.out
          rw [if_pos h] at e1
          rw [e1]
          unfold smB sheadB
          rw [entO_eq f k q4, oc_one nx q1 (by omega), oc_one (lastN true) (by decide) (by decide), oc_one (k : Int) (by omega) (by omega)]
          rfl
        have hsn : ¬ C = 0 → smL nx true k f = [] := fun h => by
          have e1 := hL.out
          rw [if_neg h] at e1
          exact e1
        generalize [oc nx, 1, oc k] ++ entO f k = BL at *
        generalize smL nx true k f = SL at *
        replace hsm := hid hsm
        replace hsn := hid hsn
        replace hbl := hid hbl
        replace D := hid D
        replace hz := hid hz
        clear OW
        go_wp2_with fail
        refine (KP.out _ D.out).mono ?_
        rintro e w6 ⟨v, rfl, xa, xc, rfl, OX, hb6⟩
        have X6 := hid (Octs.of_own OX)
        have OB6 := hid (OB.out.more hb6)
        have D6 := hid (below2 D.out hb6 D.out.size)
        have HX6 := hid (HX.out.more hb6)
        have HY6 := hid (HY.out.more hb6)
        clear OX hb6 OB D HX HY KP lx kx fx hz
        have q0 := fun u : Later w6 => u.blk HX6.out
        have q1 := fun u : Later w6 => u.blk HY6.out
        have BU := hid (fun u : Later w6 => (D6.out.trans (u.h.mono (by have := D6.out.size; omega)) : Below w.heap.size w u.val))
        have c1 : (C != C) = false := by simp
        have c2 : ((cntW f k : Int) != (cntW f k : Int)) = false := by simp
        go_wp2_with fail
        refine wp_region_late 23 (by kernel_rfl) (by kernel_rfl) ?_
        simp only [List.take_succ_cons, List.take_zero, List.drop_succ_cons, List.drop_zero]
        repeat (go_big_quiet_step ((first | (go_at_call 58; (with_reducible exact late_call (KC.out _ (BU.out _)))) | (go_at_call 59; (with_reducible exact late_call (KW.out _ (BU.out _)))) | (go_at_call 60; (with_reducible exact late_call (KS.out _ (BU.out _)))) | (go_at_call 61; (with_reducible exact late_call (KL.out _ (BU.out _)))))))
        refine wpQuiet_nil ?_
        intro w7 h7'
        have h7 := late_out h7'
        have k1 := conv_octs (X6.out.more h7) xc
        have k2 := conv_octs (OB6.out.more h7) vc
        rw [hbl.out] at k2
        have D7 := hid (below2 D6.out h7 D6.out.size)
        clear h7' h7 q0 q1
        by_cases hC : C = 0
        · obtain rfl := hsm.out hC
          subst hC
          go_wp2_with fail
          go_ret
          exact ⟨by simp, D7.out⟩
        · obtain rfl := hsn.out hC
          have hC1 : (C != 0) = true := by simpa using hC
          clear hC
          go_wp2_with fail
          go_ret
          exact ⟨rfl, D7.out⟩
  | false =>
    go_wp2_with fail
    have hbA : Below w2.heap.size w2 (w2.alloc (.cells #[.int .u8 (nx % 256), .int .u8 0, .int .u8 ((n : Int) % 256)] 5)) := (Below.refl _ _).alloc (Nat.le_refl _) _
    have OW := (three_new w2 (oc nx) 0 (oc n) 5).2
    rw [oc_int, oc_int, show (((0 : UInt8).toNat : Nat) : Int) = 0 from rfl] at OW
    have HX3 := hid (HX2.out.more hbA)
    have HY3 := hid (HY2.out.more hbA)
    have D3 := hid (below2 D2.out hbA D2.out.size)
    have hz2 := hid D2.out.size
    have hy2 := hid HY2.out.lt
    replace OW := hid OW
    clear lx kx fx hbA HX2 HY2 D2
    go_loopw [7, 8, 9] (fun v c i wx => ∃ (k : Nat) (va : Option Addr) (vc : Nat), k ≤ n ∧ i = .int .i64 (k : Int) ∧ c = .int .i64 (cntW f k : Int) ∧ v = .slice va (3 + 2 * k) vc ∧ wx.ownsRow w2.heap.size 5 1 (.slice va (3 + 2 * k) vc) (3 + 2 * k) (Lib.byteCells ([oc nx, 0, oc n] ++ entO f k)) ∧ Below w.heap.size w wx ∧ w2.heap.size ≤ wx.heap.size ∧ Blk wx w.heap.size (smcells nx false p n cap) ∧ Blk wx (w.heap.size + 1) (smcells nx' la' p' n' cap')) (fun _ _ i _ => n - (intOf i).toNat)
    case atStart => exact ⟨0, some ⟨w2.heap.size, 0, none⟩, 3, by omega, rfl, rfl, rfl, by simpa [entO] using OW.out, D3.out, by simp, HX3.out, HY3.out⟩
    case round =>
      clear OW HX3 HY3 D3
      obtain ⟨k, va, vc, hk, rfl, rfl, rfl, OW, D, hz, BX, BY⟩ := hrel
      have HX := hid BX
      have HY := hid BY
      obtain ⟨lx, kx, fx⟩ := BX
      by_cases hlt : k < n
      · obtain ⟨b, o, rfl, R0⟩ := hR0.out.row (by omega)
        have HR0 := hid R0
        have R := R0.more D
        have z0 := R.at0 hlt (v := .int .i64 (f k).k) rfl
        have z1 := R.at1 hlt (v := .int .i64 (f k).i) rfl
        have hle := cntW_le f k
        have hst : cntW f (k + 1) = cntW f k + if (f k).k = 1 then 1 else 0 := rfl
        have x2 : wr.cell? ⟨w.heap.size, 2, none⟩ = some (.slice (some ⟨b, o, none⟩) n cap) := kx 2
        have k0 : (0 : Int) ≤ (k : Int) := by omega
        have k1 : (k : Int) < (n : Int) := by omega
        have hen := hid (show [oc nx, 0, oc n] ++ entO f (k + 1) = [oc nx, 0, oc n] ++ entO f k ++ [oc (f k).k, oc (f k).i] by simp [entO])
        generalize hX : [oc nx, 0, oc n] ++ entO f k = X at *
        replace hst := hid hst
        generalize hek : (f k).k = ek at *
        generalize hei : (f k).i = ei at *
        generalize hcc : cntW f k = cc at *
        replace hX := hid hX
        replace hek := hid hek
        replace hei := hid hei
        replace hcc := hid hcc
        replace OW := hid OW
        replace D := hid D
        replace hz := hid hz
        clear R R0
        have h5 : Below wr.heap.size wr wr := Below.refl _ _
        have hbP : Below wr.heap.size wr (wr.alloc (.cells #[.int .u8 (ek % 256), .int .u8 (ei % 256)] 5)) := (Below.refl _ _).alloc (Nat.le_refl _) _
        have PN := pair_new wr (oc ek) (oc ei) 5
        rw [oc_int, oc_int] at PN
        have OW5 := (ownc_more OW.out h5).alloc (.cells #[.int .u8 (ek % 256), .int .u8 (ei % 256)] 5)
        have hz5 : w2.heap.size ≤ (wr.alloc (.cells #[.int .u8 (ek % 256), .int .u8 (ei % 256)] 5)).heap.size := by have q1 := hz.out; have q2 := h5.size; rw [World.size_alloc]; omega
        obtain ⟨v9, w9, hr9, R9, gr9, _⟩ := append_octs w2.heap.size 22 (wr.alloc (.cells #[.int .u8 (ek % 256), .int .u8 (ei % 256)] 5)).drew _ (3 + 2 * k) _ OW5.drew (some ⟨wr.heap.size, 0, none⟩) 2 [oc ek, oc ei] (octs_drew PN) (by simp; omega) hz5
        rw [← Lib.byteCells_append, ← hen.out] at R9
        have e5 : 3 + 2 * k + [oc ek, oc ei].length = 3 + 2 * (k + 1) := by simp; omega
        rw [e5] at R9
        obtain ⟨va9, vc9, rfl⟩ := own_shape R9
        have hbW : Below w.heap.size w (wr.alloc (.cells #[.int .u8 (ek % 256), .int .u8 (ei % 256)] 5)).drew := ((below2 D.out h5 D.out.size).alloc (by have q1 := D.out.size; have q2 := h5.size; omega) _).drew
        have S9 := Sole.grown (S := fun i => (Value.slice va (3 + 2 * k) vc).ownBlock = some i) gr9 fun i hi => hi
        have own_ge := fun i (hi : (Value.slice va (3 + 2 * k) vc).ownBlock = some i) => (OW5.lt i hi).1
        have hy := hy2.out
        have D9 := hbW.trans (S9.below (B := w.heap.size) hbW.size fun i hi => by have := own_ge i hi; omega)
        have BX9 := hid (((HX.out.more h5).alloc (.cells #[.int .u8 (ek % 256), .int .u8 (ei % 256)] 5)).drew.sole S9 (fun hi => by have := own_ge _ hi; omega))
        have BY9 := hid (((HY.out.more h5).alloc (.cells #[.int .u8 (ek % 256), .int .u8 (ei % 256)] 5)).drew.sole S9 (fun hi => by have := own_ge _ hi; omega))
        have hz9 := hid (Nat.le_trans hz5 S9.size)
        have RR := HR0.out.more D9
        have y0 := RR.at0 hlt (v := .int .i64 ek) (by show (ecells (f k))[0]? = _; rw [← hek.out]; rfl)
        simp only [List.length_cons, List.length_nil, Nat.zero_add, Nat.reduceAdd] at hr9
        replace R9 := hid R9
        replace D9 := hid D9
        have y1 := RR.at1 hlt (v := .int .i64 ei) (by show (ecells (f k))[1]? = _; rw [← hei.out]; rfl)
        have x9 : w9.cell? ⟨w.heap.size, 2, none⟩ = some (.slice (some ⟨b, o, none⟩) n cap) := BX9.out.cell 2
        clear h5 hbP PN OW5 hz5 gr9 e5 hbW S9 own_ge hy RR
        go_wp2_with fail
        go_region_held3 (fun w' => w'.cell? ⟨w.heap.size, 2, none⟩ = some (.slice (some ⟨b, o, none⟩) n cap) ∧ w'.cell? ⟨b, o + k * 2, none⟩ = some (.int .i64 ek) ∧ w'.cell? ⟨b, o + k * 2 + 1, none⟩ = some (.int .i64 ei))
          (first | exact ⟨x9, y0, y1⟩ | go_keep)
          (refine step_append_eq (by rfl) _ _ _ _ (by rfl) _ _ (by rfl) (by rfl) _ _ hr9 ?_)
        clear lx kx fx x2 z0 z1 x9 y1
        obtain ⟨lx, kx, fx⟩ := BX9.out
        by_cases hk1 : ek = 1
        · have hst2 := hid (show cntW f (k + 1) = cc + 1 by rw [hst.out, if_pos hk1])
          rw [hk1] at y0
          replace hk1 := hid hk1
          have uc : IntKind.i64.wrap ((cc : Int) + 1) = (cc : Int) + 1 := IntWalk.i64_in _ (by omega)
          go_wp2_with fail
          go_roundw
          case rel => exact ⟨k + 1, va9, vc9, by omega, by go_num, by rw [hst2.out]; go_num, rfl, R9.out, D9.out, hz9.out, BX9.out, BY9.out⟩
          case measure => simp [intOf]; omega
        · have hst2 := hid (show cntW f (k + 1) = cc by rw [hst.out, if_neg hk1]; rfl)
          have hk1' : (ek == 1) = false := by simpa using hk1
          clear hk1
          go_wp2_with fail
          go_roundw
          case rel => exact ⟨k + 1, va9, vc9, by omega, by go_num, by rw [hst2.out], rfl, R9.out, D9.out, hz9.out, BX9.out, BY9.out⟩
          case measure => simp [intOf]; omega
      · obtain rfl : k = n := by omega
        have hbl : ([oc nx, 0, oc k] ++ entO f k).length = 3 + 2 * k := by rw [List.length_append, entO_length]; rfl
        have OB := hid (Octs.of_own (l := [oc nx, 0, oc k] ++ entO f k) (a := va) (cap := vc) (by rw [hbl]; exact OW))
        have hsm : C = 0 → smL nx false k f = [oc nx, 0, oc k] ++ entO f k := fun h => by
          obtain ⟨q1, q2, q3, q4⟩ := hzz.out h
          have e1 := hL.out
          rw [if_pos h] at e1
          rw [e1]
          unfold smB sheadB
          rw [entO_eq f k q4, oc_one nx q1 (by omega), oc_one (lastN false) (by decide) (by decide), oc_one (k : Int) (by omega) (by omega)]
          rfl
        have hsn : ¬ C = 0 → smL nx false k f = [] := fun h => by
          have e1 := hL.out
          rw [if_neg h] at e1
          exact e1
        generalize [oc nx, 0, oc k] ++ entO f k = BL at *
        generalize smL nx false k f = SL at *
        replace hsm := hid hsm
        replace hsn := hid hsn
        replace hbl := hid hbl
        replace D := hid D
        replace hz := hid hz
        clear OW
        go_wp2_with fail
        refine (KP.out _ D.out).mono ?_
        rintro e w6 ⟨v, rfl, xa, xc, rfl, OX, hb6⟩
        have X6 := hid (Octs.of_own OX)
        have OB6 := hid (OB.out.more hb6)
        have D6 := hid (below2 D.out hb6 D.out.size)
        have HX6 := hid (HX.out.more hb6)
        have HY6 := hid (HY.out.more hb6)
        clear OX hb6 OB D HX HY KP lx kx fx hz
        have q0 := fun u : Later w6 => u.blk HX6.out
        have q1 := fun u : Later w6 => u.blk HY6.out
        have BU := hid (fun u : Later w6 => (D6.out.trans (u.h.mono (by have := D6.out.size; omega)) : Below w.heap.size w u.val))
        have c1 : (C != C) = false := by simp
        have c2 : ((cntW f k : Int) != (cntW f k : Int)) = false := by simp
        go_wp2_with fail
        refine wp_region_late 23 (by kernel_rfl) (by kernel_rfl) ?_
        simp only [List.take_succ_cons, List.take_zero, List.drop_succ_cons, List.drop_zero]
        repeat (go_big_quiet_step ((first | (go_at_call 58; (with_reducible exact late_call (KC.out _ (BU.out _)))) | (go_at_call 59; (with_reducible exact late_call (KW.out _ (BU.out _)))) | (go_at_call 60; (with_reducible exact late_call (KS.out _ (BU.out _)))) | (go_at_call 61; (with_reducible exact late_call (KL.out _ (BU.out _)))))))
        refine wpQuiet_nil ?_
        intro w7 h7'
        have h7 := late_out h7'
        have k1 := conv_octs (X6.out.more h7) xc
        have k2 := conv_octs (OB6.out.more h7) vc
        rw [hbl.out] at k2
        have D7 := hid (below2 D6.out h7 D6.out.size)
        clear h7' h7 q0 q1
        by_cases hC : C = 0
        · obtain rfl := hsm.out hC
          subst hC
          go_wp2_with fail
          go_ret
          exact ⟨by simp, D7.out⟩
        · obtain rfl := hsn.out hC
          have hC1 : (C != 0) = true := by simpa using hC
          clear hC
          go_wp2_with fail
          go_ret
          exact ⟨rfl, D7.out⟩
end Go.Proofs.Ytgnnikjpnmalmaa
