/-
  Layer 4: a cell is its four quarters. The walk of CellQuarters.
-/
import Derived.Test.YtohdhbamdeenlaaCellQ
import Derived.Test.YtohdhbamdeenlaaRegionAlloc
import Derived.LoopTactic
import Derived.Deep.DeepCutAuto
namespace Go.Proofs.Ytohdhbamdeenlaa
open Go.RowKit
set_option linter.unusedVariables false
set_option linter.unusedSimpArgs false

theorem rc_makes (dst : Option Tmp) (ty : TypeId) (pos : String) (af : Array Edge) : Makes Try.prog { dst := dst, op := .alloc 70, type := ty, pos := pos, after := af, guard := none } #[.int .u32 0, .int .u32 0, .int .u32 0, .int .u32 0] :=
  ⟨rfl, _, rfl, fun w => by kernel_rfl⟩

/-- What the walk asks of a cell that has quarters, and of its quarter q. -/
structure Qs (X Y L x y q : Int) (A B : Int → Int) (hb : Int → Bool) (hc : Bool) (qv X1 Y1 A1 B1 : Int) : Prop where
  kid : ∀ q (w : World), Calls Try.prog 37 #[cl X Y L, .int .i64 q] w fun e w' => e = .returned (cl (A q) (B q) (L + 1)) ∧ Below w.heap.size w w'
  has : ∀ q (w : World), Calls Try.prog 39 #[cl (A q) (B q) (L + 1), .int .u32 x, .int .u32 y] w fun e w' => e = .returned (.bool (hb q)) ∧ Below w.heap.size w w'
  hasc : ∀ (w : World), Calls Try.prog 39 #[cl X Y L, .int .u32 x, .int .u32 y] w fun e w' => e = .returned (.bool hc) ∧ Below w.heap.size w w'
  quarter : ∀ (w : World), Calls Try.prog 38 #[cl X Y L, .int .u32 x, .int .u32 y] w fun e w' => e = .returned (.int .i64 qv) ∧ Below w.heap.size w w'
  rectc : ∀ (w : World), Calls Try.prog 40 #[cl X Y L] w fun e w' => e = .returned (.agg #[.int .u32 X, .int .u32 Y, .int .u32 X1, .int .u32 Y1]) ∧ Below w.heap.size w w'
  rectk : ∀ (w : World), Calls Try.prog 40 #[cl (A q) (B q) (L + 1)] w fun e w' => e = .returned (.agg #[.int .u32 (A q), .int .u32 (B q), .int .u32 A1, .int .u32 B1]) ∧ Below w.heap.size w w'
  and3 : bits .and .i64 q 3 = q % 4 ∧ A (q % 4) = A q ∧ B (q % 4) = B q
  le : X ≤ A q ∧ Y ≤ B q ∧ A1 ≤ X1 ∧ B1 ≤ Y1
  ways : (hc = false ∧ cnt hb 4 = 0) ∨ (hc = true ∧ cnt hb 4 = 1 ∧ hb qv = true)

theorem qs_of (cx cy l x y q : Int) (gx : 0 ≤ cx) (gx' : cx ≤ 4294967295) (gy : 0 ≤ cy) (gy' : cy ≤ 4294967295) (hx : 0 ≤ x) (hx' : x ≤ 4294967295) (hy : 0 ≤ y) (hy' : y ≤ 4294967295) (hL : lvl l < 32) :
    ∃ A B hb hc qv X1 Y1 A1 B1, Qs (floorI cx (lvl l)) (floorI cy (lvl l)) (lvl l) x y q A B hb hc qv X1 Y1 A1 B1 := by
  have bl := lvl_bd l
  have fX := floor_bd gx gx' bl.1 bl.2
  have fY := floor_bd gy gy' bl.1 bl.2
  have sX := floor_self (x := cx) bl.1 bl.2
  have sY := floor_self (x := cy) bl.1 bl.2
  have iL := lvl_idem l
  have iL1 : lvl (lvl l + 1) = lvl l + 1 := by unfold lvl at *; omega
  have QW := quarters (cx := cx) (cy := cy) (x := x) (y := y) bl.1 hL
  have pn := pw_next bl.1 hL
  have p1 := pw_bd (L := lvl l + 1) (by omega) (by omega)
  have hXq := fun c (c0 : 0 ≤ c) (c1 : c ≤ 1) => floor_half (cx := cx) bl.1 hL c0 c1
  have hYq := fun c (c0 : 0 ≤ c) (c1 : c ≤ 1) => floor_half (cx := cy) bl.1 hL c0 c1
  have tX := floor_top gx' bl.1 bl.2
  have tY := floor_top gy' bl.1 bl.2
  have hqv : qI (lvl l) x y = x / pw (lvl l + 1) % 2 + 2 * (y / pw (lvl l + 1) % 2) := if_pos hL
  have e0 : ∀ X b : Int, kidX X (lvl l) b = X + b * pw (lvl l + 1) := fun X b => if_pos hL
  have e1 : kidL (lvl l) = lvl l + 1 := if_pos hL
  have Kk := fun q w => kid_any (floorI cx (lvl l)) (floorI cy (lvl l)) (lvl l) q (by omega) (by omega) (by omega) (by omega) w
  have Kh := fun X Y (a : 0 ≤ X) (b : X ≤ 4294967295) (c : 0 ≤ Y) (d : Y ≤ 4294967295) w => has_any X Y (lvl l + 1) x y hx hx' hy hy' a b c d w
  have Kr := fun X Y (a : 0 ≤ X) (b : X ≤ 4294967295) (c : 0 ≤ Y) (d : Y ≤ 4294967295) w => rectc_any X Y (lvl l + 1) a b c d w
  have Khc := fun w => has_any (floorI cx (lvl l)) (floorI cy (lvl l)) (lvl l) x y hx hx' hy hy' (by omega) (by omega) (by omega) (by omega) w
  have Kq := fun w => quarter_any (floorI cx (lvl l)) (floorI cy (lvl l)) (lvl l) x y hx hx' hy hy' (by omega) (by omega) (by omega) (by omega) w
  have Krc := fun w => rectc_any (floorI cx (lvl l)) (floorI cy (lvl l)) (lvl l) (by omega) (by omega) (by omega) (by omega) w
  unfold kid at Kk
  rw [iL, sX, sY] at Krc
  rw [iL, sX, sY] at Kk
  simp only [e0, e1] at Kk
  rw [iL, hqv] at Kq
  rw [iL1] at Kr
  generalize floorI cx (lvl l) = X at *
  generalize floorI cy (lvl l) = Y at *
  have cq : ∀ q : Int, (q % 2 = 0 ∨ q % 2 = 1) ∧ (q / 2 % 2 = 0 ∨ q / 2 % 2 = 1) := fun q => by omega
  have bd : ∀ q : Int, 0 ≤ kx X (lvl l) q ∧ kx X (lvl l) q + pw (lvl l + 1) ≤ X + pw (lvl l) ∧ X ≤ kx X (lvl l) q ∧ 0 ≤ ky Y (lvl l) q ∧ ky Y (lvl l) q + pw (lvl l + 1) ≤ Y + pw (lvl l) ∧ Y ≤ ky Y (lvl l) q := by
    intro q
    unfold kx ky
    rcases cq q with ⟨a | a, b | b⟩ <;> rw [a, b] <;> omega
  refine ⟨kx X (lvl l), ky Y (lvl l), fun q => hasB (kx X (lvl l) q) (ky Y (lvl l) q) (lvl l + 1) x y, hasB X Y (lvl l) x y, _, _, _, kx X (lvl l) q + (pw (lvl l + 1) - 1), ky Y (lvl l) q + (pw (lvl l + 1) - 1), Kk, fun q w => ?_, Khc, Kq, Krc, fun w => ?_, ⟨and3 q, ?_, ?_⟩, ?_, ?_⟩
  · have b := bd q
    exact Kh _ _ (by omega) (by omega) (by omega) (by omega) w
  · have b := bd q
    have := Kr (kx X (lvl l) q) (ky Y (lvl l) q) (by omega) (by omega) (by omega) (by omega) w
    have ea : floorI (kx X (lvl l) q) (lvl l + 1) = kx X (lvl l) q := (hXq (q % 2) (by omega) (by omega)).2
    have eb : floorI (ky Y (lvl l) q) (lvl l + 1) = ky Y (lvl l) q := (hYq (q / 2 % 2) (by omega) (by omega)).2
    rw [ea, eb] at this
    exact this
  · unfold kx; rw [show q % 4 % 2 = q % 2 by omega]
  · unfold ky; rw [show q % 4 / 2 % 2 = q / 2 % 2 by omega]
  · have b := bd q
    omega
  · rcases QW with ⟨h1, h2⟩ | ⟨h1, h2⟩
    · exact .inl ⟨h1, cnt_none h2 4⟩
    · refine .inr ⟨h1, cnt_one (a := x / pw (lvl l + 1)) (b := y / pw (lvl l + 1)) h2, ?_⟩
      show hasB _ _ _ _ _ = true
      rw [h2, show (x / pw (lvl l + 1) % 2 + 2 * (y / pw (lvl l + 1) % 2)) % 2 = x / pw (lvl l + 1) % 2 by omega, show (x / pw (lvl l + 1) % 2 + 2 * (y / pw (lvl l + 1) % 2)) / 2 % 2 = y / pw (lvl l + 1) % 2 by omega]
      simp
end Go.Proofs.Ytohdhbamdeenlaa
