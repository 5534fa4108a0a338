/-
  track.Thin; poly.On of any points; one step of track.Straight.
-/
import Derived.Test.YtahdhgaoofpefaaTrackThin
import Derived.Deep.RegionHeld3
namespace Go.Proofs.Ytahdhgaoofpefaa
open Go.RowKit
set_option linter.unusedVariables false
set_option linter.unusedSimpArgs false

/-- On one of the sides that these points make. -/
def onAny (f : Nat → Pt) (n : Nat) (q : P2) : Bool := anyAt n fun i => onB (p2 (f i)) (p2 (f ((i + 1) % n))) q

set_option maxRecDepth 100000 in
theorem polyOn_any (p : Option Addr) (n cap : Nat) (f : Nat → Pt) (hf : ∀ i, (f i).ok) (h1 : n ≤ cap) (h2 : cap ≤ maxLen) (q : P2) (hq : q.ok) (w : World) (HA : RowP w p 4 n (fun i => pcells (f i))) :
    Calls Try.prog 30 #[.slice p n cap, .int .u32 q.x, .int .u32 q.y] w fun e w' => e = .returned (.bool (onAny f n q)) ∧ Below w.heap.size w w' := by
  obtain ⟨B0, B1, H⟩ := @boxed2 w _ #[.int .u32 q.x] #[.int .u32 q.y] 61 61 (Below.refl _ _)
  have KK := hid (callsIn_wide.1 (anySide_in 4 (Nat.le_refl _) n cap p f h1 h2 w.heap.size (w.heap.size + 1) (fun i => onB (p2 (f i)) (p2 (f ((i + 1) % n))) q) _ (HA.more H)
    (fun i W hb => on1_any _ _ q (p2_ok (hf _)) (p2_ok (hf _)) hq _ _ W ((hb.cell (p := ⟨w.heap.size, 0, none⟩) B0.lt).trans (B0.cell 0)) ((hb.cell (p := ⟨w.heap.size + 1, 0, none⟩) B1.lt).trans (B1.cell 0)))))
  have hbh := hid H
  unfold onAny
  generalize anyAt n (fun i => onB (p2 (f i)) (p2 (f ((i + 1) % n))) q) = r at *
  clear HA h1 h2 hf hq B0 B1 H
  obtain ⟨qx, qy⟩ := q
  simp only at *
  go_enter Try.func30, Try.ntmps30
  go_wp2_with fail
  refine KK.out.mono ?_
  rintro e w3 ⟨rfl, hb⟩
  have hbb := hid (below2 hbh.out hb hbh.out.size)
  clear hb KK
  go_wp2_with fail
  go_ret
  exact ⟨rfl, hbb.out⟩

theorem flatP_drop (K : List Pt) (m : Nat) (hL : K.length = m + 1) : flatP K.dropLast = (flatP K).take (m * 4) := by
  have hne : K ≠ [] := by intro h; rw [h] at hL; cases hL
  have e : K = K.dropLast ++ [K.getLast hne] := (List.dropLast_concat_getLast hne).symm
  have hl : (flatP K.dropLast).length = m * 4 := by rw [flatP_length, List.length_dropLast, hL]; rfl
  conv => rhs; rw [e, flatP_append]
  rw [List.take_append_of_le_length (by omega), List.take_of_length_le (by omega)]

/-- All but the last, in the same row. -/
theorem own_drop {w : World} {base : Nat} {p : Option Addr} {cap m : Nat} {K : List Pt} (hL : K.length = m + 1) (h : PtsOwn w base (.slice p (m + 1) cap) K) : PtsOwn w base (.slice p m cap) K.dropLast := by
  unfold PtsOwn at *
  obtain ⟨hx, h2⟩ := h
  rw [hL] at hx h2
  rcases h2 with ⟨e, h0⟩ | ⟨g, cap', cur, e, hb, hg, h3, h4, h5, h6⟩
  · omega
  · cases e
    have hl : K.dropLast.length = m := by rw [List.length_dropLast, hL]; rfl
    rw [hl]
    refine ⟨by rw [flatP_length, hl], .inr ⟨g, cap, cur, rfl, hb, hg, by omega, h4, h5, ?_⟩⟩
    rw [flatP_drop K m hL, ← h6, List.take_take]
    congr 1
    omega

/-- The step, by cases. -/
theorem str_cases (K : List Pt) (P : Pt) (m : Nat) (hL : K.length = m + 1) :
    (samB (lastP K) P = true ∧ strStep K P = K) ∨ (samB (lastP K) P = false ∧ m = 0 ∧ strStep K P = K ++ [P]) ∨
    (samB (lastP K) P = false ∧ 1 ≤ m ∧ ∃ r, onB2 (p2 (lastP2 K)) (p2 P) (p2 (lastP K)) = r ∧ strStep K P = if r then K.dropLast ++ [P] else K ++ [P]) := by
  unfold strStep
  rw [hL]
  cases samB (lastP K) P with
  | true => exact .inl ⟨rfl, by simp⟩
  | false =>
    by_cases h : m = 0
    · exact .inr (.inl ⟨rfl, h, by simp [h]⟩)
    · have h1 : 1 < m + 1 := by omega
      refine .inr (.inr ⟨rfl, by omega, _, rfl, ?_⟩)
      rw [decide_eq_true h1]
      simp

theorem row_two (w : World) (A B : Pt) : RowP (w.alloc (.cells #[.int .i64 A.id, .int .u32 A.x, .int .u32 A.y, .string A.d, .int .i64 B.id, .int .u32 B.x, .int .u32 B.y, .string B.d] 63)) (some ⟨w.heap.size, 0, none⟩) 4 2 (fun i => pcells (if i = 0 then A else B)) := by
  have h := Blk.new w #[.int .i64 A.id, .int .u32 A.x, .int .u32 A.y, .string A.d, .int .i64 B.id, .int .u32 B.x, .int .u32 B.y, .string B.d] 63
  refine .inr ⟨_, _, rfl, h.lt, fun i hi j v hv => ?_⟩
  have hij : (#[.int .i64 A.id, .int .u32 A.x, .int .u32 A.y, .string A.d, .int .i64 B.id, .int .u32 B.x, .int .u32 B.y, .string B.d] : Array Value)[i * 4 + j]? = some v := by
    have hj : j < 4 := by
      have := (List.getElem?_eq_some_iff.1 hv).1
      simpa [pcells] using this
    have h01 : i = 0 ∨ i = 1 := by omega
    have h0123 : j = 0 ∨ j = 1 ∨ j = 2 ∨ j = 3 := by omega
    rcases h01 with rfl | rfl <;> rcases h0123 with rfl | rfl | rfl | rfl <;> simpa [pcells] using hv
  have := (h.cell (i * 4 + j)).trans hij
  rw [Nat.zero_add]
  exact this
theorem onAny_two (A B : Pt) (q : P2) : onAny (fun i => if i = 0 then A else B) 2 q = onB2 (p2 A) (p2 B) q := by
  simp [onAny, anyAt, onB2, List.range, List.range.loop]

end Go.Proofs.Ytahdhgaoofpefaa
