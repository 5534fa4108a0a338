/-
  Package batch: Read, of octets.
-/
import Derived.Test.YtgnnikjpnmalmaaBatchPut
import Derived.Test.YtgnnikjpnmalmaaEnRow
import Derived.Test.YtgnnikjpnmalmaaCrcRef
import Derived.Deep.RegionHeld3
import Derived.Deep.RegionLaw
import Derived.Deep.AppendLies
namespace Go.Proofs.Ytgnnikjpnmalmaa
open Go.RowKit
set_option linter.unusedVariables false
set_option linter.unusedSimpArgs false

/-- The i-th entry that octets tell. -/
def rdE (l : List UInt8) (i : Nat) : En := ⟨byteAt l (3 + 2 * i), byteAt l (4 + 2 * i)⟩
def readG (l : List UInt8) : Bool := decide (3 ≤ l.length) && (decide (byteAt l 1 ≤ 1) && (decide (l.length = 3 + 2 * byteAt l 2) && (bCk (byteAt l 0) (byteAt l 2) (rdE l) == 0)))
def RdPost (l : List UInt8) (w : World) (e : Ending) (w' : World) : Prop :=
  (readG l = true ∧ ∃ q cap, e = .returned (.tuple #[smval (byteAt l 0) (((byteAt l 1 : Int)) == 1) q (byteAt l 2) cap, .int .i64 0]) ∧ byteAt l 2 ≤ cap ∧ cap ≤ maxLen ∧ RowP w' q 2 (byteAt l 2) (fun i => ecells (rdE l i)) ∧ Below w.heap.size w w') ∨
    (readG l = false ∧ e = .returned (.tuple #[smval 0 false none 0 0, .int .i64 16]) ∧ Below w.heap.size w w')
theorem one_of (l : List UInt8) (i : Nat) (h : i < l.length) : numOf ((l.drop i).take 1) = byteAt l i := by
  rw [List.drop_eq_getElem_cons h, byteAt_get l i h, List.take_succ_cons, List.take_zero]
  simp [numOf]
theorem newsE (w : World) (c : Array Value) (t : TypeId) : ∀ j u, c.toList[j]? = some u → (w.alloc (.cells c t)).cell? (Addr.add ⟨w.heap.size, 0, none⟩ j) = some u :=
  World.news_of_block (cs := c) (t := t) (fr := (0, 0)) (heap_alloc_new w _)
theorem rd_next (l : List UInt8) (L : List En) (k : Nat) (x1 x2 : Nat) (hL : L.length = k) (h : ∀ j, j < k → enAt L j = rdE l j) (h1 : (x1 : Int) = (rdE l k).k) (h2 : (x2 : Int) = (rdE l k).i) : ∀ j, j < k + 1 → enAt (L ++ [(⟨x1, x2⟩ : En)]) j = rdE l j := by
  intro j hj
  by_cases e : j = k
  · subst e
    unfold enAt
    rw [List.getElem?_append_right (by omega), hL, Nat.sub_self]
    show (⟨(x1 : Int), (x2 : Int)⟩ : En) = rdE l j
    rw [h1, h2]
  · rw [← h j (by omega)]
    unfold enAt
    rw [List.getElem?_append_left (by omega)]
theorem RowP.congr {w : World} {p : Option Addr} {sz n : Nat} {f g : Nat → List Value} (h : RowP w p sz n f) (e : ∀ i, i < n → f i = g i) : RowP w p sz n g :=
  h.imp id fun ⟨b, o, e', r⟩ => ⟨b, o, e', r.lt, fun i hi j v hv => r.cell i hi j v (by rw [e i hi]; exact hv)⟩
theorem RowP.apart {S : Nat → Prop} {w w' : World} {p : Option Addr} {sz n : Nat} {f : Nat → List Value} (h : RowP w p sz n f) (hs : Sole S w w') (hn : ∀ b o, p = some ⟨b, o, none⟩ → n ≠ 0 → ¬ S b) : RowP w' p sz n f := by
  by_cases h0 : n = 0
  · exact .inl h0
  · obtain ⟨b, o, e, r⟩ := h.resolve_left h0
    exact .inr ⟨b, o, e, Nat.lt_of_lt_of_le r.lt hs.size, fun i hi j v hv => (hs.cell r.lt (hn b o e h0)).trans (r.cell i hi j v hv)⟩
theorem allG_congr (f g : Nat → En) : ∀ n, (∀ j, j < n → f j = g j) → allG f n = allG g n
  | 0, _ => rfl
  | n + 1, h => by simp only [allG]; rw [allG_congr f g n fun j hj => h j (by omega), h n (by omega)]
theorem bCk_congr (nx : Int) (n : Nat) (f g : Nat → En) (h : ∀ j, j < n → f j = g j) : bCk nx n f = bCk nx n g := by
  unfold bCk; rw [allG_congr f g n h]
/-- Two octets more. -/
theorem rd_states (l rest : List UInt8) (bad : Bool) (k N : Nat) (hk : k < N) (h : (bad = false ∧ 3 + 2 * k ≤ l.length ∧ rest = l.drop (3 + 2 * k)) ∨ (bad = true ∧ l.length < 3 + 2 * N)) :
    ∃ (b1 b2 : Bool) (r1 r2 : List UInt8) (x1 x2 : Nat), (b1 = (bad || decide (rest.length < 1)) ∧ r1 = (if b1 then [] else rest.drop 1) ∧ x1 = numOf (if b1 then [] else rest.take 1)) ∧
      (b2 = (b1 || decide (r1.length < 1)) ∧ r2 = (if b2 then [] else r1.drop 1) ∧ x2 = numOf (if b2 then [] else r1.take 1)) ∧
      ((b2 = false ∧ 3 + 2 * (k + 1) ≤ l.length ∧ r2 = l.drop (3 + 2 * (k + 1)) ∧ (x1 : Int) = (rdE l k).k ∧ (x2 : Int) = (rdE l k).i) ∨ (b2 = true ∧ l.length < 3 + 2 * N)) := by
  refine ⟨_, _, _, _, _, _, ⟨rfl, rfl, rfl⟩, ⟨rfl, rfl, rfl⟩, ?_⟩
  rcases h with ⟨rfl, hl, rfl⟩ | ⟨rfl, hl⟩
  · have len : (l.drop (3 + 2 * k)).length = l.length - (3 + 2 * k) := List.length_drop
    by_cases h1 : l.length < 3 + 2 * k + 1
    · have : (l.drop (3 + 2 * k)).length < 1 := by omega
      right
      simp [this]
      omega
    · by_cases h2 : l.length < 3 + 2 * k + 2
      · have q1 : ¬ (l.drop (3 + 2 * k)).length < 1 := by omega
        right
        simp only [q1, decide_false, Bool.or_false, Bool.false_eq_true, if_false, Bool.false_or]
        rw [List.drop_drop]
        refine ⟨?_, by omega⟩
        rw [List.length_drop]
        simp; omega
      · have q1 : ¬ (l.drop (3 + 2 * k)).length < 1 := by omega
        have q2 : ¬ (l.drop (3 + 2 * k + 1)).length < 1 := by rw [List.length_drop]; omega
        left
        simp only [q1, decide_false, Bool.or_false, Bool.false_eq_true, if_false, Bool.false_or, List.drop_drop]
        simp only [q2, decide_false, Bool.false_eq_true, if_false]
        refine ⟨trivial, by omega, by rw [show 3 + 2 * k + 1 + 1 = 3 + 2 * (k + 1) by omega], ?_, ?_⟩
        · rw [one_of l _ (by omega)]; rfl
        · rw [one_of l _ (by omega)]
          show ((byteAt l (3 + 2 * k + 1) : Nat) : Int) = ((byteAt l (4 + 2 * k) : Nat) : Int)
          rw [show 3 + 2 * k + 1 = 4 + 2 * k by omega]
  · right
    simp
    exact hl
set_option maxRecDepth 100000 in
set_option maxHeartbeats 16000000 in
theorem bread_long (l : List UInt8) (a : Option Addr) (cap : Nat) (hl : l.length ≤ 140737488355328) (h3 : 3 ≤ l.length) (w : World) (O : Octs w a l) :
    Calls Try.prog 62 #[.slice a l.length cap] w (RdPost l w) := by
  obtain ⟨i0, hi, hz0, hz1, hz2⟩ := info_parts enTab
  obtain ⟨W0, hW0⟩ : ∃ W0, w.alloc (.cells #[.int .i64 0, .bool false, .slice none 0 0] 90) = W0 := ⟨_, rfl⟩
  have hb0 : Below w.heap.size w W0 := by rw [← hW0]; exact (Below.refl _ _).alloc (Nat.le_refl _) _
  have BX : Blk W0 w.heap.size #[.int .i64 0, .bool false, .slice none 0 0] := by rw [← hW0]; exact Blk.new w _ _
  have KO := hid (rs_open l a cap W0 (O.more hb0) hl)
  have EB : Hid (∀ w', readG l = false → Below w.heap.size w w' → RdPost l w (.returned (.tuple #[smval 0 false none 0 0, .int .i64 16])) w') := hid (fun w' hg hb => .inr ⟨hg, rfl, hb⟩)
  have n0 : numOf (l.take 1) = byteAt l 0 := one_of l 0 (by omega)
  have n1 : numOf ((l.drop 1).take 1) = byteAt l 1 := one_of l 1 (by omega)
  have n2 : numOf ((l.drop 2).take 1) = byteAt l 2 := one_of l 2 (by omega)
  have b0 := byteAt_lt l 0
  have b1 := byteAt_lt l 1
  have b2 := byteAt_lt l 2
  have hG : readG l = (decide (3 ≤ l.length) && (decide (byteAt l 1 ≤ 1) && (decide (l.length = 3 + 2 * byteAt l 2) && (bCk (byteAt l 0) (byteAt l 2) (rdE l) == 0)))) := rfl
  have EG : Hid (∀ q c w', readG l = true → byteAt l 2 ≤ c → c ≤ maxLen → RowP w' q 2 (byteAt l 2) (fun i => ecells (rdE l i)) → Below w.heap.size w w' → RdPost l w (.returned (.tuple #[smval (byteAt l 0) (((byteAt l 1 : Int)) == 1) q (byteAt l 2) c, .int .i64 0])) w') := hid (fun q c w' hg h1 h2 hr hb => .inl ⟨hg, q, c, rfl, h1, h2, hr, hb⟩)
  generalize byteAt l 0 = v0 at *
  generalize byteAt l 1 = v1 at *
  generalize byteAt l 2 = N at *
  have HBX := hid BX
  have D0 := hid hb0
  replace hG := hid hG
  clear BX O hb0
  go_enter Try.func62, Try.ntmps62
  go_wp2_with fail
  refine KO.out.mono ?_
  rintro e w1 ⟨q, rfl, hq, R1, hb1⟩
  have hs0 : W0.heap.size = w.heap.size + 1 := by rw [← hW0]; simp
  have hgq : w.heap.size < q := by omega
  have HB1 := HBX.out.more hb1
  have D1 := below2 D0.out hb1 D0.out.size
  have K := rs_nums 1 1 rfl q l w1 R1 (by omega)
  rw [n0] at K
  replace K := hid K
  replace R1 := hid R1
  replace HB1 := hid HB1
  replace D1 := hid D1
  clear hb1 KO hq hW0 HBX D0
  go_wp2_with fail
  refine K.out.mono ?_
  rintro e w2 ⟨rfl, R2, S2⟩
  have HB2 := HB1.out.sole S2 (fun h => by have h' : w.heap.size = q := h; omega)
  have D2 := D1.out.trans (S2.below (B := w.heap.size) D1.out.size fun j hj => by omega)
  have hbA : Below w2.heap.size w2 (w2.alloc (.cells #[.int .i64 v0, .bool false, .slice none 0 0] 90)) := (Below.refl _ _).alloc (Nat.le_refl _) _
  have BS := Blk.new w2 #[.int .i64 v0, .bool false, .slice none 0 0] 90
  have R2' := R2.more hbA
  have hq2 : q < w2.heap.size := R2.1.lt
  have HB3 := hid (HB2.more hbA)
  have D3 := hid (D2.trans (hbA.mono D2.size))
  have hg2 : w.heap.size < w2.heap.size := HB2.lt
  have K2 := rs_nums 1 1 rfl q (l.drop 1) _ R2' (by rw [List.length_drop]; omega)
  rw [n1, List.drop_drop] at K2
  replace K2 := hid K2
  replace BS := hid BS
  obtain ⟨g5, hg5⟩ : ∃ g5, w2.heap.size = g5 := ⟨_, rfl⟩
  clear K R1 HB1 D1 S2 HB2 D2 R2 R2' hbA
  go_wp2_with fail
  refine K2.out.mono ?_
  rintro e w3 ⟨rfl, R3, S3⟩
  have HB4 := hid (HB3.out.sole S3 (fun h => by have h' : w.heap.size = q := h; omega))
  have D4 := hid (D3.out.trans (S3.below (B := w.heap.size) D3.out.size fun j hj => by omega))
  have BS4 := BS.out.sole S3 (fun h => by have h' : w2.heap.size = q := h; omega)
  rw [hg5] at BS4 hq2 hg2
  simp only [hg5]
  have HBS4 := hid BS4
  have S5 : Sole (fun j => j = g5) w3 (w3.setCell ⟨g5, 1, none⟩ (.bool ((v1 : Int) == 1))) := Sole.setCell _ _ rfl
  have R5 : RS (w3.setCell ⟨g5, 1, none⟩ (.bool ((v1 : Int) == 1))) q (l.drop 2) false := ⟨R3.1.kept S5 (fun j hj h => by have h' : j = g5 := h; omega), R3.2⟩
  have BS5 := hid (BS4.set 1 (.bool ((v1 : Int) == 1)) (by simp))
  have HB5 := hid (HB4.out.sole S5 (fun h => by have h' : w.heap.size = g5 := h; omega))
  have D5 := hid (D4.out.trans (S5.below (B := w.heap.size) D4.out.size fun j hj => by omega))
  have K3 := rs_nums 1 1 rfl q (l.drop 2) _ R5 (by rw [List.length_drop]; omega)
  rw [n2, List.drop_drop] at K3
  replace K3 := hid K3
  clear K2 HB3 D3 S3 HB4 D4 R3 S5 R5 BS
  obtain ⟨ls, ks, fs⟩ := BS4
  go_wp2_with fail
  refine K3.out.mono ?_
  rintro e w6 ⟨rfl, R6, S6⟩
  have HB6 := hid (HB5.out.sole S6 (fun h => by have h' : w.heap.size = q := h; omega))
  have D6 := hid (D5.out.trans (S6.below (B := w.heap.size) D5.out.size fun j hj => by omega))
  have BS6 := hid (BS5.out.sole S6 (fun h => by have h' : g5 = q := h; omega))
  clear K3 HB5 D5 S6 BS5 ls ks fs HBS4
  have B6 := hid (show Blk w6 g5 #[.int .i64 v0, .bool ((v1 : Int) == 1), .slice none 0 0] from BS6.out)
  have hg56 : g5 < w6.heap.size := B6.out.lt
  have hq6 : q < w6.heap.size := R6.1.lt
  replace R6 := hid R6
  clear BS6
  go_wp2_with fail
  go_loopw [19] (fun i wx => ∃ (k : Nat) (L : List En) (v : Value) (bad : Bool) (rest : List UInt8), k ≤ N ∧ i = .int .i64 (k : Int) ∧ L.length = k ∧ Blk wx g5 #[.int .i64 v0, .bool ((v1 : Int) == 1), v] ∧ EnsOwn wx w6.heap.size v L ∧ RS wx q rest bad ∧
      ((bad = false ∧ 3 + 2 * k ≤ l.length ∧ rest = l.drop (3 + 2 * k) ∧ ∀ j, j < k → enAt L j = rdE l j) ∨ (bad = true ∧ l.length < 3 + 2 * N)) ∧ Blk wx w.heap.size #[.int .i64 0, .bool false, .slice none 0 0] ∧ Below w.heap.size w wx ∧ w6.heap.size ≤ wx.heap.size) (fun i _ => N - (intOf i).toNat)
  case atStart => exact ⟨0, [], .slice none 0 0, false, _, by omega, rfl, rfl, B6.out, EnsOwn.nil _ _, R6.out, .inl ⟨rfl, by omega, rfl, fun j hj => by omega⟩, HB6.out, D6, Nat.le_refl _⟩
  case round =>
    clear R6 HB6 D6 B6
    obtain ⟨k, L, v, bad, rest, hk, rfl, hL, BE, OE, R, fin, BZ, D, hz⟩ := hrel
    by_cases hlt : k < N
    · obtain ⟨b1', b2', r1, r2, x1, x2, ⟨e1, e2, e3⟩, ⟨e4, e5, e6⟩, fin2⟩ := rd_states l rest bad k N hlt (fin.imp (fun h => ⟨h.1, h.2.1, h.2.2.1⟩) id)
      have K1 := fun w R => rs_num 1 1 rfl q rest bad b1' e1 w R
      have K2 := fun w R => rs_num 1 1 rfl q r1 b1' b2' e4 w R
      simp only [← e2, ← e3] at K1
      simp only [← e5, ← e6] at K2
      obtain ⟨pv, cv, rfl, c1, c2, _⟩ := OE.open
      unfold EnsOwn at OE
      rw [hL] at c1 OE BE
      have xe : wr.cell? ⟨g5, 2, none⟩ = some (.slice pv k cv) := BE.cell 2
      have dr : Below wr.heap.size wr wr.drew := ⟨rfl, rfl, rfl, Nat.le_refl _, fun _ _ => rfl⟩
      have Rd : RS wr.drew q rest bad := R.more dr
      have BEd := BE.drew
      have ownge := fun j (hj : (Value.slice pv k cv).ownBlock = some j) => (OE.lt j hj).1
      have OEd := OE.drew
      have hN : N < 256 := b2
      have c2' : cv ≤ 9223372036854775807 := by unfold maxLen at c2; exact c2
      have ng5 : g5 ≠ q := by omega
      have hbb := hid (fun (h : bad = true) => (show b2' = true by rw [e4, e1, h]; rfl))
      replace fin := hid fin
      replace fin2 := hid fin2
      replace D := hid D
      have HBZ := hid BZ
      replace K1 := hid K1
      replace K2 := hid K2
      clear e1 e2 e3 e4 e5 e6 OE BE BZ R c2
      go_wp2_with fail
      go_region_law (first
        | (go_simp; (with_reducible refine (K1.out _ Rd).mono ?_); rintro e w7 ⟨rfl, R7, S7⟩; have B7 := BEd.sole S7 (fun h => ng5 h); have O7 := own_sole OEd S7 (fun j hj h => by have h' : j = q := h; have := ownge j hj; omega); have x7 : w7.cell? ⟨g5, 2, none⟩ = some (.slice pv k cv) := B7.cell 2)
        | (go_simp; (with_reducible refine (K2.out _ R7).mono ?_); rintro e w8 ⟨rfl, R8, S8⟩; have B8 := B7.sole S8 (fun h => ng5 h); have O8 := own_sole O7 S8 (fun j hj h => by have h' : j = q := h; have := ownge j hj; omega); have x8 : w8.cell? ⟨g5, 2, none⟩ = some (.slice pv k cv) := B8.cell 2; have l8 := B8.lt)
        | (refine step_append_lies _ (by rfl) _ _ _ (by rfl) w6.heap.size 93 i0 _ 2 16 Try.underlying88 hi hz0 hz1 hz2 rfl (by omega) (.slice pv k cv) k (flatE L) (by rfl) (O8.alloc _) _ 1 1 (#[.int .i64 x1, .int .i64 x2] : Array Value).toList (by rfl) (by rfl) (newsE _ _ _) (by simp [Value.oneCell']) (by omega) (by unfold maxLen; omega) (by omega) (by have q7 := S7.size; have q8 := S8.size; simp at q7 q8 ⊢; omega) _ rfl ?_; intro g9 cap9 w9 hown9 hgrow9 hat9 hlt9; have S9 := Sole.grown (S := fun j => (Value.slice pv k cv).ownBlock = some j) hgrow9 (fun j hj => hj); have B9 := (B8.alloc _).sole S9 (fun hj => by have := ownge _ hj; omega); have HB9 := hid B9; obtain ⟨l9, k9, f9⟩ := B9))
      all_goals
        have S10 : Sole (fun j => j = g5) w9 (w9.setCell ⟨g5, 2, none⟩ (.slice (some ⟨g9, 0, none⟩) (k + 1) cap9)) := Sole.setCell _ _ rfl
        have hg9 := (hown9.lt g9 rfl).1
        have hL9 : (L ++ [(⟨x1, x2⟩ : En)]).length = k + 1 := by rw [List.length_append, hL]; rfl
        have E1 := hid (show EnsOwn (w9.setCell ⟨g5, 2, none⟩ (.slice (some ⟨g9, 0, none⟩) (k + 1) cap9)) w6.heap.size (.slice (some ⟨g9, 0, none⟩) (k + 1) cap9) (L ++ [(⟨x1, x2⟩ : En)]) by
          unfold EnsOwn
          rw [hL9, flatE_append, flatE_one]
          exact own_sole hown9 S10 (fun j hj h => by have h' : j = g5 := h; simp [Value.ownBlock] at hj; omega))
        have E2 := hid (((R8.more ((Below.refl _ _).alloc (Nat.le_refl _) (.cells #[.int .i64 x1, .int .i64 x2] 93))).kept S9 (fun j hj h => by have := ownge j h; omega)).kept S10 (fun j hj h => by have h' : j = g5 := h; omega))
        have E3 := hid (HB9.out.set 2 (.slice (some ⟨g9, 0, none⟩) (k + 1) cap9) (by simp))
        have E4 := hid (((((HBZ.out.drew.sole S7 (fun h => by have h' : w.heap.size = q := h; omega)).sole S8 (fun h => by have h' : w.heap.size = q := h; omega)).alloc (.cells #[.int .i64 x1, .int .i64 x2] 93)).sole S9 (fun h => by have := ownge _ h; omega)).sole S10 (fun h => by have h' : w.heap.size = g5 := h; omega))
        have d1 := (D.out.trans (dr.mono D.out.size)).trans (S7.below (B := w.heap.size) (by have h := D.out.size; exact h) fun j hj => by have h' : j = q := hj; omega)
        have d2 := d1.trans (S8.below (B := w.heap.size) d1.size fun j hj => by have h' : j = q := hj; omega)
        have d3 := (d2.alloc d2.size (.cells #[.int .i64 x1, .int .i64 x2] 93))
        have d4 := d3.trans (S9.below (B := w.heap.size) d3.size fun j hj => by have := ownge j hj; omega)
        have E5 := hid (d4.trans (S10.below (B := w.heap.size) d4.size fun j hj => by have h' : j = g5 := hj; omega))
        have E6 := hid (show w6.heap.size ≤ (w9.setCell ⟨g5, 2, none⟩ (.slice (some ⟨g9, 0, none⟩) (k + 1) cap9)).heap.size by
          have q1 := S7.size
          have q2 := S8.size
          have q3 := S9.size
          have q4 := S10.size
          simp only [World.size_drew, World.size_alloc] at q1 q2 q3 q4
          omega)
        have E7 := hid (show (b2' = false ∧ 3 + 2 * (k + 1) ≤ l.length ∧ r2 = l.drop (3 + 2 * (k + 1)) ∧ ∀ j, j < k + 1 → enAt (L ++ [(⟨x1, x2⟩ : En)]) j = rdE l j) ∨ (b2' = true ∧ l.length < 3 + 2 * N) by
          rcases fin2.out with ⟨f1, f2, f3, f4, f5⟩ | ⟨f1, f2⟩
          · rcases fin.out with ⟨_, _, _, g4⟩ | ⟨g1, g2⟩
            · exact .inl ⟨f1, f2, f3, rd_next l L k x1 x2 hL g4 f4 f5⟩
            · exfalso; have hbt := hbb.out g1; rw [f1] at hbt; cases hbt
          · exact .inr ⟨f1, f2⟩)
        clear d1 d2 d3 d4 S7 S8 S9 S10 hown9 hgrow9 R7 R8
        go_wp2_with fail
        go_roundw
        case rel => exact ⟨k + 1, _, _, _, _, by omega, by go_num, hL9, E3.out, E1.out, E2.out, E7.out, E4.out, E5.out, E6.out⟩
        case measure => simp [intOf]; omega
    · obtain rfl : k = N := by omega
      obtain ⟨pv, cv, rfl, c1, c2, RV⟩ := OE.open
      rw [hL] at c1 RV BE
      have HBZ := hid BZ
      have HBE := hid BE
      have KE := hid (err_any q rest _ wr R.1)
      have KL := hid (left_any q rest _ wr R.1)
      have KC := hid (bcheck_any v0 ((v1 : Int) == 1) pv k cv (enAt L) c1 c2 wr RV)
      replace D := hid D
      replace RV := hid RV
      replace fin := hid fin
      have v1b : (v1 : Int) ≤ 255 := by omega
      obtain ⟨lz, kz, fz⟩ := BZ
      by_cases g1 : 1 < (v1 : Int)
      · have hbad := hid (show readG l = false by rw [hG.out, show decide (v1 ≤ 1) = false from decide_eq_false (by omega)]; simp)
        go_wp2_with fail
        have B2 := Blk.fill [.int .i64 0, .bool false, .slice none 0 0] 0 HBZ.out (by simp)
        have hb2 := hid (below_fill (b := w.heap.size) (Nat.le_refl _) [.int .i64 0, .bool false, .slice none 0 0] 0 D.out)
        show bodyPost _ _ _ _ _ (setAll wr w.heap.size 0 [.int .i64 0, .bool false, .slice none 0 0])
        obtain ⟨w7x, hw7x⟩ : ∃ x, setAll wr w.heap.size 0 [.int .i64 0, .bool false, .slice none 0 0] = x := ⟨_, rfl⟩
        rw [hw7x] at B2 hb2
        rw [hw7x]
        obtain ⟨l7, k7, f7⟩ := B2
        refine bodyPost_ret (v := .tuple #[smval 0 false none 0 0, .int .i64 16]) (by simp [results, Try.results62, go_sem, k7, fillC]) rfl ?_
        exact EB.out w7x hbad.out hb2.out
      · have hv1 : v1 ≤ 1 := by omega
        replace g1 := decide_eq_false g1
        rcases fin.out with ⟨rfl, hl3, hrest, hen⟩ | ⟨rfl, hl3⟩
        · simp only [Bool.false_eq_true, if_false] at KE
          have hlen : (rest.length : Int) = l.length - (3 + 2 * k) := by rw [hrest, List.length_drop]; omega
          by_cases g2 : 0 < (rest.length : Int)
          · have hbad := hid (show readG l = false by rw [hG.out, show decide (l.length = 3 + 2 * k) = false from decide_eq_false (by omega)]; simp)
            have hlI : (rest.length : Int) ≤ 9223372036854775807 := by omega
            have g3 : 0 < rest.length := by omega
            clear hrest hlen
            generalize rest.length = m at *
            go_wp2_with fail
            refine KE.out.mono ?_
            rintro e w7 ⟨rfl, hw7⟩
            rw [hw7]
            clear hw7 w7
            go_wp2_with fail
            refine KL.out.mono ?_
            rintro e w7 ⟨rfl, hw7⟩
            rw [hw7]
            clear hw7 w7
            go_wp2_with fail
            have B2 := Blk.fill [.int .i64 0, .bool false, .slice none 0 0] 0 HBZ.out (by simp)
            have hb2 := hid (below_fill (b := w.heap.size) (Nat.le_refl _) [.int .i64 0, .bool false, .slice none 0 0] 0 D.out)
            show bodyPost _ _ _ _ _ (setAll wr w.heap.size 0 [.int .i64 0, .bool false, .slice none 0 0])
            obtain ⟨w7x, hw7x⟩ : ∃ x, setAll wr w.heap.size 0 [.int .i64 0, .bool false, .slice none 0 0] = x := ⟨_, rfl⟩
            rw [hw7x] at B2 hb2
            rw [hw7x]
            obtain ⟨l7, k7, f7⟩ := B2
            refine bodyPost_ret (v := .tuple #[smval 0 false none 0 0, .int .i64 16]) (by simp [results, Try.results62, go_sem, k7, fillC]) rfl ?_
            exact EB.out w7x hbad.out hb2.out
          · have hr0 : (rest.length : Int) = 0 := by omega
            have hr0' : rest.length = 0 := by omega
            rw [hr0'] at KL
            have hcg := bCk_congr v0 k (enAt L) (rdE l) hen
            obtain ⟨le, ke, fe⟩ := HBE.out
            have hGC : Hid (readG l = (bCk v0 k (rdE l) == 0)) := hid (by
              rw [hG.out, show decide (3 ≤ l.length) = true from decide_eq_true h3, show decide (v1 ≤ 1) = true from decide_eq_true hv1, show decide (l.length = 3 + 2 * k) = true from decide_eq_true (by omega)]
              simp)
            have RV2 := RV.out.congr (g := fun i => ecells (rdE l i)) (fun i hi => by rw [hen i hi])
            rw [hcg] at KC
            generalize bCk v0 k (rdE l) = C at *
            replace RV2 := hid RV2
            clear hrest hlen hr0 g2 hcg
            go_wp2_with fail
            refine KE.out.mono ?_
            rintro e w7 ⟨rfl, hw7⟩
            rw [hw7]
            clear hw7 w7
            go_wp2_with fail
            refine KL.out.mono ?_
            rintro e w7 ⟨rfl, hw7⟩
            rw [hw7]
            clear hw7 w7
            go_wp2_with fail
            refine KC.out.mono ?_
            rintro e w8 ⟨rfl, hb8⟩
            have HBZx := hid (HBZ.out.more hb8)
            have HBEx := hid (HBE.out.more hb8)
            have Dx := hid (below2 D.out hb8 D.out.size)
            have RVx := hid (RV2.out.more hb8)
            clear hb8 lz kz fz le ke fe
            obtain ⟨lz, kz, fz⟩ := HBZx.out
            by_cases hC : C = 0
            · have hgood := hid (show readG l = true by rw [hGC.out, hC]; rfl)
              subst hC
              obtain ⟨le, ke, fe⟩ := HBEx.out
              go_wp2_with fail
              have B2 := Blk.fill [.int .i64 v0, .bool ((v1 : Int) == 1), .slice pv k cv] 0 HBZx.out (by simp)
              have hb2 := hid (below_fill (b := w.heap.size) (Nat.le_refl _) [.int .i64 v0, .bool ((v1 : Int) == 1), .slice pv k cv] 0 Dx.out)
              have S12 := sole_fill (b := w.heap.size) [.int .i64 v0, .bool ((v1 : Int) == 1), .slice pv k cv] 0 w8
              have RVy := hid (RVx.out.apart S12 (fun b o e hn => by
                obtain ⟨b', o', e', r⟩ := RVx.out.row hn
                have := OE.lt b (by rw [e]; rfl)
                intro h
                have h' : b = w.heap.size := h
                omega))
              show bodyPost _ _ _ _ _ (setAll w8 w.heap.size 0 [.int .i64 v0, .bool ((v1 : Int) == 1), .slice pv k cv])
              obtain ⟨w7x, hw7x⟩ : ∃ x, setAll w8 w.heap.size 0 [.int .i64 v0, .bool ((v1 : Int) == 1), .slice pv k cv] = x := ⟨_, rfl⟩
              rw [hw7x] at B2 hb2 RVy
              rw [hw7x]
              obtain ⟨l7, k7, f7⟩ := B2
              refine bodyPost_ret (v := .tuple #[smval v0 ((v1 : Int) == 1) pv k cv, .int .i64 0]) (by simp [results, Try.results62, go_sem, k7, fillC]) rfl ?_
              exact EG.out pv cv w7x hgood.out c1 c2 RVy.out hb2.out
            · have hbad := hid (show readG l = false by rw [hGC.out]; simpa using hC)
              have hC1 : (C != 0) = true := by simpa using hC
              clear hC
              go_wp2_with fail
              have B2 := Blk.fill [.int .i64 0, .bool false, .slice none 0 0] 0 HBZx.out (by simp)
              have hb2 := hid (below_fill (b := w.heap.size) (Nat.le_refl _) [.int .i64 0, .bool false, .slice none 0 0] 0 Dx.out)
              show bodyPost _ _ _ _ _ (setAll w8 w.heap.size 0 [.int .i64 0, .bool false, .slice none 0 0])
              obtain ⟨w7x, hw7x⟩ : ∃ x, setAll w8 w.heap.size 0 [.int .i64 0, .bool false, .slice none 0 0] = x := ⟨_, rfl⟩
              rw [hw7x] at B2 hb2
              rw [hw7x]
              obtain ⟨l7, k7, f7⟩ := B2
              refine bodyPost_ret (v := .tuple #[smval 0 false none 0 0, .int .i64 16]) (by simp [results, Try.results62, go_sem, k7, fillC]) rfl ?_
              exact EB.out w7x hbad.out hb2.out
        · simp only [if_true] at KE
          have hbad := hid (show readG l = false by rw [hG.out, show decide (l.length = 3 + 2 * k) = false from decide_eq_false (by omega)]; simp)
          go_wp2_with fail
          refine KE.out.mono ?_
          rintro e w7 ⟨rfl, hw7⟩
          rw [hw7]
          clear hw7 w7
          go_wp2_with fail
          have B2 := Blk.fill [.int .i64 0, .bool false, .slice none 0 0] 0 HBZ.out (by simp)
          have hb2 := hid (below_fill (b := w.heap.size) (Nat.le_refl _) [.int .i64 0, .bool false, .slice none 0 0] 0 D.out)
          show bodyPost _ _ _ _ _ (setAll wr w.heap.size 0 [.int .i64 0, .bool false, .slice none 0 0])
          obtain ⟨w7x, hw7x⟩ : ∃ x, setAll wr w.heap.size 0 [.int .i64 0, .bool false, .slice none 0 0] = x := ⟨_, rfl⟩
          rw [hw7x] at B2 hb2
          rw [hw7x]
          obtain ⟨l7, k7, f7⟩ := B2
          refine bodyPost_ret (v := .tuple #[smval 0 false none 0 0, .int .i64 16]) (by simp [results, Try.results62, go_sem, k7, fillC]) rfl ?_
          exact EB.out w7x hbad.out hb2.out
end Go.Proofs.Ytgnnikjpnmalmaa
