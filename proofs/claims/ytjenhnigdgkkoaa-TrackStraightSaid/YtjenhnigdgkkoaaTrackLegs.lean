/-
  Distances in a row of the call's own; track.Legs and track.Length.
-/
import Derived.Test.YtjenhnigdgkkoaaSole
import Derived.Test.YtjenhnigdgkkoaaTrackThin
import Derived.Test.YtjenhnigdgkkoaaAidMore
import Derived.Deep.RegionHeld3
import Derived.Deep.RegionLaw
import Derived.Deep.AppendLies
namespace Go.Proofs.Ytjenhnigdgkkoaa
open Go.RowKit
set_option linter.unusedVariables false

structure D2 where
  h : Int
  l : Int
def dcells (d : D2) : List Value := [.int .u64 d.h, .int .u64 d.l]

theorem diTab : (Try.prog.info? 34).map (fun i => (i.zero, i.size, i.bytes)) = some (some (.agg #[.int .u64 0, .int .u64 0]), 2, 16) := by kernel_rfl
/-- The cells of entries, one behind the other. -/
def flatD (L : List D2) : List Value := L.flatMap dcells
theorem flatD_append (L M : List D2) : flatD (L ++ M) = flatD L ++ flatD M := by simp [flatD]
theorem flatD_one (q : D2) : flatD [q] = dcells q := by simp [flatD]
theorem flatD_get : ∀ (L : List D2) (i j : Nat) (hi : i < L.length) (v : Value), (dcells L[i])[j]? = some v → (flatD L)[i * 2 + j]? = some v
  | [], i, j, hi, v, h => absurd hi (Nat.not_lt_zero _)
  | q :: L, 0, j, hi, v, h => by
    have hj : j < (dcells q).length := (List.getElem?_eq_some_iff.1 h).1
    simp only [flatD, List.flatMap_cons, Nat.zero_mul, Nat.zero_add]
    rw [List.getElem?_append_left hj]
    exact h
  | q :: L, i + 1, j, hi, v, h => by
    have ih := flatD_get L i j (by simpa using hi) v (by simpa using h)
    simp only [flatD, List.flatMap_cons]
    rw [List.getElem?_append_right (by simp [dcells]; omega)]
    rw [show (i + 1) * 2 + j - (dcells q).length = i * 2 + j by simp [dcells]; omega]
    exact ih

/-- A row of the call's own holds these distances. -/
def DisOwn (w : World) (base : Nat) (v : Value) (L : List D2) : Prop := w.ownsRow base 34 2 v L.length (flatD L)
def diAt (L : List D2) (i : Nat) : D2 := (L[i]?).getD ⟨0, 0⟩
theorem diAt_eq (L : List D2) (i : Nat) (hi : i < L.length) : diAt L i = L[i] := by simp [diAt, hi]
theorem DisOwn.nil (w : World) (base : Nat) : DisOwn w base (.slice none 0 0) [] := World.ownsRow_nil _ _ _ _
theorem DisOwn.sole {S : Nat → Prop} {w w' : World} {base : Nat} {v : Value} {L : List D2} (h : DisOwn w base v L) (hs : Sole S w w') (hn : ∀ k, v.ownBlock = some k → ¬ S k) : DisOwn w' base v L := own_sole h hs hn
theorem DisOwn.more {w w' : World} {base : Nat} {v : Value} {L : List D2} (h : DisOwn w base v L) (hb : Below w.heap.size w w') : DisOwn w' base v L :=
  own_sole h (Sole.made (S := fun _ => False) hb) fun _ _ x => x
theorem DisOwn.open {w : World} {base : Nat} {v : Value} {L : List D2} (h : DisOwn w base v L) :
    ∃ p cap, v = .slice p L.length cap ∧ L.length ≤ cap ∧ cap ≤ maxLen ∧ RowP w p 2 L.length (fun i => dcells (diAt L i)) := by
  rcases h.2 with ⟨rfl, h0⟩ | ⟨g, cap, cur, rfl, hb, hg, h1, h2, h3, h4⟩
  · exact ⟨none, 0, by rw [h0], by omega, Nat.zero_le _, .inl h0⟩
  · refine ⟨_, cap, rfl, h1, h2, .inr ⟨g, 0, rfl, (h.lt g rfl).2, fun i hi j u hu => ?_⟩⟩
    rw [diAt_eq L i hi] at hu
    have hf := flatD_get L i j hi u hu
    have := h.cells (g := g) rfl (i * 2 + j) u hf
    rw [Nat.zero_add]
    unfold Addr.add at this
    split at this
    · rename_i e
      simpa [e] using this
    · simpa using this

set_option linter.unusedSimpArgs false
theorem newsD (w : World) (c : Array Value) (t : TypeId) : ∀ j u, c.toList[j]? = some u → (w.alloc (.cells c t)).cell? (Addr.add ⟨w.heap.size, 0, none⟩ j) = some u :=
  World.news_of_block (cs := c) (t := t) (fr := (0, 0)) (heap_alloc_new w _)
def leg (f : Nat → Pt) (i : Nat) : D2 := ⟨dHi (f i) (f (i + 1)), dLo (f i) (f (i + 1))⟩
def legsTo (f : Nat → Pt) (j : Nat) : List D2 := (List.range j).map (leg f)
theorem legsTo_len (f : Nat → Pt) (j : Nat) : (legsTo f j).length = j := by simp [legsTo]
theorem legsTo_succ (f : Nat → Pt) (j : Nat) : legsTo f (j + 1) = legsTo f j ++ [leg f j] := by simp [legsTo, List.range_succ]
theorem legsTo_at (f : Nat → Pt) (j i : Nat) (h : i < j) : diAt (legsTo f j) i = leg f i := by
  rw [diAt_eq _ _ (by rw [legsTo_len]; exact h)]; simp [legsTo]

set_option maxRecDepth 100000 in
set_option maxHeartbeats 4000000 in
theorem legs_any (p : Option Addr) (n cap : Nat) (f : Nat → Pt) (hf : ∀ i, (f i).ok) (h1 : n ≤ cap) (h2 : cap ≤ maxLen) (hn : n ≤ 60) (w : World) (HA : RowP w p 4 n (fun i => pcells (f i))) :
    Calls Try.prog 19 #[.slice p n cap] w fun e w' => ∃ v, e = .returned v ∧ DisOwn w' w.heap.size v (legsTo f (n - 1)) ∧ Below w.heap.size w w' := by
  obtain ⟨i0, hi, hz0, hz1, hz2⟩ := info_parts diTab
  have HAh := hid HA
  have hfh := hid hf
  have h12 := hid (And.intro h1 h2)
  clear HA hf h1 h2
  go_enter Try.func19, Try.ntmps19
  go_wp2_with fail
  go_loopw [3, 4] (fun v i wr => ∃ j : Nat, (j + 1 ≤ n ∨ j = 0) ∧ i = .int .i64 ((j : Int) + 1) ∧ DisOwn wr w.heap.size v (legsTo f j) ∧ Below w.heap.size w wr) (fun _ i _ => n - (intOf i).toNat)
  case atStart => exact ⟨0, .inr rfl, rfl, DisOwn.nil _ _, Below.refl _ _⟩
  case round =>
    obtain ⟨j, hj, rfl, HD, hb⟩ := hrel
    by_cases hlt : j + 1 < n
    · have hlt1 : (j : Int) + 1 < (n : Int) := by omega
      have hlt0 : (j : Int) < (n : Int) := by omega
      have hq0 : (0 : Int) ≤ (j : Int) := by omega
      have hq1 : (0 : Int) ≤ (j : Int) + 1 := by omega
      have hw0 : IntKind.i64.wrap (j : Int) = (j : Int) := IntWalk.i64_in _ ⟨by omega, by omega⟩
      have hw1 : IntKind.i64.wrap ((j : Int) + 1 - 1) = (j : Int) := by rw [show (j : Int) + 1 - 1 = (j : Int) by omega]; exact hw0
      have hw2 : ((j : Int) + 1).toNat = j + 1 := by omega
      obtain ⟨b, o, rfl, R0⟩ := HAh.out.row (by omega)
      have R := R0.more hb
      obtain ⟨pv, cv, rfl, c1, c2, _⟩ := HD.open
      rw [legsTo_len] at c1
      have z0 := R.at0 (i := j) (by omega) (v := .int .i64 (f j).id) rfl
      have z1 := R.at1 (i := j) (by omega) (v := .int .u32 (f j).x) rfl
      have z2 := R.at2 (i := j) (by omega) (v := .int .u32 (f j).y) rfl
      have z3 := R.at3 (i := j) (by omega) (v := .string (f j).d) rfl
      have y0 := R.at0 hlt (v := .int .i64 (f (j + 1)).id) rfl
      have y1 := R.at1 hlt (v := .int .u32 (f (j + 1)).x) rfl
      have y2 := R.at2 hlt (v := .int .u32 (f (j + 1)).y) rfl
      have y3 := R.at3 hlt (v := .string (f (j + 1)).d) rfl
      have KB : Hid (∀ w, Calls Try.prog 38 #[.agg #[.int .i64 (f j).id, .int .u32 (f j).x, .int .u32 (f j).y, .string (f j).d], .agg #[.int .i64 (f (j + 1)).id, .int .u32 (f (j + 1)).x, .int .u32 (f (j + 1)).y, .string (f (j + 1)).d]] w fun e w' => e = .returned (.agg #[.int .u64 (leg f j).h, .int .u64 (leg f j).l]) ∧ Below w.heap.size w w') :=
        hid (fun w => tbetween_any (f j) (f (j + 1)) (hfh.out _) (hfh.out _) w)
      have hnext := legsTo_succ f j
      generalize leg f j = D at *
      have OEd : World.ownsRow wr.drew w.heap.size 34 2 (.slice pv j cv) j (flatD (legsTo f j)) := by have h := HD; unfold DisOwn at h; rw [legsTo_len] at h; exact h
      have hlen := legsTo_len f j
      generalize legsTo f j = L at *
      have hbh := hid hb
      have hbs := hb.size
      have hlenh := hid hlen
      replace hnext := hid hnext
      clear R R0 HD hlen hb
      rw [hlenh.out]
      go_wp2_with fail
      go_region_law (first
        | (go_simp; refine (KB.out _).mono ?_; rintro e w7 ⟨rfl, hb7⟩)
        | (refine step_append_lies _ (by rfl) _ _ _ (by rfl) w.heap.size 34 i0 _ 2 16 Try.underlying41 hi hz0 hz1 hz2 rfl (by omega) (.slice pv j cv) j (flatD L) (by rfl) ((own_sole OEd (Sole.made (S := fun _ => False) hb7) (fun _ _ x => x)).alloc _) _ 1 1 (#[.int .u64 D.h, .int .u64 D.l] : Array Value).toList (by rfl) (by rfl) (newsD _ _ _) (by simp [Value.oneCell']) (by omega) (by unfold maxLen; omega) (by omega) (by have q7 := hb7.size; simp at q7 ⊢; omega) _ rfl ?_; intro g9 cap9 w9 hown9 hgrow9 hat9 hlt9))
      all_goals
        have O9 := hid (show DisOwn w9 w.heap.size (.slice (some ⟨g9, 0, none⟩) (j + 1) cap9) (L ++ [D]) by unfold DisOwn; rw [List.length_append, hlenh.out, flatD_append, flatD_one]; exact hown9)
        have hb7' : Below wr.heap.size wr w7 := ((Below.refl wr.heap.size wr).drew).trans hb7
        have hb8 := hbh.out.trans (hb7'.mono hbs)
        have hb9 := hid ((hb8.alloc hb8.size _).grown hgrow9 (by have := hb8.size; simp; omega) (fun k hk => (OEd.lt k hk).1))
        clear hown9 hgrow9 hat9 hlt9 OEd hb7 hb7' hb8 z0 z1 z2 z3 y0 y1 y2 y3 KB hi hz0 hz1 hz2
        go_wp2_with fail
        go_roundw
        case rel => exact ⟨j + 1, .inl (by omega), by go_num, by rw [hnext.out]; exact O9.out, hb9.out⟩
        case measure => simp [intOf]; omega
    · have hlt1 : ¬ (j : Int) + 1 < (n : Int) := by omega
      have hjn : j = n - 1 := by omega
      obtain ⟨pv, cv, rfl, c1, c2, _⟩ := HD.open
      rw [legsTo_len] at c1
      have HDh := hid HD
      have hbh := hid hb
      clear HD hb
      go_wp2_with fail
      go_ret
      refine ⟨_, rfl, ?_, hbh.out⟩
      rw [← hjn]
      exact HDh.out

theorem sole_fillD {b : Nat} : ∀ (vs : List Value) (o : Nat) (w : World), Sole (fun k => k = b) w (setAll w b o vs)
  | [], _, _ => Sole.refl _ _
  | v :: vs, o, w => (Sole.setCell (S := fun k => k = b) w v rfl).trans (sole_fillD vs (o + 1) _)
theorem rowp_sole {S : Nat → Prop} {w w' : World} {p : Option Addr} {sz n : Nat} {f : Nat → List Value} (h : RowP w p sz n f) (hs : Sole S w w') (hn : ∀ b o, p = some ⟨b, o, none⟩ → ¬ S b) : RowP w' p sz n f := by
  rcases h with h | ⟨b, o, e, R⟩
  · exact .inl h
  · exact .inr ⟨b, o, e, Nat.lt_of_lt_of_le R.lt hs.size, fun i hi j v hv => (hs.cell R.lt (hn b o e)).trans (R.cell i hi j v hv)⟩
def D2.ok (d : D2) : Prop := 0 ≤ d.h ∧ d.h < 18446744073709551616 ∧ 0 ≤ d.l ∧ d.l < 18446744073709551616
def addD (a c : D2) : D2 := ⟨hiS a.h a.l c.h c.l, loS a.l c.l⟩
theorem addD_ok (a c : D2) : (addD a c).ok := by
  unfold addD D2.ok hiS loS
  simp only
  omega
theorem leg_ok (f : Nat → Pt) (i : Nat) : (leg f i).ok := by
  unfold leg D2.ok dHi dLo hiS loS
  simp only
  omega
def sumTo (f : Nat → Pt) : Nat → D2
  | 0 => ⟨0, 0⟩
  | i + 1 => addD (sumTo f i) (leg f i)
theorem sumTo_ok (f : Nat → Pt) : ∀ i, (sumTo f i).ok
  | 0 => by unfold sumTo D2.ok; simp
  | i + 1 => addD_ok _ _

set_option maxRecDepth 100000 in
set_option maxHeartbeats 4000000 in
theorem length_any (p : Option Addr) (n cap : Nat) (f : Nat → Pt) (hf : ∀ i, (f i).ok) (h1 : n ≤ cap) (h2 : cap ≤ maxLen) (hn : n ≤ 60) (w : World) (HA : RowP w p 4 n (fun i => pcells (f i))) :
    Calls Try.prog 23 #[.slice p n cap] w fun e w' => e = .returned (.agg #[.int .u64 (sumTo f (n - 1)).h, .int .u64 (sumTo f (n - 1)).l]) ∧ Below w.heap.size w w' := by
  obtain ⟨B0, B1, H⟩ := @boxed2 w _ #[.int .u64 0, .int .u64 0] #[.int .u64 0, .int .u64 0] 34 34 (Below.refl _ _)
  have KL := hid (legs_any p n cap f hf h1 h2 hn _ (HA.more H))
  have HB0 := hid B0
  have HB1 := hid B1
  have HH := hid H
  have KA : Hid (∀ (a c : D2) w, a.ok → c.ok → Calls Try.prog 41 #[.agg #[.int .u64 a.h, .int .u64 a.l], .agg #[.int .u64 c.h, .int .u64 c.l]] w fun e w' => e = .returned (.agg #[.int .u64 (addD a c).h, .int .u64 (addD a c).l]) ∧ Below w.heap.size w w') :=
    hid (fun a c w ha hc => add_any a.h a.l c.h c.l ha.1 ha.2.2.1 hc.1 hc.2.2.1 ha.2.1 ha.2.2.2 hc.2.2.2 w)
  clear HA hf h1 h2 B0 B1 H
  go_enter Try.func23, Try.ntmps23
  go_wp2_with fail
  refine KL.out.mono ?_
  rintro e w3 ⟨v, rfl, HD, hb⟩
  have b0 := HB0.out.more hb
  have b1 := HB1.out.more hb
  have h3 := HH.out.trans (hb.mono HH.out.size)
  obtain ⟨pv, cv, rfl, c1, c2, RD⟩ := HD.open
  rw [legsTo_len] at c1 RD ⊢
  obtain ⟨N, hN⟩ : ∃ N, n - 1 = N := ⟨_, rfl⟩
  rw [hN] at c1 RD HD ⊢
  have RDh := hid RD
  have hg0 : w.heap.size + 2 ≤ w3.heap.size := by have := hb.size; simp at this; omega
  have hown : ∀ k, (Value.slice pv N cv).ownBlock = some k → w.heap.size + 2 ≤ k := fun k hk => by
    have hk' : (Value.slice pv (legsTo f N).length cv).ownBlock = some k := by rw [legsTo_len]; exact hk
    have := (HD.lt k hk').1
    simp at this; omega
  have hpv : ∀ b o, pv = some ⟨b, o, none⟩ → w.heap.size + 2 ≤ b := fun b o e => by subst e; exact hown b rfl
  have hpvh := hid hpv
  clear HD hb KL hown hpv
  have b0h := hid b0
  have b1h := hid b1
  have h3h := hid h3
  obtain ⟨l0, k0, f0⟩ := b0
  obtain ⟨l1, k1, f1⟩ := b1
  clear h3 RD
  go_wp2_with fail
  go_loopw [9] (fun i wr => ∃ j : Nat, j ≤ N ∧ i = .int .i64 (j : Int) ∧ Blk wr w.heap.size #[.int .u64 0, .int .u64 0] ∧ Blk wr (w.heap.size + 1) #[.int .u64 (sumTo f j).h, .int .u64 (sumTo f j).l] ∧ RowP wr pv 2 N (fun i => dcells (diAt (legsTo f N) i)) ∧ Below w.heap.size w wr) (fun i _ => N - (intOf i).toNat)
  case atStart => exact ⟨0, by omega, rfl, b0h.out, b1h.out, RDh.out, h3h.out⟩
  case round =>
    obtain ⟨j, hj, rfl, B0, B1, RR, hb⟩ := hrel
    clear l0 k0 f0 l1 k1 f1
    by_cases hlt : j < N
    · have hlt1 : (j : Int) < (N : Int) := by omega
      obtain ⟨b, o, rfl, R⟩ := RR.row (by omega)
      have hbg := hpvh.out b o rfl
      have hat := legsTo_at f N j hlt
      have z0 := R.at0 (i := j) hlt (v := .int .u64 (leg f j).h) (by show (dcells (diAt (legsTo f N) j))[0]? = _; rw [hat]; rfl)
      have z1 := R.at1 (i := j) hlt (v := .int .u64 (leg f j).l) (by show (dcells (diAt (legsTo f N) j))[1]? = _; rw [hat]; rfl)
      have KA1 := hid (fun w => KA.out (sumTo f j) (leg f j) w (sumTo_ok f j) (leg_ok f j))
      have hsum : sumTo f (j + 1) = addD (sumTo f j) (leg f j) := rfl
      replace hsum := hid hsum
      generalize sumTo f j = S at *
      generalize leg f j = D at *
      have hb1 : Below wr.heap.size wr (wr.alloc (.cells #[.int .u64 D.h, .int .u64 D.l] 34)) := (Below.refl _ _).alloc (Nat.le_refl _) _
      have B0' := hid (B0.more hb1)
      have B1' := hid (B1.more hb1)
      have RR' := hid (RR.more hb1)
      have hbb := hid (hb.trans (hb1.mono hb.size))
      obtain ⟨l1, k1, f1⟩ := B1'.out
      clear hat R RR B0 B1 hb hb1
      go_wp2_with fail
      refine (KA1.out _).mono ?_
      rintro e w5 ⟨rfl, hb5⟩
      have B05 := hid (B0'.out.more hb5)
      have B15 := hid (B1'.out.more hb5)
      have RR5 := hid (RR'.out.more hb5)
      have hb55 := hid (hbb.out.trans (hb5.mono hbb.out.size))
      generalize addD S D = T at *
      clear hb5 z0 z1 l1 k1 f1
      obtain ⟨l5, k5, f5⟩ := B15.out
      go_wp2_with fail
      have E1 := Blk.fill [.int .u64 T.h, .int .u64 T.l] 0 B15.out (by simp)
      have S6 := sole_fillD (b := w.heap.size + 1) [.int .u64 T.h, .int .u64 T.l] 0 w5
      simp only [fillC, setAll] at E1 S6
      refine ⟨⟨j + 1, by omega, by go_num, B05.out.sole S6 (by omega), ?_, rowp_sole RR5.out S6 (fun b' o' e' h => by have := hpvh.out b' o' e'; have h' : b' = w.heap.size + 1 := h; omega), hb55.out.trans (S6.below (B := w.heap.size) hb55.out.size fun k hk => by have h' : k = w.heap.size + 1 := hk; omega)⟩, by simp [intOf]; omega⟩
      rw [hsum.out]
      simpa using E1
    · obtain rfl : j = N := by omega
      have hbb := hid hb
      have B0h := hid B0
      obtain ⟨T, hT⟩ : ∃ T, sumTo f j = T := ⟨_, rfl⟩
      rw [hT] at B1
      have hT' := hid hT
      have hN' := hid hN
      clear hT hN
      obtain ⟨l1, k1, f1⟩ := B1
      obtain ⟨l0, k0, f0⟩ := B0
      have E1 := Blk.fill [.int .u64 T.h, .int .u64 T.l] 0 B0h.out (by simp)
      have hE := hid E1
      clear hb E1 RR
      go_wp2_with fail
      have e0 := hE.out.cell 0
      have e1 := hE.out.cell 1
      simp only [setAll, fillC] at e0 e1
      refine bodyPost_ret (v := .agg #[.int .u64 T.h, .int .u64 T.l]) (by simp [results, Try.results23, go_sem] at e0 e1 ⊢; simp [e0, e1]) rfl ⟨by rw [hN'.out, hT'.out], ?_⟩
      exact Below.setCell (Below.setCell hbb.out (by simp) _) (by simp) _
end Go.Proofs.Ytjenhnigdgkkoaa
