/-
  Layer 17: told to be gone, and written again: the walk of NmapGone.
-/
import Derived.Test.YtjmacojlneldaaaEntTwo
import Derived.Deep.RegionHeld3
import Derived.Deep.AppendLies
namespace Go.Proofs.Ytjmacojlneldaaa
open Go.RowKit Go.Maps
set_option linter.unusedVariables false
set_option linter.unusedSimpArgs false

def rowI (g : Nat → Int) (k : Nat) : List Int := (List.range k).map g
theorem rowI_len (g : Nat → Int) (k : Nat) : (rowI g k).length = k := by simp [rowI]
theorem rowI_snoc (g : Nat → Int) (k : Nat) : rowI g (k + 1) = rowI g k ++ [g k] := by simp [rowI, List.range_succ]
theorem rowI_row {w : World} {base : Nat} {v : Value} {g : Nat → Int} {k : Nat} (h : IntsOwn w base v (rowI g k)) :
    ∃ p cap, v = .slice p k cap ∧ k ≤ cap ∧ cap ≤ maxLen ∧ RowP w p 1 k (fun i => [.int .i64 (g i)]) := by
  obtain ⟨p, cap, e1, h1, h2, R⟩ := h.open
  rw [rowI_len] at e1 h1 R
  refine ⟨p, cap, e1, h1, h2, R.imp id fun ⟨b, o, e2, r⟩ => ⟨b, o, e2, r.lt, fun i hi j u hu => r.cell i hi j u ?_⟩⟩
  rw [show (rowI g k).getD i 0 = g i by simp [rowI, List.getD, hi]]
  exact hu

theorem nw1 (w : World) (c : Array Value) (t : TypeId) : ∀ j u, c.toList[j]? = some u → (w.alloc (.cells c t)).drew.cell? (Addr.add ⟨w.heap.size, 0, none⟩ j) = some u :=
  World.news_of_block (cs := c) (t := t) (fr := (0, 0)) (heap_alloc_new w _)
theorem nw1' (w : World) (c : Array Value) (t : TypeId) : ∀ j u, c.toList[j]? = some u → (w.alloc (.cells c t)).cell? (Addr.add ⟨w.heap.size, 0, none⟩ j) = some u :=
  World.news_of_block (cs := c) (t := t) (fr := (0, 0)) (heap_alloc_new w _)
theorem nw_old (w : World) (o : Obj) (k : Nat) (h : k < w.heap.size) : (w.alloc o).heap[k]? = w.heap[k]? := (Below.alloc (Below.refl _ _) (Nat.le_refl _) o).block k h
theorem nw2a (w : World) (c : Array Value) (t : TypeId) (o : Obj) : ∀ j u, c.toList[j]? = some u → ((w.alloc (.cells c t)).alloc o).drew.cell? (Addr.add ⟨w.heap.size, 0, none⟩ j) = some u :=
  World.news_of_block (cs := c) (t := t) (fr := (0, 0)) ((nw_old _ o _ (by simp)).trans (heap_alloc_new w _))
theorem nw2b (w : World) (c : Array Value) (t : TypeId) (o : Obj) : ∀ j u, c.toList[j]? = some u → ((w.alloc o).alloc (.cells c t)).drew.cell? (Addr.add ⟨w.heap.size + 1, 0, none⟩ j) = some u := by
  have := World.news_of_block (w := ((w.alloc o).alloc (.cells c t)).drew) (cs := c) (t := t) (fr := (0, 0)) (heap_alloc_new (w.alloc o) _)
  rwa [World.size_alloc] at this
theorem nw_grown {w w1 : World} {r : Option Nat} {b : Nat} {c : List Value} (h : ∀ j u, c[j]? = some u → w.cell? (Addr.add ⟨b, 0, none⟩ j) = some u) (g : w.grownBy w1 r) (hb : b < w.heap.size) (hr : some b ≠ r) :
    ∀ j u, c[j]? = some u → w1.cell? (Addr.add ⟨b, 0, none⟩ j) = some u := fun j u hu => by
  have e : (Addr.add ⟨b, 0, none⟩ j) = (⟨b, j, none⟩ : Addr) := by unfold Addr.add; split <;> simp_all
  have := h j u hu
  rw [e] at this ⊢
  exact (g.cell_far ⟨b, j, none⟩ hb hr).trans this

theorem intsTwo {base : Nat} {wx W1 w1 W2 w2 : World} {v u v6 : Value} {l : List Int} (I : IntsOwn wx base v6 l) (n4 : v6.ownBlock = none ∨ v6.ownBlock ≠ v.ownBlock) (n5 : v6.ownBlock = none ∨ v6.ownBlock ≠ u.ownBlock)
    (b1 : Below wx.heap.size wx W1) (g1 : W1.grownBy w1 v.ownBlock) (b2 : Below w1.heap.size w1 W2) (g2 : W2.grownBy w2 u.ownBlock) : IntsOwn w2 base v6 l :=
  (ownE_more ((ownE_more I b1).kept g1 n4) b2).kept g2 n5
theorem entsKeep {base : Nat} {w2 w9 : World} {v v6 : Value} {L : List En} {l : List Int} {o : Obj} (E : EntsOwn w2 base v L) (I : IntsOwn w2 base v6 l) (g : (w2.alloc o).grownBy w9 v6.ownBlock) : EntsOwn w9 base v L :=
  (ownE_more E (Below.alloc (Below.refl _ _) (Nat.le_refl _) o)).kept g (by
    cases hh : v.ownBlock with
    | none => exact .inl rfl
    | some k => exact .inr fun h => own_apart E I (by decide) k hh h.symm)

set_option maxRecDepth 100000 in
set_option maxHeartbeats 40000000 in
theorem nmapGone (c : Array Value) (F : Nat → Int) (hc : Nums c .i64 256 F) (w : World) :
    Calls Try.prog 11 #[.agg c] w fun e w' => e = .returned (.bool true) ∧ Below w.heap.size w w' := by
  obtain ⟨i0, hi, hz0, hz1, hz2⟩ := info_parts enTab
  obtain ⟨j0, hj', hy0, hy1, hy2⟩ := info_parts intTab
  have KL := hid alive17
  have sz := hc.size
  have one := hc.one
  have hlen := ids_len F 256
  have hS := some_ids F 256 rfl
  have KI0 : ∀ w, Calls Try.prog 29 #[.agg c] w fun e w' => ∃ v, e = .returned v ∧ NewIntsN (idsL F 256) v w' ∧ Below w.heap.size w w' := fun w =>
    (ids_any c F hc w).mono fun e w' h => by
      obtain ⟨v, e1, h1, h2⟩ := h
      obtain ⟨p, cap, rfl, g1, g2, R⟩ := h1.open
      exact ⟨_, e1, ⟨p, cap, rfl, g1, g2, R⟩, h2⟩
  generalize idsL F 256 = Ln at *
  obtain ⟨n, hn⟩ : ∃ n, Ln.length = n := ⟨_, rfl⟩
  obtain ⟨a, ha⟩ : ∃ a : Nat → Int, (fun i => Ln.getD i 0) = a := ⟨_, rfl⟩
  rw [ha, hn] at hS
  have KI := hid (fun w => show Calls Try.prog 29 #[.agg c] w fun e w' => ∃ p cap, e = .returned (.slice p n cap) ∧ n ≤ cap ∧ cap ≤ maxLen ∧ RowP w' p 1 n (fun i => [.int .i64 (a i)]) ∧ Below w.heap.size w w' from
    (KI0 w).mono fun e w' h => by
      obtain ⟨v, e1, ⟨p, cap, rfl, g1, g2, R⟩, h2⟩ := h
      rw [hn] at e1 g1 R
      subst ha
      exact ⟨p, cap, e1, g1, g2, R, h2⟩)
  rw [hn] at hlen
  clear KI0 hn ha
  have GX := gone_cells hc hS (fun _ => 0)
  have BX := back_cells hc GX hS
  have KG := hid (fun p cap w' (h1 : n ≤ cap) (h2 : cap ≤ maxLen) (HL : RowP w' p 2 n (fun i => ecells (goneE a i))) => show Calls Try.prog 31 #[.agg c, .slice p n cap, .slice none 0 0] w' fun e w'' => e = .returned (.tuple #[.agg (cellA c (goneE a) (fun _ => 0) n), .bool true]) ∧ Below w'.heap.size w' w'' by
    have := napply_any c F hc p n cap (goneE a) h1 h2 none 0 0 (fun _ => 0) (Nat.le_refl _) (Nat.zero_le _) w' HL (.inl rfl)
    rw [show resA c (goneE a) (fun _ => 0) 0 n = cellA c (goneE a) (fun _ => 0) n by unfold resA; rw [if_pos (gone_done hS)], gone_done hS] at this
    exact this)
  generalize cellA c (goneE a) (fun _ => 0) n = x at *
  have KB := hid (fun p cap q capm w' (h1 : n ≤ cap) (h2 : cap ≤ maxLen) (m1 : n ≤ capm) (m2 : capm ≤ maxLen) (HL : RowP w' p 2 n (fun i => ecells (backE a i))) (HA : RowP w' q 1 n (fun i => [.int .i64 (atE F a i)])) => show Calls Try.prog 31 #[.agg x, .slice p n cap, .slice q n capm] w' fun e w'' => e = .returned (.tuple #[.agg c, .bool true]) ∧ Below w'.heap.size w' w'' by
    have := napply_any x _ GX p n cap (backE a) h1 h2 q n capm (atE F a) m1 m2 w' HL HA
    rw [show resA x (backE a) (atE F a) n n = c by unfold resA; rw [if_pos (back_done hS), BX], back_done hS] at this
    exact this)
  have KX := hid (fun w => show Calls Try.prog 29 #[.agg x] w fun e w' => ∃ p cap, e = .returned (.slice p 0 cap) ∧ Below w.heap.size w w' from
    (ids_any x _ GX w).mono fun e w' h => by
      obtain ⟨v, e1, h1, h2⟩ := h
      rw [gone_none] at h1
      obtain ⟨p, cap, rfl, g1, g2, R⟩ := h1.open
      exact ⟨p, cap, e1, h2⟩)
  have szx := GX.size
  have onex := GX.one
  have heq := fun w => eql_numsn Try.underlying44 hc w
  have hSh := hid hS
  have hch := hid hc
  obtain ⟨B0, H⟩ := @boxed1 w _ c 44 (Below.refl _ _)
  have HH := hid H
  have hB0 := hid B0
  clear hc H B0 GX BX hS
  go_enter Try.func11, Try.ntmps11
  go_wp2_with fail
  refine (KL.out _).mono ?_
  rintro e w1 ⟨rfl, hb1⟩
  have hbb := hid (below2 HH.out hb1 HH.out.size)
  have C0 := hid (hB0.out.more hb1)
  have hr := hid C0.out.range
  clear hb1 HH hB0 KL
  go_wp2_with (refine wpList_load_mid rfl 44 _ rfl w.heap.size 0 rfl c.toList _ hr.out Try.underlying44 rfl (by rw [tab256n]; simp [sz]) ?_)
  refine (KI.out _).mono ?_
  rintro e w3 ⟨pi, ci, rfl, i1, i2, RI, hb3⟩
  have C3 := hid (C0.out.more hb3)
  have H3 := hid (below2 hbb.out hb3 hbb.out.size)
  have RIh := hid RI
  have hlt0 := C3.out.lt
  clear hb3 hbb C0 hr RI
  go_wp2_with fail
  go_loopw [4, 5, 6, 7] (fun v4 v5 v6 i wr => ∃ k : Nat, k ≤ n ∧ i = .int .i64 (k : Int) ∧ EntsOwn wr w3.heap.size v4 (rowE (goneE a) k) ∧ EntsOwn wr w3.heap.size v5 (rowE (backE a) k) ∧ IntsOwn wr w3.heap.size v6 (rowI (atE F a) k) ∧ (∀ b, v4.ownBlock = some b → v5.ownBlock ≠ some b) ∧ Below w3.heap.size w3 wr) (fun _ _ _ i _ => n - (intOf i).toNat)
  case atStart => exact ⟨0, by omega, rfl, EntsOwn.nil _ _, EntsOwn.nil _ _, IntsOwn.nil _ _, fun b h => (by cases h), Below.refl _ _⟩
  case round =>
    obtain ⟨k, hk, rfl, E4, E5, I6, hap, Hb⟩ := hrel
    by_cases hlt : k < n
    · obtain ⟨j, j1, j2, hj, hF⟩ := hSh.out.at_ k hlt
      obtain ⟨b, o, rfl, RR0⟩ := RIh.out.row (by omega)
      have hbw : b < w3.heap.size := RR0.lt
      have y0 := (RR0.more Hb).at0 hlt (v := .int .i64 (j : Int)) (by rw [hj]; rfl)
      rw [Nat.mul_one] at y0
      obtain ⟨p4, c4, rfl, a1, a2, _⟩ := rowE_row E4
      obtain ⟨p5, c5, rfl, a3, a4, _⟩ := rowE_row E5
      obtain ⟨p6, c6, rfl, a5, a6, _⟩ := rowI_row I6
      have sn4 := hid (rowE_snoc (goneE a) k)
      have sn5 := hid (rowE_snoc (backE a) k)
      have sn6 := hid (rowI_snoc (atE F a) k)
      have ln4 := rowE_len (goneE a) k
      have ln5 := rowE_len (backE a) k
      generalize rowE (goneE a) k = L4 at *
      generalize rowE (backE a) k = L5 at *
      have E4h := hid E4
      have E5h := hid E5
      have O := E4
      have U := E5
      unfold EntsOwn at O U
      rw [ln4] at O
      rw [ln5] at U
      have I6h := hid I6
      have Hbh := hid Hb
      have hbase : w3.heap.size ≤ wr.heap.size := Hb.size
      have hkl : (k : Int) < (n : Int) := by omega
      have hk0 : (0 : Int) ≤ (k : Int) := by omega
      have hap1 := hid hap
      have au : (Value.slice p5 k c5).ownBlock = none ∨ (Value.slice p5 k c5).ownBlock ≠ (Value.slice p4 k c4).ownBlock := by
        cases hh : (Value.slice p5 k c5).ownBlock with
        | none => exact .inl rfl
        | some g => exact .inr fun h => hap g h.symm hh
      have au2 : some wr.heap.size ≠ (Value.slice p4 k c4).ownBlock := fun h => by have := (O.lt _ h.symm).2; omega
      have au3 : some (wr.heap.size + 1) ≠ (Value.slice p4 k c4).ownBlock := fun h => by have := (O.lt _ h.symm).2; omega
      have ab2 : (Value.slice p5 k c5).ownBlock ≠ some b := fun h => by have := (U.lt b h).1; omega
      have ab1 : (Value.slice p4 k c4).ownBlock ≠ some b := fun h => by have := (O.lt b h).1; omega
      have hbr : b < wr.heap.size := by omega
      have hk256 : k < 256 := by omega
      have n4 : (Value.slice p6 k c6).ownBlock = none ∨ (Value.slice p6 k c6).ownBlock ≠ (Value.slice p4 k c4).ownBlock := by
        cases hh : (Value.slice p6 k c6).ownBlock with
        | none => exact .inl rfl
        | some g => exact .inr fun h => own_apart O I6 (by decide) g h.symm hh
      have n5 : (Value.slice p6 k c6).ownBlock = none ∨ (Value.slice p6 k c6).ownBlock ≠ (Value.slice p5 k c5).ownBlock := by
        cases hh : (Value.slice p6 k c6).ownBlock with
        | none => exact .inl rfl
        | some g => exact .inr fun h => own_apart U I6 (by decide) g h.symm hh
      have n4 := hid n4
      have n5 := hid n5
      have sn4' := hid (show rowE (goneE a) (k + 1) = L4 ++ [⟨2, (j : Int)⟩] by rw [sn4.out]; unfold goneE; rw [hj])
      have sn5' := hid (show rowE (backE a) (k + 1) = L5 ++ [⟨1, (j : Int)⟩] by rw [sn5.out]; unfold backE; rw [hj])
      have sn6' := hid (show rowI (atE F a) (k + 1) = rowI (atE F a) k ++ [F j] by rw [sn6.out]; unfold atE; rw [hj]; rfl)
      have ln6 := rowI_len (atE F a) k
      generalize rowI (atE F a) k = l6 at *
      have hjh := hid hj
      have hj0 : (0 : Int) ≤ (j : Int) := by omega
      have hj256 : (j : Int) < 256 := by omega
      clear E4 E5 I6 Hb hap RR0 hj hF sn4 sn5 sn6
      go_wp2_with fail
      go_region_held3 (fun w' => w'.cell? ⟨b, o + k, none⟩ = some (.int .i64 (j : Int)))
        (first
          | go_keep
          | (rw [hgrow1.cell_far _ (by simp; omega) (Ne.symm ab1)]; assumption)
          | (have hs1 := hgrow1.size
             simp only [World.size_alloc, World.size_drew] at hs1
             rw [hgrow2.cell_far _ (by simp; omega) (Ne.symm ab2)]; first | assumption | go_keep)
          | fail)
        (first
          | (refine step_append_lies _ (by rfl) _ _ _ (by rfl) w3.heap.size 61 i0 _ 2 16 Try.underlying59 hi hz0 hz1 hz2 rfl (by omega) (.slice p4 k c4) k (flatE L4) (by rfl) (by first | with_reducible exact (O.alloc _).drew | with_reducible exact ((O.alloc _).alloc _).drew) _ 1 1 (#[.int .i64 2, .int .i64 (j : Int)] : Array Value).toList (by rfl) (by rfl) (by first | with_reducible exact nw1 _ _ _ | with_reducible exact nw2a _ _ _ _ | with_reducible exact nw2b _ _ _ _) (by simp [Value.oneCell']) (by omega) (by unfold maxLen; omega) (by omega) (by simp; omega) _ rfl ?_; intro g1 cap1 w1 hown1 hgrow1 hat1 hlt1)
          | (refine step_append_lies _ (by rfl) _ _ _ (by rfl) w3.heap.size 61 i0 _ 2 16 Try.underlying59 hi hz0 hz1 hz2 rfl (by omega) (.slice p5 k c5) k (flatE L5) (by rfl) (by first | with_reducible exact (((U.alloc _).drew).kept hgrow1 au).alloc _ | with_reducible exact (((U.alloc _).alloc _).drew).kept hgrow1 au) _ 1 1 (#[.int .i64 1, .int .i64 (j : Int)] : Array Value).toList (by rfl) (by rfl) (by first | with_reducible exact nw1' _ _ _ | with_reducible exact nw_grown (nw2a _ _ _ _) hgrow1 (by simp; omega) au2 | with_reducible exact nw_grown (nw2b _ _ _ _) hgrow1 (by simp) au3) (by simp [Value.oneCell']) (by omega) (by unfold maxLen; omega) (by omega) (by have := hgrow1.size; simp at this ⊢; omega) _ rfl ?_; intro g2 cap2 w2 hown2 hgrow2 hat2 hlt2)
          | fail)
      all_goals
        have E := entsTwo (x := ⟨2, (j : Int)⟩) (y := ⟨1, (j : Int)⟩) E4h.out E5h.out hap1.out Hbh.out hbase (by first | exact (Below.alloc (Below.refl _ _) (Nat.le_refl _) _).drew | exact (Below.alloc (Below.alloc (Below.refl _ _) (Nat.le_refl _) _) (by simp) _).drew) hgrow1 hat1 hlt1 (by first | exact Below.refl _ _ | exact Below.alloc (Below.refl _ _) (Nat.le_refl _) _) hgrow2 hat2 (by rw [ln4]; exact hown1) (by rw [ln5]; exact hown2)
        rw [ln4, ln5] at E
        replace E := hid E
        have I7 := hid (intsTwo I6h.out n4.out n5.out (by first | exact (Below.alloc (Below.refl _ _) (Nat.le_refl _) _).drew | exact (Below.alloc (Below.alloc (Below.refl _ _) (Nat.le_refl _) _) (by simp) _).drew) hgrow1 (by first | exact Below.refl _ _ | exact Below.alloc (Below.refl _ _) (Nat.le_refl _) _) hgrow2)
        have H2 := hid E.out.2.2.2
        clear hown1 hown2 hgrow1 hgrow2 hat1 hat2 hlt1 hlt2 O U y0
        obtain ⟨b', o', e', RR2⟩ := (RIh.out.more H2.out).row (by omega)
        cases e'
        have y2 := RR2.at0 hlt (v := .int .i64 (j : Int)) (by rw [hjh.out]; rfl)
        rw [Nat.mul_one] at y2
        have z9 := ((C3.out.more H2.out).cell j).trans (hch.out.get j j1)
        have szw : w3.heap.size ≤ w2.heap.size := H2.out.size
        have hnews := hid (new_cells w2 #[.int .i64 (F j)] 3)
        have OO := I7.out
        unfold IntsOwn at OO
        rw [ln6] at OO
        replace OO := hid OO
        clear RR2
        generalize F j = x9 at *
        go_wp2_with (at_builtin; refine wpList_append_own _ rfl _ _ 22 rfl w3.heap.size 3 j0 (.int .i64 0) 1 8 Try.underlying22 hj' hy0 hy1 hy2 rfl (by decide) (.slice p6 k c6) k (l6.map (Value.int .i64)) (by kernel_rfl) (OO.out.alloc _) ⟨w2.heap.size, 0, none⟩ 1 1 [.int .i64 x9] (by kernel_rfl) rfl hnews.out (one_int _) (by unfold maxLen; omega) (by omega) (by first | omega | (simp; omega)) ?_)
        intro v9 w9 hown hgrow hne
        have G := hid (ints_grow (x := x9) H2.out I7.out szw (by rw [ln6]; exact hown) hgrow)
        have K4 := hid (entsKeep E.out.1 I7.out hgrow)
        have K5 := hid (entsKeep E.out.2.1 I7.out hgrow)
        clear hown hgrow hne hnews OO
        go_wp2_with fail
        go_roundw
        case rel => exact ⟨k + 1, by omega, by go_num, by rw [sn4'.out]; exact K4.out, by rw [sn5'.out]; exact K5.out, by rw [sn6'.out]; exact G.out.1, E.out.2.2.1, G.out.2⟩
        case measure => simp [intOf]; omega
    · obtain rfl : k = n := by omega
      obtain ⟨p4, c4, rfl, a1, a2, R4⟩ := rowE_row E4
      obtain ⟨p5, c5, rfl, a3, a4, R5⟩ := rowE_row E5
      obtain ⟨p6, c6, rfl, a5, a6, R6⟩ := rowI_row I6
      have R5h := hid R5
      have R6h := hid R6
      have KG := hid (KG.out p4 c4 wr a1 a2 R4)
      have P0 := hid (C3.out.more Hb)
      have HE := hid (below2 H3.out Hb H3.out.size)
      have r6 := hid P0.out.range
      clear E4 E5 I6 hap Hb R4 R5 R6 C3 H3
      go_wp2_with (refine wpList_load_mid rfl 44 _ rfl w.heap.size 0 rfl c.toList _ r6.out Try.underlying44 rfl (by rw [tab256n]; simp [sz]) ?_)
      refine KG.out.mono ?_
      rintro e w7 ⟨rfl, hb7⟩
      have Q0 := hid (P0.out.more hb7)
      have R5i := hid (R5h.out.more hb7)
      have R6i := hid (R6h.out.more hb7)
      have H7 := hid (below2 HE.out hb7 HE.out.size)
      clear hb7 KG r6 R5h R6h P0
      go_upto_region 12 with (first
        | (refine Go.Great.wpList_runTo rfl (some 8) rfl _ _ (alloc256n _ _ _ _ _ _) ?_)
        | (refine wpList_store_mid rfl 44 _ _ rfl w7.heap.size 0 x rfl rfl ((Blk.new w7 (Array.replicate 256 (.int .i64 0)) 44).there (by rw [szx]; simp)) (by rw [tab256n, szx]) onex ?_))
      generalize hW8 : World.setCells _ _ _ _ = W8
      obtain ⟨U0, U1⟩ : Blk W8 w7.heap.size x ∧ Below w7.heap.size w7 W8 := by
        subst hW8
        exact ⟨(Blk.new w7 (Array.replicate 256 (.int .i64 0)) 44).whole (by rw [szx]; simp), below_cells ((Below.refl _ _).alloc (Nat.le_refl _) _) (Nat.le_refl _) _ _⟩
      have V0 := hid (Q0.out.more U1)
      have V1 := hid U0
      have s1 := hid U0.range
      have KB := hid (KB.out p5 c5 p6 c6 W8 a3 a4 a5 a6 (R5i.out.more U1) (R6i.out.more U1))
      have H8 := hid (below2 H7.out U1 H7.out.size)
      clear U0 U1 hW8 R5i R6i Q0
      generalize w7.heap.size = b7 at *
      go_wp2_with (refine wpList_load_mid rfl 44 _ rfl b7 0 rfl x.toList _ s1.out Try.underlying44 rfl (by rw [tab256n]; simp [szx]) ?_)
      refine KB.out.mono ?_
      rintro e w9 ⟨rfl, hb9⟩
      have X0 := hid (V0.out.more hb9)
      have X1 := hid (V1.out.more hb9)
      have H9 := hid (below2 H8.out hb9 H8.out.size)
      clear hb9 KB V0 V1 s1
      go_upto_region 13 with (first
        | (refine Go.Great.wpList_runTo rfl (some 10) rfl _ _ (alloc256n _ _ _ _ _ _) ?_)
        | (refine wpList_store_mid rfl 44 _ _ rfl w9.heap.size 0 c rfl rfl ((Blk.new w9 (Array.replicate 256 (.int .i64 0)) 44).there (by rw [sz]; simp)) (by rw [tab256n, sz]) one ?_))
      generalize hWa : World.setCells _ _ _ _ = WA
      obtain ⟨U0, U1⟩ : Blk WA w9.heap.size c ∧ Below w9.heap.size w9 WA := by
        subst hWa
        exact ⟨(Blk.new w9 (Array.replicate 256 (.int .i64 0)) 44).whole (by rw [sz]; simp), below_cells ((Below.refl _ _).alloc (Nat.le_refl _) _) (Nat.le_refl _) _ _⟩
      have Y0 := hid (X0.out.more U1)
      have Y1 := hid (X1.out.more U1)
      have Y2 := hid U0
      have rx := hid Y1.out.range
      have HA := hid (below2 H9.out U1 H9.out.size)
      clear U0 U1 hWa X0 X1
      generalize w9.heap.size = b9 at *
      go_wp2_with fail
      refine wp_load_mid 44 _ rfl b7 0 rfl x.toList _ rx.out Try.underlying44 rfl (by rw [tab256n]; simp [szx]) ?_
      go_wp2_with fail
      refine (KX.out _).mono ?_
      rintro e wz ⟨pz, cz, rfl, hbz⟩
      have rc := hid (Y2.out.more hbz).range
      have rm := hid (Y0.out.more hbz).range
      have HZ := hid (below2 HA.out hbz HA.out.size)
      clear hbz KX
      go_wp2_with fail
      refine wp_load_mid 44 _ rfl b9 0 rfl c.toList _ rc.out Try.underlying44 rfl (by rw [tab256n]; simp [sz]) ?_
      go_wp2_with fail
      refine wp_load_mid 44 _ rfl w.heap.size 0 rfl c.toList _ rm.out Try.underlying44 rfl (by rw [tab256n]; simp [sz]) ?_
      go_wp2_with fail
      go_ret
      exact ⟨rfl, HZ.out⟩
end Go.Proofs.Ytjmacojlneldaaa
