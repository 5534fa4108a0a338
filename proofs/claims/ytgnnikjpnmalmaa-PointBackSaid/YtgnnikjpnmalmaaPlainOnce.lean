/-
  The document's own: points that may be, the first of each Id, at most so many.
-/
import Derived.Test.YtgnnikjpnmalmaaPtRow
import Derived.Test.YtgnnikjpnmalmaaPlainIn
import Derived.Test.YtgnnikjpnmalmaaPointGet
import Derived.Deep.RegionHeld3
import Derived.Deep.AppendLies
import Derived.OwnWalk
namespace Go.Proofs.Ytgnnikjpnmalmaa
open Go.RowKit
set_option linter.unusedVariables false
set_option linter.unusedSimpArgs false

/-- Whole numbers in a row of the call's own. -/
def IntsOwn (w : World) (base : Nat) (v : Value) (l : List Int) : Prop := w.ownsRow base 3 1 v l.length (l.map (Value.int .i64))
theorem IntsOwn.open {w : World} {base : Nat} {v : Value} {l : List Int} (h : IntsOwn w base v l) :
    ∃ p cap, v = .slice p l.length cap ∧ l.length ≤ cap ∧ cap ≤ maxLen ∧ RowP w p 1 l.length (fun i => [.int .i64 (l.getD i 0)]) := by
  rcases h.2 with ⟨rfl, h0⟩ | ⟨g, cap, cur, rfl, hb, hg, h1, h2, h3, h4⟩
  · exact ⟨none, 0, by rw [h0], by omega, Nat.zero_le _, .inl h0⟩
  · refine ⟨_, cap, rfl, h1, h2, .inr ⟨g, 0, rfl, (h.lt g rfl).2, fun i hi j u hu => ?_⟩⟩
    rcases j with _ | j
    · simp at hu
      subst hu
      have := h.cells (g := g) rfl i (.int .i64 (l.getD i 0)) (by simp [hi])
      unfold Addr.add at this
      rw [Nat.zero_add, Nat.mul_one, Nat.add_zero]
      split at this
      · rename_i e
        subst e
        exact this
      · simpa using this
    · simp at hu
theorem inB_list (l : List Int) (x : Int) : inB (fun i => l.getD i 0) x l.length = true ↔ x ∈ l := by
  rw [inB_iff]
  constructor
  · rintro ⟨i, hi, rfl⟩
    simp [hi]
  · intro h
    obtain ⟨i, hi, e⟩ := List.getElem_of_mem h
    exact ⟨i, hi, by simp [hi, e]⟩

theorem news1 (w : World) (c : Array Value) (t : TypeId) : ∀ j u, c.toList[j]? = some u → (w.alloc (.cells c t)).drew.cell? (Addr.add ⟨w.heap.size, 0, none⟩ j) = some u :=
  World.news_of_block (cs := c) (t := t) (fr := (0, 0)) (heap_alloc_new w _)
theorem news1' (w : World) (c : Array Value) (t : TypeId) : ∀ j u, c.toList[j]? = some u → (w.alloc (.cells c t)).cell? (Addr.add ⟨w.heap.size, 0, none⟩ j) = some u :=
  World.news_of_block (cs := c) (t := t) (fr := (0, 0)) (heap_alloc_new w _)
theorem heap_old (w : World) (o : Obj) (k : Nat) (h : k < w.heap.size) : (w.alloc o).heap[k]? = w.heap[k]? := (Below.alloc (Below.refl _ _) (Nat.le_refl _) o).block k h
theorem news2a (w : World) (c : Array Value) (t : TypeId) (o : Obj) : ∀ j u, c.toList[j]? = some u → ((w.alloc (.cells c t)).alloc o).drew.cell? (Addr.add ⟨w.heap.size, 0, none⟩ j) = some u :=
  World.news_of_block (cs := c) (t := t) (fr := (0, 0)) ((heap_old _ o _ (by simp)).trans (heap_alloc_new w _))
theorem news2b (w : World) (c : Array Value) (t : TypeId) (o : Obj) : ∀ j u, c.toList[j]? = some u → ((w.alloc o).alloc (.cells c t)).drew.cell? (Addr.add ⟨w.heap.size + 1, 0, none⟩ j) = some u := by
  have := World.news_of_block (w := ((w.alloc o).alloc (.cells c t)).drew) (cs := c) (t := t) (fr := (0, 0)) (heap_alloc_new (w.alloc o) _)
  rwa [World.size_alloc] at this
/-- Behind the growth of another row. -/
theorem news_grown {w w1 : World} {r : Option Nat} {b : Nat} {c : List Value} (h : ∀ j u, c[j]? = some u → w.cell? (Addr.add ⟨b, 0, none⟩ j) = some u) (g : w.grownBy w1 r) (hb : b < w.heap.size) (hr : some b ≠ r) :
    ∀ j u, c[j]? = some u → w1.cell? (Addr.add ⟨b, 0, none⟩ j) = some u := fun j u hu => by
  have e : (Addr.add ⟨b, 0, none⟩ j) = (⟨b, j, none⟩ : Addr) := by unfold Addr.add; split <;> simp_all
  have := h j u hu
  rw [e] at this ⊢
  exact (g.cell_far ⟨b, j, none⟩ hb hr).trans this

theorem ownb_more {w w' : World} {base : Nat} {e : TypeId} {size : Nat} {v : Value} {n : Nat} {xs : List Value} (h : w.ownsRow base e size v n xs) (hb : Below w.heap.size w w') : w'.ownsRow base e size v n xs :=
  own_sole h (Sole.made (S := fun _ => False) hb) fun _ _ x => x

/-- What Once has behind k points. -/
structure OnceS (w wr : World) (most : Nat) (v u : Value) (L : List Pt) : Prop where
  pts : PtsOwn wr w.heap.size v L
  ids : IntsOwn wr w.heap.size u (L.map Pt.id)
  most : L.length ≤ most
  may : ∀ q ∈ L, q.ok ∧ q.may
  once : (L.map Pt.id).Nodup
  below : Below w.heap.size w wr

theorem once_step {w wx W1 w1 W2 w2 : World} {most : Nat} {v u v1 u1 : Value} {L : List Pt} {P : Pt} (S : OnceS w wx most v u L) (hP : P.ok) (hm : P.may) (hin : P.id ∉ L.map Pt.id) (hlen : L.length < most)
    (b1 : Below wx.heap.size wx W1) (g1 : W1.grownBy w1 v.ownBlock) (b2 : Below w1.heap.size w1 W2) (g2 : W2.grownBy w2 u.ownBlock)
    (o1 : w1.ownsRow w.heap.size 33 4 v1 (L.length + 1) (flatP L ++ [.int .i64 P.id, .int .u32 P.x, .int .u32 P.y, .string P.d]))
    (o2 : w2.ownsRow w.heap.size 3 1 u1 (L.length + 1) ((L.map Pt.id).map (Value.int .i64) ++ [.int .i64 P.id])) : OnceS w w2 most v1 u1 (L ++ [P]) := by
  have U := S.ids
  have O := S.pts
  unfold PtsOwn at O
  unfold IntsOwn at U
  have U1 := ownb_more U b1
  have O1 := ownb_more O b1
  have nu : u.ownBlock = none ∨ u.ownBlock ≠ v.ownBlock := by
    cases hh : u.ownBlock with
    | none => exact .inl rfl
    | some g => exact .inr fun h => own_apart O U (by decide) g h.symm hh
  have U2 := ownb_more (U1.kept g1 nu) b2
  have p1 := ownb_more o1 b2
  have nv : v1.ownBlock = none ∨ v1.ownBlock ≠ u.ownBlock := by
    cases hh : v1.ownBlock with
    | none => exact .inl rfl
    | some g => exact .inr fun h => own_apart p1 U2 (by decide) g hh h.symm
  have p2 := p1.kept g2 nv
  have s0 := S.below.size
  have s1 := b1.size
  have s2 := g1.size
  have s3 := b2.size
  refine ⟨?_, ?_, by simp; omega, ?_, ?_, ?_⟩
  · unfold PtsOwn
    rw [flatP_append, flatP_one, List.length_append]
    exact p2
  · unfold IntsOwn
    rw [List.length_map, List.length_append, List.map_append, List.map_append]
    exact o2
  · intro q hq
    rcases List.mem_append.1 hq with h | h
    · exact S.may q h
    · simp at h; subst h; exact ⟨hP, hm⟩
  · rw [List.map_append]
    refine List.nodup_append.2 ⟨S.once, by simp, ?_⟩
    intro a ha b hb e
    simp at hb
    subst hb
    subst e
    exact hin ha
  · have c1 : Below w.heap.size w W1 := below2 S.below b1 s0
    have c2 : Below w.heap.size w w1 := Below.grown c1 g1 (by omega) fun k e => (O1.lt k e).1
    have c3 : Below w.heap.size w W2 := below2 c2 b2 (by omega)
    exact Below.grown c3 g2 (by omega) fun k e => (U2.lt k e).1

set_option maxRecDepth 100000 in
set_option maxHeartbeats 4000000 in
theorem once_any (p : Option Addr) (n cap : Nat) (f : Nat → Pt) (hf : ∀ i, i < n → (f i).ok) (h1 : n ≤ cap) (h2 : cap ≤ maxLen) (most : Nat) (hm : most ≤ 1000) (w : World) (HA : RowP w p 4 n (fun i => pcells (f i))) :
    Calls Try.prog 36 #[.slice p n cap, .int .i64 most] w fun e w' => ∃ v L, e = .returned v ∧ PtsOwn w' w.heap.size v L ∧ L.length ≤ most ∧ (∀ q ∈ L, q.ok ∧ q.may) ∧ (L.map Pt.id).Nodup ∧ Below w.heap.size w w' := by
  obtain ⟨i0, hi, hz0, hz1, hz2⟩ := info_parts ptTab
  obtain ⟨j0, hj, hy0, hy1, hy2⟩ := info_parts intTab
  unfold maxLen at h2
  replace HA := hid HA
  replace hf := hid hf
  go_enter Try.func36, Try.ntmps36
  go_wp2_with fail
  go_loopw [5, 6, 7] (fun v u i wr => ∃ (k : Nat) (L : List Pt), k ≤ n ∧ i = .int .i64 (k : Int) ∧ OnceS w wr most v u L) (fun _ _ i _ => n - (intOf i).toNat)
  case atStart => exact ⟨0, [], by omega, rfl, ⟨PtsOwn.nil _ _, World.ownsRow_nil _ _ _ _, by simp, by simp, by simp, Below.refl _ _⟩⟩
  case round =>
    obtain ⟨k, L, hk, rfl, S⟩ := hrel
    obtain ⟨pv, cv, rfl, c1, c2, RV⟩ := S.pts.open
    obtain ⟨pu, cu, rfl, d1, d2, RU⟩ := S.ids.open
    have hlm := S.most
    rw [List.length_map] at d1 RU S
    unfold maxLen at c2 d2
    simp only [List.length_map]
    replace S := hid S
    replace RV := hid RV
    replace RU := hid RU
    by_cases hlt : k < n
    · by_cases hlen : L.length < most
      · obtain ⟨b, o, rfl, R0⟩ := HA.out.row (by omega)
        have R := R0.more S.out.below
        have y0 := R.at0 hlt (v := .int .i64 (f k).id) rfl
        have y3 := R.at3 hlt (v := .string (f k).d) rfl
        have hP := hf.out k hlt
        have hd : (f k).d.size ≤ 9223372036854775807 := hP.2.2.2.2.2.2
        replace hP := hid hP
        have KI := hid (fun (wx : World) (RX : RowP wx pu 1 L.length (fun i => [.int .i64 ((L.map Pt.id).getD i 0)])) => plainIn_any pu L.length cu (fun i => (L.map Pt.id).getD i 0) (f k).id d1 (by unfold maxLen; exact d2) wx RX)
        have hil := hid (inB_list (L.map Pt.id) (f k).id)
        rw [List.length_map] at hil
        by_cases g1 : 1 ≤ (f k).id
        · by_cases g2 : (f k).id < 2147483648
          · by_cases g3 : ((f k).d.size : Int) ≤ 16
            · cases hin : inB (fun i => (L.map Pt.id).getD i 0) (f k).id L.length with
              | true =>
                rw [hin] at KI
                replace hin := hid hin
                clear R R0
                go_wp2_with fail
                refine (KI.out _ RU.out).mono ?_
                rintro e w' ⟨rfl, rfl⟩
                go_wp2_with fail
                go_roundw
                case rel => exact ⟨k + 1, L, by omega, by go_num, S.out⟩
                case measure => simp [intOf]; omega
              | false =>
                rw [hin] at KI
                have hnew : Hid ((f k).id ∉ L.map Pt.id) := hid (fun h => by have := hil.out.2 h; rw [hin] at this; cases this)
                have hmay : Hid (f k).may := hid ⟨g1, g2, by omega⟩
                replace hin := hid hin
                clear R0
                go_wp2_with fail
                refine (KI.out _ RU.out).mono ?_
                rintro e e_w ⟨rfl, rfl⟩
                have O := S.out.pts
                have U := S.out.ids
                unfold PtsOwn at O
                unfold IntsOwn at U
                rw [List.length_map] at U
                have ap := hid (own_apart O U (by decide))
                have bel := hid S.out.below
                have au : (Value.slice pu L.length cu).ownBlock = none ∨ (Value.slice pu L.length cu).ownBlock ≠ (Value.slice pv L.length cv).ownBlock := by
                  cases hh : (Value.slice pu L.length cu).ownBlock with
                  | none => exact .inl rfl
                  | some g => exact .inr fun h => ap.out g h.symm hh
                have au2 : some e_w.heap.size ≠ (Value.slice pv L.length cv).ownBlock := fun h => by have := (O.lt _ h.symm).2; omega
                have au3 : some (e_w.heap.size + 1) ≠ (Value.slice pv L.length cv).ownBlock := fun h => by have := (O.lt _ h.symm).2; omega
                have hbx : w.heap.size ≤ e_w.heap.size := S.out.below.size
                go_wp2_with fail
                have hk0 : (0 : Int) ≤ (k : Int) := Int.natCast_nonneg _
                have hk1 : (k : Int) < (n : Int) := by omega
                have y1 := R.at1 hlt (v := .int .u32 (f k).x) rfl
                have y2 := R.at2 hlt (v := .int .u32 (f k).y) rfl
                have hbw : b < w.heap.size := (HA.out.row (by omega)).elim fun _ h => h.elim fun _ h => by cases h.1; exact h.2.lt
                have ab2 : (Value.slice pu L.length cu).ownBlock ≠ some b := fun h => by have := (U.lt b h).1; omega
                have ab1 : (Value.slice pv L.length cv).ownBlock ≠ some b := fun h => by have := (O.lt b h).1; omega
                go_region_held3 (fun w' => w'.cell? ⟨b, o + k * 4, none⟩ = some (.int .i64 (f k).id) ∧ w'.cell? ⟨b, o + k * 4 + 1, none⟩ = some (.int .u32 (f k).x) ∧ w'.cell? ⟨b, o + k * 4 + 2, none⟩ = some (.int .u32 (f k).y) ∧ w'.cell? ⟨b, o + k * 4 + 3, none⟩ = some (.string (f k).d))
                  (first
                    | go_keep
                    | (go_split_ands
                       refine ⟨?_, ?_, ?_, ?_⟩
                       · (rw [hgrow1.cell_far _ (by simp; omega) (Ne.symm ab1)]; assumption)
                       · (rw [hgrow1.cell_far _ (by simp; omega) (Ne.symm ab1)]; assumption)
                       · (rw [hgrow1.cell_far _ (by simp; omega) (Ne.symm ab1)]; assumption)
                       · (rw [hgrow1.cell_far _ (by simp; omega) (Ne.symm ab1)]; assumption))
                    | (go_split_ands
                       have hs1 := hgrow1.size
                       simp only [World.size_alloc, World.size_drew] at hs1
                       refine ⟨?_, ?_, ?_, ?_⟩
                       · (rw [hgrow2.cell_far _ (by simp; omega) (Ne.symm ab2)]; first | assumption | go_keep)
                       · (rw [hgrow2.cell_far _ (by simp; omega) (Ne.symm ab2)]; first | assumption | go_keep)
                       · (rw [hgrow2.cell_far _ (by simp; omega) (Ne.symm ab2)]; first | assumption | go_keep)
                       · (rw [hgrow2.cell_far _ (by simp; omega) (Ne.symm ab2)]; first | assumption | go_keep)))
                  (first
                    | (refine step_append_lies _ (by rfl) _ _ _ (by rfl) w.heap.size 33 i0 _ 4 32 Try.underlying51 hi hz0 hz1 hz2 rfl (by omega) (.slice pv L.length cv) L.length (flatP L) (by rfl) (by first | with_reducible exact (O.alloc _).drew | with_reducible exact ((O.alloc _).alloc _).drew) _ 1 1 (#[.int .i64 (f k).id, .int .u32 (f k).x, .int .u32 (f k).y, .string (f k).d] : Array Value).toList (by rfl) (by rfl) (by first | with_reducible exact news1 _ _ _ | with_reducible exact news2a _ _ _ _ | with_reducible exact news2b _ _ _ _) (by simp [Value.oneCell']) (by omega) (by unfold maxLen; omega) (by omega) (by simp; omega) _ rfl ?_; intro g1 cap1 w1 hown1 hgrow1 hat1 hlt1)
                    | (refine step_append_lies _ (by rfl) _ _ _ (by rfl) w.heap.size 3 j0 _ 1 8 Try.underlying128 hj hy0 hy1 hy2 rfl (by omega) (.slice pu L.length cu) L.length ((L.map Pt.id).map (Value.int .i64)) (by rfl) (by first | with_reducible exact (((U.alloc _).drew).kept hgrow1 au).alloc _ | with_reducible exact (((U.alloc _).alloc _).drew).kept hgrow1 au) _ 1 1 (#[.int .i64 (f k).id] : Array Value).toList (by rfl) (by rfl) (by first | with_reducible exact news1' _ _ _ | with_reducible exact news_grown (news2a _ _ _ _) hgrow1 (by simp; omega) au2 | with_reducible exact news_grown (news2b _ _ _ _) hgrow1 (by simp) au3) (by simp [Value.oneCell']) (by omega) (by unfold maxLen; omega) (by omega) (by have := hgrow1.size; simp at this ⊢; omega) _ rfl ?_; intro g2 cap2 w2 hown2 hgrow2 hat2 hlt2))
                all_goals
                  have E := hid (once_step S.out hP.out hmay.out hnew.out hlen (by first | exact (Below.alloc (Below.refl _ _) (Nat.le_refl _) _).drew | exact (Below.alloc (Below.alloc (Below.refl _ _) (Nat.le_refl _) _) (by simp) _).drew) hgrow1 (by first | exact Below.refl _ _ | exact Below.alloc (Below.refl _ _) (Nat.le_refl _) _) hgrow2 hown1 hown2)
                  clear hown1 hown2 hgrow1 hgrow2 hat1 hat2 O U ap bel
                  go_wp2_with fail
                  go_roundw
                  case rel => exact ⟨k + 1, L ++ [f k], by omega, by go_num, E.out⟩
                  case measure => simp [intOf]; omega
            · replace g3 := decide_eq_false g3
              clear R R0
              go_wp2_with fail
              go_roundw
              case rel => exact ⟨k + 1, L, by omega, by go_num, S.out⟩
              case measure => simp [intOf]; omega
          · replace g2 := decide_eq_false g2
            clear R R0
            go_wp2_with fail
            go_roundw
            case rel => exact ⟨k + 1, L, by omega, by go_num, S.out⟩
            case measure => simp [intOf]; omega
        · replace g1 := decide_eq_false g1
          clear R R0
          go_wp2_with fail
          go_roundw
          case rel => exact ⟨k + 1, L, by omega, by go_num, S.out⟩
          case measure => simp [intOf]; omega
      · replace hlen := decide_eq_false hlen
        go_wp2_with fail
        go_ret
        exact ⟨_, L, rfl, S.out.pts, S.out.most, S.out.may, S.out.once, S.out.below⟩
    · obtain rfl : k = n := by omega
      go_wp2
      go_ret
      exact ⟨_, L, rfl, S.out.pts, S.out.most, S.out.may, S.out.once, S.out.below⟩
end Go.Proofs.Ytgnnikjpnmalmaa
