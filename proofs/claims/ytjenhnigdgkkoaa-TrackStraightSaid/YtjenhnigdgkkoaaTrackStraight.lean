/-
  Layer 46: straightened, a way has its places, but those that lie on the side between two that are kept. The walk of TrackStraight.
-/
import Derived.Test.YtjenhnigdgkkoaaTrackAlive
import Derived.Test.YtjenhnigdgkkoaaTrackTurns
import Derived.Test.YtjenhnigdgkkoaaTrackBetween
import Derived.Test.YtjenhnigdgkkoaaTrackStrMath
import Derived.Test.YtjenhnigdgkkoaaPlainPoints
import Derived.Test.YtjenhnigdgkkoaaRegionAlloc
import Derived.Test.YtjenhnigdgkkoaaBig
import Derived.Deep.DeepCutAuto
import Derived.Deep.RegionHeld3
import Derived.Deep.AppendLies
import Derived.Outline
namespace Go.Proofs.Ytjenhnigdgkkoaa
open Go.RowKit
set_option linter.unusedVariables false
set_option linter.unusedSimpArgs false

theorem news1' (w : World) (c : Array Value) (t : TypeId) : ∀ j u, c.toList[j]? = some u → (w.alloc (.cells c t)).cell? (Addr.add ⟨w.heap.size, 0, none⟩ j) = some u :=
  World.news_of_block (cs := c) (t := t) (fr := (0, 0)) (heap_alloc_new w _)
theorem heap_old (w : World) (o : Obj) (k : Nat) (h : k < w.heap.size) : (w.alloc o).heap[k]? = w.heap[k]? := (Below.alloc (Below.refl _ _) (Nat.le_refl _) o).block k h
theorem news2a (w : World) (c : Array Value) (t : TypeId) (o : Obj) : ∀ j u, c.toList[j]? = some u → ((w.alloc (.cells c t)).alloc o).drew.cell? (Addr.add ⟨w.heap.size, 0, none⟩ j) = some u :=
  World.news_of_block (cs := c) (t := t) (fr := (0, 0)) ((heap_old _ o _ (by simp)).trans (heap_alloc_new w _))
theorem news2b (w : World) (c : Array Value) (t : TypeId) (o : Obj) : ∀ j u, c.toList[j]? = some u → ((w.alloc o).alloc (.cells c t)).drew.cell? (Addr.add ⟨w.heap.size + 1, 0, none⟩ j) = some u := by
  have := World.news_of_block (w := ((w.alloc o).alloc (.cells c t)).drew) (cs := c) (t := t) (fr := (0, 0)) (heap_alloc_new (w.alloc o) _)
  rwa [World.size_alloc] at this
theorem news_grown {w w1 : World} {r : Option Nat} {b : Nat} {c : List Value} (h : ∀ j u, c[j]? = some u → w.cell? (Addr.add ⟨b, 0, none⟩ j) = some u) (g : w.grownBy w1 r) (hb : b < w.heap.size) (hr : some b ≠ r) :
    ∀ j u, c[j]? = some u → w1.cell? (Addr.add ⟨b, 0, none⟩ j) = some u := fun j u hu => by
  have e : (Addr.add ⟨b, 0, none⟩ j) = (⟨b, j, none⟩ : Addr) := by unfold Addr.add; split <;> simp_all
  have := h j u hu
  rw [e] at this ⊢
  exact (g.cell_far ⟨b, j, none⟩ hb hr).trans this
theorem pt_makes (dst : Option Tmp) (ty : TypeId) (pos : String) (af : Array Edge) : Makes Try.prog { dst := dst, op := .alloc 25, type := ty, pos := pos, after := af, guard := none } #[.int .i64 0, .int .u32 0, .int .u32 0, .string ⟨#[]⟩] :=
  ⟨rfl, _, rfl, fun w => by kernel_rfl⟩
theorem flatP_onecell (L : List Pt) : ∀ u ∈ flatP L, u.oneCell' = true := by
  intro u hu
  simp only [flatP, List.mem_flatMap] at hu
  obtain ⟨q, _, hq⟩ := hu
  exact pt_one q u hq
theorem own_open {w : World} {base : Nat} {v : Value} {L : List Pt} {m : Nat} (hL : L.length = m + 1) (h : PtsOwn w base v L) :
    ∃ g c, v = .slice (some ⟨g, 0, none⟩) (m + 1) c ∧ m + 1 ≤ c ∧ c ≤ maxLen ∧ base ≤ g ∧ Row w g 0 4 (m + 1) (fun i => pcells (ptAt L i)) := by
  have hh := h
  obtain ⟨p, cap, e, h1, h2, R⟩ := h.open
  rcases hh.2 with ⟨rfl, h0⟩ | ⟨g, cap', cur, e', hb, hg, _⟩
  · omega
  · rw [e] at e'
    cases e'
    obtain ⟨b, o, e2, R'⟩ := R.row (by omega)
    cases e2
    rw [hL] at R' h1 e
    exact ⟨_, _, e, h1, h2, hb, R'⟩
/-- Two appends, the first to a row of its own. -/
theorem two_app {w w5 W1 w6 W2 w7 : World} {r1 r2 : Option Nat} {K : List Pt} {P : Pt} {v : Value} (hb : Below w.heap.size w w5) (c1 : Below w5.heap.size w5 W1) (g1 : W1.grownBy w6 r1) (h1 : ∀ k, r1 = some k → w.heap.size ≤ k)
    (c2 : Below w6.heap.size w6 W2) (g2 : W2.grownBy w7 r2) (h2 : ∀ k, r2 = some k → w.heap.size ≤ k) (o : w7.ownsRow w.heap.size 25 4 v (K.length + 1) (flatP K ++ [.int .i64 P.id, .int .u32 P.x, .int .u32 P.y, .string P.d])) :
    PtsOwn w7 w.heap.size v (K ++ [P]) ∧ Below w.heap.size w w7 := by
  have s0 := hb.size
  have s1 := c1.size
  have s2 := g1.size
  have s3 := c2.size
  refine ⟨?_, ?_⟩
  · unfold PtsOwn
    rw [flatP_append, flatP_one, List.length_append]
    exact o
  · have e1 : Below w.heap.size w W1 := below2 hb c1 s0
    have e2 : Below w.heap.size w w6 := Below.grown e1 g1 (by omega) h1
    have e3 : Below w.heap.size w W2 := below2 e2 c2 (by omega)
    exact Below.grown e3 g2 (by omega) h2

theorem cell_two {W w7 : World} {base g1 n cap b o : Nat} {v : Value} (hg : W.grownBy w7 (Value.slice (some ⟨g1, 0, none⟩) n cap).ownBlock) (hb : b < base) (hbase : base ≤ g1) (hW : g1 < W.heap.size) (h : W.cell? ⟨b, o, none⟩ = some v) : w7.cell? ⟨b, o, none⟩ = some v :=
  (hg.cell_far ⟨b, o, none⟩ (Nat.lt_trans (Nat.lt_of_lt_of_le hb hbase) hW) (fun h => by have e' : some b = some g1 := h; have := Option.some.inj e'; omega)).trans h
theorem two_blk {W : World} {B p q : Nat} {w0 : World} {a0 a1 a2 a3 b0 b1 b2 b3 : Value} (hb : Below B w0 W) (hp : B ≤ p) (hq : B ≤ q) {z : Array Value} (hz : z.size = 4)
    (Bp : Blk W p z) (Bq : Blk W q z) (n1 : p ≠ q) {W3 : World}
    (e : setAll (setAll W p 0 [a0, a1, a2, a3]) q 0 [b0, b1, b2, b3] = W3) : Blk W3 p #[a0, a1, a2, a3] ∧ Blk W3 q #[b0, b1, b2, b3] ∧ Below B w0 W3 := by
  subst e
  have f : ∀ (x0 x1 x2 x3 : Value), fillC z 0 [x0, x1, x2, x3] = #[x0, x1, x2, x3] := fun x0 x1 x2 x3 => fillC_whole (d := #[x0, x1, x2, x3]) (by rw [hz]; rfl)
  refine ⟨?_, ?_, below_fill hq _ 0 (below_fill hp _ 0 hb)⟩
  · have := Blk.past n1.symm [b0, b1, b2, b3] 0 (Blk.fill [a0, a1, a2, a3] 0 Bp (by rw [hz]; simp))
    rwa [f] at this
  · have := Blk.fill [b0, b1, b2, b3] 0 (Blk.past n1 [a0, a1, a2, a3] 0 Bq) (by rw [hz]; simp)
    rwa [f] at this
theorem sixty (q : Nat) (h : q ≤ 60) : 0 + (q + 1) ≤ maxLen ∧ (0 + (q + 1)) * 32 ≤ 140737488355328 ∧ (q + 1) + 1 ≤ maxLen ∧ ((q + 1) + 1) * 32 ≤ 140737488355328 := by
  unfold maxLen
  refine ⟨by omega, by omega, by omega, by omega⟩
theorem one_app {w w5 W2 w7 : World} {r2 : Option Nat} {P : Pt} {v : Value} (hb : Below w.heap.size w w5) (c1 : Below w5.heap.size w5 W2) (g2 : W2.grownBy w7 r2) (h2 : ∀ k, r2 = some k → w.heap.size ≤ k)
    (o : w7.ownsRow w.heap.size 25 4 v 1 ([.int .i64 P.id, .int .u32 P.x, .int .u32 P.y, .string P.d])) :
    PtsOwn w7 w.heap.size v [P] ∧ Below w.heap.size w w7 := by
  have s0 := hb.size
  have s1 := c1.size
  refine ⟨?_, Below.grown (below2 hb c1 s0) g2 (by omega) h2⟩
  unfold PtsOwn
  rw [flatP_one]
  exact o

set_option maxRecDepth 100000 in
set_option maxHeartbeats 40000000 in
theorem trackStraight (p : Option Addr) (n cap : Nat) (f : Nat → Pt) (hf : ∀ i, (f i).ok) (h1 : n ≤ cap) (h2 : cap ≤ maxLen) (w : World) (HA : RowP w p 4 n (fun i => pcells (f i))) :
    Calls Try.prog 7 #[.slice p n cap] w fun e w' => e = .returned (.bool true) ∧ Below w.heap.size w w' := by
  obtain ⟨i0, hi, hz0, hz1, hz2⟩ := info_parts ptTab
  have HAh := hid HA
  have hfh := hid hf
  have h12 := hid (And.intro h1 h2)
  have KA := hid alive46
  have h2' : cap ≤ 9223372036854775807 := by unfold maxLen at h2; exact h2
  clear HA hf h2
  go_enter Try.func7, Try.ntmps7
  go_wp2_with fail
  refine (KA.out _).mono ?_
  rintro e w1 ⟨rfl, hb1⟩
  have D1 := hid hb1
  clear hb1 KA
  go_upto_if 13 with (fail)
  go_cut [0] (fun s wx => ∃ N, N ≤ n ∧ N ≤ 60 ∧ s = .slice p N cap ∧ Below w.heap.size w wx)
  case first =>
    by_cases g : 60 < (n : Int)
    · have gc : (60 : Int) ≤ (cap : Int) := by omega
      go_wp2_with fail
      go_meet
      case rel => exact ⟨60, by omega, by omega, rfl, D1.out⟩
    · go_wp2_with fail
      go_meet
      case rel => exact ⟨n, by omega, by omega, rfl, D1.out⟩
  case rest =>
    obtain ⟨N, hN, hN60, rfl, hb2⟩ := hcut
    have D2 := hid hb2
    have hNc : (N : Int) ≤ (cap : Int) := by omega
    have HN := hid (HAh.out.take hN)
    clear D1 hb2 HAh
    go_wp2_with fail
    go_loopw [3, 4] (fun v i wr => ∃ k : Nat, k ≤ N ∧ i = .int .i64 (k : Int) ∧ PtsOwn wr w.heap.size v (keepL strStep f k) ∧ Below w.heap.size w wr ∧ (k = 0 → v = .slice none 0 0)) (fun _ i _ => N - (intOf i).toNat)
    case atStart => exact ⟨0, by omega, rfl, PtsOwn.nil _ _, D2.out, fun _ => rfl⟩
    case round =>
      obtain ⟨k, hk, rfl, HK, hb, hv0⟩ := hrel
      by_cases hlt : k < N
      · have hlt1 : (k : Int) < (N : Int) := by omega
        have hk0 : (0 : Int) ≤ (k : Int) := by omega
        have hlen := keep_len str_len f k
        have hmemA : ∀ q ∈ keepL strStep f k, q.ok := fun q hq => by
          obtain ⟨i, _, e⟩ := keep_mem str_mem f k q hq
          rw [e]; exact hfh.out i
        have hzs : keepL strStep f (k + 1) = strStep (keepL strStep f k) (f k) := rfl
        rw [str_law] at hzs
        have hnil : keepL strStep f k = [] → k = 0 := fun h => by
          by_cases h0 : k = 0
          · exact h0
          · have := (str_last f k (by omega)).1
            rw [h] at this; cases this
        have hbW := hid hb
        obtain ⟨b, o, rfl, R0⟩ := HN.out.row (by omega)
        have R := R0.more hb
        have z0 := R.at0 hlt (v := .int .i64 (f k).id) rfl
        have z1 := R.at1 hlt (v := .int .u32 (f k).x) rfl
        have z2 := R.at2 hlt (v := .int .u32 (f k).y) rfl
        have z3 := R.at3 hlt (v := .string (f k).d) rfl
        have hbw : b < w.heap.size := R0.lt
        have hPk := hid (hfh.out k)
        obtain ⟨P, hP⟩ : ∃ P, f k = P := ⟨_, rfl⟩
        rw [hP] at z0 z1 z2 z3 hPk hzs
        have hP' := hP
        replace hP := hid hP
        have cc : ∀ (c oo : Nat) (v : Value), wr.cell? ⟨c, oo, none⟩ = some v → ∀ u : Later wr, u.val.cell? ⟨c, oo, none⟩ = some v := fun c oo v hv u => (u.cell c oo (cell_lt hv)).trans hv
        have a0 := cc _ _ _ z0
        have a1 := cc _ _ _ z1
        have a2 := cc _ _ _ z2
        have a3 := cc _ _ _ z3
        have zz := hid (And.intro (And.intro z0 z1) (And.intro z2 z3))
        obtain ⟨L, hLe⟩ : ∃ L, keepL strStep f k = L := ⟨_, rfl⟩
        rw [hLe] at HK hlen hzs hmemA hnil
        replace hLe := hid hLe
        replace hmemA := hid hmemA
        replace hP' := hid hP'
        have hlen' : L.length ≤ 59 := by omega
        clear R R0 z0 z1 z2 z3 hb
        obtain hLn | ⟨m, hL⟩ : L = [] ∨ ∃ m, L.length = m + 1 := by
          cases L with
          | nil => exact .inl rfl
          | cons a L => exact .inr ⟨_, rfl⟩
        · subst hLn
          obtain rfl := hv0 (hnil rfl)
          have hlt' : Hid (b < w.heap.size) := hid hbw
          have hst : keepL strStep f (k + 1) = [P] := hzs
          replace hst := hid hst
          clear hnil hv0 hlen hlen' hzs HK hbw cc
          go_wp2_with fail
          refine wp_region_late 29 (by kernel_rfl) (by kernel_rfl) ?_
          simp only [List.take_succ_cons, List.take_zero, List.drop_succ_cons, List.drop_zero]
          iterate 29 (go_big_quiet_step (fail))
          refine wpQuiet_nil ?_
          intro w3 h3'
          have h3 := late_out h3'
          clear h3' a0 a1 a2 a3
          go_wp2_with fail
          refine wp_region_late 36 (by kernel_rfl) (by kernel_rfl) ?_
          simp only [List.take_succ_cons, List.take_zero, List.drop_succ_cons, List.drop_zero]
          iterate 36 (go_big_quiet_step (fail))
          refine wpQuiet_nil ?_
          intro w4 h4'
          have h4 := late_out h4'
          clear h4'
          have hbr := hid (below2 h3 h4 h3.size)
          have hbx := hid (below2 hbW.out hbr.out hbW.out.size)
          clear h3 h4
          go_wp2_with fail
          have up : ∀ (c oo : Nat) (v : Value), wr.cell? ⟨c, oo, none⟩ = some v → w4.cell? ⟨c, oo, none⟩ = some v := fun c oo v hv => (hbr.out.cell (p := ⟨c, oo, none⟩) (cell_lt hv)).trans hv
          have r0 := up _ _ _ zz.out.1.1
          have r1 := up _ _ _ zz.out.1.2
          have r2 := up _ _ _ zz.out.2.1
          have r3 := up _ _ _ zz.out.2.2
          have sz : w.heap.size ≤ w4.heap.size := hbx.out.size
          have ab0 : some b ≠ some w4.heap.size := fun h => by cases h; exact absurd hlt'.out (by omega)
          have ab1 : some b ≠ some (w4.heap.size + 1) := fun h => by cases h; exact absurd hlt'.out (by omega)
          have an0 : some (w4.heap.size + 1) ≠ (Value.slice (some ⟨w4.heap.size, 0, none⟩) 0 0).ownBlock := fun h => by simp [Value.ownBlock] at h
          have an1 : some w4.heap.size ≠ (Value.slice (some ⟨w4.heap.size + 1, 0, none⟩) 0 0).ownBlock := fun h => by simp [Value.ownBlock] at h
          have abw : b < w.heap.size := hlt'.out
          have ab2 : b < w4.heap.size := Nat.lt_of_lt_of_le hlt'.out sz
          clear up
          have own0 := hid (World.ownsRow_made (base := w.heap.size) (e := 25) (size := 4) w4 #[] 0 sz (Nat.zero_le _) rfl)
          have own1 := hid (World.ownsRow_made (base := w.heap.size) (e := 25) (size := 4) (w4.alloc (.cells #[.int .i64 P.id, .int .u32 P.x, .int .u32 P.y, .string P.d] 25)) #[] 0 (by simp; omega) (Nat.zero_le _) rfl)
          rw [World.size_alloc] at own1
          go_region_held3 (fun w' => w'.cell? ⟨b, o + k * 4, none⟩ = some (.int .i64 P.id) ∧ w'.cell? ⟨b, o + k * 4 + 1, none⟩ = some (.int .u32 P.x) ∧ w'.cell? ⟨b, o + k * 4 + 2, none⟩ = some (.int .u32 P.y) ∧ w'.cell? ⟨b, o + k * 4 + 3, none⟩ = some (.string P.d))
            (first
              | go_keep
              | (go_split_ands
                 refine ⟨?_, ?_, ?_, ?_⟩
                 all_goals (rw [hgrow2.cell_far _ (by simp; omega) (by first | exact ab0 | exact ab1)]; first | assumption | go_keep)))
            (first
              | (refine step_append_lies _ (by rfl) _ _ _ (by rfl) w.heap.size 25 i0 (.agg #[.int .i64 0, .int .u32 0, .int .u32 0, .string ByteArray.empty]) 4 32 Try.underlying22 hi hz0 hz1 hz2 rfl (by omega) (.slice (some ⟨w4.heap.size, 0, none⟩) 0 0) 0 [] (by rfl) (by with_reducible exact (own0.out.alloc _).drew) _ 1 1 (#[.int .i64 P.id, .int .u32 P.x, .int .u32 P.y, .string P.d] : Array Value).toList (by rfl) (by rfl) (by with_reducible exact news2b _ _ _ _) (pt_one P) (by omega) (by unfold maxLen; omega) (by omega) (by simp; omega) _ rfl ?_; intro g2 cap2 w7 hown2 hgrow2 hat2 hlt2)
              | (refine step_append_lies _ (by rfl) _ _ _ (by rfl) w.heap.size 25 i0 (.agg #[.int .i64 0, .int .u32 0, .int .u32 0, .string ByteArray.empty]) 4 32 Try.underlying22 hi hz0 hz1 hz2 rfl (by omega) (.slice (some ⟨w4.heap.size + 1, 0, none⟩) 0 0) 0 [] (by rfl) (by with_reducible exact own1.out.drew) _ 1 1 (#[.int .i64 P.id, .int .u32 P.x, .int .u32 P.y, .string P.d] : Array Value).toList (by rfl) (by rfl) (by with_reducible exact news2a _ _ _ _) (pt_one P) (by omega) (by unfold maxLen; omega) (by omega) (by simp; omega) _ rfl ?_; intro g2 cap2 w7 hown2 hgrow2 hat2 hlt2)
              | fail)
          all_goals
            have E := hid (one_app (P := P) hbx.out (Below.alloc (Below.alloc (Below.refl _ _) (Nat.le_refl _) _) (by simp) _).drew hgrow2 (fun kk e => by first | (have e' : some w4.heap.size = some kk := e; have e2 := Option.some.inj e'; omega) | (have e' : some (w4.heap.size + 1) = some kk := e; have e2 := Option.some.inj e'; omega)) (by simpa using hown2))
            clear hown2 hgrow2 hat2 own0 own1
            go_wp2_with fail
            go_roundw
            case rel => exact ⟨k + 1, by omega, by go_num, by rw [hst.out]; exact E.out.1, E.out.2, fun h => by omega⟩
            case measure => simp [intOf]; omega
        · obtain ⟨g, c, rfl, c1, c2, hgb, RG⟩ := own_open hL HK
          have hl0 : ptAt L m = lastP L := by unfold lastP; rw [hL]; rfl
          have y1 := RG.at1 (i := m) (by omega) (v := .int .u32 (lastP L).x) (by show (pcells (ptAt L m))[1]? = _; rw [hl0]; rfl)
          have y2 := RG.at2 (i := m) (by omega) (v := .int .u32 (lastP L).y) (by show (pcells (ptAt L m))[2]? = _; rw [hl0]; rfl)
          simp only [Nat.zero_add] at y1 y2
          have b1 := cc _ _ _ y1
          have b2 := cc _ _ _ y2
          have hal : Hid (atLast L P = (((lastP L).x == P.x) && ((lastP L).y == P.y))) := hid (by unfold atLast samB; rw [hL]; simp)
          have hLh := hid hL
          have lbh := hid (And.intro hbw hlen')
          have HKh := hid HK
          have RGh := hid RG
          have hgbh := hid hgb
          have hl0h := hid hl0
          have c2' : c ≤ 9223372036854775807 := by unfold maxLen at c2; exact c2
          have hm58 : (m : Int) ≤ 58 := by omega
          have hm0 : (0 : Int) ≤ (m : Int) := by omega
          have hmc : (m : Int) + 1 ≤ (c : Int) := by omega
          have hmk : (m : Int) < (m : Int) + 1 := by omega
          have hzsh := hid hzs
          clear hnil hv0 hlen hlen' hzs HK hbw cc y1 y2 RG hl0 hgb hL c2 hP
          go_upto_region 10 with (fail)
          go_cut [53] (fun s wx => s = .bool (atLast L P) ∧ Below wr.heap.size wr wx)
          case first =>
            cases hx : (lastP L).x == P.x with
            | false =>
              refine wp_region_late 29 (by kernel_rfl) (by kernel_rfl) ?_
              simp only [List.take_succ_cons, List.take_zero, List.drop_succ_cons, List.drop_zero]
              iterate 29 (go_big_quiet_step (fail))
              refine wpQuiet_nil ?_
              intro w3 h3'
              have h3 := hid (late_out h3')
              clear h3' a0 a1 a2 a3 b1 b2
              go_wp2_with fail
              go_meet
              case rel => exact ⟨by rw [hal.out, hx]; rfl, h3.out⟩
            | true =>
              obtain ⟨hy, hyy⟩ : ∃ hy, ((lastP L).y == P.y) = hy := ⟨_, rfl⟩
              refine wp_region_late 29 (by kernel_rfl) (by kernel_rfl) ?_
              simp only [List.take_succ_cons, List.take_zero, List.drop_succ_cons, List.drop_zero]
              iterate 29 (go_big_quiet_step (fail))
              refine wpQuiet_nil ?_
              intro w3 h3'
              have h3 := hid (late_out h3')
              clear h3' a0 a1 a2 a3 b1 b2
              go_wp2_with fail
              go_meet
              case rel => exact ⟨by rw [hal.out, hx, hyy]; rfl, h3.out⟩
          case rest =>
            obtain ⟨rfl, h3⟩ := hcut
            have h3h := hid h3
            have bW3 := hid (below2 hbW.out h3 hbW.out.size)
            clear h3 a0 a1 a2 a3 b1 b2
            cases hA : atLast L P with
            | true =>
              have hst : Hid (keepL strStep f (k + 1) = L) := hid (by rw [hzsh.out, hA]; rfl)
              have HK4 := hid (HKh.out.more h3h.out)
              clear hA
              go_wp2_with fail
              go_roundw
              case rel => exact ⟨k + 1, by omega, by go_num, by rw [hst.out]; exact HK4.out, bW3.out, fun h => by omega⟩
              case measure => simp [intOf]; omega
            | false =>
              have hst0 : Hid (keepL strStep f (k + 1) = (if onLast L P then L.dropLast else L) ++ [P]) := hid (by rw [hzsh.out, hA]; rfl)
              clear hA
              by_cases hm : m = 0
              · have hon : onLast L P = false := by unfold onLast; rw [hLh.out, hm]; rfl
                have hst : Hid (keepL strStep f (k + 1) = L ++ [P]) := hid (by rw [hst0.out, hon]; rfl)
                have hd1 : decide ((1 : Int) < (m : Int) + 1) = false := decide_eq_false (by omega)
                clear hon hm
                go_wp2_with fail
                refine wp_region_late 36 (by kernel_rfl) (by kernel_rfl) ?_
                simp only [List.take_succ_cons, List.take_zero, List.drop_succ_cons, List.drop_zero]
                iterate 36 (go_big_quiet_step (fail))
                refine wpQuiet_nil ?_
                intro w4 h4'
                have h4 := late_out h4'
                clear h4'
                have hbr := hid (below2 h3h.out h4 h3h.out.size)
                have hbx := hid (below2 hbW.out hbr.out hbW.out.size)
                clear h4
                have OK : Hid (w4.ownsRow w.heap.size 25 4 (.slice (some ⟨g, 0, none⟩) (m + 1) c) (m + 1) (flatP L)) := hid (by have := HKh.out.more hbr.out; unfold PtsOwn at this; rw [hLh.out] at this; exact this)
                have hKq := hLh
                go_wp2_with fail
                have up : ∀ (c oo : Nat) (v : Value), wr.cell? ⟨c, oo, none⟩ = some v → w4.cell? ⟨c, oo, none⟩ = some v := fun c oo v hv => (hbr.out.cell (p := ⟨c, oo, none⟩) (cell_lt hv)).trans hv
                have r0 := up _ _ _ zz.out.1.1
                have r1 := up _ _ _ zz.out.1.2
                have r2 := up _ _ _ zz.out.2.1
                have r3 := up _ _ _ zz.out.2.2
                have sz : w.heap.size ≤ w4.heap.size := hbx.out.size
                have ab0 : some b ≠ some w4.heap.size := fun h => by cases h; exact absurd lbh.out.1 (by omega)
                have ab1 : some b ≠ some (w4.heap.size + 1) := fun h => by cases h; exact absurd lbh.out.1 (by omega)
                have an0 : some (w4.heap.size + 1) ≠ (Value.slice (some ⟨w4.heap.size, 0, none⟩) 0 0).ownBlock := fun h => by simp [Value.ownBlock] at h
                have an1 : some w4.heap.size ≠ (Value.slice (some ⟨w4.heap.size + 1, 0, none⟩) 0 0).ownBlock := fun h => by simp [Value.ownBlock] at h
                have abw : b < w.heap.size := lbh.out.1
                have ab2 : b < w4.heap.size := Nat.lt_of_lt_of_le lbh.out.1 sz
                clear up

                have hfl : (flatP L).length = (m + 1) * 4 := by rw [flatP_length, hKq.out]
                have hmm := hid (sixty m (by omega))
                have own0 := hid (World.ownsRow_made (base := w.heap.size) (e := 25) (size := 4) w4 #[] 0 sz (Nat.zero_le _) rfl)
                have own1 := hid (World.ownsRow_made (base := w.heap.size) (e := 25) (size := 4) (w4.alloc (.cells #[.int .i64 P.id, .int .u32 P.x, .int .u32 P.y, .string P.d] 25)) #[] 0 (by simp; omega) (Nat.zero_le _) rfl)
                rw [World.size_alloc] at own1
                go_region_held3 (fun w' => w'.cell? ⟨b, o + k * 4, none⟩ = some (.int .i64 P.id) ∧ w'.cell? ⟨b, o + k * 4 + 1, none⟩ = some (.int .u32 P.x) ∧ w'.cell? ⟨b, o + k * 4 + 2, none⟩ = some (.int .u32 P.y) ∧ w'.cell? ⟨b, o + k * 4 + 3, none⟩ = some (.string P.d))
                  (first
                  | go_keep
                  | (go_split_ands
                     refine ⟨?_, ?_, ?_, ?_⟩
                     all_goals (first
                       | (refine cell_two hgrow2 abw (hown1.lt _ rfl).1 ?_ ?_; (first | exact hlt1 | (simp; omega)); (first | assumption | go_keep))
                       | (rw [hgrow1.cell_far _ (by simp; omega) (by first | exact ab0 | exact ab1)]; first | assumption | go_keep))))
                  (first
                    | (refine step_append_lies _ (by rfl) _ _ _ (by rfl) w.heap.size 25 i0 (.agg #[.int .i64 0, .int .u32 0, .int .u32 0, .string ByteArray.empty]) 4 32 Try.underlying22 hi hz0 hz1 hz2 rfl (by omega) (.slice (some ⟨w4.heap.size, 0, none⟩) 0 0) 0 [] (by rfl) (by first | with_reducible exact own0.out.drew | with_reducible exact (own0.out.alloc _).drew) ⟨g, 0, none⟩ (m + 1) c (flatP L) (by rfl) hfl (by first | with_reducible exact ((OK.out.alloc _).drew).cells rfl | with_reducible exact (((OK.out.alloc _).alloc _).drew).cells rfl) (flatP_onecell L) (by omega) hmm.out.1 hmm.out.2.1 (by simp; omega) _ rfl ?_; intro g1 cap1 w6 hown1 hgrow1 hat1 hlt1; rw [List.nil_append, Nat.zero_add] at hown1)
                    | (refine step_append_lies _ (by rfl) _ _ _ (by rfl) w.heap.size 25 i0 (.agg #[.int .i64 0, .int .u32 0, .int .u32 0, .string ByteArray.empty]) 4 32 Try.underlying22 hi hz0 hz1 hz2 rfl (by omega) (.slice (some ⟨w4.heap.size + 1, 0, none⟩) 0 0) 0 [] (by rfl) (by first | with_reducible exact own1.out.drew) ⟨g, 0, none⟩ (m + 1) c (flatP L) (by rfl) hfl (by first | with_reducible exact ((OK.out.alloc _).drew).cells rfl | with_reducible exact (((OK.out.alloc _).alloc _).drew).cells rfl) (flatP_onecell L) (by omega) hmm.out.1 hmm.out.2.1 (by simp; omega) _ rfl ?_; intro g1 cap1 w6 hown1 hgrow1 hat1 hlt1; rw [List.nil_append, Nat.zero_add] at hown1)
                    | (refine step_append_lies _ (by rfl) _ _ _ (by rfl) w.heap.size 25 i0 (.agg #[.int .i64 0, .int .u32 0, .int .u32 0, .string ByteArray.empty]) 4 32 Try.underlying22 hi hz0 hz1 hz2 rfl (by omega) (.slice (some ⟨g1, 0, none⟩) (m + 1) cap1) (m + 1) (flatP L) (by first | rfl | exact congrArg (fun z => Value.slice (some ⟨g1, 0, none⟩) z cap1) (Nat.zero_add (m + 1))) (by first | with_reducible exact hown1 | with_reducible exact hown1.alloc _) _ 1 1 (#[.int .i64 P.id, .int .u32 P.x, .int .u32 P.y, .string P.d] : Array Value).toList (by rfl) (by rfl) (by first | with_reducible exact four_new _ _ _ | with_reducible exact news_grown (news2b _ _ _ _) hgrow1 (by simp) an0 | with_reducible exact news_grown (news2a _ _ _ _) hgrow1 (by simp; omega) an1) (pt_one P) (by omega) hmm.out.2.2.1 hmm.out.2.2.2 (by have := hgrow1.size; simp at this ⊢; omega) _ rfl ?_; intro g2 cap2 w7 hown2 hgrow2 hat2 hlt2)
                    | fail)
                all_goals
                  have E := hid (two_app (K := L) (P := P) hbx.out (by first | exact (Below.alloc (Below.refl _ _) (Nat.le_refl _) _).drew | exact (Below.alloc (Below.alloc (Below.refl _ _) (Nat.le_refl _) _) (by simp) _).drew) hgrow1 (fun kk e => by first | (have e' : some w4.heap.size = some kk := e; have e2 := Option.some.inj e'; omega) | (have e' : some (w4.heap.size + 1) = some kk := e; have e2 := Option.some.inj e'; omega)) (by first | exact Below.refl _ _ | exact Below.alloc (Below.refl _ _) (Nat.le_refl _) _) hgrow2 (fun k e => by cases e; exact (hown1.lt _ rfl).1) (by rw [hKq.out]; simpa using hown2))
                  clear hown1 hown2 hgrow1 hgrow2 hat1 hat2 own0 own1 hfl hmm
                  go_wp2_with fail
                  go_roundw
                  case rel => exact ⟨k + 1, by omega, by go_num, by rw [hst.out]; exact E.out.1, E.out.2, fun h => by omega⟩
                  case measure => simp [intOf]; omega
              · obtain ⟨j, rfl⟩ : ∃ j, m = j + 1 := ⟨m - 1, by omega⟩
                have RG3 := RGh.out.more h3h.out
                have up : ∀ (c oo : Nat) (v : Value), wr.cell? ⟨c, oo, none⟩ = some v → wc.cell? ⟨c, oo, none⟩ = some v := fun c oo v hv => (h3h.out.cell (p := ⟨c, oo, none⟩) (cell_lt hv)).trans hv
                have z0 := up _ _ _ zz.out.1.1
                have z1 := up _ _ _ zz.out.1.2
                have z2 := up _ _ _ zz.out.2.1
                have z3 := up _ _ _ zz.out.2.2
                have l0 : ptAt L (j + 1) = lastP L := hl0h.out
                have l1 : ptAt L j = lastP2 L := by unfold lastP2; rw [hLh.out]; rfl
                have x0 := RG3.at0 (i := j) (by omega) (v := .int .i64 (lastP2 L).id) (by show (pcells (ptAt L j))[0]? = _; rw [l1]; rfl)
                have x1 := RG3.at1 (i := j) (by omega) (v := .int .u32 (lastP2 L).x) (by show (pcells (ptAt L j))[1]? = _; rw [l1]; rfl)
                have x2 := RG3.at2 (i := j) (by omega) (v := .int .u32 (lastP2 L).y) (by show (pcells (ptAt L j))[2]? = _; rw [l1]; rfl)
                have x3 := RG3.at3 (i := j) (by omega) (v := .string (lastP2 L).d) (by show (pcells (ptAt L j))[3]? = _; rw [l1]; rfl)
                have y0 := RG3.at0 (i := j + 1) (by omega) (v := .int .i64 (lastP L).id) (by show (pcells (ptAt L (j + 1)))[0]? = _; rw [l0]; rfl)
                have y1 := RG3.at1 (i := j + 1) (by omega) (v := .int .u32 (lastP L).x) (by show (pcells (ptAt L (j + 1)))[1]? = _; rw [l0]; rfl)
                have y2 := RG3.at2 (i := j + 1) (by omega) (v := .int .u32 (lastP L).y) (by show (pcells (ptAt L (j + 1)))[2]? = _; rw [l0]; rfl)
                have y3 := RG3.at3 (i := j + 1) (by omega) (v := .string (lastP L).d) (by show (pcells (ptAt L (j + 1)))[3]? = _; rw [l0]; rfl)
                simp only [Nat.zero_add] at x0 x1 x2 x3 y0 y1 y2 y3
                have cc : ∀ (c oo : Nat) (v : Value), wc.cell? ⟨c, oo, none⟩ = some v → ∀ u : Later wc, u.val.cell? ⟨c, oo, none⟩ = some v := fun c oo v hv u => (u.cell c oo (cell_lt hv)).trans hv
                have A0 := cc _ _ _ x0
                have A1 := cc _ _ _ x1
                have A2 := cc _ _ _ x2
                have A3 := cc _ _ _ x3
                have B0 := cc _ _ _ y0
                have B1 := cc _ _ _ y1
                have B2 := cc _ _ _ y2
                have B3 := cc _ _ _ y3
                have C0 := cc _ _ _ z0
                have C1 := cc _ _ _ z1
                have C2 := cc _ _ _ z2
                have C3 := cc _ _ _ z3
                have hA1 : (lastP L).ok := hmemA.out _ (ptAt_mem L _ (by rw [hLh.out]; omega))
                have hA2 : (lastP2 L).ok := hmemA.out _ (ptAt_mem L _ (by rw [hLh.out]; omega))
                have KT := hid (fun w => turn46 (lastP2 L) (lastP L) P hA2 hA1 hPk.out w)
                have KB := hid (fun w => between46 (lastP L) (lastP2 L) P w)
                have hon : onLast L P = ((tn (p2 (lastP2 L)) (p2 (lastP L)) (p2 P) == 0) && wit (p2 (lastP L)) (p2 (lastP2 L)) (p2 P)) := by unfold onLast; rw [hLh.out]; simp
                generalize tn (p2 (lastP2 L)) (p2 (lastP L)) (p2 P) = t at KT hon
                generalize wit (p2 (lastP L)) (p2 (lastP2 L)) (p2 P) = wi at KB hon
                replace hon := hid hon
                unfold ptv at KT KB
                have hq0 : (0 : Int) ≤ (j : Int) := by omega
                have hq1 : (0 : Int) ≤ (j : Int) + 1 := by omega
                have hq2 : (j : Int) < (j : Int) + 1 + 1 := by omega
                have hq3 : (j : Int) + 1 < (j : Int) + 1 + 1 := by omega
                have hq4 : (j : Int) + 1 < ((j + 1 + 1 : Nat) : Int) := by omega
                have hq5 : (j : Int) + 1 + 1 - 2 = (j : Int) := by omega
                have hq6 : ((j : Int) + 1).toNat = j + 1 := by omega
                have hq7 : (1 : Int) < (j : Int) + 1 + 1 := by omega
                have hq8 : (j : Int) + 1 + 1 - 1 = (j : Int) + 1 := by omega
                have hltk : (j : Int) < ((j + 1 + 1 : Nat) : Int) := by omega
                have hcp : (j : Int) + 1 + 1 ≤ (c : Int) := by omega
                have hcp1 : (j : Int) + 1 ≤ (c : Int) := by omega
                have hj58 : (j : Int) ≤ 58 := by omega
                have hw0 : IntKind.i64.wrap (j : Int) = (j : Int) := IntWalk.i64_in _ ⟨by omega, by omega⟩
                have hw1 : IntKind.i64.wrap ((j : Int) + 1) = (j : Int) + 1 := IntWalk.i64_in _ ⟨by omega, by omega⟩
                have hw2 : IntKind.i64.wrap ((j : Int) + 1 + 1 - 2) = (j : Int) := by rw [hq5]; exact hw0
                have hw3 : IntKind.i64.wrap ((j : Int) + 1 + 1 - 1) = (j : Int) + 1 := by rw [hq8]; exact hw1
                have h3H := hid (And.intro hbW.out h3h.out)
                clear up x0 x1 x2 x3 y0 y1 y2 y3 z0 z1 z2 z3 cc l0 l1 RG3 hA1 hA2 hm hm58 hm0 hmc hmk
                go_upto_region 11 with (fail)
                go_cut [90] (fun s wx => s = .bool (onLast L P) ∧ Below wc.heap.size wc wx)
                case first =>
                  cases ht : t == 0 with
                  | false =>
                    refine wp_region_late 36 (by kernel_rfl) (by kernel_rfl) ?_
                    simp only [List.take_succ_cons, List.take_zero, List.drop_succ_cons, List.drop_zero]
                    iterate 36 (go_big_quiet_step (first | (go_at_call 21; (with_reducible exact late_call (KT.out _))) | (go_at_call 27; (with_reducible exact late_call (KB.out _)))))
                    refine wpQuiet_nil ?_
                    intro w4 h4'
                    have h4 := hid (late_out h4')
                    clear h4' A0 A1 A2 A3 B0 B1 B2 B3 C0 C1 C2 C3
                    go_wp2_with fail
                    go_meet
                    case rel => exact ⟨by rw [hon.out, ht]; rfl, h4.out⟩
                  | true =>
                    refine wp_region_late 36 (by kernel_rfl) (by kernel_rfl) ?_
                    simp only [List.take_succ_cons, List.take_zero, List.drop_succ_cons, List.drop_zero]
                    iterate 36 (go_big_quiet_step (first | (go_at_call 21; (with_reducible exact late_call (KT.out _))) | (go_at_call 27; (with_reducible exact late_call (KB.out _)))))
                    refine wpQuiet_nil ?_
                    intro w4 h4'
                    have h4 := hid (late_out h4')
                    clear h4' A0 A1 A2 A3 B0 B1 B2 B3 C0 C1 C2 C3
                    go_wp2_with fail
                    go_meet
                    case rel => exact ⟨by rw [hon.out, ht]; rfl, h4.out⟩
                case rest =>
                  obtain ⟨rfl, h4⟩ := hcut
                  have hbr := hid (below2 h3H.out.2 h4 h3H.out.2.size)
                  have hbx := hid (below2 hbW.out hbr.out hbW.out.size)
                  clear h4 A0 A1 A2 A3 B0 B1 B2 B3 C0 C1 C2 C3 KT KB hon
                  cases hB : onLast L P with
                  | false =>
                    have hst : Hid (keepL strStep f (k + 1) = L ++ [P]) := hid (by rw [hst0.out, hB]; rfl)
                    have OK : Hid (wc.ownsRow w.heap.size 25 4 (.slice (some ⟨g, 0, none⟩) ((j + 1) + 1) c) ((j + 1) + 1) (flatP L)) := hid (by have := HKh.out.more hbr.out; unfold PtsOwn at this; rw [hLh.out] at this; exact this)
                    have hKq := hLh
                    clear hB
                    go_wp2_with fail
                    have up : ∀ (c oo : Nat) (v : Value), wr.cell? ⟨c, oo, none⟩ = some v → wc.cell? ⟨c, oo, none⟩ = some v := fun c oo v hv => (hbr.out.cell (p := ⟨c, oo, none⟩) (cell_lt hv)).trans hv
                    have r0 := up _ _ _ zz.out.1.1
                    have r1 := up _ _ _ zz.out.1.2
                    have r2 := up _ _ _ zz.out.2.1
                    have r3 := up _ _ _ zz.out.2.2
                    have sz : w.heap.size ≤ wc.heap.size := hbx.out.size
                    have ab0 : some b ≠ some wc.heap.size := fun h => by cases h; exact absurd lbh.out.1 (by omega)
                    have ab1 : some b ≠ some (wc.heap.size + 1) := fun h => by cases h; exact absurd lbh.out.1 (by omega)
                    have an0 : some (wc.heap.size + 1) ≠ (Value.slice (some ⟨wc.heap.size, 0, none⟩) 0 0).ownBlock := fun h => by simp [Value.ownBlock] at h
                    have an1 : some wc.heap.size ≠ (Value.slice (some ⟨wc.heap.size + 1, 0, none⟩) 0 0).ownBlock := fun h => by simp [Value.ownBlock] at h
                    have abw : b < w.heap.size := lbh.out.1
                    have ab2 : b < wc.heap.size := Nat.lt_of_lt_of_le lbh.out.1 sz
                    clear up

                    have hfl : (flatP L).length = ((j + 1) + 1) * 4 := by rw [flatP_length, hKq.out]
                    have hmm := hid (sixty (j + 1) (by omega))
                    have own0 := hid (World.ownsRow_made (base := w.heap.size) (e := 25) (size := 4) wc #[] 0 sz (Nat.zero_le _) rfl)
                    have own1 := hid (World.ownsRow_made (base := w.heap.size) (e := 25) (size := 4) (wc.alloc (.cells #[.int .i64 P.id, .int .u32 P.x, .int .u32 P.y, .string P.d] 25)) #[] 0 (by simp; omega) (Nat.zero_le _) rfl)
                    rw [World.size_alloc] at own1
                    go_region_held3 (fun w' => w'.cell? ⟨b, o + k * 4, none⟩ = some (.int .i64 P.id) ∧ w'.cell? ⟨b, o + k * 4 + 1, none⟩ = some (.int .u32 P.x) ∧ w'.cell? ⟨b, o + k * 4 + 2, none⟩ = some (.int .u32 P.y) ∧ w'.cell? ⟨b, o + k * 4 + 3, none⟩ = some (.string P.d))
                      (first
                      | go_keep
                      | (go_split_ands
                         refine ⟨?_, ?_, ?_, ?_⟩
                         all_goals (first
                           | (refine cell_two hgrow2 abw (hown1.lt _ rfl).1 ?_ ?_; (first | exact hlt1 | (simp; omega)); (first | assumption | go_keep))
                           | (rw [hgrow1.cell_far _ (by simp; omega) (by first | exact ab0 | exact ab1)]; first | assumption | go_keep))))
                      (first
                        | (refine step_append_lies _ (by rfl) _ _ _ (by rfl) w.heap.size 25 i0 (.agg #[.int .i64 0, .int .u32 0, .int .u32 0, .string ByteArray.empty]) 4 32 Try.underlying22 hi hz0 hz1 hz2 rfl (by omega) (.slice (some ⟨wc.heap.size, 0, none⟩) 0 0) 0 [] (by rfl) (by first | with_reducible exact own0.out.drew | with_reducible exact (own0.out.alloc _).drew) ⟨g, 0, none⟩ ((j + 1) + 1) c (flatP L) (by rfl) hfl (by first | with_reducible exact ((OK.out.alloc _).drew).cells rfl | with_reducible exact (((OK.out.alloc _).alloc _).drew).cells rfl) (flatP_onecell L) (by omega) hmm.out.1 hmm.out.2.1 (by simp; omega) _ rfl ?_; intro g1 cap1 w6 hown1 hgrow1 hat1 hlt1; rw [List.nil_append, Nat.zero_add] at hown1)
                        | (refine step_append_lies _ (by rfl) _ _ _ (by rfl) w.heap.size 25 i0 (.agg #[.int .i64 0, .int .u32 0, .int .u32 0, .string ByteArray.empty]) 4 32 Try.underlying22 hi hz0 hz1 hz2 rfl (by omega) (.slice (some ⟨wc.heap.size + 1, 0, none⟩) 0 0) 0 [] (by rfl) (by first | with_reducible exact own1.out.drew) ⟨g, 0, none⟩ ((j + 1) + 1) c (flatP L) (by rfl) hfl (by first | with_reducible exact ((OK.out.alloc _).drew).cells rfl | with_reducible exact (((OK.out.alloc _).alloc _).drew).cells rfl) (flatP_onecell L) (by omega) hmm.out.1 hmm.out.2.1 (by simp; omega) _ rfl ?_; intro g1 cap1 w6 hown1 hgrow1 hat1 hlt1; rw [List.nil_append, Nat.zero_add] at hown1)
                        | (refine step_append_lies _ (by rfl) _ _ _ (by rfl) w.heap.size 25 i0 (.agg #[.int .i64 0, .int .u32 0, .int .u32 0, .string ByteArray.empty]) 4 32 Try.underlying22 hi hz0 hz1 hz2 rfl (by omega) (.slice (some ⟨g1, 0, none⟩) ((j + 1) + 1) cap1) ((j + 1) + 1) (flatP L) (by first | rfl | exact congrArg (fun z => Value.slice (some ⟨g1, 0, none⟩) z cap1) (Nat.zero_add ((j + 1) + 1))) (by first | with_reducible exact hown1 | with_reducible exact hown1.alloc _) _ 1 1 (#[.int .i64 P.id, .int .u32 P.x, .int .u32 P.y, .string P.d] : Array Value).toList (by rfl) (by rfl) (by first | with_reducible exact four_new _ _ _ | with_reducible exact news_grown (news2b _ _ _ _) hgrow1 (by simp) an0 | with_reducible exact news_grown (news2a _ _ _ _) hgrow1 (by simp; omega) an1) (pt_one P) (by omega) hmm.out.2.2.1 hmm.out.2.2.2 (by have := hgrow1.size; simp at this ⊢; omega) _ rfl ?_; intro g2 cap2 w7 hown2 hgrow2 hat2 hlt2)
                        | fail)
                    all_goals
                      have E := hid (two_app (K := L) (P := P) hbx.out (by first | exact (Below.alloc (Below.refl _ _) (Nat.le_refl _) _).drew | exact (Below.alloc (Below.alloc (Below.refl _ _) (Nat.le_refl _) _) (by simp) _).drew) hgrow1 (fun kk e => by first | (have e' : some wc.heap.size = some kk := e; have e2 := Option.some.inj e'; omega) | (have e' : some (wc.heap.size + 1) = some kk := e; have e2 := Option.some.inj e'; omega)) (by first | exact Below.refl _ _ | exact Below.alloc (Below.refl _ _) (Nat.le_refl _) _) hgrow2 (fun k e => by cases e; exact (hown1.lt _ rfl).1) (by rw [hKq.out]; simpa using hown2))
                      clear hown1 hown2 hgrow1 hgrow2 hat1 hat2 own0 own1 hfl hmm
                      go_wp2_with fail
                      go_roundw
                      case rel => exact ⟨k + 1, by omega, by go_num, by rw [hst.out]; exact E.out.1, E.out.2, fun h => by omega⟩
                      case measure => simp [intOf]; omega
                  | true =>
                    have hst : Hid (keepL strStep f (k + 1) = L.dropLast ++ [P]) := hid (by rw [hst0.out, hB]; rfl)
                    have hKq : Hid (L.dropLast.length = j + 1) := hid (by rw [List.length_dropLast, hLh.out]; rfl)
                    have OK : Hid (wc.ownsRow w.heap.size 25 4 (.slice (some ⟨g, 0, none⟩) (j + 1) c) (j + 1) (flatP L.dropLast)) := hid (by have := own_drop hLh.out (HKh.out.more hbr.out); unfold PtsOwn at this; rw [hKq.out] at this; exact this)
                    clear hB
                    go_wp2_with fail
                    have up : ∀ (c oo : Nat) (v : Value), wr.cell? ⟨c, oo, none⟩ = some v → wc.cell? ⟨c, oo, none⟩ = some v := fun c oo v hv => (hbr.out.cell (p := ⟨c, oo, none⟩) (cell_lt hv)).trans hv
                    have r0 := up _ _ _ zz.out.1.1
                    have r1 := up _ _ _ zz.out.1.2
                    have r2 := up _ _ _ zz.out.2.1
                    have r3 := up _ _ _ zz.out.2.2
                    have sz : w.heap.size ≤ wc.heap.size := hbx.out.size
                    have ab0 : some b ≠ some wc.heap.size := fun h => by cases h; exact absurd lbh.out.1 (by omega)
                    have ab1 : some b ≠ some (wc.heap.size + 1) := fun h => by cases h; exact absurd lbh.out.1 (by omega)
                    have an0 : some (wc.heap.size + 1) ≠ (Value.slice (some ⟨wc.heap.size, 0, none⟩) 0 0).ownBlock := fun h => by simp [Value.ownBlock] at h
                    have an1 : some wc.heap.size ≠ (Value.slice (some ⟨wc.heap.size + 1, 0, none⟩) 0 0).ownBlock := fun h => by simp [Value.ownBlock] at h
                    have abw : b < w.heap.size := lbh.out.1
                    have ab2 : b < wc.heap.size := Nat.lt_of_lt_of_le lbh.out.1 sz
                    clear up

                    have hfl : (flatP L.dropLast).length = (j + 1) * 4 := by rw [flatP_length, hKq.out]
                    have hmm := hid (sixty j (by omega))
                    have own0 := hid (World.ownsRow_made (base := w.heap.size) (e := 25) (size := 4) wc #[] 0 sz (Nat.zero_le _) rfl)
                    have own1 := hid (World.ownsRow_made (base := w.heap.size) (e := 25) (size := 4) (wc.alloc (.cells #[.int .i64 P.id, .int .u32 P.x, .int .u32 P.y, .string P.d] 25)) #[] 0 (by simp; omega) (Nat.zero_le _) rfl)
                    rw [World.size_alloc] at own1
                    go_region_held3 (fun w' => w'.cell? ⟨b, o + k * 4, none⟩ = some (.int .i64 P.id) ∧ w'.cell? ⟨b, o + k * 4 + 1, none⟩ = some (.int .u32 P.x) ∧ w'.cell? ⟨b, o + k * 4 + 2, none⟩ = some (.int .u32 P.y) ∧ w'.cell? ⟨b, o + k * 4 + 3, none⟩ = some (.string P.d))
                      (first
                      | go_keep
                      | (go_split_ands
                         refine ⟨?_, ?_, ?_, ?_⟩
                         all_goals (first
                           | (refine cell_two hgrow2 abw (hown1.lt _ rfl).1 ?_ ?_; (first | exact hlt1 | (simp; omega)); (first | assumption | go_keep))
                           | (rw [hgrow1.cell_far _ (by simp; omega) (by first | exact ab0 | exact ab1)]; first | assumption | go_keep))))
                      (first
                        | (refine step_append_lies _ (by rfl) _ _ _ (by rfl) w.heap.size 25 i0 (.agg #[.int .i64 0, .int .u32 0, .int .u32 0, .string ByteArray.empty]) 4 32 Try.underlying22 hi hz0 hz1 hz2 rfl (by omega) (.slice (some ⟨wc.heap.size, 0, none⟩) 0 0) 0 [] (by rfl) (by first | with_reducible exact own0.out.drew | with_reducible exact (own0.out.alloc _).drew) ⟨g, 0, none⟩ (j + 1) c (flatP L.dropLast) (by rfl) hfl (by first | with_reducible exact ((OK.out.alloc _).drew).cells rfl | with_reducible exact (((OK.out.alloc _).alloc _).drew).cells rfl) (flatP_onecell L.dropLast) (by omega) hmm.out.1 hmm.out.2.1 (by simp; omega) _ rfl ?_; intro g1 cap1 w6 hown1 hgrow1 hat1 hlt1; rw [List.nil_append, Nat.zero_add] at hown1)
                        | (refine step_append_lies _ (by rfl) _ _ _ (by rfl) w.heap.size 25 i0 (.agg #[.int .i64 0, .int .u32 0, .int .u32 0, .string ByteArray.empty]) 4 32 Try.underlying22 hi hz0 hz1 hz2 rfl (by omega) (.slice (some ⟨wc.heap.size + 1, 0, none⟩) 0 0) 0 [] (by rfl) (by first | with_reducible exact own1.out.drew) ⟨g, 0, none⟩ (j + 1) c (flatP L.dropLast) (by rfl) hfl (by first | with_reducible exact ((OK.out.alloc _).drew).cells rfl | with_reducible exact (((OK.out.alloc _).alloc _).drew).cells rfl) (flatP_onecell L.dropLast) (by omega) hmm.out.1 hmm.out.2.1 (by simp; omega) _ rfl ?_; intro g1 cap1 w6 hown1 hgrow1 hat1 hlt1; rw [List.nil_append, Nat.zero_add] at hown1)
                        | (refine step_append_lies _ (by rfl) _ _ _ (by rfl) w.heap.size 25 i0 (.agg #[.int .i64 0, .int .u32 0, .int .u32 0, .string ByteArray.empty]) 4 32 Try.underlying22 hi hz0 hz1 hz2 rfl (by omega) (.slice (some ⟨g1, 0, none⟩) (j + 1) cap1) (j + 1) (flatP L.dropLast) (by first | rfl | exact congrArg (fun z => Value.slice (some ⟨g1, 0, none⟩) z cap1) (Nat.zero_add (j + 1))) (by first | with_reducible exact hown1 | with_reducible exact hown1.alloc _) _ 1 1 (#[.int .i64 P.id, .int .u32 P.x, .int .u32 P.y, .string P.d] : Array Value).toList (by rfl) (by rfl) (by first | with_reducible exact four_new _ _ _ | with_reducible exact news_grown (news2b _ _ _ _) hgrow1 (by simp) an0 | with_reducible exact news_grown (news2a _ _ _ _) hgrow1 (by simp; omega) an1) (pt_one P) (by omega) hmm.out.2.2.1 hmm.out.2.2.2 (by have := hgrow1.size; simp at this ⊢; omega) _ rfl ?_; intro g2 cap2 w7 hown2 hgrow2 hat2 hlt2)
                        | fail)
                    all_goals
                      have E := hid (two_app (K := L.dropLast) (P := P) hbx.out (by first | exact (Below.alloc (Below.refl _ _) (Nat.le_refl _) _).drew | exact (Below.alloc (Below.alloc (Below.refl _ _) (Nat.le_refl _) _) (by simp) _).drew) hgrow1 (fun kk e => by first | (have e' : some wc.heap.size = some kk := e; have e2 := Option.some.inj e'; omega) | (have e' : some (wc.heap.size + 1) = some kk := e; have e2 := Option.some.inj e'; omega)) (by first | exact Below.refl _ _ | exact Below.alloc (Below.refl _ _) (Nat.le_refl _) _) hgrow2 (fun k e => by cases e; exact (hown1.lt _ rfl).1) (by rw [hKq.out]; simpa using hown2))
                      clear hown1 hown2 hgrow1 hgrow2 hat1 hat2 own0 own1 hfl hmm
                      go_wp2_with fail
                      go_roundw
                      case rel => exact ⟨k + 1, by omega, by go_num, by rw [hst.out]; exact E.out.1, E.out.2, fun h => by omega⟩
                      case measure => simp [intOf]; omega
      · obtain rfl : k = N := by omega
        obtain ⟨m1, m2⟩ := h12.out
        have KS := hid (fun wx (hbx : Below w.heap.size w wx) => straight_any p k cap f hfh.out (by omega) m2 hN60 wx (HN.out.more hbx))
        obtain ⟨pv, cv, rfl, c1, c2, RV⟩ := HK.open
        have hfirst := str_first f k
        have hlast := str_last f k
        obtain ⟨L, hLe⟩ : ∃ L, keepL strStep f k = L := ⟨_, rfl⟩
        have hlen := keep_len str_len f k
        rw [hLe] at hfirst hlast KS c1 RV hlen ⊢
        have hnil : k = 0 → L.length = 0 := fun h => by rw [← hLe, h]; rfl
        replace hLe := hid hLe
        have hbW := hid hb
        have RVh := hid RV
        have c12 := hid (And.intro c1 c2)
        have hlL : L.length ≤ 60 := by omega
        clear HK hb RV hv0 c1 c2 hi hz0 hz1 hz2
        by_cases h0 : k = 0
        · have z1 : ((k : Int) == 0) = true := by simp [h0]
          have z2 : ((L.length : Int) == 0) = true := by rw [hnil h0]; rfl
          clear hfirst hlast hnil h0
          go_wp2_with fail
          refine (KS.out _ hbW.out).mono ?_
          rintro e w3 ⟨v, rfl, ⟨q, c, rfl, d1, d2, RT⟩, hb3⟩
          have RTh := hid RT
          have RV3 := hid (RVh.out.more hb3)
          have hbW3 := hid (below2 hbW.out hb3 hbW.out.size)
          have dd := hid (And.intro d1 d2)
          clear hb3 RT d1 d2 KS
          go_wp2_with fail
          refine (plainPoints_same q pv L.length c cv (ptAt L) dd.out.1 dd.out.2 c12.out.1 c12.out.2 _ RTh.out RV3.out).mono ?_
          rintro e w4 ⟨rfl, hb4⟩
          have hbW4 := hid (below2 hbW3.out hb4 hbW3.out.size)
          clear hb4
          go_wp2_with fail
          go_ret
          exact ⟨rfl, hbW4.out⟩
        · have hfirst1 := hfirst (by omega)
          have hlast1 := hlast (by omega)
          clear hfirst hlast
          obtain ⟨hl1, hl2⟩ := hlast1
          rw [samB_iff] at hl2
          obtain ⟨hl2, hl3⟩ := hl2
          obtain ⟨j, rfl⟩ : ∃ j, k = j + 1 := ⟨k - 1, by omega⟩
          obtain ⟨m, hm⟩ : ∃ m, L.length = m + 1 := ⟨L.length - 1, by omega⟩
          have z1 : (((j + 1 : Nat) : Int) == 0) = false := by simp; omega
          have z1' : ((j : Int) + 1 == 0) = false := by simp; omega
          have hlm : ptAt L m = lastP L := by unfold lastP; rw [hm]; rfl
          rw [show j + 1 - 1 = j from rfl] at hl2 hl3
          have mm := hid (show L.length = m + 1 from hm)
          rw [hm] at RVh c12
          have facts := hid (And.intro (And.intro hfirst1 hlm) (And.intro hl2 hl3))
          have hm59 : (m : Int) ≤ 59 := by omega
          have hj59 : (j : Int) ≤ 59 := by omega
          clear hnil h0 hl1 hfirst1 hlm hl2 hl3 hlen hlL
          have KS' := hid (fun wx (hbx : Below w.heap.size w wx) => show Calls Try.prog 28 #[.slice p (j + 1) cap] wx fun e w' => ∃ q c, e = .returned (.slice q (m + 1) c) ∧ m + 1 ≤ c ∧ c ≤ maxLen ∧ RowP w' q 4 (m + 1) (fun i => pcells (ptAt L i)) ∧ Below wx.heap.size wx w' from
            (KS.out wx hbx).mono fun e w' h => by
              obtain ⟨v, rfl, ⟨q, c, rfl, d1, d2, RT⟩, hb3⟩ := h
              rw [hm] at d1 RT ⊢
              exact ⟨q, c, rfl, d1, d2, RT, hb3⟩)
          rw [hm]
          clear KS hm
          go_wp2_with fail
          refine (KS'.out _ hbW.out).mono ?_
          rintro e w3 ⟨q, c, rfl, d1, d2, RT, hb3⟩
          have RTh := hid RT
          have RV3 := hid (RVh.out.more hb3)
          have hbW3 := hid (below2 hbW.out hb3 hbW.out.size)
          have dd := hid (And.intro d1 d2)
          clear hb3 RT d1 d2 KS'
          go_wp2_with fail
          refine (plainPoints_same q pv (m + 1) c cv (ptAt L) dd.out.1 dd.out.2 c12.out.1 c12.out.2 _ RTh.out RV3.out).mono ?_
          rintro e w4 ⟨rfl, hb4⟩
          have hbW4 := hid (below2 hbW3.out hb4 hbW3.out.size)
          have RT4 := hid (RTh.out.more hb4)
          clear hb4 RTh RV3 RVh
          obtain ⟨g, og, rfl, RG⟩ := RT4.out.row (by omega)
          obtain ⟨b, o, rfl, R0⟩ := HN.out.row (by omega)
          have Rl := hid R0
          have f1 := facts.out.1.1
          have f2 := facts.out.1.2
          have f3 := facts.out.2.1
          have f4 := facts.out.2.2
          have x0 := RG.at0 (i := 0) (by omega) (v := .int .i64 (f 0).id) (by show (pcells (ptAt L 0))[0]? = _; rw [f1]; rfl)
          have x1 := RG.at1 (i := 0) (by omega) (v := .int .u32 (f 0).x) (by show (pcells (ptAt L 0))[1]? = _; rw [f1]; rfl)
          have x2 := RG.at2 (i := 0) (by omega) (v := .int .u32 (f 0).y) (by show (pcells (ptAt L 0))[2]? = _; rw [f1]; rfl)
          have x3 := RG.at3 (i := 0) (by omega) (v := .string (f 0).d) (by show (pcells (ptAt L 0))[3]? = _; rw [f1]; rfl)
          simp only [Nat.zero_mul, Nat.add_zero] at x0 x1 x2 x3
          have y0 := RG.at0 (i := m) (by omega) (v := .int .i64 (lastP L).id) (by show (pcells (ptAt L m))[0]? = _; rw [f2]; rfl)
          have y1 := RG.at1 (i := m) (by omega) (v := .int .u32 (f j).x) (by show (pcells (ptAt L m))[1]? = _; rw [f2, ← f3]; rfl)
          have y2 := RG.at2 (i := m) (by omega) (v := .int .u32 (f j).y) (by show (pcells (ptAt L m))[2]? = _; rw [f2, ← f4]; rfl)
          have y3 := RG.at3 (i := m) (by omega) (v := .string (lastP L).d) (by show (pcells (ptAt L m))[3]? = _; rw [f2]; rfl)
          have lt0 := cell_lt x0
          clear f1 f2 f3 f4 RG R0 facts mm
          have hq0 : (0 : Int) < (m : Int) + 1 := by omega
          have hq1 : (m : Int) < (m : Int) + 1 := by omega
          have hq2 : (0 : Int) ≤ (m : Int) := by omega
          have hq3 : (m : Int) + 1 - 1 = (m : Int) := by omega
          have hw0 : IntKind.i64.wrap (m : Int) = (m : Int) := IntWalk.i64_in _ ⟨by omega, by omega⟩
          have hw1 : IntKind.i64.wrap ((m : Int) + 1 - 1) = (m : Int) := by rw [hq3]; exact hw0
          go_upto_region 19 with (fail)
          have nn0 := World.new_ne w4 _ x0
          have nn1 := World.new_ne w4 _ x1
          have nn2 := World.new_ne w4 _ x2
          have nn3 := World.new_ne w4 _ x3
          have nn4 := World.new_ne w4 _ y0
          have nn5 := World.new_ne w4 _ y1
          have nn6 := World.new_ne w4 _ y2
          have nn7 := World.new_ne w4 _ y3
          go_region_held3 (fun w' => w'.cell? ⟨g, og, none⟩ = some (.int .i64 (f 0).id) ∧ w'.cell? ⟨g, og + 1, none⟩ = some (.int .u32 (f 0).x) ∧ w'.cell? ⟨g, og + 2, none⟩ = some (.int .u32 (f 0).y) ∧ w'.cell? ⟨g, og + 3, none⟩ = some (.string (f 0).d) ∧ w'.cell? ⟨g, og + m * 4, none⟩ = some (.int .i64 (lastP L).id) ∧ w'.cell? ⟨g, og + m * 4 + 1, none⟩ = some (.int .u32 (f j).x) ∧ w'.cell? ⟨g, og + m * 4 + 2, none⟩ = some (.int .u32 (f j).y) ∧ w'.cell? ⟨g, og + m * 4 + 3, none⟩ = some (.string (lastP L).d)) (go_keep) (fail)
          · clear nn0 nn1 nn2 nn3 nn4 nn5 nn6 nn7 x0 x1 x2 x3 y0 y1 y2 y3 hq0 hq1 hq2 hq3 hw0 hw1 lt0
            obtain ⟨Z0, Z1, H6⟩ : Blk ((w4.alloc (.cells #[.int .i64 (f 0).id, .int .u32 (f 0).x, .int .u32 (f 0).y, .string (f 0).d] 25)).alloc (.cells #[.int .i64 (lastP L).id, .int .u32 (f j).x, .int .u32 (f j).y, .string (lastP L).d] 25)).drew w4.heap.size #[.int .i64 (f 0).id, .int .u32 (f 0).x, .int .u32 (f 0).y, .string (f 0).d] ∧ Blk ((w4.alloc (.cells #[.int .i64 (f 0).id, .int .u32 (f 0).x, .int .u32 (f 0).y, .string (f 0).d] 25)).alloc (.cells #[.int .i64 (lastP L).id, .int .u32 (f j).x, .int .u32 (f j).y, .string (lastP L).d] 25)).drew (w4.heap.size + 1) #[.int .i64 (lastP L).id, .int .u32 (f j).x, .int .u32 (f j).y, .string (lastP L).d] ∧ Below w.heap.size w ((w4.alloc (.cells #[.int .i64 (f 0).id, .int .u32 (f 0).x, .int .u32 (f 0).y, .string (f 0).d] 25)).alloc (.cells #[.int .i64 (lastP L).id, .int .u32 (f j).x, .int .u32 (f j).y, .string (lastP L).d] 25)).drew := by
              obtain ⟨B0, B1, H⟩ := @boxed2 w4 _ #[.int .i64 (f 0).id, .int .u32 (f 0).x, .int .u32 (f 0).y, .string (f 0).d] #[.int .i64 (lastP L).id, .int .u32 (f j).x, .int .u32 (f j).y, .string (lastP L).d] 25 25 (Below.refl _ _)
              exact ⟨B0.drew, B1.drew, (below2 hbW4.out H hbW4.out.size).drew⟩
            obtain ⟨W3, hW⟩ : ∃ W3, ((w4.alloc (.cells #[.int .i64 (f 0).id, .int .u32 (f 0).x, .int .u32 (f 0).y, .string (f 0).d] 25)).alloc (.cells #[.int .i64 (lastP L).id, .int .u32 (f j).x, .int .u32 (f j).y, .string (lastP L).d] 25)).drew = W3 := ⟨_, rfl⟩
            rw [hW] at Z0 Z1 H6 ⊢

            replace hW := hid hW
            have HWh := hW
            go_upto_region 20 with (fail)
            have q0 := fun u : Later W3 => u.blk Z0
            have q1 := fun u : Later W3 => u.blk Z1
            have RW := Rl.out.more H6
            have cc : ∀ (c oo : Nat) (v : Value), W3.cell? ⟨c, oo, none⟩ = some v → ∀ u : Later W3, u.val.cell? ⟨c, oo, none⟩ = some v := fun c oo v hv u => (u.cell c oo (cell_lt hv)).trans hv
            have x0 := RW.at0 (i := 0) (by omega) (v := .int .i64 (f 0).id) rfl
            have x1 := RW.at1 (i := 0) (by omega) (v := .int .u32 (f 0).x) rfl
            have x2 := RW.at2 (i := 0) (by omega) (v := .int .u32 (f 0).y) rfl
            have x3 := RW.at3 (i := 0) (by omega) (v := .string (f 0).d) rfl
            simp only [Nat.zero_mul, Nat.add_zero] at x0 x1 x2 x3
            have A0 := cc _ _ _ x0
            have A1 := cc _ _ _ x1
            have A2 := cc _ _ _ x2
            have A3 := cc _ _ _ x3
            have B1 := cc _ _ _ (RW.at1 (i := j) (by omega) (v := .int .u32 (f j).x) rfl)
            have B2 := cc _ _ _ (RW.at2 (i := j) (by omega) (v := .int .u32 (f j).y) rfl)
            have hq0 : (0 : Int) < (j : Int) + 1 := by omega
            have hq1 : (j : Int) < (j : Int) + 1 := by omega
            have hq2 : (0 : Int) ≤ (j : Int) := by omega
            have hq3 : (j : Int) + 1 - 1 = (j : Int) := by omega
            have hw0 : IntKind.i64.wrap (j : Int) = (j : Int) := IntWalk.i64_in _ ⟨by omega, by omega⟩
            have hw1 : IntKind.i64.wrap ((j : Int) + 1 - 1) = (j : Int) := by rw [hq3]; exact hw0
            have H6h := hid H6
            clear cc x0 x1 x2 x3 RW Z0 Z1 H6 HWh
            refine wp_region_late 29 (by kernel_rfl) (by kernel_rfl) ?_
            simp only [List.take_succ_cons, List.take_zero, List.drop_succ_cons, List.drop_zero]
            iterate 29 (go_big_quiet_step (fail))
            refine wpQuiet_nil ?_
            intro w6 h6'
            have h6 := hid (late_out h6')
            clear h6' A0 A1 A2 A3 B1 B2 q0 q1
            go_wp2_with fail
            go_ret
            exact ⟨rfl, below2 H6h.out h6.out H6h.out.size⟩
          · clear nn0 nn1 nn2 nn3 nn4 nn5 nn6 nn7 x0 x1 x2 x3 y0 y1 y2 y3 hq0 hq1 hq2 hq3 hw0 hw1 lt0
            obtain ⟨Z0, Z1, H6⟩ : Blk ((w4.alloc (.cells #[.int .i64 (lastP L).id, .int .u32 (f j).x, .int .u32 (f j).y, .string (lastP L).d] 25)).alloc (.cells #[.int .i64 (f 0).id, .int .u32 (f 0).x, .int .u32 (f 0).y, .string (f 0).d] 25)).drew (w4.heap.size + 1) #[.int .i64 (f 0).id, .int .u32 (f 0).x, .int .u32 (f 0).y, .string (f 0).d] ∧ Blk ((w4.alloc (.cells #[.int .i64 (lastP L).id, .int .u32 (f j).x, .int .u32 (f j).y, .string (lastP L).d] 25)).alloc (.cells #[.int .i64 (f 0).id, .int .u32 (f 0).x, .int .u32 (f 0).y, .string (f 0).d] 25)).drew w4.heap.size #[.int .i64 (lastP L).id, .int .u32 (f j).x, .int .u32 (f j).y, .string (lastP L).d] ∧ Below w.heap.size w ((w4.alloc (.cells #[.int .i64 (lastP L).id, .int .u32 (f j).x, .int .u32 (f j).y, .string (lastP L).d] 25)).alloc (.cells #[.int .i64 (f 0).id, .int .u32 (f 0).x, .int .u32 (f 0).y, .string (f 0).d] 25)).drew := by
              obtain ⟨B0, B1, H⟩ := @boxed2 w4 _ #[.int .i64 (lastP L).id, .int .u32 (f j).x, .int .u32 (f j).y, .string (lastP L).d] #[.int .i64 (f 0).id, .int .u32 (f 0).x, .int .u32 (f 0).y, .string (f 0).d] 25 25 (Below.refl _ _)
              exact ⟨B1.drew, B0.drew, (below2 hbW4.out H hbW4.out.size).drew⟩
            obtain ⟨W3, hW⟩ : ∃ W3, ((w4.alloc (.cells #[.int .i64 (lastP L).id, .int .u32 (f j).x, .int .u32 (f j).y, .string (lastP L).d] 25)).alloc (.cells #[.int .i64 (f 0).id, .int .u32 (f 0).x, .int .u32 (f 0).y, .string (f 0).d] 25)).drew = W3 := ⟨_, rfl⟩
            rw [hW] at Z0 Z1 H6 ⊢

            replace hW := hid hW
            have HWh := hW
            go_upto_region 20 with (fail)
            have q0 := fun u : Later W3 => u.blk Z0
            have q1 := fun u : Later W3 => u.blk Z1
            have RW := Rl.out.more H6
            have cc : ∀ (c oo : Nat) (v : Value), W3.cell? ⟨c, oo, none⟩ = some v → ∀ u : Later W3, u.val.cell? ⟨c, oo, none⟩ = some v := fun c oo v hv u => (u.cell c oo (cell_lt hv)).trans hv
            have x0 := RW.at0 (i := 0) (by omega) (v := .int .i64 (f 0).id) rfl
            have x1 := RW.at1 (i := 0) (by omega) (v := .int .u32 (f 0).x) rfl
            have x2 := RW.at2 (i := 0) (by omega) (v := .int .u32 (f 0).y) rfl
            have x3 := RW.at3 (i := 0) (by omega) (v := .string (f 0).d) rfl
            simp only [Nat.zero_mul, Nat.add_zero] at x0 x1 x2 x3
            have A0 := cc _ _ _ x0
            have A1 := cc _ _ _ x1
            have A2 := cc _ _ _ x2
            have A3 := cc _ _ _ x3
            have B1 := cc _ _ _ (RW.at1 (i := j) (by omega) (v := .int .u32 (f j).x) rfl)
            have B2 := cc _ _ _ (RW.at2 (i := j) (by omega) (v := .int .u32 (f j).y) rfl)
            have hq0 : (0 : Int) < (j : Int) + 1 := by omega
            have hq1 : (j : Int) < (j : Int) + 1 := by omega
            have hq2 : (0 : Int) ≤ (j : Int) := by omega
            have hq3 : (j : Int) + 1 - 1 = (j : Int) := by omega
            have hw0 : IntKind.i64.wrap (j : Int) = (j : Int) := IntWalk.i64_in _ ⟨by omega, by omega⟩
            have hw1 : IntKind.i64.wrap ((j : Int) + 1 - 1) = (j : Int) := by rw [hq3]; exact hw0
            have H6h := hid H6
            clear cc x0 x1 x2 x3 RW Z0 Z1 H6 HWh
            refine wp_region_late 29 (by kernel_rfl) (by kernel_rfl) ?_
            simp only [List.take_succ_cons, List.take_zero, List.drop_succ_cons, List.drop_zero]
            iterate 29 (go_big_quiet_step (fail))
            refine wpQuiet_nil ?_
            intro w6 h6'
            have h6 := hid (late_out h6')
            clear h6' A0 A1 A2 A3 B1 B2 q0 q1
            go_wp2_with fail
            go_ret
            exact ⟨rfl, below2 H6h.out h6.out H6h.out.size⟩
end Go.Proofs.Ytjenhnigdgkkoaa
