/-
  Package nmap: all entries, in order, or none.
-/
import Derived.Test.YtcklmemnjchdcaaRsZ
import Derived.Great.Walk
import Derived.OwnWalk
import Derived.Maps.OwnOps
import Derived.Maps.Views
import Derived.WalkArith
import Derived.Deep.DeepCutAuto
import Derived.Test.YtcklmemnjchdcaaRsN

/-
  Package nmap: where nodes are: set, listed; whether no sector has two.
-/







namespace Go.Proofs.Ytcklmemnjchdcaa
open Go.RowKit Go.Maps
set_option linter.unusedVariables false
set_option linter.unusedSimpArgs false

theorem tab256n : (Try.prog.info? 32).map (·.size) = some 256 := by kernel_rfl
theorem alloc256n (ρ : Operand → Value) (dst : Option Tmp) (ty : TypeId) (pos : String) (af : Array Edge) (w : World) : (execOp ρ { dst := dst, op := .alloc 32, type := ty, pos := pos, after := af, guard := none }).run Try.prog w =
    .ok (.value (.pointer (some ⟨w.heap.size, 0, none⟩))) (w.alloc (.cells (Array.replicate 256 (.int .i64 0)) 32)) := by kernel_rfl
/-- m with a node at a sector, as its cells. -/
def setC (c : Array Value) (id a : Int) : Array Value := if 0 < id ∧ id < 256 then c.setIfInBounds id.toNat (.int .i64 a) else c
def setF (F : Nat → Int) (id a : Int) (j : Nat) : Int := if (0 < id ∧ id < 256) ∧ (j : Int) = id then a else F j
/-- The Ids up to k that are somewhere. -/
def idsL (F : Nat → Int) : Nat → List Int
  | 0 => []
  | k + 1 => idsL F k ++ if decide (0 < (k : Int)) && (F k != 0) then [(k : Int)] else []
end Go.Proofs.Ytcklmemnjchdcaa

/-
  Package nmap: does no sector have two nodes?
-/


namespace Go.Proofs.Ytcklmemnjchdcaa
open Go.RowKit Go.Maps
set_option linter.unusedVariables false
set_option linter.unusedSimpArgs false

/-- What the map tells behind k of them: not nothing, just where one of them is. -/
structure MetS {H : Type} (D : DataW H) (g : Nat → Int) (k : Nat) : Prop where
  map : IsMap D
  at_ : ∀ x : Int, (Lit.int .i64 x).wf = true → ∃ c : Int, D.atKey (.int .i64 x) (.lit (.int .i64 0)) = .lit (.int .i64 c) ∧ (c ≠ 0 ↔ ∃ j, j < k ∧ g j = x)
theorem MetS.nil {H : Type} (g : Nat → Int) : MetS (H := H) (.map []) g 0 :=
  ⟨isMap_empty, fun x _ => ⟨0, rfl, by simp⟩⟩
theorem MetS.put {H : Type} {D : DataW H} {g : Nat → Int} {k : Nat} (h : MetS D g k) (y : Int) (hy : y ≠ 0) (hk : WideAt.IsKeyLit (.int .i64 (g k))) : MetS (D.put (.int .i64 (g k)) (.lit (.int .i64 y))) g (k + 1) := by
  refine ⟨h.map.put _ _, fun x hx => ?_⟩
  by_cases e : x = g k
  · subst e
    refine ⟨y, by rw [atKey_put_same h.map hk], ⟨fun _ => ⟨k, by omega, rfl⟩, fun _ => hy⟩⟩
  · obtain ⟨c, hc, hi⟩ := h.at_ x hx
    refine ⟨c, by rw [atKey_put_other (fun e' => e (by cases e'; rfl))]; exact hc, hi.trans ⟨?_, ?_⟩⟩
    · rintro ⟨j, hj, ej⟩
      exact ⟨j, by omega, ej⟩
    · rintro ⟨j, hj, ej⟩
      refine ⟨j, ?_, ej⟩
      by_cases hjk : j = k
      · subst hjk; exact absurd ej.symm e
      · omega

/-- No two of the first n are one. -/
def ApartP (g : Nat → Int) (n : Nat) : Prop := ∀ i j, i < j → j < n → g i ≠ g j

theorem RowP.sole {S : Nat → Prop} {w w' : World} {p : Option Addr} {sz n : Nat} {f : Nat → List Value} (h : RowP w p sz n f) (hs : Sole S w w') (hn : ∀ b o, p = some ⟨b, o, none⟩ → ¬ S b) : RowP w' p sz n f :=
  h.imp id fun ⟨b, o, e, r⟩ => ⟨b, o, e, Nat.lt_of_lt_of_le r.lt hs.size, fun i hi j v hv => (hs.cell r.lt (hn b o e)).trans (r.cell i hi j v hv)⟩

end Go.Proofs.Ytcklmemnjchdcaa

/-
  Layer 17: the law's own beginning: one is set.
-/


namespace Go.Proofs.Ytcklmemnjchdcaa
open Go.RowKit Go.Maps
set_option linter.unusedVariables false
set_option linter.unusedSimpArgs false

end Go.Proofs.Ytcklmemnjchdcaa

/-
  Layer 17: what is set, and which Ids are somewhere, is as the page says; whether sectors are apart, too. The walk of NmapTells.
-/




namespace Go.Proofs.Ytcklmemnjchdcaa
open Go.RowKit Go.Maps
set_option linter.unusedVariables false
set_option linter.unusedSimpArgs false

/-- A new slice of these numbers. -/
def NewIntsN (L : List Int) (v : Value) (w : World) : Prop := ∃ p cap, v = .slice p L.length cap ∧ L.length ≤ cap ∧ cap ≤ maxLen ∧ RowP w p 1 L.length (fun i => [.int .i64 (L.getD i 0)])
theorem NewIntsN.row {L : List Int} {p : Option Addr} {m cap : Nat} {w : World} (h : NewIntsN L (.slice p m cap) w) : L.length ≤ cap ∧ cap ≤ maxLen ∧ RowP w p 1 L.length (fun i => [.int .i64 (L.getD i 0)]) := by
  obtain ⟨p', cap', e, h1, h2, R⟩ := h
  cases e
  exact ⟨h1, h2, R⟩

/-- Has none of these the same? -/
def apL (F : Nat → Int) (L : List Int) : Bool := decide (L.Pairwise fun a b => F a.toNat ≠ F b.toNat)
def neB (F : Nat → Int) (L : List Int) (x : Int) : Nat → Bool
  | 0 => true
  | t + 1 => neB F L x t && (F (L.getD t 0).toNat != x)
/-- Two arrays of the same numbers are one. -/
theorem eql_numsn {t : TypeId} {m : Nat} (h : Try.prog.underlying t = some (.array m 3)) {d : Array Value} {F : Nat → Int} (hd : Nums d .i64 m F) (w : World) :
    (Op.equalIn 10000 t (.agg d) (.agg d)).run Try.prog w = .ok true w := by
  have e1 : ∀ w, (isAgg 3).run Try.prog w = .ok false w := fun w => by kernel_rfl
  have e2 : ∀ w, (sizeOf 3).run Try.prog w = .ok 1 w := fun w => by kernel_rfl
  show (Op.equalIn (9998 + 2) t (.agg d) (.agg d)).run Try.prog w = .ok true w
  generalize 9998 = f
  rw [Op.equalIn]
  simp only [Sem.run_bind, run_underlying h, Result.andThen_ok, e2, Std.Legacy.Range.forIn_eq_forIn_range', Std.Legacy.Range.size, Nat.sub_zero, Nat.add_sub_cancel, Nat.div_one]
  have hl : ∀ i ∈ List.range' 0 m 1, i < m := fun i hi => by simpa using (List.mem_range'_1.1 hi).2
  generalize List.range' 0 m 1 = l at hl ⊢
  induction l with
  | nil => simp
  | cons i l ih =>
    have hi : i < m := hl i (by simp)
    have px : (part 3 d (i * 1)).run Try.prog w = .ok (.int .i64 (F i)) w := by
      simp [part, e1, hd.get i hi]
    have pe : (Op.equalIn (f + 1) 3 (.int .i64 (F i)) (.int .i64 (F i))).run Try.prog w = .ok true w := by
      rw [run_equalIn_int w f 3 .i64 .i64 _ _ Try.underlying3]
      simp
    simp only [List.forIn_cons, Sem.run_bind, px, pe, Result.andThen_ok]
    simp only [Bool.not_true, Bool.false_eq_true, if_false, Sem.run_pure, Result.andThen_ok]
    exact ih fun j hj => hl j (by simp [hj])

end Go.Proofs.Ytcklmemnjchdcaa

/-
  Package batch, as nmap reaches it: which summaries may be. (The text of Batch's beginning: the law of another layer is not in this seat.)
-/


namespace Go.Proofs.Ytcklmemnjchdcaa
end Go.Proofs.Ytcklmemnjchdcaa

namespace Go.Proofs.Ytcklmemnjchdcaa
open Go.RowKit Go.Maps
set_option linter.unusedVariables false
set_option linter.unusedSimpArgs false

/-- May this entry be, where u of the m sectors have nodes? -/
def okE (e : En) (u m : Nat) : Bool := goodE e && (decide (e.k = 2) || decide (u < m))
def usedA (f : Nat → En) : Nat → Nat
  | 0 => 0
  | k + 1 => usedA f k + if (f k).k = 1 then 1 else 0
def cellA (c : Array Value) (f : Nat → En) (g : Nat → Int) : Nat → Array Value
  | 0 => c
  | k + 1 => (cellA c f g k).setIfInBounds (f k).i.toNat (.int .i64 (if (f k).k = 1 then g (usedA f k) else 0))
def okA (f : Nat → En) (m : Nat) : Nat → Bool
  | 0 => true
  | k + 1 => okA f m k && okE (f k) (usedA f k) m
theorem okA_le (f : Nat → En) (m k : Nat) : ∀ n, k ≤ n → okA f m n = true → okA f m k = true
  | 0, h, ho => by obtain rfl : k = 0 := by omega
                   exact ho
  | n + 1, h, ho => by
    by_cases e : k = n + 1
    · rw [e]; exact ho
    · exact okA_le f m k n (by omega) (Bool.and_eq_true _ _ ▸ ho : _ ∧ _).1
theorem okA_bad (f : Nat → En) {m k n : Nat} (h : okE (f k) (usedA f k) m = false) (hk : k < n) : okA f m n = false := by
  cases ho : okA f m n with
  | false => rfl
  | true =>
    have : okA f m (k + 1) = true := okA_le f m (k + 1) n hk ho
    rw [okA, h, Bool.and_false] at this
    cases this
/-- Is all of it done, and what is where then? -/
def finA (f : Nat → En) (m n : Nat) : Bool := okA f m n && decide (usedA f n = m)
def resA (c : Array Value) (f : Nat → En) (g : Nat → Int) (m n : Nat) : Array Value := if finA f m n = true then cellA c f g n else c
theorem fin_bad (c : Array Value) (f : Nat → En) (g : Nat → Int) {m k n : Nat} (h : okE (f k) (usedA f k) m = false) (hk : k < n) : finA f m n = false ∧ resA c f g m n = c := by
  have e : finA f m n = false := by unfold finA; rw [okA_bad f h hk, Bool.false_and]
  exact ⟨e, by unfold resA; rw [e]; rfl⟩
theorem cellA_nums {c : Array Value} {F : Nat → Int} (hc : Nums c .i64 256 F) (f : Nat → En) (g : Nat → Int) : ∀ k, ∃ G, Nums (cellA c f g k) .i64 256 G
  | 0 => ⟨F, hc⟩
  | k + 1 => by
    obtain ⟨G, h⟩ := cellA_nums hc f g k
    show ∃ G, Nums ((cellA c f g k).setIfInBounds (f k).i.toNat (.int .i64 _)) .i64 256 G
    by_cases hi : (f k).i.toNat < 256
    · exact ⟨fun j => if j = (f k).i.toNat then _ else G j, h.set hi fun j hj => rfl⟩
    · rw [Array.setIfInBounds_eq_of_size_le (by have := h.size; omega)]
      exact ⟨G, h⟩
theorem bCk_one (e : En) : bCk 0 1 (fun _ => e) = if goodE e then 0 else 12 := by
  unfold bCk
  rw [if_neg (by omega), if_neg (by omega)]
  simp [allG]
theorem row_one {w : World} {b : Nat} {e : En} (h : Blk w b #[.int .i64 e.k, .int .i64 e.i]) : RowP w (some ⟨b, 0, none⟩) 2 1 (fun _ => ecells e) :=
  .inr ⟨b, 0, rfl, h.lt, fun i hi j v hv => by
    obtain rfl : i = 0 := by omega
    rw [show 0 + 0 * 2 + j = j by omega, h.cell j]
    match j, hv with
    | 0, hv => simpa [ecells] using hv
    | 1, hv => simpa [ecells] using hv⟩
theorem check_one (b : Nat) (e : En) (w : World) (h : Blk w b #[.int .i64 e.k, .int .i64 e.i]) :
    Calls Try.prog 24 #[smval 0 false (some ⟨b, 0, none⟩) 1 1] w fun e' w' => e' = .returned (.int .i64 (if goodE e then 0 else 12)) ∧ Below w.heap.size w w' := by
  have := bcheck_any 0 false (some ⟨b, 0, none⟩) 1 1 (fun _ => e) (by omega) (by unfold maxLen; omega) w (row_one h)
  rw [bCk_one] at this
  exact this
theorem results_blk2 {P : Program} {fn : Func} {p t : Tmp} {ty : TypeId} (h : fn.results = #[.cell p ty, .tmp t]) (tmps : Array Value) (w : World) (g : Nat) (c : Array Value) (d : TypeDesc) (v : Value)
    (hp : tmps.getD p undef = .pointer (some ⟨g, 0, none⟩)) (hv : tmps.getD t undef = v) (B : Blk w g c) (hu : P.underlying ty = some d) (hd : d.isRow = true) (hi : (P.info? ty).map (·.size) = some c.size) :
    (results fn tmps).run P w = .ok (.tuple #[.agg c, v]) w := by
  have hp' : tmps[p]?.getD undef = .pointer (some ⟨g, 0, none⟩) := by simpa using hp
  have hv' : tmps[t]?.getD undef = v := by simpa using hv
  have := run_loadVar_mid (P := P) w g 0 ty c.toList d B.range hu hd (by rw [hi]; simp)
  simp [results, h, hp', hv', asAddr, this]

theorem rowp_tail {w : World} {b o r u : Nat} {g : Nat → Int} (h : Row w b o 1 r (fun j => [.int .i64 (g (u + j))])) : RowP w (some ⟨b, o + 1, none⟩) 1 (r - 1) (fun j => [.int .i64 (g (u + 1 + j))]) :=
  .inr ⟨b, o + 1, rfl, h.lt, fun i hi j v hv => by
    have := h.cell (i + 1) (by omega) j v (by rw [show u + (i + 1) = u + 1 + i by omega]; exact hv)
    rw [show o + 1 + i * 1 + j = o + (i + 1) * 1 + j by omega]
    exact this⟩

set_option maxRecDepth 100000 in
set_option maxHeartbeats 4000000 in
theorem napply_any (c : Array Value) (F : Nat → Int) (hc : Nums c .i64 256 F) (p : Option Addr) (n cap : Nat) (f : Nat → En) (h1 : n ≤ cap) (h2 : cap ≤ maxLen) (q : Option Addr) (m capm : Nat) (g : Nat → Int) (m1 : m ≤ capm) (m2 : capm ≤ maxLen)
    (w : World) (HL0 : RowP w p 2 n (fun i => ecells (f i))) (HA0 : RowP w q 1 m (fun i => [.int .i64 (g i)])) :
    Calls Try.prog 11 #[.agg c, .slice p n cap, .slice q m capm] w fun e w' => e = .returned (.tuple #[.agg (resA c f g m n), .bool (finA f m n)]) ∧ Below w.heap.size w w' := by
  have sz := hc.size
  have one := hc.one
  have NA := hid (fun k => cellA_nums hc f g k)
  have HL := hid HL0
  have HA := hid HA0
  have hbad := hid (fun k hk h => fin_bad c f g (m := m) (k := k) (n := n) h hk)
  have hfinD := hid (show finA f m n = (okA f m n && decide (usedA f n = m)) from rfl)
  have hresD := hid (show resA c f g m n = if finA f m n = true then cellA c f g n else c from rfl)
  generalize finA f m n = fin at *
  generalize resA c f g m n = res at *
  obtain ⟨B0, B1, H⟩ := @boxed2 w _ c (Array.replicate 256 (.int .i64 0)) 32 32 (Below.refl _ _)
  have hB0 := hid B0
  have hB1 := hid B1
  have HH := hid H
  have h2n : cap ≤ 9223372036854775807 := by unfold maxLen at h2; omega
  clear hc B0 B1 H HL0 HA0
  obtain ⟨W, hW⟩ : ∃ W, (w.alloc (.cells c 32)).alloc (.cells (Array.replicate 256 (.int .i64 0)) 32) = W := ⟨_, rfl⟩
  rw [hW] at hB0 hB1 HH
  have hr := hid hB0.out.range
  go_enter Try.func11, Try.ntmps11
  go_upto_region 2 with (first
    | (refine Go.Great.wpList_runTo rfl (some 6) rfl _ _ (alloc256n _ _ _ _ _ _) ?_)
    | (refine Go.Great.wpList_runTo rfl (some 8) rfl _ _ (alloc256n _ _ _ _ _ _) ?_)
    | (refine wpList_load_mid rfl 32 _ rfl w.heap.size 0 rfl c.toList _ hr.out Try.underlying32 rfl (by rw [tab256n]; simp [sz]) ?_)
    | (refine wpList_store_mid rfl 32 _ _ rfl W.heap.size 0 c rfl rfl ((Blk.new W (Array.replicate 256 (.int .i64 0)) 32).there (by rw [sz]; simp)) (by rw [tab256n, sz]) one ?_))
  generalize hW3 : World.setCells _ _ _ _ = W3
  obtain ⟨E3, H3⟩ : Blk W3 W.heap.size c ∧ Below W.heap.size W W3 := by
    subst hW3
    exact ⟨(Blk.new W (Array.replicate 256 (.int .i64 0)) 32).whole (by rw [sz]; simp), below_cells ((Below.refl _ _).alloc (Nat.le_refl _) _) (Nat.le_refl _) _ _⟩
  have C0 := hid (hB0.out.more H3)
  have C1 := hid (hB1.out.more H3)
  have C2 := hid E3
  have HB := hid (below2 HH.out H3 HH.out.size)
  have hlt0 := hB0.out.lt
  have hlt1 := hB1.out.lt
  have hlt2 := E3.lt
  clear hB0 hB1 E3 H3 HH hr hW3 hW
  generalize W.heap.size = bt at *
  go_wp2_with fail
  go_loopw [2, 14] (fun a i wx => ∃ (k r cr : Nat) (q' : Option Addr), k ≤ n ∧ i = .int .i64 (k : Int) ∧ a = .slice q' r cr ∧ r ≤ cr ∧ cr ≤ maxLen ∧ usedA f k + r = m ∧ RowP w q' 1 r (fun j => [.int .i64 (g (usedA f k + j))]) ∧ okA f m k = true ∧ Blk wx bt (cellA c f g k) ∧ Sole (fun b => b = bt) W3 wx) (fun _ i _ => n - (intOf i).toNat)
  case atStart => exact ⟨0, m, capm, q, by omega, rfl, rfl, m1, m2, by simp [usedA], by simpa [usedA] using HA.out, rfl, C2.out, Sole.refl _ _⟩
  case round =>
    obtain ⟨k, r, cr, q', hk, rfl, rfl, hr1, hr2, hu, HQ, ha, BX, Hs⟩ := hrel
    have Hw := HB.out.trans (Hs.below (B := w.heap.size) (by omega) (fun j e => by omega))
    by_cases hlt : k < n
    · obtain ⟨b, o, rfl, R0⟩ := HL.out.row (by omega)
      have hstU : usedA f (k + 1) = usedA f k + if (f k).k = 1 then 1 else 0 := rfl
      have hstC : cellA c f g (k + 1) = (cellA c f g k).setIfInBounds (f k).i.toNat (.int .i64 (if (f k).k = 1 then g (usedA f k) else 0)) := rfl
      have hstO : okA f m (k + 1) = (okA f m k && okE (f k) (usedA f k) m) := rfl
      have hbd := hbad.out k hlt
      have NK := NA.out k
      have R := R0.more Hw
      obtain ⟨⟨ek, ei⟩, he⟩ : ∃ e, f k = e := ⟨_, rfl⟩
      have z0 := R.at0 hlt (v := .int .i64 ek) (by rw [he]; rfl)
      have z1 := R.at1 hlt (v := .int .i64 ei) (by rw [he]; rfl)
      rw [he] at hstU hstC hstO hbd
      generalize usedA f k = u at *
      generalize cellA c f g k = d at *
      obtain ⟨G, NK⟩ := NK
      have szd := NK.size
      have oned := NK.one
      obtain ⟨X0, X1, XH⟩ := @boxed2 wr _ #[.int .i64 ek, .int .i64 ei] #[.int .i64 ek, .int .i64 ei] 70 70 (Below.refl _ _)
      have X0h := hid X0
      have X1h := hid X1
      have XHh := hid XH
      have BXh := hid BX
      have Hsh := hid Hs
      have Hwh := hid Hw
      have HQh := hid HQ
      have NKh := hid NK
      have hltb : W3.heap.size ≤ wr.heap.size := Hs.size
      have KC := hid (check_one (wr.heap.size + 1) ⟨ek, ei⟩ _ X1)
      have hgw := good_ways ⟨ek, ei⟩
      replace he := hid he
      have hgd : okE ⟨ek, ei⟩ u m = (goodE ⟨ek, ei⟩ && (decide (ek = 2) || decide (u < m))) := rfl
      replace hstU := hid hstU
      replace hstC := hid hstC
      replace hstO := hid hstO
      clear R R0 X0 X1 XH BX Hs Hw HQ NK
      have hways : (goodE ⟨ek, ei⟩ = false) ∨ (goodE ⟨ek, ei⟩ = true ∧ (ek = 2 ∨ ek = 1) ∧ 1 ≤ ei ∧ ei ≤ 255) := by
        rcases hgw with ⟨a1, a2, a3, a4⟩ | h | h | h | h
        · exact .inr ⟨a1, a2.symm, a3, a4⟩
        all_goals exact .inl h.1
      clear hgw
      rcases hways with hg | ⟨hg, hk12, i1, i2⟩
      · have hbd := hid (hbd (by rw [hgd, hg]; rfl))
        have KC := hid (show Calls Try.prog 24 #[smval 0 false (some ⟨wr.heap.size + 1, 0, none⟩) 1 1] _ (fun e' w' => e' = .returned (.int .i64 12) ∧ Below _ _ w') by have := KC.out; rw [hg] at this; exact this)
        clear hg hgd
        go_wp2_with fail
        refine KC.out.mono ?_
        rintro e w5 ⟨rfl, hb5⟩
        have H5 := hid (below2 XHh.out hb5 XHh.out.size)
        have S5 := hid (Hsh.out.trans (Sole.made H5.out))
        have r0 := hid (C0.out.sole S5.out (by omega)).range
        have Y1 := hid (C1.out.sole S5.out (by omega))
        have th := Y1.out.there (n := c.size) (by rw [sz]; simp)
        have HE := hid (HB.out.trans (S5.out.below (B := w.heap.size) (by omega) (fun j e => by omega)))
        clear hb5 z0 z1
        go_wp2_with (first
          | (refine wpList_load_mid rfl 32 _ rfl w.heap.size 0 rfl c.toList _ r0.out Try.underlying32 rfl (by rw [tab256n]; simp [sz]) ?_)
          | (refine wpList_store_mid rfl 32 _ _ rfl (w.heap.size + 1) 0 c rfl rfl th (by rw [tab256n, sz]) one ?_))
        refine bodyPost_ret (v := .tuple #[.agg c, .bool false]) (results_blk2 rfl _ _ (w.heap.size + 1) c _ _ rfl rfl (Y1.out.whole (by rw [sz]; simp)) Try.underlying32 rfl (by rw [tab256n, sz])) rfl ⟨by rw [hbd.out.1, hbd.out.2], below_cells HE.out (by omega) _ _⟩
      · have KC := hid (show Calls Try.prog 24 #[smval 0 false (some ⟨wr.heap.size + 1, 0, none⟩) 1 1] _ (fun e' w' => e' = .returned (.int .i64 0) ∧ Below _ _ w') by have := KC.out; rw [hg] at this; exact this)
        obtain ⟨j, rfl⟩ : ∃ j : Nat, ei = j := ⟨ei.toNat, by omega⟩
        have hj : j < 256 := by omega
        have hj0 : (0 : Int) ≤ (j : Int) := by omega
        have hj2 : (j : Int) < 256 := by omega
        rw [hg, Bool.true_and] at hgd
        replace hg := hid hg
        clear i1 i2
        rcases hk12 with rfl | rfl
        · have hok := hid (show okE ⟨2, j⟩ u m = true by rw [hgd]; rfl)
          have hU := hid (show usedA f (k + 1) = u from hstU.out)
          have hC := hid (show cellA c f g (k + 1) = d.setIfInBounds j (.int .i64 0) from hstC.out)
          clear hgd hbd
          go_wp2_with fail
          refine KC.out.mono ?_
          rintro e w5 ⟨rfl, hb5⟩
          have H5 := hid (below2 XHh.out hb5 XHh.out.size)
          have S5 := hid (Hsh.out.trans (Sole.made H5.out))
          have Y0 := hid (X0h.out.more hb5)
          have YB := BXh.out.more H5.out
          have YZ := hid (YB.set j (.int .i64 0) (by rw [szd]; exact hj))
          have SZ := hid (S5.out.trans (Sole.setCell (S := fun b => b = bt) w5 (o := j) (.int .i64 0) rfl))
          have v0 := (YB.cell j).trans (NKh.out.get j hj)
          have v1 := YB.frz
          have v2 := YB.lt
          obtain ⟨l0, k0, f0⟩ := Y0.out
          clear hb5 z0 z1 YB
          go_wp2_with fail
          go_roundw
          case rel => exact ⟨k + 1, r, cr, q', by omega, by go_num, rfl, hr1, hr2, by rw [hU.out]; exact hu, by rw [hU.out]; exact HQh.out, by rw [hstO.out, ha, hok.out]; rfl, by rw [hC.out]; exact YZ.out, SZ.out⟩
          case measure => simp [intOf]; omega
        · by_cases hr0 : r = 0
          · have hbd := hid (hbd (by rw [hgd, decide_eq_false (show ¬ u < m by omega)]; rfl))
            subst hr0
            clear hgd
            go_wp2_with fail
            refine KC.out.mono ?_
            rintro e w5 ⟨rfl, hb5⟩
            have H5 := hid (below2 XHh.out hb5 XHh.out.size)
            have S5 := hid (Hsh.out.trans (Sole.made H5.out))
            have r0 := hid (C0.out.sole S5.out (by omega)).range
            have Y0 := hid (X0h.out.more hb5)
            have Y1 := hid (C1.out.sole S5.out (by omega))
            have th := Y1.out.there (n := c.size) (by rw [sz]; simp)
            have HE := hid (HB.out.trans (S5.out.below (B := w.heap.size) (by omega) (fun j e => by omega)))
            obtain ⟨l0, k0, f0⟩ := Y0.out
            clear hb5 z0 z1
            go_wp2_with (first
              | (refine wpList_load_mid rfl 32 _ rfl w.heap.size 0 rfl c.toList _ r0.out Try.underlying32 rfl (by rw [tab256n]; simp [sz]) ?_)
              | (refine wpList_store_mid rfl 32 _ _ rfl (w.heap.size + 1) 0 c rfl rfl th (by rw [tab256n, sz]) one ?_))
            refine bodyPost_ret (v := .tuple #[.agg c, .bool false]) (results_blk2 rfl _ _ (w.heap.size + 1) c _ _ rfl rfl (Y1.out.whole (by rw [sz]; simp)) Try.underlying32 rfl (by rw [tab256n, sz])) rfl ⟨by rw [hbd.out.1, hbd.out.2], below_cells HE.out (by omega) _ _⟩
          · have hok := hid (show okE ⟨1, j⟩ u m = true by rw [hgd, decide_eq_true (show u < m by omega), Bool.or_true])
            have hU := hid (show usedA f (k + 1) = u + 1 from hstU.out)
            have hC := hid (show cellA c f g (k + 1) = d.setIfInBounds j (.int .i64 (g u)) from hstC.out)
            obtain ⟨bq, oq, rfl, RQ⟩ := HQh.out.row hr0
            have RT := hid (show RowP w (if cr = 1 then some ⟨bq, oq, none⟩ else some ⟨bq, oq + 1, none⟩) 1 (r - 1) (fun j => [.int .i64 (g (u + 1 + j))]) by
              by_cases hc1 : cr = 1
              · exact .inl (by omega)
              · rw [if_neg hc1]; exact rowp_tail RQ)
            have RQh := hid RQ
            have hst1 := hid (show okA f m (k + 1) = true by rw [hstO.out, ha, hok.out]; rfl)
            have hu1 := hid hu
            have hr2h := hid hr2
            have hr2n : cr ≤ 9223372036854775807 := by unfold maxLen at hr2; omega
            clear hgd hbd RQ ha hu hr2
            have e1 : (1 : Int) ≤ (r : Int) := by omega
            have e2 : (r : Int) ≤ (cr : Int) := by omega
            have e3 : 1 ≤ r := by omega
            have e4 : (1 : Int) ≤ (cr : Int) := by omega
            have rq : (r : Int) ≠ 0 := by omega
            go_wp2_with fail
            refine KC.out.mono ?_
            rintro e w5 ⟨rfl, hb5⟩
            have H5 := hid (below2 XHh.out hb5 XHh.out.size)
            have S5 := hid (Hsh.out.trans (Sole.made H5.out))
            have HE := hid (HB.out.trans (S5.out.below (B := w.heap.size) (by omega) (fun j e => by omega)))
            have Y0 := hid (X0h.out.more hb5)
            have YB := BXh.out.more H5.out
            have y0 : w5.cell? ⟨bq, oq, none⟩ = some (.int .i64 (g u)) := by simpa using (RQh.out.more HE.out).at0 (i := 0) (by omega) rfl
            generalize g u = x at *
            have YZ := hid (YB.set j (.int .i64 x) (by rw [szd]; exact hj))
            have SZ := hid (S5.out.trans (Sole.setCell (S := fun b => b = bt) w5 (o := j) (.int .i64 x) rfl))
            have v0 := (YB.cell j).trans (NKh.out.get j hj)
            have v1 := YB.frz
            have v2 := YB.lt
            obtain ⟨l0, k0, f0⟩ := Y0.out
            clear hb5 z0 z1 YB
            go_wp2_with fail
            go_region
            go_wp2_with fail
            go_roundw
            case rel => exact ⟨k + 1, r - 1, cr - 1, _, by omega, by go_num, rfl, by omega, Nat.le_trans (Nat.sub_le _ _) hr2h.out, by rw [hU.out]; have := hu1.out; omega, by rw [hU.out]; exact RT.out, hst1.out, by rw [hC.out]; exact YZ.out.drew, SZ.out.drew⟩
            case measure => simp [intOf]; omega
    · obtain rfl : k = n := by omega
      obtain ⟨G, NK⟩ := NA.out k
      have szd := NK.size
      have oned := NK.one
      have r0 := hid (C0.out.sole Hs (by omega)).range
      have rN := hid BX.range
      have Y1 := hid (C1.out.sole Hs (by omega))
      have HE := hid Hw
      have th := Y1.out.there (n := c.size) (by rw [sz]; simp)
      have thd := Y1.out.there (n := (cellA c f g k).size) (by rw [szd]; simp)
      have hfin : fin = decide (usedA f k = m) := by rw [hfinD.out, ha, Bool.true_and]
      by_cases hr0 : r = 0
      · have hfin := hid (show fin = true by rw [hfin]; exact decide_eq_true (by omega))
        have hres := hid (show res = cellA c f g k by rw [hresD.out, if_pos hfin.out])
        subst hr0
        generalize cellA c f g k = d at *
        clear NK BX Hs Hw HQ ha hu
        go_wp2_with (first
          | (refine wpList_load_mid rfl 32 _ rfl bt 0 rfl d.toList _ rN.out Try.underlying32 rfl (by rw [tab256n]; simp [szd]) ?_)
          | (refine wpList_store_mid rfl 32 _ _ rfl (w.heap.size + 1) 0 d rfl rfl thd (by rw [tab256n, szd]) oned ?_))
        refine bodyPost_ret (v := .tuple #[.agg d, .bool true]) (results_blk2 rfl _ _ (w.heap.size + 1) d _ _ rfl rfl (Y1.out.whole (by rw [szd]; simp)) Try.underlying32 rfl (by rw [tab256n, szd])) rfl ⟨by rw [hfin.out, hres.out], below_cells HE.out (by omega) _ _⟩
      · have hfin := hid (show fin = false by rw [hfin]; exact decide_eq_false (by omega))
        have hres := hid (show res = c by rw [hresD.out, if_neg (by rw [hfin.out]; simp)])
        have e3 : 0 < r := by omega
        have e4 : (0 : Int) < (r : Int) := by omega
        clear NK BX Hs Hw HQ ha hu
        go_wp2_with (first
          | (refine wpList_load_mid rfl 32 _ rfl w.heap.size 0 rfl c.toList _ r0.out Try.underlying32 rfl (by rw [tab256n]; simp [sz]) ?_)
          | (refine wpList_store_mid rfl 32 _ _ rfl (w.heap.size + 1) 0 c rfl rfl th (by rw [tab256n, sz]) one ?_))
        refine bodyPost_ret (v := .tuple #[.agg c, .bool false]) (results_blk2 rfl _ _ (w.heap.size + 1) c _ _ rfl rfl (Y1.out.whole (by rw [sz]; simp)) Try.underlying32 rfl (by rw [tab256n, sz])) rfl ⟨by rw [hfin.out, hres.out], below_cells HE.out (by omega) _ _⟩
end Go.Proofs.Ytcklmemnjchdcaa
