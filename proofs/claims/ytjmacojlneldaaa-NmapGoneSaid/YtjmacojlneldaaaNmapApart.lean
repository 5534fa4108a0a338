/-
  Package nmap: does no sector have two nodes?
-/
import Derived.Test.YtjmacojlneldaaaNmap
import Derived.WalkArith
namespace Go.Proofs.Ytjmacojlneldaaa
open Go.RowKit Go.Maps
set_option linter.unusedVariables false
set_option linter.unusedSimpArgs false

theorem lawK : Keyed Try.prog 3 := int_keyed Try.underlying3
theorem zeroK (w : World) : (zeroValue 3).run Try.prog w = .ok (.int .i64 0) w := by kernel_rfl

/-- What the map tells behind k of them: not nothing, just where one of them is. -/
structure MetS {H : Type} (D : DataW H) (g : Nat → Int) (k : Nat) : Prop where
  map : IsMap D
  at_ : ∀ x : Int, (Lit.int .i64 x).wf = true → ∃ c : Int, D.atKey (.int .i64 x) (.lit (.int .i64 0)) = .lit (.int .i64 c) ∧ (c ≠ 0 ↔ ∃ j, j < k ∧ g j = x)
theorem MetS.nil {H : Type} (g : Nat → Int) : MetS (H := H) (.map []) g 0 :=
  ⟨isMap_empty, fun x _ => ⟨0, rfl, by simp⟩⟩
theorem MetS.put {H : Type} {D : DataW H} {g : Nat → Int} {k : Nat} (h : MetS D g k) (y : Int) (hy : y ≠ 0) (hk : WideAt.IsKeyLit (.int .i64 (g k))) : MetS (D.put (.int .i64 (g k)) (.lit (.int .i64 y))) g (k + 1) := by
  refine ⟨h.map.put _ _, fun x hx => ?_⟩
  by_cases e : x = g k
  · subst e
    refine ⟨y, by rw [atKey_put_same h.map hk], ⟨fun _ => ⟨k, by omega, rfl⟩, fun _ => hy⟩⟩
  · obtain ⟨c, hc, hi⟩ := h.at_ x hx
    refine ⟨c, by rw [atKey_put_other (fun e' => e (by cases e'; rfl))]; exact hc, hi.trans ⟨?_, ?_⟩⟩
    · rintro ⟨j, hj, ej⟩
      exact ⟨j, by omega, ej⟩
    · rintro ⟨j, hj, ej⟩
      refine ⟨j, ?_, ej⟩
      by_cases hjk : j = k
      · subst hjk; exact absurd ej.symm e
      · omega

/-- No two of the first n are one. -/
def ApartP (g : Nat → Int) (n : Nat) : Prop := ∀ i j, i < j → j < n → g i ≠ g j

theorem own_map_more {H : Type} {w w' : World} {k : TypeId} {R : Value → Option (DataW H × List MemPlace)} {b n : Nat} {D : DataW H} (h : w.ownsMap Try.prog k R b n D) (hb : Below w.heap.size w w') : w'.ownsMap Try.prog k R b n D :=
  h.kept (row := none) ⟨hb.os, hb.tape, hb.output, hb.size, fun k hk _ => hb.block k hk⟩ (by simp)
theorem RowP.sole {S : Nat → Prop} {w w' : World} {p : Option Addr} {sz n : Nat} {f : Nat → List Value} (h : RowP w p sz n f) (hs : Sole S w w') (hn : ∀ b o, p = some ⟨b, o, none⟩ → ¬ S b) : RowP w' p sz n f :=
  h.imp id fun ⟨b, o, e, r⟩ => ⟨b, o, e, Nat.lt_of_lt_of_le r.lt hs.size, fun i hi j v hv => (hs.cell r.lt (hn b o e)).trans (r.cell i hi j v hv)⟩

set_option maxRecDepth 100000 in
set_option maxHeartbeats 1000000 in
theorem apart_any (c : Array Value) (F : Nat → Int) (hc : Nums c .i64 256 F) (hF : ∀ i, i < 256 → (Lit.int .i64 (F i)).wf = true) (w : World) :
    Calls Try.prog 30 #[.agg c] w fun e w' => ∃ b, e = .returned (.bool b) ∧ (b = true ↔ ApartP (fun i => F ((idsL F 256).getD i 0).toNat) (idsL F 256).length) ∧ Below w.heap.size w w' := by
  have hmm := @run_makeMap Try.prog
  have hids := hid (fun i (hi : i < (idsL F 256).length) => ids_mem F 256 ((idsL F 256).getD i 0) (by simp [List.getD, hi]))
  have KI := hid (fun w => ids_any c F hc w)
  have hlen := ids_len F 256
  obtain ⟨L, hL⟩ : ∃ L, idsL F 256 = L := ⟨_, rfl⟩
  rw [hL] at hids KI hlen ⊢
  clear hL
  have sz := hc.size
  have NC := hid hc
  have hFh := hid hF
  obtain ⟨B0, H⟩ := @boxed1 w _ c 44 (Below.refl _ _)
  have B1 := hid (B0.alloc (.map #[] 0))
  have HH := hid (H.alloc H.size (.map #[] 0))
  have hr := hid B1.out.range
  have M0 := hid (World.ownsMap_made (H := Unit) (w.alloc (.cells c 44)) Try.prog 3 (plainElem Try.prog 3))
  have M0' := M0.out
  rw [World.size_alloc] at M0'
  replace M0 := hid M0'
  clear hc hF B0 H M0'
  go_enter Try.func30, Try.ntmps30
  go_wp2_with (refine wpList_load_mid rfl 44 _ rfl w.heap.size 0 rfl c.toList _ hr.out Try.underlying44 rfl (by rw [tab256n]; simp [sz]) ?_)
  refine (KI.out _).mono ?_
  rintro e w3 ⟨v, rfl, HI, hb3⟩
  obtain ⟨pv, cv, rfl, c1, c2, RV⟩ := HI.open
  have hbl : ∀ b o, pv = some ⟨b, o, none⟩ → L.length ≠ 0 → w.heap.size + 1 + 1 ≤ b := fun b o e hne => by
    subst e
    have := (HI.lt b rfl).1
    simpa using this
  have C3 := hid (B1.out.more hb3)
  have M3 := hid (own_map_more M0.out hb3)
  have H3 := hid (below2 HH.out hb3 HH.out.size)
  have RVh := hid RV
  have hblh := hid hbl
  have hsz3 : w.heap.size + 1 < w3.heap.size := by have := hb3.size; simp at this; omega
  clear HI hb3 RV hbl KI B1 M0 HH hr c1 c2
  go_wp2_with fail
  go_loopw [10] (fun i wr => ∃ (k : Nat) (D : DataW Unit), k ≤ L.length ∧ i = .int .i64 (k : Int) ∧ wr.ownsMap Try.prog 3 (plainElem Try.prog 3) (w.heap.size + 1) k D ∧ MetS D (fun i => F (L.getD i 0).toNat) k ∧ ApartP (fun i => F (L.getD i 0).toNat) k ∧ Sole (fun b => b = w.heap.size + 1) w3 wr) (fun i _ => L.length - (intOf i).toNat)
  case atStart => exact ⟨0, _, Nat.zero_le _, rfl, M3.out, MetS.nil _, fun i j _ hj => absurd hj (Nat.not_lt_zero _), Sole.refl _ _⟩
  case round =>
    obtain ⟨k, D, hk, rfl, HM, HS, HA, Hb⟩ := hrel
    have HMh := hid HM
    have HSh := hid HS
    have HAh := hid HA
    have Hbh := hid Hb
    by_cases hlt : k < L.length
    · obtain ⟨q, hq1, hq2, hq3, hq4⟩ := hids.out k hlt
      have R1 := RVh.out.sole Hb (fun b o e hS => by have := hblh.out b o e (by omega); omega)
      obtain ⟨b, o, rfl, RR⟩ := R1.row (by omega)
      have y0 := RR.at0 hlt (v := .int .i64 (q : Int)) (by rw [hq3]; rfl)
      rw [Nat.mul_one] at y0
      have C4 := C3.out.sole Hb (by omega)
      have z0 := (C4.cell q).trans (NC.out.get q hq1)
      have hgk : F (L.getD k 0).toNat = F q := by rw [hq3]; rfl
      have hwf := hFh.out q hq1
      obtain ⟨c', hat', hiff⟩ := HS.at_ (F q) hwf
      have hiff := hid hiff
      have hat' := hid hat'
      have hkey := keyOf_int_mk (P := Try.prog) Try.underlying3 hwf
      have hgk := hid hgk
      generalize F q = x at *
      have hq0 : (0 : Int) ≤ (q : Int) := by omega
      have hqi : (q : Int) < 256 := by omega
      have hlt1 : (k : Int) < (L.length : Int) := by omega
      have hqw : (Lit.int .i64 (q : Int)).wf = true := WalkArith.wf_i64 (by omega)
      have hkm : k < maxLen := by unfold maxLen; omega
      have hkm := hid hkm
      have hq3h := hid hq3
      clear RR R1 C4 HM HS HA Hb hq3 hq4
      go_wp2_with (first
        | (at_lookup; refine wpList_lookup_own_int _ rfl _ _ 87 rfl 3 3 .i64 lawK Try.underlying87 Try.underlying3 (zeroK _) (w.heap.size + 1) k D rfl HMh.out _ _ rfl hkey ?_; intro cc hat hwc; obtain rfl : cc = c' := by (have := hat.symm.trans hat'.out; cases this; rfl))
        | (at_mapUpdate; refine wpList_mapUpdate_own _ rfl _ _ _ 87 rfl 3 3 lawK Try.underlying87 _ (w.heap.size + 1) k D rfl HMh.out hkm.out _ _ _ rfl rfl hkey _ [] (plainElem_int Try.underlying3 hqw) ?_; intro w1 hown1 hgrow1))
      · rename_i h
        have hb := hid (H3.out.trans (Hbh.out.below (by omega) (fun j e => by omega)))
        clear hat hat' HMh
        go_ret
        refine ⟨false, rfl, ⟨fun h => (by cases h), fun hA => ?_⟩, hb.out⟩
        obtain ⟨j, hj, ej⟩ := hiff.out.1 (by simpa using h)
        exact absurd (ej.trans hgk.out.symm) (hA j k hj hlt)
      · rename_i h
        have hz : cc = 0 := by simpa using h
        have hput := HSh.out.put (q : Int) (by omega) (by show WideAt.IsKeyLit (.int .i64 (F (L.getD k 0).toNat)); rw [hgk.out]; exact lawK.key hkey)
        rw [hgk.out] at hput
        have hap : ApartP (fun i => F (L.getD i 0).toNat) (k + 1) := fun i j hij hj => by
          by_cases e : j = k
          · subst e
            intro he
            exact absurd hz (hiff.out.2 ⟨i, hij, he.trans hgk.out⟩)
          · exact HAh.out i j hij (by omega)
        have hput := hid hput
        have hap := hid hap
        have hown2 := hid hown1
        have hsole := hid (Hbh.out.trans (Sole.grown hgrow1 (fun j e => by cases e; rfl)))
        clear hat hat' HMh hown1 hgrow1 hz
        go_roundw
        case rel => exact ⟨k + 1, _, by omega, by go_num, hown2.out, hput.out, hap.out, hsole.out⟩
        case measure => simp [intOf]; omega
    · obtain rfl : k = L.length := by omega
      have hb := hid (H3.out.trans (Hbh.out.below (by omega) (fun j e => by omega)))
      clear HM HS HA Hb HMh
      go_wp2_with fail
      go_ret
      exact ⟨true, rfl, ⟨fun _ => HAh.out, fun _ => rfl⟩, hb.out⟩
end Go.Proofs.Ytjmacojlneldaaa
