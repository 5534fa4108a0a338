/-
  Layer 18: as many written entries as there is room for can go, and no more.
-/
import Derived.Test.YtibjccfillhfpaaPlanRoomMath
namespace Go.Proofs.Ytibjccfillhfpaa
open Go.RowKit
set_option linter.unusedVariables false
set_option linter.unusedSimpArgs false

set_option maxRecDepth 100000 in
set_option maxHeartbeats 16000000 in
theorem planRoom (n z s o x : Int) (fp : Option Addr) (fcap : Nat) (F : List Int) (m : Int) (m0 : 0 ≤ m) (m1 : m ≤ 255) (f1 : F.length ≤ fcap) (f2 : fcap ≤ maxLen) (f3 : F.length ≤ 17592186044416) (f4 : fp = none → F = []) (w : World) (RF : RowOf inT w fp F) :
    Calls Try.prog 4 #[geo n z, plv s o x, .slice fp F.length fcap, .int .u8 m] w fun e w' => e = .returned (.bool true) ∧ Below w.heap.size w w' := by
  obtain ⟨i0, hi, hz0, hz1, hz2⟩ := info_parts enOk.tab
  obtain ⟨B0, B1, Hb⟩ := @boxed2 w _ #[.int .i64 n, .int .i64 z] #[.int .i64 s, .int .i64 o, .int .i64 x] 23 25 (Below.refl _ _)
  obtain ⟨W, hW⟩ : ∃ W, (w.alloc (.cells #[.int .i64 n, .int .i64 z] 23)).alloc (.cells #[.int .i64 s, .int .i64 o, .int .i64 x] 25) = W := ⟨_, rfl⟩
  rw [hW] at B0 B1 Hb
  have HB0 := hid B0
  have HB1 := hid B1
  have HH := hid Hb
  replace hW := hid hW
  have RFh := hid RF
  have hF63 : (F.length : Int) ≤ 9223372036854775807 := by unfold maxLen at f2; omega
  clear B0 B1 Hb RF
  go_enter Try.func4, Try.ntmps4
  go_wp2_with fail
  rw [hW.out]
  refine (alive18 _).mono ?_
  rintro e w1 ⟨rfl, hb1⟩
  have C0 := hid (HB0.out.more hb1)
  have C1 := hid (HB1.out.more hb1)
  have D1 := hid (below2 HH.out hb1 HH.out.size)
  clear hb1 HB0 HB1 HH hW
  have KO := hid (odd_any n z s o x F fp fcap f1 f2 w1 (RowOf.more RFh.out D1.out))
  obtain ⟨l0, k0, g0⟩ := C0.out
  obtain ⟨l1', k1, g1⟩ := C1.out
  cases hpb : placedB n z ⟨s, o, x⟩ F
  · rw [hpb] at KO
    clear hpb
    go_wp2_with fail
    refine KO.out.mono ?_
    rintro e w2 ⟨rfl, hb2⟩
    have D2 := hid (below2 D1.out hb2 D1.out.size)
    clear hb2 KO
    go_wp2_with fail
    go_ret
    exact ⟨rfl, D2.out⟩
  · rw [hpb] at KO
    by_cases h6 : F.length ≤ 6
    · have h6' : ¬ (6 : Int) < (F.length : Int) := by omega
      have hG := goodP_of hpb
      have hz4 := hG.z4
      have hz32 := hG.z32
      have ho0 := hG.o0
      have hoz := hG.oz
      simp only at ho0 hoz
      have KR := hid (fun w' hb => room_any n z s o x F fp fcap f1 f2 (fun _ => by omega) w' (RowOf.more RFh.out hb))
      have hroom : roomI n z ⟨s, o, x⟩ F = roomR z ⟨s, o, x⟩ F := by unfold roomI roomR; rw [hpb]; rfl
      rw [hroom] at KR
      have q0 : 0 ≤ (F.length : Int) * (z - 1) := Int.mul_nonneg (by omega) (by omega)
      have q1 : (F.length : Int) * (z - 1) ≤ 186 := by
        have := Int.mul_le_mul (show (F.length : Int) ≤ 6 by omega) (show z - 1 ≤ 31 by omega) (by omega) (by omega)
        omega
      have hR0 : 0 ≤ roomR z ⟨s, o, x⟩ F ∧ roomR z ⟨s, o, x⟩ F ≤ 300 := by unfold roomR; simp only; omega
      have hPR := hid (fun (l : List En) (hl : l.length ≤ 400) (hw : ∀ e ∈ l, e.k = 1) => (show planP z ⟨s, o, x⟩ F l = none ↔ roomR z ⟨s, o, x⟩ F < l.length from room_plan l.length ⟨s, o, x⟩ F l hG (Nat.le_refl _) hw))
      obtain ⟨Rm, hRm⟩ : ∃ Rm : Nat, roomR z ⟨s, o, x⟩ F = (Rm : Int) := ⟨(roomR z ⟨s, o, x⟩ F).toNat, by omega⟩
      rw [hRm] at KR hR0 hPR
      have hr3 : 0 ≤ m % 3 ∧ m % 3 ≤ 2 := by omega
      obtain ⟨r, hr⟩ : ∃ r : Nat, m % 3 = (r : Int) := ⟨(m % 3).toNat, by omega⟩
      have hrt : m.tmod 3 = (r : Int) := by rw [Int.tmod_eq_emod_of_nonneg m0]; exact hr
      have hr2 : r ≤ 2 := by omega
      obtain ⟨many, hmany⟩ : ∃ many, Rm + r = many := ⟨_, rfl⟩
      have hsum : (Rm : Int) + (r : Int) = (many : Int) := by omega
      have hws : IntKind.i64.wrap ((Rm : Int) + (r : Int)) = (many : Int) := by rw [hsum]; exact IntWalk.i64_in _ ⟨by omega, by omega⟩
      have hwm : IntKind.i64.wrap m = m := IntWalk.i64_in _ ⟨by omega, by omega⟩
      have hwr : IntKind.i64.wrap (r : Int) = (r : Int) := IntWalk.i64_in _ ⟨by omega, by omega⟩
      have hm400 : many ≤ 400 := by omega
      have hmr := hid (And.intro hmany hr2)
      have hpbh := hid hpb
      clear hpb hroom hRm hG q0 q1 hr3 hmany hR0
      go_wp2_with fail
      refine KO.out.mono ?_
      rintro e w2 ⟨rfl, hb2⟩
      have D2 := hid (below2 D1.out hb2 D1.out.size)
      have E0 := hid (C0.out.more hb2)
      have E1 := hid (C1.out.more hb2)
      clear hb2 KO l0 k0 g0 l1' k1 g1 C0 C1 D1
      obtain ⟨l0, k0, g0⟩ := E0.out
      obtain ⟨l1', k1, g1⟩ := E1.out
      go_wp2_with fail
      refine (KR.out _ D2.out).mono ?_
      rintro e w3 ⟨rfl, hb3⟩
      have D3 := hid (below2 D2.out hb3 D2.out.size)
      have G0 := hid (E0.out.more hb3)
      have G1 := hid (E1.out.more hb3)
      clear hb3 KR l0 k0 g0 l1' k1 g1 E0 E1 D2
      go_wp2_with (at_make; refine wpList_make_full _ rfl _ _ 27 rfl w.heap.size 34 i0 (.agg #[.int .i64 0, .int .i64 0]) 2 Try.underlying27 hi hz0 hz1 _ _ _ _ many rfl rfl rfl rfl (by rw [hz2]; show 16 * many ≤ _; omega) (by unfold maxLen; omega) D3.out.size ?_)
      intro w4 hown4 hgrow4
      obtain ⟨c0, BC, hc0⟩ := own_full hown4
      have hze : (madeCells #[Value.int .i64 0, Value.int .i64 0] (many * 2)).toList = flatR enT (List.replicate many ⟨0, 0⟩) := zero_ens many
      rw [hze, ← fillE_zero] at hc0
      have S4 : Sole (fun _ => False) w3 w4 := Sole.grown hgrow4 (fun q hq => by simp at hq)
      have D4 := hid (D3.out.trans (S4.below D3.out.size (fun q hq => hq.elim)))
      have H0 := hid (G0.out.sole S4 (fun x => x))
      have H1 := hid (G1.out.sole S4 (fun x => x))
      have BCh := hid BC
      have hc0h := hid hc0
      have hgl : Hid (w.heap.size + 1 < w3.heap.size) := hid G1.out.lt
      obtain ⟨g, hg⟩ : ∃ g, w3.heap.size = g := ⟨_, rfl⟩
      rw [hg] at BCh hgl ⊢
      clear hown4 hgrow4 BC hc0 S4 hze G0 G1 D3 hg hi hz0 hz1 hz2
      go_wp2_with fail
      go_loopw [12] (fun s12 wr => ∃ (i : Nat) (c : Array Value), i ≤ many ∧ s12 = .int .i64 (i : Int) ∧ Blk wr g c ∧ c.toList = flatR enT (fillE i many) ∧ Sole (fun j => j = g) w4 wr) (fun s12 _ => many - (intOf s12).toNat)
      case atStart => exact ⟨0, c0, by omega, rfl, BCh.out, hc0h.out, Sole.refl _ _⟩
      case round =>
        obtain ⟨i, c, hi, rfl, BB, hc, SS⟩ := hrel
        have BBh := hid BB
        have hch := hid hc
        have SSh := hid SS
        by_cases hlt : i < many
        · have hsz : c.size = many * 2 := by
            have h : c.toList.length = many * 2 := by rw [hc, flatR_length enOk, fillE_len]; rfl
            simpa using h
          have e0 : wr.cell? ⟨g, i * 2, none⟩ = some (c[i * 2]'(by omega)) := by rw [BB.cell]; exact Array.getElem?_eq_getElem (by omega)
          have e1 : wr.cell? ⟨g, i * 2 + 1, none⟩ = some (c[i * 2 + 1]'(by omega)) := by rw [BB.cell]; exact Array.getElem?_eq_getElem (by omega)
          have ef := BB.frz
          have elt := BB.lt
          obtain ⟨y, hy⟩ : ∃ y, i % 255 = y := ⟨_, rfl⟩
          have hy0 : y < 255 := by omega
          have hy1 : ((i : Int) % 255) = (y : Int) := by omega
          have hy2 : ((i : Int)).tmod 255 = (y : Int) := by rw [Int.tmod_eq_emod_of_nonneg (by omega)]; exact hy1
          have hyw : IntKind.i64.wrap (1 + (y : Int)) = 1 + (y : Int) := IntWalk.i64_in _ ⟨by omega, by omega⟩
          have hyw0 : IntKind.i64.wrap (y : Int) = (y : Int) := IntWalk.i64_in _ ⟨by omega, by omega⟩
          have hlt1 : (i : Int) < (many : Int) := by omega
          have hi0 : (0 : Int) ≤ (i : Int) := by omega
          have hmm : (many : Int) ≤ 400 := by omega
          have hiw : IntKind.i64.wrap ((i : Int) + 1) = (i : Int) + 1 := IntWalk.i64_in _ ⟨by omega, by omega⟩
          have BN : Hid (Blk ((wr.setCell ⟨g, i * 2, none⟩ (.int .i64 1)).setCell ⟨g, i * 2 + 1, none⟩ (.int .i64 (1 + (y : Int)))) g ((c.setIfInBounds (i * 2) (.int .i64 1)).setIfInBounds (i * 2 + 1) (.int .i64 (1 + (y : Int))))) := hid ((BB.set (i * 2) _ (by omega)).set (i * 2 + 1) _ (by simp; omega))
          have hcN : Hid (((c.setIfInBounds (i * 2) (.int .i64 1)).setIfInBounds (i * 2 + 1) (.int .i64 (1 + (y : Int)))).toList = flatR enT (fillE (i + 1) many)) := hid (by
            rw [← fillE_set i many hlt, flatE_set _ _ _ (by rw [fillE_len]; exact hlt), ← hc, Array.toList_setIfInBounds, Array.toList_setIfInBounds, hy])
          have SN : Hid (Sole (fun j => j = g) w4 ((wr.setCell ⟨g, i * 2, none⟩ (.int .i64 1)).setCell ⟨g, i * 2 + 1, none⟩ (.int .i64 (1 + (y : Int))))) := hid ((SS.trans (Sole.setCell (S := fun j => j = g) (b := g) (o := i * 2) wr _ rfl)).trans (Sole.setCell (S := fun j => j = g) (b := g) (o := i * 2 + 1) _ _ rfl))
          generalize c[i * 2]'(by omega) = v0 at *
          generalize c[i * 2 + 1]'(by omega) = v1 at *
          replace hy := hid hy
          clear BB hc SS hsz
          go_wp2_with fail
          go_roundw
          case rel => exact ⟨i + 1, _, hlt, by go_num, BN.out, hcN.out, SN.out⟩
          case measure => simp [intOf]; omega
        · obtain rfl : i = many := by omega
          have RL := rowOf_blk enOk BB hc
          have hlen := fillE_len i i
          have DD := D4.out.trans (SS.below (B := w.heap.size) (by have := D4.out.size; omega) (fun j e => by have := hgl.out; omega))
          have J0 := H0.out.sole SS (by have := hgl.out; omega)
          have J1 := H1.out.sole SS (by have := hgl.out; omega)
          have hgd : (fillE i i).all goodE = true := List.all_eq_true.2 (fun e he => (fillE_all i e he).2)
          have KP := hid ((parts_any n z s o x fp fcap F (some ⟨g, 0, none⟩) i (fillE i i) f1 f2 f3 f4 (by rw [hlen]; exact Nat.le_refl _) (by unfold maxLen; omega) (by rw [hlen]; omega) wr (RowOf.more RFh.out DD) RL).mono fun e w' h => h.ok hpbh.out hgd)
          rw [hlen] at KP
          have hpl := hid (hPR.out (fillE i i) (by rw [hlen]; omega) (fun e he => (fillE_all i e he).1))
          rw [hlen] at hpl
          have DDh := hid DD
          obtain ⟨l0, k0, g0⟩ := J0
          obtain ⟨l1', k1, g1⟩ := J1
          clear BB hc SS RL hlen DD hgd hch BBh SSh
          go_wp2_with fail
          refine KP.out.mono ?_
          rintro e w5 ⟨hb5, h5⟩
          have D5 := hid (below2 DDh.out hb5 DDh.out.size)
          clear hb5 KP
          have hm1 := hmr.out.1
          have hm2 := hmr.out.2
          rcases h5 with ⟨hp, rfl⟩ | ⟨V, q, f, v, vf, hp, rfl, hV, hf⟩
          · have hgt := hpl.out.1 hp
            have t1 : ((i : Int) == (Rm : Int)) = false := by simp; omega
            have t2 : ((i : Int) == 0) = false := by simp; omega
            have t2' : (i == 0) = false := by simp; omega
            have t1' : (i == Rm) = false := by simp; omega
            clear hp hgt hm1 hm2 hsum
            go_wp2_with fail
            go_ret
            exact ⟨rfl, D5.out.alloc D5.out.size _⟩
          · have hle : ¬ (Rm : Int) < (i : Int) := fun h => by have := hpl.out.2 h; rw [this] at hp; cases hp
            have hie : i = Rm := by omega
            obtain ⟨pv, cv, rfl, c1, c2, RV⟩ := hV.row.open ptOk
            obtain ⟨pf, cf, rfl, d1, d2, RF⟩ := hf.open inOk
            obtain ⟨qs, qo, qx⟩ := q
            have t1 : ((Rm : Int) == (Rm : Int)) = true := by simp
            subst hie
            clear hp hle hm1 hm2 hsum hV hf RV RF
            go_wp2_with fail
            go_ret
            exact ⟨rfl, D5.out.alloc D5.out.size _⟩
    · have h6' : (6 : Int) < (F.length : Int) := by omega
      clear hpb
      go_wp2_with fail
      refine KO.out.mono ?_
      rintro e w2 ⟨rfl, hb2⟩
      have D2 := hid (below2 D1.out hb2 D1.out.size)
      clear hb2 KO
      go_wp2_with fail
      go_ret
      exact ⟨rfl, D2.out⟩
end Go.Proofs.Ytibjccfillhfpaa
