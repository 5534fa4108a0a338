/-
  Package code: Check: which steps may be.
-/
import Derived.Test.YtngfhbclapadoaaCodeMath
namespace Go.Proofs.Ytngfhbclapadoaa
open Go.RowKit
set_option linter.unusedVariables false
set_option linter.unusedSimpArgs false

set_option maxRecDepth 100000 in
theorem fate1_any (z : Int) (w : World) :
    Calls Try.prog 32 #[.int .i64 z] w fun e w' => e = .returned (.bool (!fateB z)) ∧ Below w.heap.size w w' := by
  by_cases h0 : z < 0
  · have hc := hid (show fateB z = false by simp [fateB]; omega)
    have h0' : decide (z < 0) = true := decide_eq_true h0
    clear h0
    go_enter Try.func32, Try.ntmps32
    go_wp2
    go_ret
    exact ⟨by rw [hc.out]; rfl, Below.refl _ _⟩
  · have h0' : decide (z < 0) = false := decide_eq_false h0
    by_cases h1 : 65535 < z
    · have hc := hid (show fateB z = false by simp [fateB]; omega)
      have h1' : decide (65535 < z) = true := decide_eq_true h1
      clear h0 h1
      go_enter Try.func32, Try.ntmps32
      go_wp2
      go_ret
      exact ⟨by rw [hc.out]; rfl, Below.refl _ _⟩
    · have hc := hid (show fateB z = true by simp [fateB]; omega)
      have h1' : decide (65535 < z) = false := decide_eq_false h1
      clear h0 h1
      go_enter Try.func32, Try.ntmps32
      go_wp2
      go_ret
      exact ⟨by rw [hc.out]; rfl, Below.refl _ _⟩

set_option maxRecDepth 100000 in
set_option maxHeartbeats 2000000 in
theorem fateindex_any (L : List Int) (p : Option Addr) (cap : Nat) (h1 : L.length ≤ cap) (h2 : cap ≤ maxLen) (w : World) (HR : RowOf faT w p L) :
    Calls Try.prog 45 #[.slice p L.length cap, .func (.func 32) #[] #[]] w fun e w' => ∃ r : Int, e = .returned (.int .i64 r) ∧ decide (0 ≤ r) = !fatesB L ∧ Below w.heap.size w w' := by
  have hR0 : Hid (RowP w p 1 L.length (fun i => [.int .i64 (faAt L i)])) := hid HR
  have hall : Hid (∀ k, k < L.length → fatesB (L.take (k + 1)) = (fatesB (L.take k) && fateB (faAt L k))) := hid (fun k hk => fatesB_take L k hk)
  have hbad : Hid (∀ k, k < L.length → fateB (faAt L k) = false → fatesB L = false) := hid (fun k hk hg => fatesB_bad L k hk hg)
  have hfull : Hid (fatesB (L.take L.length) = fatesB L) := hid (by rw [List.take_length])
  have h00 : Hid (fatesB (L.take 0) = true) := hid (by simp [fatesB])
  obtain ⟨n, hn⟩ : ∃ n, L.length = n := ⟨_, rfl⟩
  rw [hn] at h1 hR0 hall hbad hfull ⊢
  have hn63 : (n : Int) ≤ 9223372036854775807 := by unfold maxLen at h2; omega
  generalize fatesB L = G at *
  clear HR hn
  go_enter Try.func45, Try.ntmps45
  go_wp2_with fail
  go_loopw [8] (fun i wr => ∃ k : Nat, k ≤ n ∧ i = .int .i64 (k : Int) ∧ fatesB (L.take k) = true ∧ Below w.heap.size w wr) (fun i _ => n - (intOf i).toNat)
  case atStart => exact ⟨0, by omega, rfl, h00.out, Below.refl _ _⟩
  case round =>
    obtain ⟨k, hk, rfl, hg, hb⟩ := hrel
    have hbh := hid hb
    have hgh := hid hg
    by_cases hlt : k < n
    · obtain ⟨b, o, rfl, R0⟩ := hR0.out.row (by omega)
      have R := R0.more hb
      have z0 := R.at0 hlt (v := .int .i64 (faAt L k)) rfl
      rw [Nat.mul_one] at z0
      have KC := hid (fate1_any (faAt L k) wr)
      have hlt1 : (k : Int) < (n : Int) := by omega
      have hk1 : IntKind.i64.wrap ((k : Int) + 1) = (k : Int) + 1 := IntWalk.i64_in _ ⟨by omega, by omega⟩
      have hst := hid (hall.out k hlt)
      have hbd := hid (hbad.out k hlt)
      clear R R0 hb hg
      cases hgk : fateB (faAt L k)
      · have hG := hid (hbd.out hgk)
        rw [hgk] at KC
        clear hgk hst hbd
        go_wp2_with fail
        refine KC.out.mono ?_
        rintro e w2 ⟨rfl, hb2⟩
        have D2 := hid (below2 hbh.out hb2 hbh.out.size)
        clear hb2 KC z0
        go_wp2_with fail
        go_ret
        exact ⟨_, rfl, by rw [hG.out]; simp, D2.out⟩
      · have hst2 : Hid (fatesB (L.take (k + 1)) = true) := hid (by rw [hst.out, hgh.out, hgk]; rfl)
        rw [hgk] at KC
        clear hgk hst hbd
        go_wp2_with fail
        refine KC.out.mono ?_
        rintro e w2 ⟨rfl, hb2⟩
        have D2 := hid (below2 hbh.out hb2 hbh.out.size)
        clear hb2 KC z0
        go_wp2_with fail
        go_roundw
        case rel => exact ⟨k + 1, hlt, by go_num, hst2.out, D2.out⟩
        case measure => simp [intOf]; omega
    · obtain rfl : k = n := by omega
      have hG : Hid (G = true) := hid (by rw [← hfull.out]; exact hg)
      clear hg hb
      go_wp2_with fail
      go_ret
      exact ⟨_, rfl, by rw [hG.out]; rfl, hbh.out⟩

set_option maxRecDepth 100000 in
theorem fatecont_any (L : List Int) (p : Option Addr) (cap : Nat) (h1 : L.length ≤ cap) (h2 : cap ≤ maxLen) (w : World) (HR : RowOf faT w p L) :
    Calls Try.prog 31 #[.slice p L.length cap, .func (.func 32) #[] #[]] w fun e w' => e = .returned (.bool (!fatesB L)) ∧ Below w.heap.size w w' := by
  have KI := hid (fateindex_any L p cap h1 h2 w HR)
  generalize L.length = n at *
  generalize (!fatesB L) = G at *
  clear HR h1 h2
  go_enter Try.func31, Try.ntmps31
  go_wp2_with fail
  refine KI.out.mono ?_
  rintro e w2 ⟨r, rfl, hr, hb2⟩
  have D2 := hid hb2
  subst hr
  clear hb2 KI
  go_wp2
  go_ret
  exact ⟨rfl, D2.out⟩

/-- What the walk of Check decides, one by one. -/
theorem spCk_parts (s : Sp) : (spCk s = 12 ∧ decide (s.k < 1) = true) ∨ (spCk s = 12 ∧ decide (s.k < 1) = false ∧ decide (13 < s.k) = true) ∨
    ((decide (s.k < 1) = false ∧ decide (13 < s.k) = false) ∧ ((spCk s = 4 ∧ decide (s.a < 0) = true) ∨ (spCk s = 4 ∧ decide (s.a < 0) = false ∧ decide (4294967295 < s.a) = true) ∨
      ((decide (s.a < 0) = false ∧ decide (4294967295 < s.a) = false) ∧ ((spCk s = 4 ∧ (!fatesB s.f) = true) ∨
        ((!fatesB s.f) = false ∧ ((spCk s = 5 ∧ decide ((255 : Int) < s.d.size) = true) ∨ (spCk s = 5 ∧ decide ((255 : Int) < s.d.size) = false ∧ decide ((255 : Int) < s.f.length) = true) ∨ (spCk s = 0 ∧ decide ((255 : Int) < s.d.size) = false ∧ decide ((255 : Int) < s.f.length) = false))))))) := by
  unfold spCk
  by_cases h1 : s.k < 1
  · exact .inl ⟨if_pos (.inl h1), decide_eq_true h1⟩
  · have e1 := decide_eq_false h1
    by_cases h2 : 13 < s.k
    · exact .inr (.inl ⟨if_pos (.inr h2), e1, decide_eq_true h2⟩)
    · have e2 := decide_eq_false h2
      rw [if_neg (by omega)]
      refine .inr (.inr ⟨⟨e1, e2⟩, ?_⟩)
      by_cases h3 : s.a < 0
      · exact .inl ⟨if_pos (.inl h3), decide_eq_true h3⟩
      · have e3 := decide_eq_false h3
        by_cases h4 : 4294967295 < s.a
        · exact .inr (.inl ⟨if_pos (.inr (.inl h4)), e3, decide_eq_true h4⟩)
        · have e4 := decide_eq_false h4
          refine .inr (.inr ⟨⟨e3, e4⟩, ?_⟩)
          cases hf : fatesB s.f
          · exact .inl ⟨if_pos (.inr (.inr rfl)), rfl⟩
          · rw [if_neg (by simp; omega)]
            refine .inr ⟨rfl, ?_⟩
            by_cases h5 : (255 : Int) < s.d.size
            · exact .inl ⟨if_pos (.inl (by omega)), decide_eq_true h5⟩
            · have e5 := decide_eq_false h5
              by_cases h6 : (255 : Int) < s.f.length
              · exact .inr (.inl ⟨if_pos (.inr (by omega)), e5, decide_eq_true h6⟩)
              · exact .inr (.inr ⟨if_neg (by omega), e5, decide_eq_false h6⟩)

set_option maxRecDepth 100000 in
set_option maxHeartbeats 4000000 in
theorem codecheck_any (s : Sp) (hs : s.ok) (w : World) (hT : s.there w) :
    Calls Try.prog 18 #[spval s] w fun e w' => e = .returned (.int .i64 (spCk s)) ∧ Below w.heap.size w w' := by
  have BX := Blk.new w (sparr s) 49
  have hb0 : Below w.heap.size w (w.alloc (.cells (sparr s) 49)) := (Below.refl _ _).alloc (Nat.le_refl _) _
  have KC := hid (fatecont_any s.f s.q s.fc hs.f1 hs.f2 _ (hT.more hb0))
  have D0 := hid hb0
  have hP := spCk_parts s
  have hd := hs.d
  have hf1 := hs.f1
  have hf2 := hs.f2
  unfold maxLen at hd hf2
  have n63 : (s.f.length : Int) ≤ 9223372036854775807 := by omega
  have d63 : (s.d.size : Int) ≤ 9223372036854775807 := by omega
  clear hs hT hb0 BX
  obtain ⟨sk, sa, sx, sy, sx1, sy1, sd, sq, sfc, sf⟩ := s
  dsimp only [spval, sparr] at KC D0 hP n63 d63 hd hf1 hf2 ⊢
  generalize spCk _ = C at *
  generalize (!fatesB sf) = G at *
  generalize sf.length = n at *
  generalize hz : sd.size = zd at *
  replace hz := hid hz
  clear hd hf1 hf2
  rcases hP with ⟨hC, g1⟩ | ⟨hC, g1, g2⟩ | ⟨⟨g1, g2⟩, ⟨hC, g3⟩ | ⟨hC, g3, g4⟩ | ⟨⟨g3, g4⟩, ⟨hC, g5⟩ | ⟨g5, ⟨hC, g6⟩ | ⟨hC, g6, g7⟩ | ⟨hC, g6, g7⟩⟩⟩⟩
  all_goals subst hC
  all_goals go_enter Try.func18, Try.ntmps18
  · go_wp2_with fail
    go_ret
    exact ⟨rfl, D0.out⟩
  · go_wp2_with fail
    go_ret
    exact ⟨rfl, D0.out⟩
  · go_wp2_with fail
    go_ret
    exact ⟨rfl, D0.out⟩
  · go_wp2_with fail
    go_ret
    exact ⟨rfl, D0.out⟩
  · subst g5
    go_wp2_with fail
    refine KC.out.mono ?_
    rintro e w2 ⟨rfl, hb2⟩
    have D2 := hid (below2 D0.out hb2 D0.out.size)
    clear hb2 KC
    go_wp2
    go_ret
    exact ⟨rfl, D2.out⟩
  all_goals
    subst g5
    have BX := hid (Blk.new w #[.int .i64 sk, .int .i64 sa, .int .u32 sx, .int .u32 sy, .int .u32 sx1, .int .u32 sy1, .string sd, .slice sq n sfc] 49)
    go_wp2_with fail
    refine KC.out.mono ?_
    rintro e w2 ⟨rfl, hb2⟩
    have D2 := hid (below2 D0.out hb2 D0.out.size)
    obtain ⟨lx, kx, fx⟩ := BX.out.more hb2
    clear hb2 KC
    have hz' := hz.out
    go_wp2_with fail
    go_ret
    exact ⟨rfl, D2.out⟩
end Go.Proofs.Ytngfhbclapadoaa
