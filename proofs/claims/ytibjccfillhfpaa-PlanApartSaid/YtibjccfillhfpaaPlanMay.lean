/-
  Package plan: which entries, and which places, may not be; Room.
-/
import Derived.Test.YtibjccfillhfpaaPlanFit
namespace Go.Proofs.Ytibjccfillhfpaa
open Go.RowKit
set_option linter.unusedVariables false
set_option linter.unusedSimpArgs false

theorem pbCk_one (e : En) : bCk 0 1 (fun _ => e) = if goodE e then 0 else 12 := by
  unfold bCk
  rw [if_neg (by omega), if_neg (by omega)]
  simp [allG]
theorem prow_one {w : World} {b : Nat} {e : En} (h : Blk w b #[.int .i64 e.k, .int .i64 e.i]) : RowP w (some ⟨b, 0, none⟩) 2 1 (fun _ => ecells e) :=
  .inr ⟨b, 0, rfl, h.lt, fun i hi j v hv => by
    obtain rfl : i = 0 := by omega
    rw [show 0 + 0 * 2 + j = j by omega, h.cell j]
    match j, hv with
    | 0, hv => simpa [ecells] using hv
    | 1, hv => simpa [ecells] using hv⟩
theorem pcheck_one (b : Nat) (e : En) (w : World) (h : Blk w b #[.int .i64 e.k, .int .i64 e.i]) :
    Calls Try.prog 31 #[smval 0 false (some ⟨b, 0, none⟩) 1 1] w fun e' w' => e' = .returned (.int .i64 (if goodE e then 0 else 12)) ∧ Below w.heap.size w w' := by
  have := bcheck_any 0 false (some ⟨b, 0, none⟩) 1 1 (fun _ => e) (by omega) (by unfold maxLen; omega) w (prow_one h)
  rw [pbCk_one] at this
  exact this

set_option maxRecDepth 100000 in
theorem maynot_any (x : En) (w : World) :
    Calls Try.prog 19 #[.agg #[.int .i64 x.k, .int .i64 x.i]] w fun e w' => e = .returned (.bool (!goodE x)) ∧ Below w.heap.size w w' := by
  have B1 := Blk.new (w.alloc (.cells #[.int .i64 x.k, .int .i64 x.i] 34)) #[.int .i64 x.k, .int .i64 x.i] 34
  rw [World.size_alloc] at B1
  have KC := hid (pcheck_one _ x _ B1)
  have hb : Below w.heap.size w ((w.alloc (.cells #[.int .i64 x.k, .int .i64 x.i] 34)).alloc (.cells #[.int .i64 x.k, .int .i64 x.i] 34)) := ((Below.refl _ _).alloc (Nat.le_refl _) _).alloc (by simp) _
  have hbh := hid hb
  clear B1 hb
  generalize x.k = xk at *
  generalize x.i = xi at *
  cases hg : goodE x
  all_goals
    rw [hg] at KC
    clear hg
    simp only [Bool.false_eq_true, if_true, if_false] at KC
    go_enter Try.func19, Try.ntmps19
    go_wp2_with fail
    refine KC.out.mono ?_
    rintro e w2 ⟨rfl, hb2⟩
    have D2 := hid (below2 hbh.out hb2 hbh.out.size)
    clear hb2 KC
    go_wp2
    go_ret
    exact ⟨rfl, D2.out⟩

set_option maxRecDepth 100000 in
set_option maxHeartbeats 2000000 in
theorem eindex_any (L : List En) (p : Option Addr) (cap : Nat) (h1 : L.length ≤ cap) (h2 : cap ≤ maxLen) (w : World) (HR : RowOf enT w p L) :
    Calls Try.prog 30 #[.slice p L.length cap, .func (.func 19) #[] #[]] w fun e w' => ∃ r : Int, e = .returned (.int .i64 r) ∧ decide (0 ≤ r) = !L.all goodE ∧ Below w.heap.size w w' := by
  have hR0 := hid (en_rowp HR)
  have hall : Hid (∀ k, k < L.length → (L.take (k + 1)).all goodE = ((L.take k).all goodE && goodE (enAt L k))) := hid (fun k hk => by
    rw [List.take_add_one, List.getElem?_eq_getElem hk, ← atR_eq (T := enT) L k hk]
    simp [List.all_append])
  have hbad : Hid (∀ k, k < L.length → goodE (enAt L k) = false → L.all goodE = false) := hid (fun k hk hg => by
    rw [List.all_eq_false]
    exact ⟨_, atR_mem (T := enT) L k hk, by rw [hg]; simp⟩)
  have hfull : Hid ((L.take L.length).all goodE = L.all goodE) := hid (by rw [List.take_length])
  have h00 : Hid ((L.take 0).all goodE = true) := hid (by simp)
  obtain ⟨n, hn⟩ : ∃ n, L.length = n := ⟨_, rfl⟩
  rw [hn] at h1 hR0 hall hbad hfull ⊢
  have hn63 : (n : Int) ≤ 9223372036854775807 := by unfold maxLen at h2; omega
  generalize L.all goodE = G at *
  clear HR hn
  go_enter Try.func30, Try.ntmps30
  go_wp2_with fail
  go_loopw [8] (fun i wr => ∃ k : Nat, k ≤ n ∧ i = .int .i64 (k : Int) ∧ (L.take k).all goodE = true ∧ Below w.heap.size w wr) (fun i _ => n - (intOf i).toNat)
  case atStart => exact ⟨0, by omega, rfl, h00.out, Below.refl _ _⟩
  case round =>
    obtain ⟨k, hk, rfl, hg, hb⟩ := hrel
    have hbh := hid hb
    have hgh := hid hg
    by_cases hlt : k < n
    · obtain ⟨b, o, rfl, R0⟩ := hR0.out.row (by omega)
      have R := R0.more hb
      have z0 := R.at0 hlt (v := .int .i64 (enAt L k).k) rfl
      have z1 := R.at1 hlt (v := .int .i64 (enAt L k).i) rfl
      have KC := hid (maynot_any (enAt L k) wr)
      have hlt1 : (k : Int) < (n : Int) := by omega
      have hk1 : IntKind.i64.wrap ((k : Int) + 1) = (k : Int) + 1 := IntWalk.i64_in _ ⟨by omega, by omega⟩
      have hst := hid (hall.out k hlt)
      have hbd := hid (hbad.out k hlt)
      clear R R0 hb hg
      cases hgk : goodE (enAt L k)
      · have hG := hid (hbd.out hgk)
        rw [hgk] at KC
        clear hgk hst hbd
        go_wp2_with fail
        refine KC.out.mono ?_
        rintro e w2 ⟨rfl, hb2⟩
        have D2 := hid (below2 hbh.out hb2 hbh.out.size)
        clear hb2 KC z0 z1
        go_wp2_with fail
        go_ret
        exact ⟨_, rfl, by rw [hG.out]; simp, D2.out⟩
      · have hst2 : Hid ((L.take (k + 1)).all goodE = true) := hid (by rw [hst.out, hgh.out, hgk]; rfl)
        rw [hgk] at KC
        clear hgk hst hbd
        go_wp2_with fail
        refine KC.out.mono ?_
        rintro e w2 ⟨rfl, hb2⟩
        have D2 := hid (below2 hbh.out hb2 hbh.out.size)
        clear hb2 KC z0 z1
        go_wp2_with fail
        go_roundw
        case rel => exact ⟨k + 1, hlt, by go_num, hst2.out, D2.out⟩
        case measure => simp [intOf]; omega
    · obtain rfl : k = n := by omega
      have hG : Hid (G = true) := hid (by rw [← hfull.out]; exact hg)
      clear hg hb
      go_wp2_with fail
      go_ret
      exact ⟨_, rfl, by rw [hG.out]; rfl, hbh.out⟩

set_option maxRecDepth 100000 in
theorem econt_any (L : List En) (p : Option Addr) (cap : Nat) (h1 : L.length ≤ cap) (h2 : cap ≤ maxLen) (w : World) (HR : RowOf enT w p L) :
    Calls Try.prog 18 #[.slice p L.length cap, .func (.func 19) #[] #[]] w fun e w' => e = .returned (.bool (!L.all goodE)) ∧ Below w.heap.size w w' := by
  have KI := hid (eindex_any L p cap h1 h2 w HR)
  generalize L.length = n at *
  generalize (!L.all goodE) = G at *
  clear HR h1 h2
  go_enter Try.func18, Try.ntmps18
  go_wp2_with fail
  refine KI.out.mono ?_
  rintro e w2 ⟨r, rfl, hr, hb2⟩
  have D2 := hid hb2
  subst hr
  clear hb2 KI
  go_wp2
  go_ret
  exact ⟨rfl, D2.out⟩

set_option maxRecDepth 100000 in
theorem outside_any (n z k : Int) (b : Nat) (w : World) (HB : Blk w b #[.int .i64 n, .int .i64 z]) :
    Calls Try.prog 26 #[.int .i64 k, .pointer (some ⟨b, 0, none⟩)] w fun e w' => e = .returned (.bool (!segB n z k)) ∧ Below w.heap.size w w' := by
  have KS := hid (segment_any n z k w)
  obtain ⟨l0, k0, f0⟩ := HB
  unfold segI at KS
  cases hs : segB n z k
  · rw [hs] at KS
    simp only [Bool.false_eq_true, if_false] at KS
    clear hs
    go_enter Try.func26, Try.ntmps26
    go_wp2_with fail
    refine KS.out.mono ?_
    rintro e w2 ⟨rfl, hb2⟩
    have D2 := hid hb2
    clear hb2 KS
    go_wp2
    go_ret
    exact ⟨rfl, D2.out⟩
  · have hne : ((9 + k * z) == 0) = false := by
      have h := hs
      simp only [segB, Bool.and_eq_true, decide_eq_true_eq] at h
      obtain ⟨⟨h1, h2⟩, h3⟩ := h
      have o := ok_true h1
      have := Int.mul_nonneg h2 (show 0 ≤ z by omega)
      simp; omega
    rw [hs] at KS
    simp only [if_true] at KS
    generalize 9 + k * z = y at *
    clear hs
    go_enter Try.func26, Try.ntmps26
    go_wp2_with fail
    refine KS.out.mono ?_
    rintro e w2 ⟨rfl, hb2⟩
    have D2 := hid hb2
    clear hb2 KS
    go_wp2
    go_ret
    exact ⟨rfl, D2.out⟩

set_option maxRecDepth 100000 in
set_option maxHeartbeats 2000000 in
theorem iindex_any (n' z : Int) (bg : Nat) (L : List Int) (p : Option Addr) (cap : Nat) (h1 : L.length ≤ cap) (h2 : cap ≤ maxLen) (w : World) (HB : Blk w bg #[.int .i64 n', .int .i64 z]) (HR : RowOf inT w p L) :
    Calls Try.prog 35 #[.slice p L.length cap, .func (.func 26) #[] #[.pointer (some ⟨bg, 0, none⟩)]] w fun e w' => ∃ r : Int, e = .returned (.int .i64 r) ∧ decide (0 ≤ r) = !L.all (segB n' z) ∧ Below w.heap.size w w' := by
  have hR0 := hid (in_rowp HR)
  have hall : Hid (∀ k, k < L.length → (L.take (k + 1)).all (segB n' z) = ((L.take k).all (segB n' z) && segB n' z (inAt L k))) := hid (fun k hk => by
    rw [List.take_add_one, List.getElem?_eq_getElem hk, ← atR_eq (T := inT) L k hk]
    simp [List.all_append])
  have hbad : Hid (∀ k, k < L.length → segB n' z (inAt L k) = false → L.all (segB n' z) = false) := hid (fun k hk hg => by
    rw [List.all_eq_false]
    exact ⟨_, atR_mem (T := inT) L k hk, by rw [hg]; simp⟩)
  have hfull : Hid ((L.take L.length).all (segB n' z) = L.all (segB n' z)) := hid (by rw [List.take_length])
  have h00 : Hid ((L.take 0).all (segB n' z) = true) := hid (by simp)
  have HBh := hid HB
  obtain ⟨n, hn⟩ : ∃ n, L.length = n := ⟨_, rfl⟩
  rw [hn] at h1 hR0 hall hbad hfull ⊢
  have hn63 : (n : Int) ≤ 9223372036854775807 := by unfold maxLen at h2; omega
  generalize L.all (segB n' z) = G at *
  clear HR hn HB
  go_enter Try.func35, Try.ntmps35
  go_wp2_with fail
  go_loopw [8] (fun i wr => ∃ k : Nat, k ≤ n ∧ i = .int .i64 (k : Int) ∧ (L.take k).all (segB n' z) = true ∧ Below w.heap.size w wr) (fun i _ => n - (intOf i).toNat)
  case atStart => exact ⟨0, by omega, rfl, h00.out, Below.refl _ _⟩
  case round =>
    obtain ⟨k, hk, rfl, hg, hb⟩ := hrel
    have hbh := hid hb
    have hgh := hid hg
    by_cases hlt : k < n
    · obtain ⟨b, o, rfl, R0⟩ := hR0.out.row (by omega)
      have R := R0.more hb
      have z0 := R.at0 hlt (v := .int .i64 (inAt L k)) rfl
      rw [Nat.mul_one] at z0
      have KC := hid (outside_any n' z (inAt L k) bg wr (HBh.out.more hb))
      have hlt1 : (k : Int) < (n : Int) := by omega
      have hk1 : IntKind.i64.wrap ((k : Int) + 1) = (k : Int) + 1 := IntWalk.i64_in _ ⟨by omega, by omega⟩
      have hst := hid (hall.out k hlt)
      have hbd := hid (hbad.out k hlt)
      clear R R0 hb hg
      cases hgk : segB n' z (inAt L k)
      · have hG := hid (hbd.out hgk)
        rw [hgk] at KC
        clear hgk hst hbd
        generalize inAt L k = y at *
        go_wp2_with fail
        refine KC.out.mono ?_
        rintro e w2 ⟨rfl, hb2⟩
        have D2 := hid (below2 hbh.out hb2 hbh.out.size)
        clear hb2 KC z0
        go_wp2_with fail
        go_ret
        exact ⟨_, rfl, by rw [hG.out]; simp, D2.out⟩
      · have hst2 : Hid ((L.take (k + 1)).all (segB n' z) = true) := hid (by rw [hst.out, hgh.out, hgk]; rfl)
        rw [hgk] at KC
        clear hgk hst hbd
        generalize inAt L k = y at *
        go_wp2_with fail
        refine KC.out.mono ?_
        rintro e w2 ⟨rfl, hb2⟩
        have D2 := hid (below2 hbh.out hb2 hbh.out.size)
        clear hb2 KC z0
        go_wp2_with fail
        go_roundw
        case rel => exact ⟨k + 1, hlt, by go_num, hst2.out, D2.out⟩
        case measure => simp [intOf]; omega
    · obtain rfl : k = n := by omega
      have hG : Hid (G = true) := hid (by rw [← hfull.out]; exact hg)
      clear hg hb
      go_wp2_with fail
      go_ret
      exact ⟨_, rfl, by rw [hG.out]; rfl, hbh.out⟩

set_option maxRecDepth 100000 in
theorem icont_any (n' z : Int) (bg : Nat) (L : List Int) (p : Option Addr) (cap : Nat) (h1 : L.length ≤ cap) (h2 : cap ≤ maxLen) (w : World) (HB : Blk w bg #[.int .i64 n', .int .i64 z]) (HR : RowOf inT w p L) :
    Calls Try.prog 29 #[.slice p L.length cap, .func (.func 26) #[] #[.pointer (some ⟨bg, 0, none⟩)]] w fun e w' => e = .returned (.bool (!L.all (segB n' z))) ∧ Below w.heap.size w w' := by
  have KI := hid (iindex_any n' z bg L p cap h1 h2 w HB HR)
  generalize L.length = n at *
  generalize (!L.all (segB n' z)) = G at *
  clear HR h1 h2 HB
  go_enter Try.func29, Try.ntmps29
  go_wp2_with fail
  refine KI.out.mono ?_
  rintro e w2 ⟨r, rfl, hr, hb2⟩
  have D2 := hid hb2
  subst hr
  clear hb2 KI
  go_wp2
  go_ret
  exact ⟨rfl, D2.out⟩

/-- May the log go on there? -/
def placedB (n z : Int) (p : Plc) (fr : List Int) : Bool := okB n z && (segB n z p.seg && (segB n z p.next && (decide (0 ≤ p.off) && (decide (p.off ≤ z) && fr.all (segB n z)))))
abbrev plv (s o x : Int) : Value := .agg #[.int .i64 s, .int .i64 o, .int .i64 x]

set_option maxRecDepth 100000 in
set_option maxHeartbeats 8000000 in
theorem placed_any (n z s o x : Int) (L : List Int) (p : Option Addr) (cap : Nat) (h1 : L.length ≤ cap) (h2 : cap ≤ maxLen) (w : World) (HR : RowOf inT w p L) :
    Calls Try.prog 17 #[geo n z, plv s o x, .slice p L.length cap] w fun e w' => e = .returned (.bool (placedB n z ⟨s, o, x⟩ L)) ∧ Below w.heap.size w w' := by
  have hmf : ∀ (fn : Fn) (first cap : Array Value) (w : World), (Instr.makeFunc fn first cap).run Try.prog w = .ok (.func fn first cap) w := fun _ _ _ _ => rfl
  obtain ⟨B0, B1, Hb⟩ := @boxed2 w _ #[.int .i64 n, .int .i64 z] #[.int .i64 s, .int .i64 o, .int .i64 x] 23 25 (Below.refl _ _)
  generalize hW0 : (w.alloc (.cells #[.int .i64 n, .int .i64 z] 23)).alloc (.cells #[.int .i64 s, .int .i64 o, .int .i64 x] 25) = W0 at *
  have HB0 := hid B0
  have HB1 := hid B1
  have HH := hid Hb
  have KC := hid (fun w => check_any n z w)
  have KO := hid (fun k b w HB => outside_any n z k b w HB)
  have KI := hid (fun b w' (HB : Blk w' b #[.int .i64 n, .int .i64 z]) (hb : Below w.heap.size w w') => icont_any n z b L p cap h1 h2 w' HB (RowOf.more HR hb))
  have hP := hid (show placedB n z ⟨s, o, x⟩ L = (okB n z && (segB n z s && (segB n z x && (decide (0 ≤ o) && (decide (o ≤ z) && L.all (segB n z)))))) from rfl)
  generalize placedB n z ⟨s, o, x⟩ L = PB at *
  generalize L.all (segB n z) = G at *
  generalize L.length = len at *
  unfold chkI at KC
  clear HR h1 h2 Hb B0 B1
  replace hW0 := hid hW0
  cases hok : okB n z
  · rw [hok] at KC hP
    simp only [Bool.false_eq_true, if_false] at KC
    clear hok
    go_enter Try.func17, Try.ntmps17
    go_wp2_with fail
    rw [hW0.out]
    refine (KC.out _).mono ?_
    rintro e w2 ⟨rfl, hb2⟩
    have D2 := hid (below2 HH.out hb2 HH.out.size)
    clear hb2 KC
    go_wp2
    go_ret
    exact ⟨by rw [hP.out]; rfl, D2.out⟩
  · rw [hok] at KC hP
    simp only [if_true] at KC
    clear hok
    cases hs : segB n z s
    · rw [hs] at hP
      have KS := hid (KO.out s)
      rw [hs] at KS
      clear hs
      go_enter Try.func17, Try.ntmps17
      go_wp2_with fail
      rw [hW0.out]
      refine (KC.out _).mono ?_
      rintro e w2 ⟨rfl, hb2⟩
      have C0 := hid (HB0.out.more hb2)
      have C1 := HB1.out.more hb2
      obtain ⟨l1, k1, f1⟩ := C1
      have D2 := hid (below2 HH.out hb2 HH.out.size)
      clear hb2 KC
      go_wp2_with fail
      refine (KS.out _ _ C0.out).mono ?_
      rintro e w3 ⟨rfl, hb3⟩
      have D3 := hid (below2 D2.out hb3 D2.out.size)
      clear hb3 l1 k1 f1
      go_wp2
      go_ret
      exact ⟨by rw [hP.out]; rfl, D3.out⟩
    · rw [hs] at hP
      have KS := hid (KO.out s)
      rw [hs] at KS
      clear hs
      cases hx : segB n z x
      · rw [hx] at hP
        have KX := hid (KO.out x)
        rw [hx] at KX
        clear hx
        go_enter Try.func17, Try.ntmps17
        go_wp2_with fail
        rw [hW0.out]
        refine (KC.out _).mono ?_
        rintro e w2 ⟨rfl, hb2⟩
        have C0 := hid (HB0.out.more hb2)
        have C1 := HB1.out.more hb2
        have C1h := hid C1
        obtain ⟨l1, k1, f1⟩ := C1
        have D2 := hid (below2 HH.out hb2 HH.out.size)
        clear hb2 KC
        go_wp2_with fail
        refine (KS.out _ _ C0.out).mono ?_
        rintro e w3 ⟨rfl, hb3⟩
        have C0' := hid (C0.out.more hb3)
        have C1' := C1h.out.more hb3
        have D3 := hid (below2 D2.out hb3 D2.out.size)
        clear hb3 l1 k1 f1
        obtain ⟨l1, k1, f1⟩ := C1'
        go_wp2_with fail
        refine (KX.out _ _ C0'.out).mono ?_
        rintro e w4 ⟨rfl, hb4⟩
        have D4 := hid (below2 D3.out hb4 D3.out.size)
        clear hb4 l1 k1 f1
        go_wp2
        go_ret
        exact ⟨by rw [hP.out]; rfl, D4.out⟩
      · rw [hx] at hP
        have KX := hid (KO.out x)
        rw [hx] at KX
        clear hx
        by_cases ho : 0 ≤ o
        · by_cases ho2 : o ≤ z
          · rw [decide_eq_true ho, decide_eq_true ho2] at hP
            go_enter Try.func17, Try.ntmps17
            go_wp2_with fail
            rw [hW0.out]
            refine (KC.out _).mono ?_
            rintro e w2 ⟨rfl, hb2⟩
            have C0 := hid (HB0.out.more hb2)
            have C1 := HB1.out.more hb2
            have C1h := hid C1
            obtain ⟨l1, k1, f1⟩ := C1
            have D2 := hid (below2 HH.out hb2 HH.out.size)
            clear hb2 KC
            go_wp2_with fail
            refine (KS.out _ _ C0.out).mono ?_
            rintro e w3 ⟨rfl, hb3⟩
            have C0' := hid (C0.out.more hb3)
            have C1' := C1h.out.more hb3
            have C1h' := hid C1'
            have D3 := hid (below2 D2.out hb3 D2.out.size)
            clear hb3 l1 k1 f1
            obtain ⟨l1, k1, f1⟩ := C1'
            go_wp2_with fail
            refine (KX.out _ _ C0'.out).mono ?_
            rintro e w4 ⟨rfl, hb4⟩
            have D4 := hid (below2 D3.out hb4 D3.out.size)
            have C0'' := C0'.out.more hb4
            have C0h := hid C0''
            have C1'' := C1h'.out.more hb4
            clear hb4 l1 k1 f1
            obtain ⟨l1, k1, f1⟩ := C1''
            obtain ⟨l0, k0, f0⟩ := C0''
            go_wp2_with fail
            refine (KI.out _ _ C0h.out D4.out).mono ?_
            rintro e w5 ⟨rfl, hb5⟩
            have D5 := hid (below2 D4.out hb5 D4.out.size)
            clear hb5 l1 k1 f1 l0 k0 f0
            go_wp2
            go_ret
            exact ⟨by rw [hP.out]; simp, D5.out⟩
          · rw [decide_eq_true ho, decide_eq_false ho2] at hP
            have ho2' : decide (o ≤ z) = false := decide_eq_false ho2
            clear ho2
            go_enter Try.func17, Try.ntmps17
            go_wp2_with fail
            rw [hW0.out]
            refine (KC.out _).mono ?_
            rintro e w2 ⟨rfl, hb2⟩
            have C0 := hid (HB0.out.more hb2)
            have C1 := HB1.out.more hb2
            have C1h := hid C1
            obtain ⟨l1, k1, f1⟩ := C1
            have D2 := hid (below2 HH.out hb2 HH.out.size)
            clear hb2 KC
            go_wp2_with fail
            refine (KS.out _ _ C0.out).mono ?_
            rintro e w3 ⟨rfl, hb3⟩
            have C0' := hid (C0.out.more hb3)
            have C1' := C1h.out.more hb3
            have C1h' := hid C1'
            have D3 := hid (below2 D2.out hb3 D2.out.size)
            clear hb3 l1 k1 f1
            obtain ⟨l1, k1, f1⟩ := C1'
            go_wp2_with fail
            refine (KX.out _ _ C0'.out).mono ?_
            rintro e w4 ⟨rfl, hb4⟩
            have D4 := hid (below2 D3.out hb4 D3.out.size)
            have C0'' := C0'.out.more hb4
            have C1'' := C1h'.out.more hb4
            clear hb4 l1 k1 f1
            obtain ⟨l1, k1, f1⟩ := C1''
            obtain ⟨l0, k0, f0⟩ := C0''
            go_wp2
            go_ret
            exact ⟨by rw [hP.out]; rfl, D4.out⟩
        · rw [decide_eq_false ho] at hP
          have ho' : decide (0 ≤ o) = false := decide_eq_false ho
          clear ho
          go_enter Try.func17, Try.ntmps17
          go_wp2_with fail
          rw [hW0.out]
          refine (KC.out _).mono ?_
          rintro e w2 ⟨rfl, hb2⟩
          have C0 := hid (HB0.out.more hb2)
          have C1 := HB1.out.more hb2
          have C1h := hid C1
          obtain ⟨l1, k1, f1⟩ := C1
          have D2 := hid (below2 HH.out hb2 HH.out.size)
          clear hb2 KC
          go_wp2_with fail
          refine (KS.out _ _ C0.out).mono ?_
          rintro e w3 ⟨rfl, hb3⟩
          have C0' := hid (C0.out.more hb3)
          have C1' := C1h.out.more hb3
          have C1h' := hid C1'
          have D3 := hid (below2 D2.out hb3 D2.out.size)
          clear hb3 l1 k1 f1
          obtain ⟨l1, k1, f1⟩ := C1'
          go_wp2_with fail
          refine (KX.out _ _ C0'.out).mono ?_
          rintro e w4 ⟨rfl, hb4⟩
          have D4 := hid (below2 D3.out hb4 D3.out.size)
          have C1'' := C1h'.out.more hb4
          clear hb4 l1 k1 f1
          obtain ⟨l1, k1, f1⟩ := C1''
          go_wp2
          go_ret
          exact ⟨by rw [hP.out]; rfl, D4.out⟩
end Go.Proofs.Ytibjccfillhfpaa
