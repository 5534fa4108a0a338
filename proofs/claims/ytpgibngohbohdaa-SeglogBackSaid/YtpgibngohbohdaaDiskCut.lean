/-
  Package disk: goAtZero where the power goes, Cut.
-/
import Derived.Test.YtpgibngohbohdaaDiskSettle
import Derived.Test.YtpgibngohbohdaaDiskPower
namespace Go.Proofs.Ytpgibngohbohdaa
open Go.RowKit Go.Maps
set_option linter.unusedVariables false
set_option linter.unusedSimpArgs false

def DM.sd (m : DM) : SD := (m.Ls.map OcS.l, fun z => Maps.has m.DO (.int .i64 z))
/-- What settling leaves. -/
structure Settled (w w' : World) (b : Nat) (m : DM) (K : Nat → Prop) (Fs : List Int) (N : Nat) (L : List OcS) (DO : DataW Unit) (n' : Nat) (K' : Nat → Prop) : Prop where
  len : L.length = m.Ls.length
  S : L.map OcS.l = (settleD m.Qs Fs m.sd (fk N N)).1
  O : ∀ z : Int, (Lit.int .i64 z).wf = true → Maps.has DO (.int .i64 z) = (settleD m.Qs Fs m.sd (fk N N)).2 z
  n : n' ≤ m.n' + m.Qs.length
  K : ∀ k, K' k → K k ∨ w.heap.size ≤ k
theorem settle_any (m : DM) (b : Nat) (K : Nat → Prop) (w : World) (D : DiskM w b m K) (fp : Option Addr) (fc : Nat) (Fs : List Int) (RF : RowOf fatT w fp Fs) (hl2 : Fs.length ≤ maxLen) (hFT : ∀ b' o, fp = some ⟨b', o, none⟩ → Fs.length ≠ 0 → ¬ (m.sv.ownBlock = some b' ∨ b' = m.om))
    (hFw : ∀ f ∈ Fs, f ≤ 9223372036854775807) (hn : m.n' + m.Qs.length < 1000000) :
    Calls Try.prog 63 #[.pointer (some ⟨b, 0, none⟩), .slice fp Fs.length fc] w fun e w' => e = .returned (.tuple #[]) ∧ ∃ L DO n' K', DiskM w' b (m.moved L DO n').clean K' ∧ Settled w w' b m K Fs (min m.Qs.length Fs.length) L DO n' K' ∧ Sole K w w' :=
  (callsIn_wide.1 (settle_in m b K w D fp fc Fs RF hl2 hFT hFw hn _ rfl m.sd rfl (fun z hz => rfl))).mono fun e w' ⟨he, L, DO, n', K', hD, h1, h2, h3, h4, h5, h6⟩ => ⟨he, L, DO, n', K', hD, ⟨h1, h2, h3, h4, h5⟩, h6⟩

/-- The power has gone. -/
def DM.gone (m : DM) : DM := { m with off := true, tl := false, cl := 0, fp := none, fc := 0, Fs := [] }
theorem base_gone {m : DM} {b g : Nat} (h : m.gone.base b g) : m.base b g := by
  rcases h with h | h | h | h | h | h
  · exact .inl h
  · exact .inr (.inl h)
  · exact .inr (.inr (.inl h))
  · exact .inr (.inr (.inr (.inl h)))
  · exact .inr (.inr (.inr (.inr (.inl h))))
  · cases h
theorem DiskM.gone {w w' : World} {b : Nat} {m : DM} {K : Nat → Prop} (h : DiskM w b m K) (hs : Sole (fun k => k = b) w w') (hB : Blk w' b m.gone.cells) : DiskM w' b m.gone K := by
  have hx : ∀ x : OcS, x.soft w ∧ x.full K m b → x.soft w' ∧ x.full K m.gone b := fun x ⟨ht, g, e, kg, hg, r⟩ => ⟨so_sole ht hs fun b' o e' => by rw [e] at e'; cases e'; exact fun h' => hg (.inl h'), g, e, kg, fun h' => hg (base_gone h'), r⟩
  exact
  { blk := hB
    apart := ⟨h.apart.bl, h.apart.bo, h.apart.lo, fun k e => ⟨(h.apart.s k e).1, (h.apart.s k e).2.1, (h.apart.s k e).2.2.1, (h.apart.s k e).2.2.2.1, nofun⟩, fun k e => ⟨(h.apart.w k e).1, (h.apart.w k e).2.1, (h.apart.w k e).2.2.1, nofun⟩, nofun⟩
    kk := fun k hk => h.kk k (base_gone hk)
    klt := fun k hk => Nat.lt_of_lt_of_le (h.klt k hk) hs.size
    S := h.S.sole hs fun k e h' => (h.apart.s k e).1 h'
    SO := fun x hx' => hx x (h.SO x hx')
    Q := h.Q.sole hs fun k e h' => (h.apart.w k e).1 h'
    QO := fun y hy => ⟨hx _ (h.QO y hy).1, (h.QO y hy).2⟩
    F := RowOwn.nil _ _
    L := map_sole h.L hs fun h' => h.apart.bl h'.symm
    O := map_sole h.O hs fun h' => h.apart.bo h'.symm
    last := h.last
    lenS := h.lenS
    cwf := rfl
    fwf := h.fwf
    uniq := ⟨h.uniq.s, h.uniq.q, h.uniq.sq⟩ }

set_option maxRecDepth 100000 in
set_option maxHeartbeats 4000000 in
theorem goz_fire (m : DM) (b : Nat) (K : Nat → Prop) (w : World) (D : DiskM w b m K) (ht : m.tl = true) (hc : m.cl ≤ 0) (hFw : ∀ f ∈ m.Fs, f ≤ 9223372036854775807) (hn : m.n' + m.Qs.length < 1000000) :
    Calls Try.prog 69 #[.pointer (some ⟨b, 0, none⟩)] w fun e w' => e = .returned (.tuple #[]) ∧ ∃ L DO n' K', DiskM w' b (m.moved L DO n').clean.gone K' ∧ Settled w w' b m K m.Fs (min m.Qs.length m.Fs.length) L DO n' K' ∧ Sole K w w' := by
  obtain ⟨pf, cf, hvf, _, hlf, RF⟩ := D.F.open fatOk
  have ef : m.fp = pf ∧ m.fc = cf := by simpa [DM.fv] using hvf
  have KS := hid (settle_any m b K w D m.fp m.fc m.Fs (by rw [ef.1]; exact RF) (by omega) (fun b' o e hne => by
    have e2 : m.fv.ownBlock = some b' := by
      obtain ⟨g, cap, cur, hv, _⟩ := D.F.2.resolve_left (fun h => hne h.2)
      have : m.fp = some ⟨g, 0, none⟩ := by have := hv; simp only [DM.fv, Value.slice.injEq] at this; exact this.1
      rw [this] at e; cases e
      rw [hv]; rfl
    rintro (r | r)
    · exact (D.apart.s _ r).2.2.2.2 e2
    · exact (D.apart.f _ e2).2.2 r) hFw hn)
  have B0 := D.blk
  simp only [DM.cells, DM.sv, DM.wv, DM.fv, ht] at B0
  have hkb := D.kk b (.inl rfl)
  have hcd : decide (m.cl ≤ 0) = true := decide_eq_true hc
  have hkb' := hid hkb
  clear D RF hvf ef hlf hFw hn hkb
  obtain ⟨l0, k0, f0⟩ := B0
  go_enter Try.func69, Try.ntmps69
  go_wp2_with fail
  refine KS.out.mono ?_
  rintro e w2 ⟨rfl, L, DO, n', K', D2, ST, S2⟩
  have B2 := D2.blk
  have B7 := (((B2.set 1 (.bool true) (by simp [DM.cells])).set 6 (.bool false) (by simp [DM.cells])).set 7 (.int .i64 0) (by simp [DM.cells])).set 8 (.slice none 0 0) (by simp [DM.cells])
  have S7 := (((Sole.setCell (S := fun k => k = b) w2 (b := b) (o := 1) (.bool true) rfl).trans (Sole.setCell _ (b := b) (o := 6) (.bool false) rfl)).trans (Sole.setCell _ (b := b) (o := 7) (.int .i64 0) rfl)).trans (Sole.setCell _ (b := b) (o := 8) (.slice none 0 0) rfl)
  have D7 := D2.gone S7 B7
  have E7 := hid (And.intro D7 (And.intro ST (S2.trans (S7.mono (T := K) fun k _ e => e ▸ hkb'.out))))
  clear D2 ST S2 B7 S7 D7 KS l0 k0 f0
  simp only [DM.cells, DM.sv, DM.wv, DM.fv] at B2
  obtain ⟨l2, k2, f2⟩ := B2
  go_wp2_with fail
  refine bodyPost_end (results_none rfl _ _ _) rfl ?_
  exact ⟨rfl, L, DO, n', K', E7.out.1, ⟨E7.out.2.1.len, E7.out.2.1.S, E7.out.2.1.O, E7.out.2.1.n, E7.out.2.1.K⟩, E7.out.2.2⟩

set_option maxRecDepth 100000 in
theorem fclone_any (p : Option Addr) (cap : Nat) (L : List Int) (hl : L.length ≤ 17592186044416) (w : World) (R : RowOf fatT w p L) (hp : p = none → L = []) :
    Calls Try.prog 68 #[.slice p L.length cap] w fun e w' => ∃ v, e = .returned v ∧ RowOwn fatT w' w.heap.size v L ∧ Below w.heap.size w w' := by
  rcases p with _ | x
  · obtain rfl := hp rfl
    have ke := fun w => Lib.run_eql_slice_nil_nil (P := Try.prog) w (t := 29) (e := 3) 0 cap Try.underlying29
    go_enter Try.func68, Try.ntmps68
    go_wp2_with fail
    go_ret
    exact ⟨_, rfl, RowOwn.nil _ _, Below.refl _ _⟩
  · have ke := fun w => Lib.run_eql_slice_some_nil (P := Try.prog) w (t := 29) (e := 3) x L.length cap Try.underlying29
    have OM : RowOwn fatT (w.alloc (.cells #[] 3)) w.heap.size (.slice (some ⟨w.heap.size, 0, none⟩) 0 0) [] := World.ownsRow_made (size := 1) w #[] 0 (Nat.le_refl _) (Nat.zero_le _) rfl
    have hb0 : Below w.heap.size w (w.alloc (.cells #[] 3)) := Below.alloc (Below.refl _ _) (Nat.le_refl _) _
    obtain ⟨v', w', hr, O', gr, mv⟩ := append_row fatOk w.heap.size 29 (w.alloc (.cells #[] 3)) _ [] OM (some x) cap L (RowOf.more R hb0) (by show (0 + L.length) * 8 ≤ _; omega) (by unfold maxLen; simp; omega) (by simp)
    have E : Hid (RowOwn fatT w' w.heap.size v' L ∧ Below w.heap.size w w') := hid ⟨O', Below.grown hb0 gr (by simp) fun k hk => (OM.within k hk).1⟩
    clear R OM hb0 O' gr mv hp
    replace hl := hid hl
    go_enter Try.func68, Try.ntmps68
    go_wp2_with (at_builtin; refine Lib.wpList_append_run _ rfl _ _ _ _ rfl _ _ rfl rfl _ _ hr ?_)
    go_ret
    exact ⟨_, rfl, E.out.1, E.out.2⟩

/-- When the power goes is told. -/
def DM.toldCut (m : DM) (z : Int) (q : Option Addr) (c : Nat) (Fs : List Int) : DM := { m with tl := true, cl := z, fp := q, fc := c, Fs := Fs }
theorem DiskM.toldCut {w w1 w2 : World} {b : Nat} {m : DM} {K : Nat → Prop} (h : DiskM w b m K) {z : Int} (hz : (Lit.int .i64 z).wf = true) {q : Option Addr} {c : Nat} {Fs : List Int} (b01 : Below w.heap.size w w1) (hF : RowOwn fatT w1 w.heap.size (.slice q Fs.length c) Fs) (hs : Sole (fun k => k = b) w1 w2)
    (hB : Blk w2 b (m.toldCut z q c Fs).cells) : DiskM w2 b (m.toldCut z q c Fs) (fun k => K k ∨ (w.heap.size ≤ k ∧ k < w1.heap.size)) := by
  have hin := hF.within
  have s01 := b01.size
  have s12 := hs.size
  have hbl : ∀ k, m.base b k → k < w.heap.size := fun k e => h.klt k (h.kk k e)
  have hbase : ∀ k, (m.toldCut z q c Fs).base b k → m.base b k ∨ w.heap.size ≤ k := by
    rintro k (e | e | e | e | e | e)
    · exact .inl (.inl e)
    · exact .inl (.inr (.inl e))
    · exact .inl (.inr (.inr (.inl e)))
    · exact .inl (.inr (.inr (.inr (.inl e))))
    · exact .inl (.inr (.inr (.inr (.inr (.inl e)))))
    · exact .inr (hin k e).1
  have D1 := h.more b01
  have kb := h.klt b (h.kk b (.inl rfl))
  have kl := hbl m.lm (.inr (.inl rfl))
  have ko := hbl m.om (.inr (.inr (.inl rfl)))
  have hx : ∀ x : OcS, x.soft w1 ∧ x.full K m b → x.soft w2 ∧ x.full (fun k => K k ∨ (w.heap.size ≤ k ∧ k < w1.heap.size)) (m.toldCut z q c Fs) b := fun x ⟨ht, g, e, kg, hg, r⟩ =>
    ⟨so_sole ht hs fun b' o e' => by rw [e] at e'; cases e'; exact fun h' => hg (.inl h'), g, e, .inl kg, fun h' => by rcases hbase g h' with r | r; exact hg r; (have := h.klt g kg; omega), r⟩
  exact
  { blk := hB
    apart := ⟨h.apart.bl, h.apart.bo, h.apart.lo, fun k e => ⟨(h.apart.s k e).1, (h.apart.s k e).2.1, (h.apart.s k e).2.2.1, (h.apart.s k e).2.2.2.1, fun e' => by have := (hin k e').1; have := hbl k (.inr (.inr (.inr (.inl e)))); omega⟩,
      fun k e => ⟨(h.apart.w k e).1, (h.apart.w k e).2.1, (h.apart.w k e).2.2.1, fun e' => by have := (hin k e').1; have := hbl k (.inr (.inr (.inr (.inr (.inl e))))); omega⟩,
      fun k e => ⟨by have := (hin k e).1; omega, by have := (hin k e).1; show k ≠ m.lm; omega, by have := (hin k e).1; show k ≠ m.om; omega⟩⟩
    kk := fun k hk => by
      rcases hk with e | e | e | e | e | e
      · exact .inl (h.kk k (.inl e))
      · exact .inl (h.kk k (.inr (.inl e)))
      · exact .inl (h.kk k (.inr (.inr (.inl e))))
      · exact .inl (h.kk k (.inr (.inr (.inr (.inl e)))))
      · exact .inl (h.kk k (.inr (.inr (.inr (.inr (.inl e))))))
      · exact .inr (hin k e)
    klt := fun k hk => by
      rcases hk with r | r
      · have := h.klt k r; omega
      · omega
    S := D1.S.sole hs fun k e h' => (h.apart.s k e).1 h'
    SO := fun x hx' => hx x ⟨(D1.SO x hx').1, (h.SO x hx').2⟩
    Q := D1.Q.sole hs fun k e h' => (h.apart.w k e).1 h'
    QO := fun y hy => ⟨hx _ ⟨(D1.QO y hy).1.1, (h.QO y hy).1.2⟩, (h.QO y hy).2⟩
    F := (hF.mono (Nat.zero_le _)).sole hs fun k e h' => by have := (hin k e).1; omega
    L := map_sole D1.L hs fun h' => h.apart.bl h'.symm
    O := map_sole D1.O hs fun h' => h.apart.bo h'.symm
    last := h.last
    lenS := h.lenS
    cwf := hz
    fwf := h.fwf
    uniq := ⟨h.uniq.s, h.uniq.q, h.uniq.sq⟩ }

set_option maxRecDepth 100000 in
set_option maxHeartbeats 4000000 in
/-- Cut, where the power is on; what comes of it. -/
theorem cut_on {G : (Nat → Prop) → DM → World → World → Prop} (m : DM) (b : Nat) (K : Nat → Prop) (w : World) (D : DiskM w b m K) (hoff : m.off = false) (z : Int) (hz : (Lit.int .i64 z).wf = true) (p : Option Addr) (cap : Nat) (Fs : List Int) (hl : Fs.length ≤ 17592186044416) (RF : RowOf fatT w p Fs)
    (KG : ∀ q c w1 K1, DiskM w1 b (m.toldCut z q c Fs) K1 → Calls Try.prog 69 #[.pointer (some ⟨b, 0, none⟩)] w1 fun e w' => e = .returned (.tuple #[]) ∧ G K1 (m.toldCut z q c Fs) w1 w') :
    Calls Try.prog 40 #[.pointer (some ⟨b, 0, none⟩), .int .i64 z, .slice p Fs.length cap] w fun e w' => e = .returned (.tuple #[]) ∧ ∃ q c w1 K1, DiskM w1 b (m.toldCut z q c Fs) K1 ∧ Sole K w w1 ∧ (∀ k, K1 k → K k ∨ w.heap.size ≤ k) ∧ G K1 (m.toldCut z q c Fs) w1 w' := by
  have hp : p = none → Fs = [] := fun e => by
    rcases RF with h | ⟨b', o, e', _⟩
    · exact List.eq_nil_of_length_eq_zero h
    · rw [e] at e'; cases e'
  have KC := hid (fclone_any p cap Fs hl w RF hp)
  have B0 := D.blk
  simp only [DM.cells, DM.sv, DM.wv, DM.fv, hoff] at B0
  have Dh := hid D
  have KGh := hid KG
  clear D RF hp KG
  obtain ⟨l0, k0, f0⟩ := B0
  generalize hn : Fs.length = n at *
  go_enter Try.func40, Try.ntmps40
  go_wp2_with fail
  refine KC.out.mono ?_
  rintro e w1 ⟨v, rfl, O1, hb1⟩
  obtain ⟨q, c, hv, _, _, _⟩ := O1.open fatOk
  subst hv
  have B1 := (Dh.out.more hb1).blk
  have B7 := ((B1.set 6 (.bool true) (by simp [DM.cells])).set 7 (.int .i64 z) (by simp [DM.cells])).set 8 (.slice q Fs.length c) (by simp [DM.cells])
  have S7 := ((Sole.setCell (S := fun k => k = b) w1 (b := b) (o := 6) (.bool true) rfl).trans (Sole.setCell _ (b := b) (o := 7) (.int .i64 z) rfl)).trans (Sole.setCell _ (b := b) (o := 8) (.slice q Fs.length c) rfl)
  have D7 := Dh.out.toldCut hz hb1 O1 S7 B7
  have KG7 := hid (KGh.out q c _ _ D7)
  have E7 := hid (And.intro D7 ((Sole.made (S := K) hb1).trans (S7.mono (T := K) fun k _ e => e ▸ Dh.out.kk _ (.inl rfl))))
  simp only [DM.cells, DM.sv, DM.wv, DM.fv] at B1
  clear O1 B7 S7 D7 KC l0 k0 f0 hb1
  obtain ⟨l1, k1, f1⟩ := B1
  rw [hn] at *
  go_wp2_with fail
  refine KG7.out.mono ?_
  rintro e w9 ⟨rfl, hG⟩
  have HG := hid hG
  clear hG KG7
  go_wp2_with fail
  refine bodyPost_end (results_none rfl _ _ _) rfl ?_
  exact ⟨rfl, q, c, _, _, E7.out.1, E7.out.2, fun k hk => hk.imp id (·.1), HG.out⟩
end Go.Proofs.Ytpgibngohbohdaa
