/-
  Package disk: goAtZero where nothing is told, Power.
-/
import Derived.Test.YtpgibngohbohdaaDiskWrite
namespace Go.Proofs.Ytpgibngohbohdaa
open Go.RowKit Go.Maps
set_option linter.unusedVariables false
set_option linter.unusedSimpArgs false

set_option maxRecDepth 100000 in
theorem goz_off (m : DM) (b : Nat) (w : World) (B : Blk w b m.cells) (h : m.tl = false) : Calls Try.prog 69 #[.pointer (some ⟨b, 0, none⟩)] w fun e w' => e = .returned (.tuple #[]) ∧ w' = w := by
  simp only [DM.cells, DM.sv, DM.wv, DM.fv, h] at B
  obtain ⟨l0, k0, f0⟩ := B
  go_enter Try.func69, Try.ntmps69
  go_wp2_with fail
  refine bodyPost_end (results_none rfl _ _ _) rfl ?_
  exact ⟨rfl, rfl⟩

/-- The power is on again. -/
def DM.reset (m : DM) : DM := { m with off := false, tl := false, cl := 0, fp := none, fc := 0, Fs := [], tf := false, fl := 0 }
theorem base_reset {m : DM} {b g : Nat} (h : m.reset.base b g) : m.base b g := by
  rcases h with h | h | h | h | h | h
  · exact .inl h
  · exact .inr (.inl h)
  · exact .inr (.inr (.inl h))
  · exact .inr (.inr (.inr (.inl h)))
  · exact .inr (.inr (.inr (.inr (.inl h))))
  · cases h
theorem DiskM.reset {w w' : World} {b : Nat} {m : DM} {K : Nat → Prop} (h : DiskM w b m K) (hs : Sole (fun k => k = b) w w') (hB : Blk w' b m.reset.cells) : DiskM w' b m.reset K := by
  have hx : ∀ x : OcS, x.soft w ∧ x.full K m b → x.soft w' ∧ x.full K m.reset b := fun x ⟨ht, g, e, kg, hg, r⟩ => ⟨so_sole ht hs fun b' o e' => by rw [e] at e'; cases e'; exact fun h' => hg (.inl h'), g, e, kg, fun h' => hg (base_reset h'), r⟩
  exact
  { blk := hB
    apart := ⟨h.apart.bl, h.apart.bo, h.apart.lo, fun k e => ⟨(h.apart.s k e).1, (h.apart.s k e).2.1, (h.apart.s k e).2.2.1, (h.apart.s k e).2.2.2.1, nofun⟩, fun k e => ⟨(h.apart.w k e).1, (h.apart.w k e).2.1, (h.apart.w k e).2.2.1, nofun⟩, nofun⟩
    kk := fun k hk => h.kk k (base_reset hk)
    klt := fun k hk => Nat.lt_of_lt_of_le (h.klt k hk) hs.size
    S := h.S.sole hs fun k e h' => (h.apart.s k e).1 h'
    SO := fun x hx' => hx x (h.SO x hx')
    Q := h.Q.sole hs fun k e h' => (h.apart.w k e).1 h'
    QO := fun y hy => ⟨hx _ (h.QO y hy).1, (h.QO y hy).2⟩
    F := RowOwn.nil _ _
    L := map_sole h.L hs fun h' => h.apart.bl h'.symm
    O := map_sole h.O hs fun h' => h.apart.bo h'.symm
    last := h.last
    lenS := h.lenS
    cwf := rfl
    fwf := rfl
    uniq := ⟨h.uniq.s, h.uniq.q, h.uniq.sq⟩ }

set_option maxRecDepth 100000 in
set_option maxHeartbeats 2000000 in
theorem power_on {G : DM → (Nat → Prop) → World → Prop} (m : DM) (b : Nat) (K : Nat → Prop) (w : World) (D : DiskM w b m K) (hoff : m.off = false) (fp : Option Addr) (n fc : Nat)
    (KS : Calls Try.prog 63 #[.pointer (some ⟨b, 0, none⟩), .slice fp n fc] w fun e w2 => e = .returned (.tuple #[]) ∧ ∃ m2 K2, DiskM w2 b m2 K2 ∧ G m2 K2 w2) :
    Calls Try.prog 32 #[.pointer (some ⟨b, 0, none⟩), .slice fp n fc] w fun e w' => e = .returned (.tuple #[]) ∧ ∃ m2 K2 w2, DiskM w' b m2.reset K2 ∧ Sole (fun k => k = b) w2 w' ∧ DiskM w2 b m2 K2 ∧ G m2 K2 w2 := by
  have B0 := D.blk
  simp only [DM.cells, DM.sv, DM.wv, DM.fv, hoff] at B0
  replace KS := hid KS
  clear D
  obtain ⟨l0, k0, f0⟩ := B0
  go_enter Try.func32, Try.ntmps32
  go_wp2_with fail
  refine KS.out.mono ?_
  rintro e w2 ⟨rfl, m2, K2, D2, hG⟩
  have E := hid (And.intro D2 hG)
  have B2 := D2.blk
  have B7 := (((((B2.set 1 (.bool false) (by simp [DM.cells])).set 6 (.bool false) (by simp [DM.cells])).set 7 (.int .i64 0) (by simp [DM.cells])).set 8 (.slice none 0 0) (by simp [DM.cells])).set 9 (.bool false) (by simp [DM.cells])).set 10 (.int .i64 0) (by simp [DM.cells])
  have S7 := (((((Sole.setCell (S := fun k => k = b) w2 (b := b) (o := 1) (.bool false) rfl).trans (Sole.setCell _ (b := b) (o := 6) (.bool false) rfl)).trans (Sole.setCell _ (b := b) (o := 7) (.int .i64 0) rfl)).trans (Sole.setCell _ (b := b) (o := 8) (.slice none 0 0) rfl)).trans (Sole.setCell _ (b := b) (o := 9) (.bool false) rfl)).trans (Sole.setCell _ (b := b) (o := 10) (.int .i64 0) rfl)
  have E7 := hid (And.intro (D2.reset S7 B7) S7)
  clear D2 hG B7 S7 KS l0 k0 f0
  simp only [DM.cells, DM.sv, DM.wv, DM.fv] at B2
  obtain ⟨l2, k2, f2⟩ := B2
  go_wp2_with fail
  refine bodyPost_end (results_none rfl _ _ _) rfl ?_
  exact ⟨rfl, m2, K2, w2, E7.out.1, E7.out.2, E.out.1, E.out.2⟩
end Go.Proofs.Ytpgibngohbohdaa
