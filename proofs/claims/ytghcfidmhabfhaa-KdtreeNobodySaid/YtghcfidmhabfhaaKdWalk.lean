/-
  Package kdtree: a walk of a tree of one point.
-/
import Derived.Test.YtghcfidmhabfhaaKdOne
namespace Go.Proofs.Ytghcfidmhabfhaa
open Go.RowKit
set_option linter.unusedVariables false
set_option linter.unusedSimpArgs false

set_option maxRecDepth 100000 in
set_option maxHeartbeats 4000000 in
theorem kat_depth (x : Pt) (b vb ab lb : Nat) (W : World) (Bb : Blk W b #[.int .i64 x.id, .int .u32 x.x, .int .u32 x.y, .string x.d, .pointer none, .pointer none])
    (Bv : Blk W vb #[.func (.func 61) #[] #[.pointer (some ⟨lb, 0, none⟩)]]) (Ba : Blk W ab #[.func (.func 82) #[] #[.pointer (some ⟨vb, 0, none⟩), .pointer (some ⟨ab, 0, none⟩)]])
    (S : Nat → Prop) (hb : ¬ S b) (ha : ¬ S ab) (Q : World → Prop) (hQ : ∀ w, Q w → Q w.drew)
    (hv : Calls Try.prog 61 #[pval x, .int .i64 0, .pointer (some ⟨lb, 0, none⟩)] W.drew fun e w' => e = .returned (.tuple #[.bool true, .bool true]) ∧ Sole S W.drew w' ∧ Q w') :
    Calls Try.prog 82 #[.pointer (some ⟨b, 0, none⟩), .int .i64 0, .pointer (some ⟨vb, 0, none⟩), .pointer (some ⟨ab, 0, none⟩)] W fun e w' => e = .returned (.tuple #[]) ∧ Q w' := by
  have K := hid hv
  have KN := hid (fun a b d w => kat_nil a b d w)
  have Bbd := hid Bb.drew
  have Bad := hid Ba.drew
  have hQh := hid hQ
  clear hv
  obtain ⟨xi, xx, xy, xd⟩ := x
  dsimp only [pval] at *
  obtain ⟨l1, k1, f1⟩ := Bb
  obtain ⟨l2, k2, f2⟩ := Bv
  obtain ⟨l3, k3, f3⟩ := Ba
  go_enter Try.func82, Try.ntmps82
  go_wp2_with fail
  go_region_with ((with_reducible refine K.out.mono ?_); rintro e w6 ⟨rfl, hS6, hQ6⟩)
  all_goals
    have Bb6 := hid (Bbd.out.sole hS6 hb)
    have Ba6 := hid (Bad.out.sole hS6 ha)
    replace hQ6 := hid hQ6
    clear hS6 l1 k1 f1 l2 k2 f2 l3 k3 f3 K
    obtain ⟨l1, k1, f1⟩ := Bb6.out
    obtain ⟨l3, k3, f3⟩ := Ba6.out
    go_wp2_with fail
    go_region_with ((with_reducible refine (KN.out _ _ _ _).mono ?_); rintro e w7 ⟨rfl, hw⟩; rw [hw]; clear hw w7)
    all_goals
      clear l1 k1 f1 l3 k3 f3
      have Bb7 := Bb6.out.drew
      have Ba7 := Ba6.out.drew
      have hQ7 := hid (hQh.out _ hQ6.out)
      obtain ⟨l1, k1, f1⟩ := Bb7
      obtain ⟨l3, k3, f3⟩ := Ba7
      go_wp2_with fail
      go_region_with ((with_reducible refine (KN.out _ _ _ _).mono ?_); rintro e w8 ⟨rfl, hw⟩; rw [hw]; clear hw w8)
      all_goals
        have hQ8 := hid (hQh.out _ hQ7.out)
        go_wp2_with fail
        go_end0
        exact ⟨rfl, hQ8.out⟩
set_option maxRecDepth 100000 in
set_option maxHeartbeats 4000000 in
theorem kat_order (x : Pt) (b vb ab lb : Nat) (W : World) (Bb : Blk W b #[.int .i64 x.id, .int .u32 x.x, .int .u32 x.y, .string x.d, .pointer none, .pointer none])
    (Bv : Blk W vb #[.func (.func 60) #[] #[.pointer (some ⟨lb, 0, none⟩)]]) (Ba : Blk W ab #[.func (.func 82) #[] #[.pointer (some ⟨vb, 0, none⟩), .pointer (some ⟨ab, 0, none⟩)]])
    (S : Nat → Prop) (hb : ¬ S b) (ha : ¬ S ab) (Q : World → Prop) (hQ : ∀ w, Q w → Q w.drew)
    (hv : Calls Try.prog 60 #[pval x, .int .i64 0, .pointer (some ⟨lb, 0, none⟩)] W.drew fun e w' => e = .returned (.tuple #[.bool true, .bool true]) ∧ Sole S W.drew w' ∧ Q w') :
    Calls Try.prog 82 #[.pointer (some ⟨b, 0, none⟩), .int .i64 0, .pointer (some ⟨vb, 0, none⟩), .pointer (some ⟨ab, 0, none⟩)] W fun e w' => e = .returned (.tuple #[]) ∧ Q w' := by
  have K := hid hv
  have KN := hid (fun a b d w => kat_nil a b d w)
  have Bbd := hid Bb.drew
  have Bad := hid Ba.drew
  have hQh := hid hQ
  clear hv
  obtain ⟨xi, xx, xy, xd⟩ := x
  dsimp only [pval] at *
  obtain ⟨l1, k1, f1⟩ := Bb
  obtain ⟨l2, k2, f2⟩ := Bv
  obtain ⟨l3, k3, f3⟩ := Ba
  go_enter Try.func82, Try.ntmps82
  go_wp2_with fail
  go_region_with ((with_reducible refine K.out.mono ?_); rintro e w6 ⟨rfl, hS6, hQ6⟩)
  all_goals
    have Bb6 := hid (Bbd.out.sole hS6 hb)
    have Ba6 := hid (Bad.out.sole hS6 ha)
    replace hQ6 := hid hQ6
    clear hS6 l1 k1 f1 l2 k2 f2 l3 k3 f3 K
    obtain ⟨l1, k1, f1⟩ := Bb6.out
    obtain ⟨l3, k3, f3⟩ := Ba6.out
    go_wp2_with fail
    go_region_with ((with_reducible refine (KN.out _ _ _ _).mono ?_); rintro e w7 ⟨rfl, hw⟩; rw [hw]; clear hw w7)
    all_goals
      clear l1 k1 f1 l3 k3 f3
      have Bb7 := Bb6.out.drew
      have Ba7 := Ba6.out.drew
      have hQ7 := hid (hQh.out _ hQ6.out)
      obtain ⟨l1, k1, f1⟩ := Bb7
      obtain ⟨l3, k3, f3⟩ := Ba7
      go_wp2_with fail
      go_region_with ((with_reducible refine (KN.out _ _ _ _).mono ?_); rintro e w8 ⟨rfl, hw⟩; rw [hw]; clear hw w8)
      all_goals
        have hQ8 := hid (hQh.out _ hQ7.out)
        go_wp2_with fail
        go_end0
        exact ⟨rfl, hQ8.out⟩
end Go.Proofs.Ytghcfidmhabfhaa
