/-
  Package roll: next: the batch that stands behind a place, as a function of what stands on the disk.
-/
import Derived.Test.YtcklmemnjchdcaaRsF
import Derived.Test.YtcklmemnjchdcaaRsP
import Derived.Deep.RegionHeld3
import Derived.Deep.DeepCutAuto

namespace Go.Proofs.Ytcklmemnjchdcaa
open Go.RowKit Go.Maps
set_option linter.unusedVariables false
set_option linter.unusedSimpArgs false

/-- A place. -/
structure Pc where
  s : Int
  o : Int
  x : Int
abbrev Pc.v (p : Pc) : Value := .agg #[.int .i64 p.s, .int .i64 p.o, .int .i64 p.x]
abbrev Pc.cells (p : Pc) : Array Value := #[.int .i64 p.s, .int .i64 p.o, .int .i64 p.x]
/-- Is a place of a geometry? -/
structure PcOk (n z : Int) (p : Pc) : Prop where
  s0 : 0 ≤ p.s
  s1 : p.s < n
  o0 : 0 ≤ p.o
  o1 : p.o ≤ z
  x0 : 0 ≤ p.x
  x1 : p.x < n
/-- Where the next batch begins. -/
def onP (z : Int) (p : Pc) : Pc := if 2 ≤ z - p.o then p else ⟨p.x, 0, 0⟩
/-- The sector of a place. -/
def secP (z : Int) (p : Pc) : Int := 9 + p.s * z + p.o
/-- Does the next batch stand there? -/
def nextG (R : Int → List UInt8) (n z : Int) (p : Pc) (ep sq : Int) : Bool :=
  batG R (secP z (onP z p)) (z - (onP z p).o) ep sq && (decide (smNx (R (secP z (onP z p))) < n) && (!(smNx (R (secP z (onP z p))) == (onP z p).s) && (decide (z - p.o < 2) || smNx (R (secP z (onP z p))) == p.x)))
def NextPost (w w' : World) (e : Ending) (b : Nat) (K : Nat → Prop) (N : Nat) (R : Int → List UInt8) (c0 : Nat) (ok : Prop) (nx : Int) (la : Bool) (n : Nat) (f : Nat → En) (p : Pc) : Prop :=
  (∃ m', DiskM w' b m' K ∧ Quiet m' N R ∧ Soft m' c0) ∧ Sole K w w' ∧ ((ok ∧ ∃ q c, e = .returned (.tuple #[smval nx la q n c, p.v, .bool true, .int .i64 0]) ∧ n ≤ c ∧ c ≤ maxLen ∧ RowP w' q 2 n (fun i => ecells (f i)) ∧ ∀ b' o, q = some ⟨b', o, none⟩ → n ≠ 0 → w.heap.size < b') ∨ (¬ ok ∧ e = .returned (.tuple #[smval 0 false none 0 0, Pc.v ⟨0, 0, 0⟩, .bool false, .int .i64 0])))
/-- Behind the call of Batch. -/
structure NextAt (w V : World) (b : Nat) (K : Nat → Prop) (N : Nat) (R : Int → List UInt8) (c0 : Nat) (n z : Int) (P : Pc) (g : Nat) (q : Option Addr) (c : Nat) (nx : Int) (la : Bool) (nn : Nat) (f : Nat → En) : Prop where
  SV : Sole K w V
  Bg : Blk V w.heap.size #[.int .i64 n, .int .i64 z]
  Bp : Blk V (w.heap.size + 1) P.cells
  B2 : Blk V (w.heap.size + 1 + 1) s0c
  B3 : Blk V (w.heap.size + 1 + 1 + 1) #[.int .i64 0, .int .i64 0, .int .i64 0]
  BS : Blk V g (smcells nx la q nn c)
  d : ∃ m', DiskM V b m' K ∧ Quiet m' N R ∧ Soft m' c0
  RV : RowP V q 2 nn (fun i => ecells (f i))
  qf : ∀ b' o, q = some ⟨b', o, none⟩ → nn ≠ 0 → w.heap.size + 3 < b'
  gV : w.heap.size + 3 < g
  c1 : nn ≤ c
  c2 : c ≤ maxLen
theorem seg_val {n z k : Int} (hok : okB n z = true) (h0 : 0 ≤ k) (h1 : k < n) : segI n z k = 9 + k * z := by
  have : segB n z k = true := by unfold segB; rw [hok, decide_eq_true h0, decide_eq_true h1]; rfl
  unfold segI
  rw [if_pos this]
theorem sec_bd {n z : Int} {N : Nat} (hok : okB n z = true) (hN : (N : Int) = 9 + n * z) {p : Pc} (h : PcOk n z p) : 0 ≤ secP z p ∧ secP z p + (z - p.o) ≤ (N : Int) ∧ 0 ≤ p.s * z ∧ p.s * z ≤ 1024 := by
  obtain ⟨h1, h2, h3, h4⟩ := ok_true hok
  have a1 : (p.s + 1) * z ≤ n * z := Int.mul_le_mul_of_nonneg_right (by have := h.s1; omega) (by omega)
  rw [Int.add_mul, Int.one_mul] at a1
  have a2 := mul_in h.s0 (show p.s ≤ 32 by have := h.s1; omega) h3 h4
  have := h.o0
  have := h.o1
  unfold secP
  omega
theorem on_ok {n z : Int} (hok : okB n z = true) {p : Pc} (h : PcOk n z p) : PcOk n z (onP z p) ∧ (onP z p).o + 2 ≤ z := by
  obtain ⟨h1, h2, h3, h4⟩ := ok_true hok
  unfold onP
  split
  · exact ⟨h, by omega⟩
  · exact ⟨⟨h.x0, h.x1, Int.le_refl _, by show (0 : Int) ≤ z; omega, Int.le_refl _, by show (0 : Int) < n; omega⟩, by show (0 : Int) + 2 ≤ z; omega⟩

set_option maxRecDepth 100000 in
set_option maxHeartbeats 16000000 in
theorem rnext_any (m : DM) (b : Nat) (K : Nat → Prop) (w : World) (D : DiskM w b m K) {N : Nat} {R : Int → List UInt8} (Qm : Quiet m N R) {c0 : Nat} (Sm : Soft m c0) (hR : ∀ x, 0 ≤ x → x < (N : Int) → (R x).length = 256) (n z : Int) (hok : okB n z = true) (hN : (N : Int) = 9 + n * z) (hN1 : N ≤ 1000) (p : Pc) (hp : PcOk n z p) (ep sq : Int) :
    Calls Try.prog 26 #[.pointer (some ⟨b, 0, none⟩), geo n z, p.v, .int .i64 ep, .int .i64 sq] w fun e w' => NextPost w w' e b K N R c0 (nextG R n z p ep sq = true) (smNx (R (secP z (onP z p)))) (smLa (R (secP z (onP z p)))) (smN (R (secP z (onP z p)))) (smF (R (secP z (onP z p)))) (onP z p) := by
  obtain ⟨hz1, hz2, hz3, hz4⟩ := ok_true hok
  obtain ⟨hop, hop2⟩ := on_ok hok hp
  obtain ⟨hs0, hs1, hs2, hs3⟩ := sec_bd hok hN hop
  obtain ⟨P, hP⟩ : ∃ P, P = onP z p := ⟨_, rfl⟩
  have hPd : P = if 2 ≤ z - p.o then p else ⟨p.x, 0, 0⟩ := hP
  have hG : nextG R n z p ep sq = (batG R (secP z P) (z - P.o) ep sq && (decide (smNx (R (secP z P)) < n) && (!(smNx (R (secP z P)) == P.s) && (decide (z - p.o < 2) || smNx (R (secP z P)) == p.x)))) := by rw [hP]; rfl
  rw [← hP] at hop hop2 hs0 hs1 hs2 hs3 ⊢
  clear hP
  have KB0 := fun (W : World) (h : Sole K w W) (hd : ∃ m', DiskM W b m' K ∧ Quiet m' N R ∧ Soft m' c0) => hd.elim fun m' hd => sbatch_fun m' b K W hd.1 hd.2.1 hd.2.2 hR (secP z P) (z - P.o) ep sq hs0 (by omega) hs1 (by omega)
  have KS0 := fun W => segment_any n z P.s W
  rw [seg_val hok hop.s0 hop.s1] at KS0
  have hKs := hid (fun k (hk : K k) => D.klt k hk)
  have hD0 := hid (show ∃ m', DiskM w b m' K ∧ Quiet m' N R ∧ Soft m' c0 from ⟨m, D, Qm, Sm⟩)
  obtain ⟨B0, B1, B2, B3, H⟩ := @boxed4 w _ #[.int .i64 n, .int .i64 z] p.cells s0c #[.int .i64 0, .int .i64 0, .int .i64 0] 25 30 83 30 (Below.refl _ _)
  generalize hbG : batG R (secP z P) (z - P.o) ep sq = bG at *
  generalize smNx (R (secP z P)) = nx at *
  generalize smLa (R (secP z P)) = la at *
  generalize smN (R (secP z P)) = nn at *
  generalize smF (R (secP z P)) = f at *
  generalize nextG R n z p ep sq = nG at *
  have hGh := hid hG
  have hm := mul_in hop.s0 (show P.s ≤ 32 by have := hop.s1; omega) hz3 hz4
  have hpo := hp.o0
  have hpo1 := hp.o1
  have hPo := hop.o0
  have hPo1 := hop.o1
  have B0h := hid B0
  have B1h := hid B1
  have B2h := hid B2
  have B3h := hid B3
  have Hh := hid H
  replace KS0 := hid KS0
  clear hG hbG hs0 hs1 D Qm Sm hR hN hN1 hok H B0 B1 B2 B3
  replace hp := hid hp
  replace hop := hid hop
  generalize hW : (((w.alloc (.cells #[.int .i64 n, .int .i64 z] 25)).alloc (.cells p.cells 30)).alloc (.cells s0c 83)).alloc (.cells #[.int .i64 0, .int .i64 0, .int .i64 0] 30) = W at *
  obtain ⟨l0, m0, f0⟩ := B0h.out
  obtain ⟨l1, m1, f1⟩ := B1h.out
  have hw2 : wrap64 (z - P.o) = z - P.o := wrap_small _ (by omega) (by omega)
  have hw1i : IntKind.i64.wrap (9 + P.s * z + P.o) = 9 + P.s * z + P.o := IntWalk.i64_in _ ⟨by omega, by omega⟩
  have hw2i : IntKind.i64.wrap (z - P.o) = z - P.o := IntWalk.i64_in _ ⟨by omega, by omega⟩
  unfold secP at KB0
  cases bG with
  | false =>
    have KB : Hid (∀ W', Sole K w W' → (∃ m', DiskM W' b m' K ∧ Quiet m' N R ∧ Soft m' c0) → Calls Try.prog 47 #[.pointer (some ⟨b, 0, none⟩), .int .i64 (9 + P.s * z + P.o), .int .i64 (z - P.o), .int .i64 ep, .int .i64 sq] W' fun e w' => e = .returned (.tuple #[smval 0 false none 0 0, .bool false, .int .i64 0]) ∧ (∃ m', DiskM w' b m' K ∧ Quiet m' N R ∧ Soft m' c0) ∧ Sole K W' w') := hid (fun W' h1 h2 => (KB0 W' h1 h2).mono fun e w' hh => by
      obtain ⟨h1, h2, h3⟩ := hh
      rcases h3 with ⟨h4, _⟩ | ⟨_, h4⟩
      · cases h4
      · exact ⟨h4, h1, h2⟩)
    have hnG := hid (show ¬ nG = true by rw [hGh.out]; simp)
    clear KB0 hGh
    go_enter Try.func26, Try.ntmps26
    by_cases h2 : 2 ≤ z - p.o
    · rw [if_pos h2] at hPd
      subst hPd
      go_wp2_with fail
      have Bg := B0h
      have Bp := B1h
      have B2w := B2h
      have B3w := B3h
      have HW := Hh
      have SW := hid (Sole.made (S := K) Hh.out)
      have dW := hid (hD0.out.elim fun m' h => show ∃ m', DiskM W b m' K ∧ Quiet m' N R ∧ Soft m' c0 from ⟨m', h.1.more Hh.out, h.2⟩)
      clear B0h B1h B2h B3h Hh l0 m0 f0 l1 m1 f1 hD0
      obtain ⟨l0, m0, f0⟩ := Bg.out
      obtain ⟨l1, m1, f1⟩ := Bp.out
      go_cut [15, 16, 17] (fun s15 s16 s17 wx => s16 = .bool false ∧ s17 = .int .i64 0 ∧ ∃ g q c, s15 = .pointer (some ⟨g, 0, none⟩) ∧ NextAt w wx b K N R c0 n z P g q c 0 false 0 f)
      case first =>
        have hk0 := hid (show W.cell? ⟨w.heap.size, 0, none⟩ = some (.int .i64 n) ∧ W.cell? ⟨w.heap.size, 1, none⟩ = some (.int .i64 z) ∧ W.cell? ⟨w.heap.size + 1, 0, none⟩ = some (.int .i64 P.s) ∧ W.cell? ⟨w.heap.size + 1, 1, none⟩ = some (.int .i64 P.o) ∧ W.cell? ⟨w.heap.size + 1, 2, none⟩ = some (.int .i64 P.x) from ⟨Bg.out.cell 0, Bg.out.cell 1, Bp.out.cell 0, Bp.out.cell 1, Bp.out.cell 2⟩)
        have hbw : Below W.heap.size W W.drew := (Below.refl _ _).drew
        have hba : Below W.heap.size W (W.drew.alloc (.cells s0c 83)) := (Below.refl _ _).drew.alloc (Nat.le_refl _) _
        have hgA := hid (Blk.new W.drew s0c 83)
        have hWw := hid (show w.heap.size + 3 < W.heap.size from B3w.out.lt)
        go_region_held3 (fun w' => w'.cell? ⟨w.heap.size, 0, none⟩ = some (.int .i64 n) ∧ w'.cell? ⟨w.heap.size, 1, none⟩ = some (.int .i64 z) ∧ w'.cell? ⟨w.heap.size + 1, 0, none⟩ = some (.int .i64 P.s) ∧ w'.cell? ⟨w.heap.size + 1, 1, none⟩ = some (.int .i64 P.o) ∧ w'.cell? ⟨w.heap.size + 1, 2, none⟩ = some (.int .i64 P.x))
          (first | exact hk8s.out _ _ _ | exact hk8a.out _ | exact hk8.out | exact hk5.out | exact hk0.out | go_keep)
          (first
            | ((with_reducible refine (KS0.out _).mono ?_); rintro e w5 ⟨rfl, hb5⟩
               have hb05 := hid (hbw.trans hb5)
               have hk5 := hid (show w5.cell? ⟨w.heap.size, 0, none⟩ = some (.int .i64 n) ∧ w5.cell? ⟨w.heap.size, 1, none⟩ = some (.int .i64 z) ∧ w5.cell? ⟨w.heap.size + 1, 0, none⟩ = some (.int .i64 P.s) ∧ w5.cell? ⟨w.heap.size + 1, 1, none⟩ = some (.int .i64 P.o) ∧ w5.cell? ⟨w.heap.size + 1, 2, none⟩ = some (.int .i64 P.x) from ⟨(hb05.out.cell (p := ⟨_, _, none⟩) Bg.out.lt).trans hk0.out.1, (hb05.out.cell (p := ⟨_, _, none⟩) Bg.out.lt).trans hk0.out.2.1, (hb05.out.cell (p := ⟨_, _, none⟩) Bp.out.lt).trans hk0.out.2.2.1, (hb05.out.cell (p := ⟨_, _, none⟩) Bp.out.lt).trans hk0.out.2.2.2.1, (hb05.out.cell (p := ⟨_, _, none⟩) Bp.out.lt).trans hk0.out.2.2.2.2⟩))
            | ((with_reducible refine (KS0.out _).mono ?_); rintro e w5 ⟨rfl, hb5⟩
               have hb05 := hid (below2 hba hb5 (by simp))
               have hg5 := hid (show Blk w5 W.heap.size s0c from hgA.out.more hb5)
               have hk5 := hid (show w5.cell? ⟨w.heap.size, 0, none⟩ = some (.int .i64 n) ∧ w5.cell? ⟨w.heap.size, 1, none⟩ = some (.int .i64 z) ∧ w5.cell? ⟨w.heap.size + 1, 0, none⟩ = some (.int .i64 P.s) ∧ w5.cell? ⟨w.heap.size + 1, 1, none⟩ = some (.int .i64 P.o) ∧ w5.cell? ⟨w.heap.size + 1, 2, none⟩ = some (.int .i64 P.x) from ⟨(hb05.out.cell (p := ⟨_, _, none⟩) Bg.out.lt).trans hk0.out.1, (hb05.out.cell (p := ⟨_, _, none⟩) Bg.out.lt).trans hk0.out.2.1, (hb05.out.cell (p := ⟨_, _, none⟩) Bp.out.lt).trans hk0.out.2.2.1, (hb05.out.cell (p := ⟨_, _, none⟩) Bp.out.lt).trans hk0.out.2.2.2.1, (hb05.out.cell (p := ⟨_, _, none⟩) Bp.out.lt).trans hk0.out.2.2.2.2⟩))
            | ((with_reducible refine (KB.out _ (SW.out.trans (Sole.made (S := K) (hb05.out))) (dW.out.elim fun m' h => ⟨m', h.1.more (hb05.out), h.2⟩)).mono ?_); rintro e w8 ⟨rfl, hd8, S8⟩
               have SS8 := hid ((SW.out.trans (Sole.made (S := K) (hb05.out))).trans S8)
               have Bg8 := hid ((Bg.out.more (hb05.out)).sole S8 (fun h => by have := hKs.out _ h; omega))
               have Bp8 := hid ((Bp.out.more (hb05.out)).sole S8 (fun h => by have := hKs.out _ h; omega))
               have B28 := hid ((B2w.out.more (hb05.out)).sole S8 (fun h => by have := hKs.out _ h; omega))
               have B38 := hid ((B3w.out.more (hb05.out)).sole S8 (fun h => by have := hKs.out _ h; omega))
               have hs8 := hid (show W.heap.size ≤ w8.heap.size from Nat.le_trans (Below.size (hb05.out)) S8.size)
               have hg8 := hid (hg5.out.sole S8 (fun h => by have := hKs.out _ h; have := hWw.out; omega))
               obtain ⟨lg8, mg8, fg8⟩ := hg8.out
               have Bg8s := hid (fun v0 v1 v2 => ((Bg8.out.other ⟨W.heap.size, 0, none⟩ (by show W.heap.size ≠ _; have := hWw.out; omega) v0).other ⟨W.heap.size, 1, none⟩ (by show W.heap.size ≠ _; have := hWw.out; omega) v1).other ⟨W.heap.size, 2, none⟩ (by show W.heap.size ≠ _; have := hWw.out; omega) v2)
               have Bp8s := hid (fun v0 v1 v2 => ((Bp8.out.other ⟨W.heap.size, 0, none⟩ (by show W.heap.size ≠ _; have := hWw.out; omega) v0).other ⟨W.heap.size, 1, none⟩ (by show W.heap.size ≠ _; have := hWw.out; omega) v1).other ⟨W.heap.size, 2, none⟩ (by show W.heap.size ≠ _; have := hWw.out; omega) v2)
               have hk8s := hid (fun v0 v1 v2 => And.intro ((Bg8s.out v0 v1 v2).cell 0) (And.intro ((Bg8s.out v0 v1 v2).cell 1) (And.intro ((Bp8s.out v0 v1 v2).cell 0) (And.intro ((Bp8s.out v0 v1 v2).cell 1) ((Bp8s.out v0 v1 v2).cell 2)))))
               have hk8 := hid (show w8.cell? ⟨w.heap.size, 0, none⟩ = some (.int .i64 n) ∧ w8.cell? ⟨w.heap.size, 1, none⟩ = some (.int .i64 z) ∧ w8.cell? ⟨w.heap.size + 1, 0, none⟩ = some (.int .i64 P.s) ∧ w8.cell? ⟨w.heap.size + 1, 1, none⟩ = some (.int .i64 P.o) ∧ w8.cell? ⟨w.heap.size + 1, 2, none⟩ = some (.int .i64 P.x) from ⟨Bg8.out.cell 0, Bg8.out.cell 1, Bp8.out.cell 0, Bp8.out.cell 1, Bp8.out.cell 2⟩)
               have hk8a := hid (fun (C : Array Value) => have ba := below_al1 w8 (.cells C 83); And.intro ((Bg8.out.more ba).cell 0) (And.intro ((Bg8.out.more ba).cell 1) (And.intro ((Bp8.out.more ba).cell 0) (And.intro ((Bp8.out.more ba).cell 1) ((Bp8.out.more ba).cell 2))))))
            | ((with_reducible refine (KB.out _ (SW.out.trans (Sole.made (S := K) (hb05.out.alloc hb05.out.size (.cells s0c 83)))) (dW.out.elim fun m' h => ⟨m', h.1.more (hb05.out.alloc hb05.out.size (.cells s0c 83)), h.2⟩)).mono ?_); rintro e w8 ⟨rfl, hd8, S8⟩
               have SS8 := hid ((SW.out.trans (Sole.made (S := K) (hb05.out.alloc hb05.out.size (.cells s0c 83)))).trans S8)
               have Bg8 := hid ((Bg.out.more (hb05.out.alloc hb05.out.size (.cells s0c 83))).sole S8 (fun h => by have := hKs.out _ h; omega))
               have Bp8 := hid ((Bp.out.more (hb05.out.alloc hb05.out.size (.cells s0c 83))).sole S8 (fun h => by have := hKs.out _ h; omega))
               have B28 := hid ((B2w.out.more (hb05.out.alloc hb05.out.size (.cells s0c 83))).sole S8 (fun h => by have := hKs.out _ h; omega))
               have B38 := hid ((B3w.out.more (hb05.out.alloc hb05.out.size (.cells s0c 83))).sole S8 (fun h => by have := hKs.out _ h; omega))
               have hs8 := hid (show W.heap.size ≤ w8.heap.size from Nat.le_trans (Below.size (hb05.out.alloc hb05.out.size (.cells s0c 83))) S8.size)
               have hg8 := hid ((Blk.new w5 s0c 83).sole S8 (fun h => by have := hKs.out _ h; have := hWw.out; have := hb05.out.size; omega))
               obtain ⟨lg8, mg8, fg8⟩ := hg8.out
               have Bg8s := hid (fun v0 v1 v2 => ((Bg8.out.other ⟨w5.heap.size, 0, none⟩ (by show w5.heap.size ≠ _; have := hWw.out; have := hb05.out.size; omega) v0).other ⟨w5.heap.size, 1, none⟩ (by show w5.heap.size ≠ _; have := hWw.out; have := hb05.out.size; omega) v1).other ⟨w5.heap.size, 2, none⟩ (by show w5.heap.size ≠ _; have := hWw.out; have := hb05.out.size; omega) v2)
               have Bp8s := hid (fun v0 v1 v2 => ((Bp8.out.other ⟨w5.heap.size, 0, none⟩ (by show w5.heap.size ≠ _; have := hWw.out; have := hb05.out.size; omega) v0).other ⟨w5.heap.size, 1, none⟩ (by show w5.heap.size ≠ _; have := hWw.out; have := hb05.out.size; omega) v1).other ⟨w5.heap.size, 2, none⟩ (by show w5.heap.size ≠ _; have := hWw.out; have := hb05.out.size; omega) v2)
               have hk8s := hid (fun v0 v1 v2 => And.intro ((Bg8s.out v0 v1 v2).cell 0) (And.intro ((Bg8s.out v0 v1 v2).cell 1) (And.intro ((Bp8s.out v0 v1 v2).cell 0) (And.intro ((Bp8s.out v0 v1 v2).cell 1) ((Bp8s.out v0 v1 v2).cell 2)))))
               have hk8 := hid (show w8.cell? ⟨w.heap.size, 0, none⟩ = some (.int .i64 n) ∧ w8.cell? ⟨w.heap.size, 1, none⟩ = some (.int .i64 z) ∧ w8.cell? ⟨w.heap.size + 1, 0, none⟩ = some (.int .i64 P.s) ∧ w8.cell? ⟨w.heap.size + 1, 1, none⟩ = some (.int .i64 P.o) ∧ w8.cell? ⟨w.heap.size + 1, 2, none⟩ = some (.int .i64 P.x) from ⟨Bg8.out.cell 0, Bg8.out.cell 1, Bp8.out.cell 0, Bp8.out.cell 1, Bp8.out.cell 2⟩)
               have hk8a := hid (fun (C : Array Value) => have ba := below_al1 w8 (.cells C 83); And.intro ((Bg8.out.more ba).cell 0) (And.intro ((Bg8.out.more ba).cell 1) (And.intro ((Bp8.out.more ba).cell 0) (And.intro ((Bp8.out.more ba).cell 1) ((Bp8.out.more ba).cell 2))))))
            | ((with_reducible refine (KB.out _ (SW.out.trans (Sole.made (S := K) (hb05.out))) (dW.out.elim fun m' h => ⟨m', h.1.more (hb05.out), h.2⟩)).mono ?_); rintro e w8 ⟨rfl, hd8, S8⟩
               have SS8 := hid ((SW.out.trans (Sole.made (S := K) (hb05.out))).trans S8)
               have Bg8 := hid ((Bg.out.more (hb05.out)).sole S8 (fun h => by have := hKs.out _ h; omega))
               have Bp8 := hid ((Bp.out.more (hb05.out)).sole S8 (fun h => by have := hKs.out _ h; omega))
               have B28 := hid ((B2w.out.more (hb05.out)).sole S8 (fun h => by have := hKs.out _ h; omega))
               have B38 := hid ((B3w.out.more (hb05.out)).sole S8 (fun h => by have := hKs.out _ h; omega))
               have hs8 := hid (show W.heap.size ≤ w8.heap.size from Nat.le_trans (Below.size (hb05.out)) S8.size)
               have hk8 := hid (show w8.cell? ⟨w.heap.size, 0, none⟩ = some (.int .i64 n) ∧ w8.cell? ⟨w.heap.size, 1, none⟩ = some (.int .i64 z) ∧ w8.cell? ⟨w.heap.size + 1, 0, none⟩ = some (.int .i64 P.s) ∧ w8.cell? ⟨w.heap.size + 1, 1, none⟩ = some (.int .i64 P.o) ∧ w8.cell? ⟨w.heap.size + 1, 2, none⟩ = some (.int .i64 P.x) from ⟨Bg8.out.cell 0, Bg8.out.cell 1, Bp8.out.cell 0, Bp8.out.cell 1, Bp8.out.cell 2⟩)
               have hk8a := hid (fun (C : Array Value) => have ba := below_al1 w8 (.cells C 83); And.intro ((Bg8.out.more ba).cell 0) (And.intro ((Bg8.out.more ba).cell 1) (And.intro ((Bp8.out.more ba).cell 0) (And.intro ((Bp8.out.more ba).cell 1) ((Bp8.out.more ba).cell 2)))))))
        · have b9 : Below w8.heap.size w8 (w8.alloc (.cells #[.int .i64 0, .bool false, .slice none 0 0] 83)) := below_al1 _ _
          have SV := hid (SS8.out.trans (Sole.made b9))
          have BgV := hid (Bg8.out.more b9)
          have BpV := hid (Bp8.out.more b9)
          have B2V := hid (B28.out.more b9)
          have B3V := hid (B38.out.more b9)
          have BSV := hid (Blk.new w8 #[.int .i64 0, .bool false, .slice none 0 0] 83)
          have dV := hid (hd8.elim fun m' h => show ∃ m', DiskM _ b m' K ∧ Quiet m' N R ∧ Soft m' c0 from ⟨m', h.1.more b9, h.2⟩)
          have hgV := hid (show w.heap.size + 3 < w8.heap.size from by have := hWw.out; have := hs8.out; omega)
          generalize w8.alloc (.cells #[.int .i64 0, .bool false, .slice none 0 0] 83) = V at *
          generalize w8.heap.size = g at *
          go_wp2_with fail
          go_meet
          case rel => exact ⟨rfl, rfl, g, _, _, rfl, ⟨SV.out, BgV.out, BpV.out, B2V.out, B3V.out, BSV.out, dV.out, .inl rfl, fun _ _ _ h => absurd rfl h, hgV.out, Nat.le_refl _, Nat.zero_le _⟩⟩
        · have S9 := sole_setAll (S := fun k => k = w5.heap.size) rfl [.int .i64 0, .bool false, .slice none 0 0] 0 w8
          have hG3 := hid (show w.heap.size + 3 < w5.heap.size from by have := hWw.out; have := hb05.out.size; omega)
          have SV := hid (SS8.out.trans' S9 (fun k hk e => absurd hk (by have := hG3.out; omega)))
          have BgV := hid (Bg8.out.sole S9 (by show ¬ _; have := hG3.out; omega))
          have BpV := hid (Bp8.out.sole S9 (by show ¬ _; have := hG3.out; omega))
          have B2V := hid (B28.out.sole S9 (by show ¬ _; have := hG3.out; omega))
          have B3V := hid (B38.out.sole S9 (by show ¬ _; have := hG3.out; omega))
          have BSV := hid (show Blk _ w5.heap.size #[.int .i64 0, .bool false, .slice none 0 0] from Blk.fill [.int .i64 0, .bool false, .slice none 0 0] 0 hg8.out (by simp))
          have dV := hid (hd8.elim fun m' h => show ∃ m', DiskM _ b m' K ∧ Quiet m' N R ∧ Soft m' c0 from ⟨m', h.1.kept S9 (fun k hk e => by have := hKs.out k hk; have := hG3.out; omega), h.2⟩)
          have hgV := hid hG3.out
          simp only [setAll, Nat.zero_add, Nat.reduceAdd] at SV BgV BpV B2V B3V BSV dV
          clear S9
          generalize World.setCell _ _ _ = V at *
          generalize w5.heap.size = g at *
          go_wp2_with fail
          go_meet
          case rel => exact ⟨rfl, rfl, g, _, _, rfl, ⟨SV.out, BgV.out, BpV.out, B2V.out, B3V.out, BSV.out, dV.out, .inl rfl, fun _ _ _ h => absurd rfl h, hgV.out, Nat.le_refl _, Nat.zero_le _⟩⟩
        · have S9 := sole_setAll (S := fun k => k = W.heap.size) rfl [.int .i64 0, .bool false, .slice none 0 0] 0 w8
          have hG3 := hid (show w.heap.size + 3 < W.heap.size from by have := hWw.out; have := hb05.out.size; omega)
          have SV := hid (SS8.out.trans' S9 (fun k hk e => absurd hk (by have := hG3.out; omega)))
          have BgV := hid (Bg8.out.sole S9 (by show ¬ _; have := hG3.out; omega))
          have BpV := hid (Bp8.out.sole S9 (by show ¬ _; have := hG3.out; omega))
          have B2V := hid (B28.out.sole S9 (by show ¬ _; have := hG3.out; omega))
          have B3V := hid (B38.out.sole S9 (by show ¬ _; have := hG3.out; omega))
          have BSV := hid (show Blk _ W.heap.size #[.int .i64 0, .bool false, .slice none 0 0] from Blk.fill [.int .i64 0, .bool false, .slice none 0 0] 0 hg8.out (by simp))
          have dV := hid (hd8.elim fun m' h => show ∃ m', DiskM _ b m' K ∧ Quiet m' N R ∧ Soft m' c0 from ⟨m', h.1.kept S9 (fun k hk e => by have := hKs.out k hk; have := hG3.out; omega), h.2⟩)
          have hgV := hid hG3.out
          simp only [setAll, Nat.zero_add, Nat.reduceAdd] at SV BgV BpV B2V B3V BSV dV
          clear S9
          generalize World.setCell _ _ _ = V at *
          generalize W.heap.size = g at *
          go_wp2_with fail
          go_meet
          case rel => exact ⟨rfl, rfl, g, _, _, rfl, ⟨SV.out, BgV.out, BpV.out, B2V.out, B3V.out, BSV.out, dV.out, .inl rfl, fun _ _ _ h => absurd rfl h, hgV.out, Nat.le_refl _, Nat.zero_le _⟩⟩
      case rest =>
        obtain ⟨rfl, rfl, g, q, c, rfl, HA⟩ := hcut
        have dV := hid HA.d
        have SV := hid HA.SV
        have B2V := hid HA.B2
        have B3V := hid HA.B3
        have RV := hid HA.RV
        have hqf := hid HA.qf
        have cc := hid (And.intro HA.c1 HA.c2)
        obtain ⟨l0, m0, f0⟩ := HA.Bg
        obtain ⟨l1, m1, f1⟩ := HA.Bp
        obtain ⟨l2, m2, f2⟩ := HA.B2
        obtain ⟨l3, m3, f3⟩ := HA.B3
        obtain ⟨ls, ms, fs⟩ := HA.BS
        have hgV := HA.gV
        clear KS0 KB HA Bg Bp B2w B3w HW SW dW
        generalize wc = V at *
        go_wp2_with fail
        have S9 := sole_setAll (S := fun k => k = w.heap.size + 1 + 1) rfl [.int .i64 0, .bool false, .slice none 0 0] 0 V
        have F2 := Blk.fill [.int .i64 0, .bool false, .slice none 0 0] 0 B2V.out (by simp)
        have F3a := B3V.out.sole S9 (by show ¬ _; omega)
        have d9 := dV.out.elim fun m' h => show ∃ m', DiskM _ b m' K ∧ Quiet m' N R ∧ Soft m' c0 from ⟨m', h.1.kept S9 (fun k hk e => by have := hKs.out k hk; omega), h.2⟩
        have SX := SV.out.trans' S9 (fun k hk e => absurd hk (by omega))
        generalize hV9 : setAll V (w.heap.size + 1 + 1) 0 [.int .i64 0, .bool false, .slice none 0 0] = V9 at S9 F2 F3a d9 SX
        have S10 := sole_setAll (S := fun k => k = w.heap.size + 1 + 1 + 1) rfl [.int .i64 0, .int .i64 0, .int .i64 0] 0 V9
        have F3 := hid (Blk.fill [.int .i64 0, .int .i64 0, .int .i64 0] 0 F3a (by simp))
        have F2b := hid (F2.sole S10 (by show ¬ _; omega))
        have d10 := hid (d9.elim fun m' h => show ∃ m', DiskM _ b m' K ∧ Quiet m' N R ∧ Soft m' c0 from ⟨m', h.1.kept S10 (fun k hk e => by have := hKs.out k hk; omega), h.2⟩)
        have SY := hid (SX.trans' S10 (fun k hk e => absurd hk (by omega)))
        rw [← hV9] at F3 F2b d10 SY
        simp only [setAll, Nat.zero_add, Nat.reduceAdd] at F3 F2b d10 SY
        clear S9 F2 F3a d9 SX S10 hV9 V9 l0 m0 f0 l1 m1 f1 l2 m2 f2 l3 m3 f3 ls ms fs
        generalize World.setCell _ _ _ = W9 at *
        obtain ⟨l4, k4, f4⟩ := F2b.out
        obtain ⟨l5, k5, f5⟩ := F3.out
        refine bodyPost_ret (v := .tuple #[smval 0 false none 0 0, Pc.v ⟨0, 0, 0⟩, .bool false, .int .i64 0]) (by simp [results, Try.results26, go_sem, k4, k5, fillC]) rfl ⟨d10.out, SY.out, .inr ⟨hnG.out, rfl⟩⟩
    · rw [if_neg h2] at hPd
      have h2b : z - p.o < 2 := by omega
      go_wp2_with fail
      have S0 := sole_setAll (S := fun k => k = w.heap.size + 1) rfl [.int .i64 p.x, .int .i64 0, .int .i64 0] 0 W
      have Bg := hid (B0h.out.sole S0 (by show ¬ _; omega))
      have Bp := hid (show Blk _ (w.heap.size + 1) P.cells from by
        have h := Blk.fill [.int .i64 p.x, .int .i64 0, .int .i64 0] 0 B1h.out (by simp)
        rw [hPd]
        exact h)
      have B2w := hid (B2h.out.sole S0 (by show ¬ _; omega))
      have B3w := hid (B3h.out.sole S0 (by show ¬ _; omega))
      have SW := hid ((Sole.made (S := K) Hh.out).trans' S0 (fun k hk e => absurd hk (by omega)))
      have HW := hid (Hh.out.trans (S0.below (B := w.heap.size) Hh.out.size (fun k e => by omega)))
      have dW := hid (hD0.out.elim fun m' h => show ∃ m', DiskM _ b m' K ∧ Quiet m' N R ∧ Soft m' c0 from ⟨m', (h.1.more Hh.out).kept S0 (fun k hk e => by have := hKs.out k hk; omega), h.2⟩)
      simp only [setAll, Nat.zero_add, Nat.reduceAdd] at Bg Bp B2w B3w SW HW dW
      replace hPd := hid hPd
      clear S0 B0h B1h B2h B3h Hh l0 m0 f0 l1 m1 f1 hD0 hW
      generalize World.setCell _ _ _ = W at *
      obtain ⟨l0, m0, f0⟩ := Bg.out
      obtain ⟨l1, m1, f1⟩ := Bp.out
      go_cut [15, 16, 17] (fun s15 s16 s17 wx => s16 = .bool false ∧ s17 = .int .i64 0 ∧ ∃ g q c, s15 = .pointer (some ⟨g, 0, none⟩) ∧ NextAt w wx b K N R c0 n z P g q c 0 false 0 f)
      case first =>
        have hk0 := hid (show W.cell? ⟨w.heap.size, 0, none⟩ = some (.int .i64 n) ∧ W.cell? ⟨w.heap.size, 1, none⟩ = some (.int .i64 z) ∧ W.cell? ⟨w.heap.size + 1, 0, none⟩ = some (.int .i64 P.s) ∧ W.cell? ⟨w.heap.size + 1, 1, none⟩ = some (.int .i64 P.o) ∧ W.cell? ⟨w.heap.size + 1, 2, none⟩ = some (.int .i64 P.x) from ⟨Bg.out.cell 0, Bg.out.cell 1, Bp.out.cell 0, Bp.out.cell 1, Bp.out.cell 2⟩)
        have hbw : Below W.heap.size W W.drew := (Below.refl _ _).drew
        have hba : Below W.heap.size W (W.drew.alloc (.cells s0c 83)) := (Below.refl _ _).drew.alloc (Nat.le_refl _) _
        have hgA := hid (Blk.new W.drew s0c 83)
        have hWw := hid (show w.heap.size + 3 < W.heap.size from B3w.out.lt)
        go_region_held3 (fun w' => w'.cell? ⟨w.heap.size, 0, none⟩ = some (.int .i64 n) ∧ w'.cell? ⟨w.heap.size, 1, none⟩ = some (.int .i64 z) ∧ w'.cell? ⟨w.heap.size + 1, 0, none⟩ = some (.int .i64 P.s) ∧ w'.cell? ⟨w.heap.size + 1, 1, none⟩ = some (.int .i64 P.o) ∧ w'.cell? ⟨w.heap.size + 1, 2, none⟩ = some (.int .i64 P.x))
          (first | exact hk8s.out _ _ _ | exact hk8a.out _ | exact hk8.out | exact hk5.out | exact hk0.out | go_keep)
          (first
            | ((with_reducible refine (KS0.out _).mono ?_); rintro e w5 ⟨rfl, hb5⟩
               have hb05 := hid (hbw.trans hb5)
               have hk5 := hid (show w5.cell? ⟨w.heap.size, 0, none⟩ = some (.int .i64 n) ∧ w5.cell? ⟨w.heap.size, 1, none⟩ = some (.int .i64 z) ∧ w5.cell? ⟨w.heap.size + 1, 0, none⟩ = some (.int .i64 P.s) ∧ w5.cell? ⟨w.heap.size + 1, 1, none⟩ = some (.int .i64 P.o) ∧ w5.cell? ⟨w.heap.size + 1, 2, none⟩ = some (.int .i64 P.x) from ⟨(hb05.out.cell (p := ⟨_, _, none⟩) Bg.out.lt).trans hk0.out.1, (hb05.out.cell (p := ⟨_, _, none⟩) Bg.out.lt).trans hk0.out.2.1, (hb05.out.cell (p := ⟨_, _, none⟩) Bp.out.lt).trans hk0.out.2.2.1, (hb05.out.cell (p := ⟨_, _, none⟩) Bp.out.lt).trans hk0.out.2.2.2.1, (hb05.out.cell (p := ⟨_, _, none⟩) Bp.out.lt).trans hk0.out.2.2.2.2⟩))
            | ((with_reducible refine (KS0.out _).mono ?_); rintro e w5 ⟨rfl, hb5⟩
               have hb05 := hid (below2 hba hb5 (by simp))
               have hg5 := hid (show Blk w5 W.heap.size s0c from hgA.out.more hb5)
               have hk5 := hid (show w5.cell? ⟨w.heap.size, 0, none⟩ = some (.int .i64 n) ∧ w5.cell? ⟨w.heap.size, 1, none⟩ = some (.int .i64 z) ∧ w5.cell? ⟨w.heap.size + 1, 0, none⟩ = some (.int .i64 P.s) ∧ w5.cell? ⟨w.heap.size + 1, 1, none⟩ = some (.int .i64 P.o) ∧ w5.cell? ⟨w.heap.size + 1, 2, none⟩ = some (.int .i64 P.x) from ⟨(hb05.out.cell (p := ⟨_, _, none⟩) Bg.out.lt).trans hk0.out.1, (hb05.out.cell (p := ⟨_, _, none⟩) Bg.out.lt).trans hk0.out.2.1, (hb05.out.cell (p := ⟨_, _, none⟩) Bp.out.lt).trans hk0.out.2.2.1, (hb05.out.cell (p := ⟨_, _, none⟩) Bp.out.lt).trans hk0.out.2.2.2.1, (hb05.out.cell (p := ⟨_, _, none⟩) Bp.out.lt).trans hk0.out.2.2.2.2⟩))
            | ((with_reducible refine (KB.out _ (SW.out.trans (Sole.made (S := K) (hb05.out))) (dW.out.elim fun m' h => ⟨m', h.1.more (hb05.out), h.2⟩)).mono ?_); rintro e w8 ⟨rfl, hd8, S8⟩
               have SS8 := hid ((SW.out.trans (Sole.made (S := K) (hb05.out))).trans S8)
               have Bg8 := hid ((Bg.out.more (hb05.out)).sole S8 (fun h => by have := hKs.out _ h; omega))
               have Bp8 := hid ((Bp.out.more (hb05.out)).sole S8 (fun h => by have := hKs.out _ h; omega))
               have B28 := hid ((B2w.out.more (hb05.out)).sole S8 (fun h => by have := hKs.out _ h; omega))
               have B38 := hid ((B3w.out.more (hb05.out)).sole S8 (fun h => by have := hKs.out _ h; omega))
               have hs8 := hid (show W.heap.size ≤ w8.heap.size from Nat.le_trans (Below.size (hb05.out)) S8.size)
               have hg8 := hid (hg5.out.sole S8 (fun h => by have := hKs.out _ h; have := hWw.out; omega))
               obtain ⟨lg8, mg8, fg8⟩ := hg8.out
               have Bg8s := hid (fun v0 v1 v2 => ((Bg8.out.other ⟨W.heap.size, 0, none⟩ (by show W.heap.size ≠ _; have := hWw.out; omega) v0).other ⟨W.heap.size, 1, none⟩ (by show W.heap.size ≠ _; have := hWw.out; omega) v1).other ⟨W.heap.size, 2, none⟩ (by show W.heap.size ≠ _; have := hWw.out; omega) v2)
               have Bp8s := hid (fun v0 v1 v2 => ((Bp8.out.other ⟨W.heap.size, 0, none⟩ (by show W.heap.size ≠ _; have := hWw.out; omega) v0).other ⟨W.heap.size, 1, none⟩ (by show W.heap.size ≠ _; have := hWw.out; omega) v1).other ⟨W.heap.size, 2, none⟩ (by show W.heap.size ≠ _; have := hWw.out; omega) v2)
               have hk8s := hid (fun v0 v1 v2 => And.intro ((Bg8s.out v0 v1 v2).cell 0) (And.intro ((Bg8s.out v0 v1 v2).cell 1) (And.intro ((Bp8s.out v0 v1 v2).cell 0) (And.intro ((Bp8s.out v0 v1 v2).cell 1) ((Bp8s.out v0 v1 v2).cell 2)))))
               have hk8 := hid (show w8.cell? ⟨w.heap.size, 0, none⟩ = some (.int .i64 n) ∧ w8.cell? ⟨w.heap.size, 1, none⟩ = some (.int .i64 z) ∧ w8.cell? ⟨w.heap.size + 1, 0, none⟩ = some (.int .i64 P.s) ∧ w8.cell? ⟨w.heap.size + 1, 1, none⟩ = some (.int .i64 P.o) ∧ w8.cell? ⟨w.heap.size + 1, 2, none⟩ = some (.int .i64 P.x) from ⟨Bg8.out.cell 0, Bg8.out.cell 1, Bp8.out.cell 0, Bp8.out.cell 1, Bp8.out.cell 2⟩)
               have hk8a := hid (fun (C : Array Value) => have ba := below_al1 w8 (.cells C 83); And.intro ((Bg8.out.more ba).cell 0) (And.intro ((Bg8.out.more ba).cell 1) (And.intro ((Bp8.out.more ba).cell 0) (And.intro ((Bp8.out.more ba).cell 1) ((Bp8.out.more ba).cell 2))))))
            | ((with_reducible refine (KB.out _ (SW.out.trans (Sole.made (S := K) (hb05.out.alloc hb05.out.size (.cells s0c 83)))) (dW.out.elim fun m' h => ⟨m', h.1.more (hb05.out.alloc hb05.out.size (.cells s0c 83)), h.2⟩)).mono ?_); rintro e w8 ⟨rfl, hd8, S8⟩
               have SS8 := hid ((SW.out.trans (Sole.made (S := K) (hb05.out.alloc hb05.out.size (.cells s0c 83)))).trans S8)
               have Bg8 := hid ((Bg.out.more (hb05.out.alloc hb05.out.size (.cells s0c 83))).sole S8 (fun h => by have := hKs.out _ h; omega))
               have Bp8 := hid ((Bp.out.more (hb05.out.alloc hb05.out.size (.cells s0c 83))).sole S8 (fun h => by have := hKs.out _ h; omega))
               have B28 := hid ((B2w.out.more (hb05.out.alloc hb05.out.size (.cells s0c 83))).sole S8 (fun h => by have := hKs.out _ h; omega))
               have B38 := hid ((B3w.out.more (hb05.out.alloc hb05.out.size (.cells s0c 83))).sole S8 (fun h => by have := hKs.out _ h; omega))
               have hs8 := hid (show W.heap.size ≤ w8.heap.size from Nat.le_trans (Below.size (hb05.out.alloc hb05.out.size (.cells s0c 83))) S8.size)
               have hg8 := hid ((Blk.new w5 s0c 83).sole S8 (fun h => by have := hKs.out _ h; have := hWw.out; have := hb05.out.size; omega))
               obtain ⟨lg8, mg8, fg8⟩ := hg8.out
               have Bg8s := hid (fun v0 v1 v2 => ((Bg8.out.other ⟨w5.heap.size, 0, none⟩ (by show w5.heap.size ≠ _; have := hWw.out; have := hb05.out.size; omega) v0).other ⟨w5.heap.size, 1, none⟩ (by show w5.heap.size ≠ _; have := hWw.out; have := hb05.out.size; omega) v1).other ⟨w5.heap.size, 2, none⟩ (by show w5.heap.size ≠ _; have := hWw.out; have := hb05.out.size; omega) v2)
               have Bp8s := hid (fun v0 v1 v2 => ((Bp8.out.other ⟨w5.heap.size, 0, none⟩ (by show w5.heap.size ≠ _; have := hWw.out; have := hb05.out.size; omega) v0).other ⟨w5.heap.size, 1, none⟩ (by show w5.heap.size ≠ _; have := hWw.out; have := hb05.out.size; omega) v1).other ⟨w5.heap.size, 2, none⟩ (by show w5.heap.size ≠ _; have := hWw.out; have := hb05.out.size; omega) v2)
               have hk8s := hid (fun v0 v1 v2 => And.intro ((Bg8s.out v0 v1 v2).cell 0) (And.intro ((Bg8s.out v0 v1 v2).cell 1) (And.intro ((Bp8s.out v0 v1 v2).cell 0) (And.intro ((Bp8s.out v0 v1 v2).cell 1) ((Bp8s.out v0 v1 v2).cell 2)))))
               have hk8 := hid (show w8.cell? ⟨w.heap.size, 0, none⟩ = some (.int .i64 n) ∧ w8.cell? ⟨w.heap.size, 1, none⟩ = some (.int .i64 z) ∧ w8.cell? ⟨w.heap.size + 1, 0, none⟩ = some (.int .i64 P.s) ∧ w8.cell? ⟨w.heap.size + 1, 1, none⟩ = some (.int .i64 P.o) ∧ w8.cell? ⟨w.heap.size + 1, 2, none⟩ = some (.int .i64 P.x) from ⟨Bg8.out.cell 0, Bg8.out.cell 1, Bp8.out.cell 0, Bp8.out.cell 1, Bp8.out.cell 2⟩)
               have hk8a := hid (fun (C : Array Value) => have ba := below_al1 w8 (.cells C 83); And.intro ((Bg8.out.more ba).cell 0) (And.intro ((Bg8.out.more ba).cell 1) (And.intro ((Bp8.out.more ba).cell 0) (And.intro ((Bp8.out.more ba).cell 1) ((Bp8.out.more ba).cell 2))))))
            | ((with_reducible refine (KB.out _ (SW.out.trans (Sole.made (S := K) (hb05.out))) (dW.out.elim fun m' h => ⟨m', h.1.more (hb05.out), h.2⟩)).mono ?_); rintro e w8 ⟨rfl, hd8, S8⟩
               have SS8 := hid ((SW.out.trans (Sole.made (S := K) (hb05.out))).trans S8)
               have Bg8 := hid ((Bg.out.more (hb05.out)).sole S8 (fun h => by have := hKs.out _ h; omega))
               have Bp8 := hid ((Bp.out.more (hb05.out)).sole S8 (fun h => by have := hKs.out _ h; omega))
               have B28 := hid ((B2w.out.more (hb05.out)).sole S8 (fun h => by have := hKs.out _ h; omega))
               have B38 := hid ((B3w.out.more (hb05.out)).sole S8 (fun h => by have := hKs.out _ h; omega))
               have hs8 := hid (show W.heap.size ≤ w8.heap.size from Nat.le_trans (Below.size (hb05.out)) S8.size)
               have hk8 := hid (show w8.cell? ⟨w.heap.size, 0, none⟩ = some (.int .i64 n) ∧ w8.cell? ⟨w.heap.size, 1, none⟩ = some (.int .i64 z) ∧ w8.cell? ⟨w.heap.size + 1, 0, none⟩ = some (.int .i64 P.s) ∧ w8.cell? ⟨w.heap.size + 1, 1, none⟩ = some (.int .i64 P.o) ∧ w8.cell? ⟨w.heap.size + 1, 2, none⟩ = some (.int .i64 P.x) from ⟨Bg8.out.cell 0, Bg8.out.cell 1, Bp8.out.cell 0, Bp8.out.cell 1, Bp8.out.cell 2⟩)
               have hk8a := hid (fun (C : Array Value) => have ba := below_al1 w8 (.cells C 83); And.intro ((Bg8.out.more ba).cell 0) (And.intro ((Bg8.out.more ba).cell 1) (And.intro ((Bp8.out.more ba).cell 0) (And.intro ((Bp8.out.more ba).cell 1) ((Bp8.out.more ba).cell 2)))))))
        · have b9 : Below w8.heap.size w8 (w8.alloc (.cells #[.int .i64 0, .bool false, .slice none 0 0] 83)) := below_al1 _ _
          have SV := hid (SS8.out.trans (Sole.made b9))
          have BgV := hid (Bg8.out.more b9)
          have BpV := hid (Bp8.out.more b9)
          have B2V := hid (B28.out.more b9)
          have B3V := hid (B38.out.more b9)
          have BSV := hid (Blk.new w8 #[.int .i64 0, .bool false, .slice none 0 0] 83)
          have dV := hid (hd8.elim fun m' h => show ∃ m', DiskM _ b m' K ∧ Quiet m' N R ∧ Soft m' c0 from ⟨m', h.1.more b9, h.2⟩)
          have hgV := hid (show w.heap.size + 3 < w8.heap.size from by have := hWw.out; have := hs8.out; omega)
          generalize w8.alloc (.cells #[.int .i64 0, .bool false, .slice none 0 0] 83) = V at *
          generalize w8.heap.size = g at *
          go_wp2_with fail
          go_meet
          case rel => exact ⟨rfl, rfl, g, _, _, rfl, ⟨SV.out, BgV.out, BpV.out, B2V.out, B3V.out, BSV.out, dV.out, .inl rfl, fun _ _ _ h => absurd rfl h, hgV.out, Nat.le_refl _, Nat.zero_le _⟩⟩
        · have S9 := sole_setAll (S := fun k => k = w5.heap.size) rfl [.int .i64 0, .bool false, .slice none 0 0] 0 w8
          have hG3 := hid (show w.heap.size + 3 < w5.heap.size from by have := hWw.out; have := hb05.out.size; omega)
          have SV := hid (SS8.out.trans' S9 (fun k hk e => absurd hk (by have := hG3.out; omega)))
          have BgV := hid (Bg8.out.sole S9 (by show ¬ _; have := hG3.out; omega))
          have BpV := hid (Bp8.out.sole S9 (by show ¬ _; have := hG3.out; omega))
          have B2V := hid (B28.out.sole S9 (by show ¬ _; have := hG3.out; omega))
          have B3V := hid (B38.out.sole S9 (by show ¬ _; have := hG3.out; omega))
          have BSV := hid (show Blk _ w5.heap.size #[.int .i64 0, .bool false, .slice none 0 0] from Blk.fill [.int .i64 0, .bool false, .slice none 0 0] 0 hg8.out (by simp))
          have dV := hid (hd8.elim fun m' h => show ∃ m', DiskM _ b m' K ∧ Quiet m' N R ∧ Soft m' c0 from ⟨m', h.1.kept S9 (fun k hk e => by have := hKs.out k hk; have := hG3.out; omega), h.2⟩)
          have hgV := hid hG3.out
          simp only [setAll, Nat.zero_add, Nat.reduceAdd] at SV BgV BpV B2V B3V BSV dV
          clear S9
          generalize World.setCell _ _ _ = V at *
          generalize w5.heap.size = g at *
          go_wp2_with fail
          go_meet
          case rel => exact ⟨rfl, rfl, g, _, _, rfl, ⟨SV.out, BgV.out, BpV.out, B2V.out, B3V.out, BSV.out, dV.out, .inl rfl, fun _ _ _ h => absurd rfl h, hgV.out, Nat.le_refl _, Nat.zero_le _⟩⟩
        · have S9 := sole_setAll (S := fun k => k = W.heap.size) rfl [.int .i64 0, .bool false, .slice none 0 0] 0 w8
          have hG3 := hid (show w.heap.size + 3 < W.heap.size from by have := hWw.out; have := hb05.out.size; omega)
          have SV := hid (SS8.out.trans' S9 (fun k hk e => absurd hk (by have := hG3.out; omega)))
          have BgV := hid (Bg8.out.sole S9 (by show ¬ _; have := hG3.out; omega))
          have BpV := hid (Bp8.out.sole S9 (by show ¬ _; have := hG3.out; omega))
          have B2V := hid (B28.out.sole S9 (by show ¬ _; have := hG3.out; omega))
          have B3V := hid (B38.out.sole S9 (by show ¬ _; have := hG3.out; omega))
          have BSV := hid (show Blk _ W.heap.size #[.int .i64 0, .bool false, .slice none 0 0] from Blk.fill [.int .i64 0, .bool false, .slice none 0 0] 0 hg8.out (by simp))
          have dV := hid (hd8.elim fun m' h => show ∃ m', DiskM _ b m' K ∧ Quiet m' N R ∧ Soft m' c0 from ⟨m', h.1.kept S9 (fun k hk e => by have := hKs.out k hk; have := hG3.out; omega), h.2⟩)
          have hgV := hid hG3.out
          simp only [setAll, Nat.zero_add, Nat.reduceAdd] at SV BgV BpV B2V B3V BSV dV
          clear S9
          generalize World.setCell _ _ _ = V at *
          generalize W.heap.size = g at *
          go_wp2_with fail
          go_meet
          case rel => exact ⟨rfl, rfl, g, _, _, rfl, ⟨SV.out, BgV.out, BpV.out, B2V.out, B3V.out, BSV.out, dV.out, .inl rfl, fun _ _ _ h => absurd rfl h, hgV.out, Nat.le_refl _, Nat.zero_le _⟩⟩
      case rest =>
        obtain ⟨rfl, rfl, g, q, c, rfl, HA⟩ := hcut
        have dV := hid HA.d
        have SV := hid HA.SV
        have B2V := hid HA.B2
        have B3V := hid HA.B3
        have RV := hid HA.RV
        have hqf := hid HA.qf
        have cc := hid (And.intro HA.c1 HA.c2)
        obtain ⟨l0, m0, f0⟩ := HA.Bg
        obtain ⟨l1, m1, f1⟩ := HA.Bp
        obtain ⟨l2, m2, f2⟩ := HA.B2
        obtain ⟨l3, m3, f3⟩ := HA.B3
        obtain ⟨ls, ms, fs⟩ := HA.BS
        have hgV := HA.gV
        clear KS0 KB HA Bg Bp B2w B3w HW SW dW
        generalize wc = V at *
        go_wp2_with fail
        have S9 := sole_setAll (S := fun k => k = w.heap.size + 1 + 1) rfl [.int .i64 0, .bool false, .slice none 0 0] 0 V
        have F2 := Blk.fill [.int .i64 0, .bool false, .slice none 0 0] 0 B2V.out (by simp)
        have F3a := B3V.out.sole S9 (by show ¬ _; omega)
        have d9 := dV.out.elim fun m' h => show ∃ m', DiskM _ b m' K ∧ Quiet m' N R ∧ Soft m' c0 from ⟨m', h.1.kept S9 (fun k hk e => by have := hKs.out k hk; omega), h.2⟩
        have SX := SV.out.trans' S9 (fun k hk e => absurd hk (by omega))
        generalize hV9 : setAll V (w.heap.size + 1 + 1) 0 [.int .i64 0, .bool false, .slice none 0 0] = V9 at S9 F2 F3a d9 SX
        have S10 := sole_setAll (S := fun k => k = w.heap.size + 1 + 1 + 1) rfl [.int .i64 0, .int .i64 0, .int .i64 0] 0 V9
        have F3 := hid (Blk.fill [.int .i64 0, .int .i64 0, .int .i64 0] 0 F3a (by simp))
        have F2b := hid (F2.sole S10 (by show ¬ _; omega))
        have d10 := hid (d9.elim fun m' h => show ∃ m', DiskM _ b m' K ∧ Quiet m' N R ∧ Soft m' c0 from ⟨m', h.1.kept S10 (fun k hk e => by have := hKs.out k hk; omega), h.2⟩)
        have SY := hid (SX.trans' S10 (fun k hk e => absurd hk (by omega)))
        rw [← hV9] at F3 F2b d10 SY
        simp only [setAll, Nat.zero_add, Nat.reduceAdd] at F3 F2b d10 SY
        clear S9 F2 F3a d9 SX S10 hV9 V9 l0 m0 f0 l1 m1 f1 l2 m2 f2 l3 m3 f3 ls ms fs
        generalize World.setCell _ _ _ = W9 at *
        obtain ⟨l4, k4, f4⟩ := F2b.out
        obtain ⟨l5, k5, f5⟩ := F3.out
        refine bodyPost_ret (v := .tuple #[smval 0 false none 0 0, Pc.v ⟨0, 0, 0⟩, .bool false, .int .i64 0]) (by simp [results, Try.results26, go_sem, k4, k5, fillC]) rfl ⟨d10.out, SY.out, .inr ⟨hnG.out, rfl⟩⟩
  | true =>
    have KB : Hid (∀ W', Sole K w W' → (∃ m', DiskM W' b m' K ∧ Quiet m' N R ∧ Soft m' c0) → Calls Try.prog 47 #[.pointer (some ⟨b, 0, none⟩), .int .i64 (9 + P.s * z + P.o), .int .i64 (z - P.o), .int .i64 ep, .int .i64 sq] W' fun e w' => ∃ q c, e = .returned (.tuple #[smval nx la q nn c, .bool true, .int .i64 0]) ∧ (∃ m', DiskM w' b m' K ∧ Quiet m' N R ∧ Soft m' c0) ∧ Sole K W' w' ∧ nn ≤ c ∧ c ≤ maxLen ∧ RowP w' q 2 nn (fun i => ecells (f i)) ∧ ∀ b' o, q = some ⟨b', o, none⟩ → nn ≠ 0 → W'.heap.size < b') := hid (fun W' h1 h2 => (KB0 W' h1 h2).mono fun e w' hh => by
      obtain ⟨h1, h2, h3⟩ := hh
      rcases h3 with ⟨_, q, c, h4, h5, h6, h7, h8⟩ | ⟨h4, _⟩
      · exact ⟨q, c, h4, h1, h2, h5, h6, h7, h8⟩
      · exact absurd rfl h4)
    clear KB0
    go_enter Try.func26, Try.ntmps26
    by_cases h2 : 2 ≤ z - p.o
    · rw [if_pos h2] at hPd
      subst hPd
      go_wp2_with fail
      have Bg := B0h
      have Bp := B1h
      have B2w := B2h
      have B3w := B3h
      have HW := Hh
      have SW := hid (Sole.made (S := K) Hh.out)
      have dW := hid (hD0.out.elim fun m' h => show ∃ m', DiskM W b m' K ∧ Quiet m' N R ∧ Soft m' c0 from ⟨m', h.1.more Hh.out, h.2⟩)
      clear B0h B1h B2h B3h Hh l0 m0 f0 l1 m1 f1 hD0
      obtain ⟨l0, m0, f0⟩ := Bg.out
      obtain ⟨l1, m1, f1⟩ := Bp.out
      go_cut [15, 16, 17] (fun s15 s16 s17 wx => s16 = .bool true ∧ s17 = .int .i64 0 ∧ ∃ g q c, s15 = .pointer (some ⟨g, 0, none⟩) ∧ NextAt w wx b K N R c0 n z P g q c nx la nn f)
      case first =>
        have hk0 := hid (show W.cell? ⟨w.heap.size, 0, none⟩ = some (.int .i64 n) ∧ W.cell? ⟨w.heap.size, 1, none⟩ = some (.int .i64 z) ∧ W.cell? ⟨w.heap.size + 1, 0, none⟩ = some (.int .i64 P.s) ∧ W.cell? ⟨w.heap.size + 1, 1, none⟩ = some (.int .i64 P.o) ∧ W.cell? ⟨w.heap.size + 1, 2, none⟩ = some (.int .i64 P.x) from ⟨Bg.out.cell 0, Bg.out.cell 1, Bp.out.cell 0, Bp.out.cell 1, Bp.out.cell 2⟩)
        have hbw : Below W.heap.size W W.drew := (Below.refl _ _).drew
        have hba : Below W.heap.size W (W.drew.alloc (.cells s0c 83)) := (Below.refl _ _).drew.alloc (Nat.le_refl _) _
        have hgA := hid (Blk.new W.drew s0c 83)
        have hWw := hid (show w.heap.size + 3 < W.heap.size from B3w.out.lt)
        go_region_held3 (fun w' => w'.cell? ⟨w.heap.size, 0, none⟩ = some (.int .i64 n) ∧ w'.cell? ⟨w.heap.size, 1, none⟩ = some (.int .i64 z) ∧ w'.cell? ⟨w.heap.size + 1, 0, none⟩ = some (.int .i64 P.s) ∧ w'.cell? ⟨w.heap.size + 1, 1, none⟩ = some (.int .i64 P.o) ∧ w'.cell? ⟨w.heap.size + 1, 2, none⟩ = some (.int .i64 P.x))
          (first | exact hk8s.out _ _ _ | exact hk8a.out _ | exact hk8.out | exact hk5.out | exact hk0.out | go_keep)
          (first
            | ((with_reducible refine (KS0.out _).mono ?_); rintro e w5 ⟨rfl, hb5⟩
               have hb05 := hid (hbw.trans hb5)
               have hk5 := hid (show w5.cell? ⟨w.heap.size, 0, none⟩ = some (.int .i64 n) ∧ w5.cell? ⟨w.heap.size, 1, none⟩ = some (.int .i64 z) ∧ w5.cell? ⟨w.heap.size + 1, 0, none⟩ = some (.int .i64 P.s) ∧ w5.cell? ⟨w.heap.size + 1, 1, none⟩ = some (.int .i64 P.o) ∧ w5.cell? ⟨w.heap.size + 1, 2, none⟩ = some (.int .i64 P.x) from ⟨(hb05.out.cell (p := ⟨_, _, none⟩) Bg.out.lt).trans hk0.out.1, (hb05.out.cell (p := ⟨_, _, none⟩) Bg.out.lt).trans hk0.out.2.1, (hb05.out.cell (p := ⟨_, _, none⟩) Bp.out.lt).trans hk0.out.2.2.1, (hb05.out.cell (p := ⟨_, _, none⟩) Bp.out.lt).trans hk0.out.2.2.2.1, (hb05.out.cell (p := ⟨_, _, none⟩) Bp.out.lt).trans hk0.out.2.2.2.2⟩))
            | ((with_reducible refine (KS0.out _).mono ?_); rintro e w5 ⟨rfl, hb5⟩
               have hb05 := hid (below2 hba hb5 (by simp))
               have hg5 := hid (show Blk w5 W.heap.size s0c from hgA.out.more hb5)
               have hk5 := hid (show w5.cell? ⟨w.heap.size, 0, none⟩ = some (.int .i64 n) ∧ w5.cell? ⟨w.heap.size, 1, none⟩ = some (.int .i64 z) ∧ w5.cell? ⟨w.heap.size + 1, 0, none⟩ = some (.int .i64 P.s) ∧ w5.cell? ⟨w.heap.size + 1, 1, none⟩ = some (.int .i64 P.o) ∧ w5.cell? ⟨w.heap.size + 1, 2, none⟩ = some (.int .i64 P.x) from ⟨(hb05.out.cell (p := ⟨_, _, none⟩) Bg.out.lt).trans hk0.out.1, (hb05.out.cell (p := ⟨_, _, none⟩) Bg.out.lt).trans hk0.out.2.1, (hb05.out.cell (p := ⟨_, _, none⟩) Bp.out.lt).trans hk0.out.2.2.1, (hb05.out.cell (p := ⟨_, _, none⟩) Bp.out.lt).trans hk0.out.2.2.2.1, (hb05.out.cell (p := ⟨_, _, none⟩) Bp.out.lt).trans hk0.out.2.2.2.2⟩))
            | ((with_reducible refine (KB.out _ (SW.out.trans (Sole.made (S := K) (hb05.out))) (dW.out.elim fun m' h => ⟨m', h.1.more (hb05.out), h.2⟩)).mono ?_); rintro e w8 ⟨q, c, rfl, hd8, S8, hc1, hc2, hR8, hq8⟩
               have SS8 := hid ((SW.out.trans (Sole.made (S := K) (hb05.out))).trans S8)
               have Bg8 := hid ((Bg.out.more (hb05.out)).sole S8 (fun h => by have := hKs.out _ h; omega))
               have Bp8 := hid ((Bp.out.more (hb05.out)).sole S8 (fun h => by have := hKs.out _ h; omega))
               have B28 := hid ((B2w.out.more (hb05.out)).sole S8 (fun h => by have := hKs.out _ h; omega))
               have B38 := hid ((B3w.out.more (hb05.out)).sole S8 (fun h => by have := hKs.out _ h; omega))
               have hs8 := hid (show W.heap.size ≤ w8.heap.size from Nat.le_trans (Below.size (hb05.out)) S8.size)
               have hg8 := hid (hg5.out.sole S8 (fun h => by have := hKs.out _ h; have := hWw.out; omega))
               obtain ⟨lg8, mg8, fg8⟩ := hg8.out
               have Bg8s := hid (fun v0 v1 v2 => ((Bg8.out.other ⟨W.heap.size, 0, none⟩ (by show W.heap.size ≠ _; have := hWw.out; omega) v0).other ⟨W.heap.size, 1, none⟩ (by show W.heap.size ≠ _; have := hWw.out; omega) v1).other ⟨W.heap.size, 2, none⟩ (by show W.heap.size ≠ _; have := hWw.out; omega) v2)
               have Bp8s := hid (fun v0 v1 v2 => ((Bp8.out.other ⟨W.heap.size, 0, none⟩ (by show W.heap.size ≠ _; have := hWw.out; omega) v0).other ⟨W.heap.size, 1, none⟩ (by show W.heap.size ≠ _; have := hWw.out; omega) v1).other ⟨W.heap.size, 2, none⟩ (by show W.heap.size ≠ _; have := hWw.out; omega) v2)
               have hk8s := hid (fun v0 v1 v2 => And.intro ((Bg8s.out v0 v1 v2).cell 0) (And.intro ((Bg8s.out v0 v1 v2).cell 1) (And.intro ((Bp8s.out v0 v1 v2).cell 0) (And.intro ((Bp8s.out v0 v1 v2).cell 1) ((Bp8s.out v0 v1 v2).cell 2)))))
               have hk8 := hid (show w8.cell? ⟨w.heap.size, 0, none⟩ = some (.int .i64 n) ∧ w8.cell? ⟨w.heap.size, 1, none⟩ = some (.int .i64 z) ∧ w8.cell? ⟨w.heap.size + 1, 0, none⟩ = some (.int .i64 P.s) ∧ w8.cell? ⟨w.heap.size + 1, 1, none⟩ = some (.int .i64 P.o) ∧ w8.cell? ⟨w.heap.size + 1, 2, none⟩ = some (.int .i64 P.x) from ⟨Bg8.out.cell 0, Bg8.out.cell 1, Bp8.out.cell 0, Bp8.out.cell 1, Bp8.out.cell 2⟩)
               have hk8a := hid (fun (C : Array Value) => have ba := below_al1 w8 (.cells C 83); And.intro ((Bg8.out.more ba).cell 0) (And.intro ((Bg8.out.more ba).cell 1) (And.intro ((Bp8.out.more ba).cell 0) (And.intro ((Bp8.out.more ba).cell 1) ((Bp8.out.more ba).cell 2))))))
            | ((with_reducible refine (KB.out _ (SW.out.trans (Sole.made (S := K) (hb05.out.alloc hb05.out.size (.cells s0c 83)))) (dW.out.elim fun m' h => ⟨m', h.1.more (hb05.out.alloc hb05.out.size (.cells s0c 83)), h.2⟩)).mono ?_); rintro e w8 ⟨q, c, rfl, hd8, S8, hc1, hc2, hR8, hq8⟩
               have SS8 := hid ((SW.out.trans (Sole.made (S := K) (hb05.out.alloc hb05.out.size (.cells s0c 83)))).trans S8)
               have Bg8 := hid ((Bg.out.more (hb05.out.alloc hb05.out.size (.cells s0c 83))).sole S8 (fun h => by have := hKs.out _ h; omega))
               have Bp8 := hid ((Bp.out.more (hb05.out.alloc hb05.out.size (.cells s0c 83))).sole S8 (fun h => by have := hKs.out _ h; omega))
               have B28 := hid ((B2w.out.more (hb05.out.alloc hb05.out.size (.cells s0c 83))).sole S8 (fun h => by have := hKs.out _ h; omega))
               have B38 := hid ((B3w.out.more (hb05.out.alloc hb05.out.size (.cells s0c 83))).sole S8 (fun h => by have := hKs.out _ h; omega))
               have hs8 := hid (show W.heap.size ≤ w8.heap.size from Nat.le_trans (Below.size (hb05.out.alloc hb05.out.size (.cells s0c 83))) S8.size)
               have hg8 := hid ((Blk.new w5 s0c 83).sole S8 (fun h => by have := hKs.out _ h; have := hWw.out; have := hb05.out.size; omega))
               obtain ⟨lg8, mg8, fg8⟩ := hg8.out
               have Bg8s := hid (fun v0 v1 v2 => ((Bg8.out.other ⟨w5.heap.size, 0, none⟩ (by show w5.heap.size ≠ _; have := hWw.out; have := hb05.out.size; omega) v0).other ⟨w5.heap.size, 1, none⟩ (by show w5.heap.size ≠ _; have := hWw.out; have := hb05.out.size; omega) v1).other ⟨w5.heap.size, 2, none⟩ (by show w5.heap.size ≠ _; have := hWw.out; have := hb05.out.size; omega) v2)
               have Bp8s := hid (fun v0 v1 v2 => ((Bp8.out.other ⟨w5.heap.size, 0, none⟩ (by show w5.heap.size ≠ _; have := hWw.out; have := hb05.out.size; omega) v0).other ⟨w5.heap.size, 1, none⟩ (by show w5.heap.size ≠ _; have := hWw.out; have := hb05.out.size; omega) v1).other ⟨w5.heap.size, 2, none⟩ (by show w5.heap.size ≠ _; have := hWw.out; have := hb05.out.size; omega) v2)
               have hk8s := hid (fun v0 v1 v2 => And.intro ((Bg8s.out v0 v1 v2).cell 0) (And.intro ((Bg8s.out v0 v1 v2).cell 1) (And.intro ((Bp8s.out v0 v1 v2).cell 0) (And.intro ((Bp8s.out v0 v1 v2).cell 1) ((Bp8s.out v0 v1 v2).cell 2)))))
               have hk8 := hid (show w8.cell? ⟨w.heap.size, 0, none⟩ = some (.int .i64 n) ∧ w8.cell? ⟨w.heap.size, 1, none⟩ = some (.int .i64 z) ∧ w8.cell? ⟨w.heap.size + 1, 0, none⟩ = some (.int .i64 P.s) ∧ w8.cell? ⟨w.heap.size + 1, 1, none⟩ = some (.int .i64 P.o) ∧ w8.cell? ⟨w.heap.size + 1, 2, none⟩ = some (.int .i64 P.x) from ⟨Bg8.out.cell 0, Bg8.out.cell 1, Bp8.out.cell 0, Bp8.out.cell 1, Bp8.out.cell 2⟩)
               have hk8a := hid (fun (C : Array Value) => have ba := below_al1 w8 (.cells C 83); And.intro ((Bg8.out.more ba).cell 0) (And.intro ((Bg8.out.more ba).cell 1) (And.intro ((Bp8.out.more ba).cell 0) (And.intro ((Bp8.out.more ba).cell 1) ((Bp8.out.more ba).cell 2))))))
            | ((with_reducible refine (KB.out _ (SW.out.trans (Sole.made (S := K) (hb05.out))) (dW.out.elim fun m' h => ⟨m', h.1.more (hb05.out), h.2⟩)).mono ?_); rintro e w8 ⟨q, c, rfl, hd8, S8, hc1, hc2, hR8, hq8⟩
               have SS8 := hid ((SW.out.trans (Sole.made (S := K) (hb05.out))).trans S8)
               have Bg8 := hid ((Bg.out.more (hb05.out)).sole S8 (fun h => by have := hKs.out _ h; omega))
               have Bp8 := hid ((Bp.out.more (hb05.out)).sole S8 (fun h => by have := hKs.out _ h; omega))
               have B28 := hid ((B2w.out.more (hb05.out)).sole S8 (fun h => by have := hKs.out _ h; omega))
               have B38 := hid ((B3w.out.more (hb05.out)).sole S8 (fun h => by have := hKs.out _ h; omega))
               have hs8 := hid (show W.heap.size ≤ w8.heap.size from Nat.le_trans (Below.size (hb05.out)) S8.size)
               have hk8 := hid (show w8.cell? ⟨w.heap.size, 0, none⟩ = some (.int .i64 n) ∧ w8.cell? ⟨w.heap.size, 1, none⟩ = some (.int .i64 z) ∧ w8.cell? ⟨w.heap.size + 1, 0, none⟩ = some (.int .i64 P.s) ∧ w8.cell? ⟨w.heap.size + 1, 1, none⟩ = some (.int .i64 P.o) ∧ w8.cell? ⟨w.heap.size + 1, 2, none⟩ = some (.int .i64 P.x) from ⟨Bg8.out.cell 0, Bg8.out.cell 1, Bp8.out.cell 0, Bp8.out.cell 1, Bp8.out.cell 2⟩)
               have hk8a := hid (fun (C : Array Value) => have ba := below_al1 w8 (.cells C 83); And.intro ((Bg8.out.more ba).cell 0) (And.intro ((Bg8.out.more ba).cell 1) (And.intro ((Bp8.out.more ba).cell 0) (And.intro ((Bp8.out.more ba).cell 1) ((Bp8.out.more ba).cell 2)))))))
        · have hqf := hid (fun b' o (e : q = some ⟨b', o, none⟩) (hn : nn ≠ 0) => show w.heap.size + 3 < b' from by
            have h1 := hq8 b' o e hn
            have h2 := hb05.out.size
            have h3 := hWw.out
            try simp only [World.size_alloc] at h1
            omega)
          have cc := hid (And.intro hc1 hc2)
          have b9 : Below w8.heap.size w8 (w8.alloc (.cells #[.int .i64 nx, .bool la, .slice q nn c] 83)) := below_al1 _ _
          have SV := hid (SS8.out.trans (Sole.made b9))
          have BgV := hid (Bg8.out.more b9)
          have BpV := hid (Bp8.out.more b9)
          have B2V := hid (B28.out.more b9)
          have B3V := hid (B38.out.more b9)
          have BSV := hid (Blk.new w8 #[.int .i64 nx, .bool la, .slice q nn c] 83)
          have dV := hid (hd8.elim fun m' h => show ∃ m', DiskM _ b m' K ∧ Quiet m' N R ∧ Soft m' c0 from ⟨m', h.1.more b9, h.2⟩)
          have RV := hid (hR8.more b9)
          have hgV := hid (show w.heap.size + 3 < w8.heap.size from by have := hWw.out; have := hs8.out; omega)
          generalize w8.alloc (.cells #[.int .i64 nx, .bool la, .slice q nn c] 83) = V at *
          generalize w8.heap.size = g at *
          go_wp2_with fail
          go_meet
          case rel => exact ⟨rfl, rfl, g, _, _, rfl, ⟨SV.out, BgV.out, BpV.out, B2V.out, B3V.out, BSV.out, dV.out, RV.out, hqf.out, hgV.out, cc.out.1, cc.out.2⟩⟩
        · have hqf := hid (fun b' o (e : q = some ⟨b', o, none⟩) (hn : nn ≠ 0) => show w.heap.size + 3 < b' from by
            have h1 := hq8 b' o e hn
            have h2 := hb05.out.size
            have h3 := hWw.out
            try simp only [World.size_alloc] at h1
            omega)
          have cc := hid (And.intro hc1 hc2)
          have S9 := sole_setAll (S := fun k => k = w5.heap.size) rfl [.int .i64 nx, .bool la, .slice q nn c] 0 w8
          have hG3 := hid (show w.heap.size + 3 < w5.heap.size from by have := hWw.out; have := hb05.out.size; omega)
          have SV := hid (SS8.out.trans' S9 (fun k hk e => absurd hk (by have := hG3.out; omega)))
          have BgV := hid (Bg8.out.sole S9 (by show ¬ _; have := hG3.out; omega))
          have BpV := hid (Bp8.out.sole S9 (by show ¬ _; have := hG3.out; omega))
          have B2V := hid (B28.out.sole S9 (by show ¬ _; have := hG3.out; omega))
          have B3V := hid (B38.out.sole S9 (by show ¬ _; have := hG3.out; omega))
          have BSV := hid (show Blk _ w5.heap.size #[.int .i64 nx, .bool la, .slice q nn c] from Blk.fill [.int .i64 nx, .bool la, .slice q nn c] 0 hg8.out (by simp))
          have dV := hid (hd8.elim fun m' h => show ∃ m', DiskM _ b m' K ∧ Quiet m' N R ∧ Soft m' c0 from ⟨m', h.1.kept S9 (fun k hk e => by have := hKs.out k hk; have := hG3.out; omega), h.2⟩)
          have RV := hid (RowP.apart hR8 S9 (fun b' o e hn (h : b' = w5.heap.size) => by
            have h1 := hq8 b' o e hn
            have h2 := hb05.out.size
            try simp only [World.size_alloc] at h1
            omega))
          have hgV := hid hG3.out
          simp only [setAll, Nat.zero_add, Nat.reduceAdd] at SV BgV BpV B2V B3V BSV dV RV
          clear S9
          generalize World.setCell _ _ _ = V at *
          generalize w5.heap.size = g at *
          go_wp2_with fail
          go_meet
          case rel => exact ⟨rfl, rfl, g, _, _, rfl, ⟨SV.out, BgV.out, BpV.out, B2V.out, B3V.out, BSV.out, dV.out, RV.out, hqf.out, hgV.out, cc.out.1, cc.out.2⟩⟩
        · have hqf := hid (fun b' o (e : q = some ⟨b', o, none⟩) (hn : nn ≠ 0) => show w.heap.size + 3 < b' from by
            have h1 := hq8 b' o e hn
            have h2 := hb05.out.size
            have h3 := hWw.out
            try simp only [World.size_alloc] at h1
            omega)
          have cc := hid (And.intro hc1 hc2)
          have S9 := sole_setAll (S := fun k => k = W.heap.size) rfl [.int .i64 nx, .bool la, .slice q nn c] 0 w8
          have hG3 := hid (show w.heap.size + 3 < W.heap.size from by have := hWw.out; have := hb05.out.size; omega)
          have SV := hid (SS8.out.trans' S9 (fun k hk e => absurd hk (by have := hG3.out; omega)))
          have BgV := hid (Bg8.out.sole S9 (by show ¬ _; have := hG3.out; omega))
          have BpV := hid (Bp8.out.sole S9 (by show ¬ _; have := hG3.out; omega))
          have B2V := hid (B28.out.sole S9 (by show ¬ _; have := hG3.out; omega))
          have B3V := hid (B38.out.sole S9 (by show ¬ _; have := hG3.out; omega))
          have BSV := hid (show Blk _ W.heap.size #[.int .i64 nx, .bool la, .slice q nn c] from Blk.fill [.int .i64 nx, .bool la, .slice q nn c] 0 hg8.out (by simp))
          have dV := hid (hd8.elim fun m' h => show ∃ m', DiskM _ b m' K ∧ Quiet m' N R ∧ Soft m' c0 from ⟨m', h.1.kept S9 (fun k hk e => by have := hKs.out k hk; have := hG3.out; omega), h.2⟩)
          have RV := hid (RowP.apart hR8 S9 (fun b' o e hn (h : b' = W.heap.size) => by
            have h1 := hq8 b' o e hn
            have h2 := hb05.out.size
            try simp only [World.size_alloc] at h1
            omega))
          have hgV := hid hG3.out
          simp only [setAll, Nat.zero_add, Nat.reduceAdd] at SV BgV BpV B2V B3V BSV dV RV
          clear S9
          generalize World.setCell _ _ _ = V at *
          generalize W.heap.size = g at *
          go_wp2_with fail
          go_meet
          case rel => exact ⟨rfl, rfl, g, _, _, rfl, ⟨SV.out, BgV.out, BpV.out, B2V.out, B3V.out, BSV.out, dV.out, RV.out, hqf.out, hgV.out, cc.out.1, cc.out.2⟩⟩
      case rest =>
        obtain ⟨rfl, rfl, g, q, c, rfl, HA⟩ := hcut
        have dV := hid HA.d
        have SV := hid HA.SV
        have B2V := hid HA.B2
        have B3V := hid HA.B3
        have RV := hid HA.RV
        have hqf := hid HA.qf
        have cc := hid (And.intro HA.c1 HA.c2)
        obtain ⟨l0, m0, f0⟩ := HA.Bg
        obtain ⟨l1, m1, f1⟩ := HA.Bp
        obtain ⟨l2, m2, f2⟩ := HA.B2
        obtain ⟨l3, m3, f3⟩ := HA.B3
        obtain ⟨ls, ms, fs⟩ := HA.BS
        have hgV := HA.gV
        clear KS0 KB HA Bg Bp B2w B3w HW SW dW
        generalize wc = V at *
        rcases (show n ≤ nx ∨ (nx < n ∧ nx = P.s) ∨ (nx < n ∧ nx ≠ P.s ∧ nx ≠ P.x) ∨ (nx < n ∧ nx ≠ P.s ∧ nx = P.x) by omega) with hA | ⟨hA, hB⟩ | ⟨hA, hB, hC⟩ | ⟨hA, hB, hC⟩
        · have hnG := hid (show ¬ nG = true by rw [hGh.out, decide_eq_false (show ¬ nx < n by omega)]; simp)
          clear hGh
          go_wp2_with fail
          have S9 := sole_setAll (S := fun k => k = w.heap.size + 1 + 1) rfl [.int .i64 0, .bool false, .slice none 0 0] 0 V
          have F2 := Blk.fill [.int .i64 0, .bool false, .slice none 0 0] 0 B2V.out (by simp)
          have F3a := B3V.out.sole S9 (by show ¬ _; omega)
          have d9 := dV.out.elim fun m' h => show ∃ m', DiskM _ b m' K ∧ Quiet m' N R ∧ Soft m' c0 from ⟨m', h.1.kept S9 (fun k hk e => by have := hKs.out k hk; omega), h.2⟩
          have SX := SV.out.trans' S9 (fun k hk e => absurd hk (by omega))
          generalize hV9 : setAll V (w.heap.size + 1 + 1) 0 [.int .i64 0, .bool false, .slice none 0 0] = V9 at S9 F2 F3a d9 SX
          have S10 := sole_setAll (S := fun k => k = w.heap.size + 1 + 1 + 1) rfl [.int .i64 0, .int .i64 0, .int .i64 0] 0 V9
          have F3 := hid (Blk.fill [.int .i64 0, .int .i64 0, .int .i64 0] 0 F3a (by simp))
          have F2b := hid (F2.sole S10 (by show ¬ _; omega))
          have d10 := hid (d9.elim fun m' h => show ∃ m', DiskM _ b m' K ∧ Quiet m' N R ∧ Soft m' c0 from ⟨m', h.1.kept S10 (fun k hk e => by have := hKs.out k hk; omega), h.2⟩)
          have SY := hid (SX.trans' S10 (fun k hk e => absurd hk (by omega)))
          rw [← hV9] at F3 F2b d10 SY
          simp only [setAll, Nat.zero_add, Nat.reduceAdd] at F3 F2b d10 SY
          clear S9 F2 F3a d9 SX S10 hV9 V9 l0 m0 f0 l1 m1 f1 l2 m2 f2 l3 m3 f3 ls ms fs
          generalize World.setCell _ _ _ = W9 at *
          obtain ⟨l4, k4, f4⟩ := F2b.out
          obtain ⟨l5, k5, f5⟩ := F3.out
          refine bodyPost_ret (v := .tuple #[smval 0 false none 0 0, Pc.v ⟨0, 0, 0⟩, .bool false, .int .i64 0]) (by simp [results, Try.results26, go_sem, k4, k5, fillC]) rfl ⟨d10.out, SY.out, .inr ⟨hnG.out, rfl⟩⟩
        · have hnG := hid (show ¬ nG = true by rw [hGh.out, hB]; simp)
          clear hGh
          subst hB
          go_wp2_with fail
          have S9 := sole_setAll (S := fun k => k = w.heap.size + 1 + 1) rfl [.int .i64 0, .bool false, .slice none 0 0] 0 V
          have F2 := Blk.fill [.int .i64 0, .bool false, .slice none 0 0] 0 B2V.out (by simp)
          have F3a := B3V.out.sole S9 (by show ¬ _; omega)
          have d9 := dV.out.elim fun m' h => show ∃ m', DiskM _ b m' K ∧ Quiet m' N R ∧ Soft m' c0 from ⟨m', h.1.kept S9 (fun k hk e => by have := hKs.out k hk; omega), h.2⟩
          have SX := SV.out.trans' S9 (fun k hk e => absurd hk (by omega))
          generalize hV9 : setAll V (w.heap.size + 1 + 1) 0 [.int .i64 0, .bool false, .slice none 0 0] = V9 at S9 F2 F3a d9 SX
          have S10 := sole_setAll (S := fun k => k = w.heap.size + 1 + 1 + 1) rfl [.int .i64 0, .int .i64 0, .int .i64 0] 0 V9
          have F3 := hid (Blk.fill [.int .i64 0, .int .i64 0, .int .i64 0] 0 F3a (by simp))
          have F2b := hid (F2.sole S10 (by show ¬ _; omega))
          have d10 := hid (d9.elim fun m' h => show ∃ m', DiskM _ b m' K ∧ Quiet m' N R ∧ Soft m' c0 from ⟨m', h.1.kept S10 (fun k hk e => by have := hKs.out k hk; omega), h.2⟩)
          have SY := hid (SX.trans' S10 (fun k hk e => absurd hk (by omega)))
          rw [← hV9] at F3 F2b d10 SY
          simp only [setAll, Nat.zero_add, Nat.reduceAdd] at F3 F2b d10 SY
          clear S9 F2 F3a d9 SX S10 hV9 V9 l0 m0 f0 l1 m1 f1 l2 m2 f2 l3 m3 f3 ls ms fs
          generalize World.setCell _ _ _ = W9 at *
          obtain ⟨l4, k4, f4⟩ := F2b.out
          obtain ⟨l5, k5, f5⟩ := F3.out
          refine bodyPost_ret (v := .tuple #[smval 0 false none 0 0, Pc.v ⟨0, 0, 0⟩, .bool false, .int .i64 0]) (by simp [results, Try.results26, go_sem, k4, k5, fillC]) rfl ⟨d10.out, SY.out, .inr ⟨hnG.out, rfl⟩⟩
        · have hnG := hid (show ¬ nG = true by
            have : (nx == P.x) = false := by rw [beq_eq_false_iff_ne]; exact hC
            have h3 : decide (z - P.o < 2) = false := decide_eq_false (by omega)
            rw [hGh.out, this, h3]; simp)
          have hB2 : (nx == P.s) = false := by rw [beq_eq_false_iff_ne]; exact hB
          have hA2 : ¬ n ≤ nx := by omega
          clear hGh
          go_wp2_with fail
          have S9 := sole_setAll (S := fun k => k = w.heap.size + 1 + 1) rfl [.int .i64 0, .bool false, .slice none 0 0] 0 V
          have F2 := Blk.fill [.int .i64 0, .bool false, .slice none 0 0] 0 B2V.out (by simp)
          have F3a := B3V.out.sole S9 (by show ¬ _; omega)
          have d9 := dV.out.elim fun m' h => show ∃ m', DiskM _ b m' K ∧ Quiet m' N R ∧ Soft m' c0 from ⟨m', h.1.kept S9 (fun k hk e => by have := hKs.out k hk; omega), h.2⟩
          have SX := SV.out.trans' S9 (fun k hk e => absurd hk (by omega))
          generalize hV9 : setAll V (w.heap.size + 1 + 1) 0 [.int .i64 0, .bool false, .slice none 0 0] = V9 at S9 F2 F3a d9 SX
          have S10 := sole_setAll (S := fun k => k = w.heap.size + 1 + 1 + 1) rfl [.int .i64 0, .int .i64 0, .int .i64 0] 0 V9
          have F3 := hid (Blk.fill [.int .i64 0, .int .i64 0, .int .i64 0] 0 F3a (by simp))
          have F2b := hid (F2.sole S10 (by show ¬ _; omega))
          have d10 := hid (d9.elim fun m' h => show ∃ m', DiskM _ b m' K ∧ Quiet m' N R ∧ Soft m' c0 from ⟨m', h.1.kept S10 (fun k hk e => by have := hKs.out k hk; omega), h.2⟩)
          have SY := hid (SX.trans' S10 (fun k hk e => absurd hk (by omega)))
          rw [← hV9] at F3 F2b d10 SY
          simp only [setAll, Nat.zero_add, Nat.reduceAdd] at F3 F2b d10 SY
          clear S9 F2 F3a d9 SX S10 hV9 V9 l0 m0 f0 l1 m1 f1 l2 m2 f2 l3 m3 f3 ls ms fs
          generalize World.setCell _ _ _ = W9 at *
          obtain ⟨l4, k4, f4⟩ := F2b.out
          obtain ⟨l5, k5, f5⟩ := F3.out
          refine bodyPost_ret (v := .tuple #[smval 0 false none 0 0, Pc.v ⟨0, 0, 0⟩, .bool false, .int .i64 0]) (by simp [results, Try.results26, go_sem, k4, k5, fillC]) rfl ⟨d10.out, SY.out, .inr ⟨hnG.out, rfl⟩⟩
        · have hyG := hid (show nG = true by
            have h4 : (nx == P.s) = false := by rw [beq_eq_false_iff_ne]; exact hB
            rw [hGh.out, h4, decide_eq_true hA, hC]; simp)
          have hB2 : (nx == P.s) = false := by rw [beq_eq_false_iff_ne]; exact hB
          have hA2 : ¬ n ≤ nx := by omega
          clear hGh
          subst hC
          go_wp2_with fail
          go_region
          all_goals
            have S9 := sole_setAll (S := fun k => k = w.heap.size + 1 + 1) rfl [.int .i64 P.x, .bool la, .slice q nn c] 0 V
            have F2 := Blk.fill [.int .i64 P.x, .bool la, .slice q nn c] 0 B2V.out (by simp)
            have F3a := B3V.out.sole S9 (by show ¬ _; omega)
            have R9 := RowP.apart RV.out S9 (fun b' o e hn (h : b' = w.heap.size + 1 + 1) => by have := hqf.out b' o e hn; omega)
            have d9 := dV.out.elim fun m' h => show ∃ m', DiskM _ b m' K ∧ Quiet m' N R ∧ Soft m' c0 from ⟨m', h.1.kept S9 (fun k hk e => by have := hKs.out k hk; omega), h.2⟩
            have SX := SV.out.trans' S9 (fun k hk e => absurd hk (by omega))
            generalize hV9 : setAll V (w.heap.size + 1 + 1) 0 [.int .i64 P.x, .bool la, .slice q nn c] = V9 at S9 F2 F3a d9 SX R9
            have S10 := sole_setAll (S := fun k => k = w.heap.size + 1 + 1 + 1) rfl [.int .i64 P.s, .int .i64 P.o, .int .i64 P.x] 0 V9
            have F3 := hid (Blk.fill [.int .i64 P.s, .int .i64 P.o, .int .i64 P.x] 0 F3a (by simp))
            have F2b := hid (F2.sole S10 (by show ¬ _; omega))
            have R10 := hid (RowP.apart R9 S10 (fun b' o e hn (h : b' = w.heap.size + 1 + 1 + 1) => by have := hqf.out b' o e hn; omega))
            have d10 := hid (d9.elim fun m' h => show ∃ m', DiskM _ b m' K ∧ Quiet m' N R ∧ Soft m' c0 from ⟨m', h.1.kept S10 (fun k hk e => by have := hKs.out k hk; omega), h.2⟩)
            have SY := hid (SX.trans' S10 (fun k hk e => absurd hk (by omega)))
            have hq10 := hid (fun b' o (e : q = some ⟨b', o, none⟩) (hn : nn ≠ 0) => show w.heap.size < b' from by have := hqf.out b' o e hn; omega)
            rw [← hV9] at F3 F2b d10 SY R10
            simp only [setAll, Nat.zero_add, Nat.reduceAdd] at F3 F2b d10 SY R10
            clear S9 F2 F3a d9 SX S10 hV9 V9 R9 l0 m0 f0 l1 m1 f1 l2 m2 f2 l3 m3 f3 ls ms fs
            go_wp2_with fail
            generalize World.setCell _ _ _ = W9 at *
            obtain ⟨l4, k4, f4⟩ := F2b.out
            obtain ⟨l5, k5, f5⟩ := F3.out
            refine bodyPost_ret (v := .tuple #[smval P.x la q nn c, Pc.v P, .bool true, .int .i64 0]) (by simp [results, Try.results26, go_sem, k4, k5, fillC]) rfl ⟨d10.out.elim fun m' h => ⟨m', h.1.more (Below.refl _ _).drew, h.2⟩, SY.out.trans (Sole.made (Below.refl _ _).drew), .inl ⟨hyG.out, q, c, rfl, cc.out.1, cc.out.2, R10.out.more (Below.refl _ _).drew, hq10.out⟩⟩
    · rw [if_neg h2] at hPd
      have h2b : z - p.o < 2 := by omega
      go_wp2_with fail
      have S0 := sole_setAll (S := fun k => k = w.heap.size + 1) rfl [.int .i64 p.x, .int .i64 0, .int .i64 0] 0 W
      have Bg := hid (B0h.out.sole S0 (by show ¬ _; omega))
      have Bp := hid (show Blk _ (w.heap.size + 1) P.cells from by
        have h := Blk.fill [.int .i64 p.x, .int .i64 0, .int .i64 0] 0 B1h.out (by simp)
        rw [hPd]
        exact h)
      have B2w := hid (B2h.out.sole S0 (by show ¬ _; omega))
      have B3w := hid (B3h.out.sole S0 (by show ¬ _; omega))
      have SW := hid ((Sole.made (S := K) Hh.out).trans' S0 (fun k hk e => absurd hk (by omega)))
      have HW := hid (Hh.out.trans (S0.below (B := w.heap.size) Hh.out.size (fun k e => by omega)))
      have dW := hid (hD0.out.elim fun m' h => show ∃ m', DiskM _ b m' K ∧ Quiet m' N R ∧ Soft m' c0 from ⟨m', (h.1.more Hh.out).kept S0 (fun k hk e => by have := hKs.out k hk; omega), h.2⟩)
      simp only [setAll, Nat.zero_add, Nat.reduceAdd] at Bg Bp B2w B3w SW HW dW
      replace hPd := hid hPd
      clear S0 B0h B1h B2h B3h Hh l0 m0 f0 l1 m1 f1 hD0 hW
      generalize World.setCell _ _ _ = W at *
      obtain ⟨l0, m0, f0⟩ := Bg.out
      obtain ⟨l1, m1, f1⟩ := Bp.out
      go_cut [15, 16, 17] (fun s15 s16 s17 wx => s16 = .bool true ∧ s17 = .int .i64 0 ∧ ∃ g q c, s15 = .pointer (some ⟨g, 0, none⟩) ∧ NextAt w wx b K N R c0 n z P g q c nx la nn f)
      case first =>
        have hk0 := hid (show W.cell? ⟨w.heap.size, 0, none⟩ = some (.int .i64 n) ∧ W.cell? ⟨w.heap.size, 1, none⟩ = some (.int .i64 z) ∧ W.cell? ⟨w.heap.size + 1, 0, none⟩ = some (.int .i64 P.s) ∧ W.cell? ⟨w.heap.size + 1, 1, none⟩ = some (.int .i64 P.o) ∧ W.cell? ⟨w.heap.size + 1, 2, none⟩ = some (.int .i64 P.x) from ⟨Bg.out.cell 0, Bg.out.cell 1, Bp.out.cell 0, Bp.out.cell 1, Bp.out.cell 2⟩)
        have hbw : Below W.heap.size W W.drew := (Below.refl _ _).drew
        have hba : Below W.heap.size W (W.drew.alloc (.cells s0c 83)) := (Below.refl _ _).drew.alloc (Nat.le_refl _) _
        have hgA := hid (Blk.new W.drew s0c 83)
        have hWw := hid (show w.heap.size + 3 < W.heap.size from B3w.out.lt)
        go_region_held3 (fun w' => w'.cell? ⟨w.heap.size, 0, none⟩ = some (.int .i64 n) ∧ w'.cell? ⟨w.heap.size, 1, none⟩ = some (.int .i64 z) ∧ w'.cell? ⟨w.heap.size + 1, 0, none⟩ = some (.int .i64 P.s) ∧ w'.cell? ⟨w.heap.size + 1, 1, none⟩ = some (.int .i64 P.o) ∧ w'.cell? ⟨w.heap.size + 1, 2, none⟩ = some (.int .i64 P.x))
          (first | exact hk8s.out _ _ _ | exact hk8a.out _ | exact hk8.out | exact hk5.out | exact hk0.out | go_keep)
          (first
            | ((with_reducible refine (KS0.out _).mono ?_); rintro e w5 ⟨rfl, hb5⟩
               have hb05 := hid (hbw.trans hb5)
               have hk5 := hid (show w5.cell? ⟨w.heap.size, 0, none⟩ = some (.int .i64 n) ∧ w5.cell? ⟨w.heap.size, 1, none⟩ = some (.int .i64 z) ∧ w5.cell? ⟨w.heap.size + 1, 0, none⟩ = some (.int .i64 P.s) ∧ w5.cell? ⟨w.heap.size + 1, 1, none⟩ = some (.int .i64 P.o) ∧ w5.cell? ⟨w.heap.size + 1, 2, none⟩ = some (.int .i64 P.x) from ⟨(hb05.out.cell (p := ⟨_, _, none⟩) Bg.out.lt).trans hk0.out.1, (hb05.out.cell (p := ⟨_, _, none⟩) Bg.out.lt).trans hk0.out.2.1, (hb05.out.cell (p := ⟨_, _, none⟩) Bp.out.lt).trans hk0.out.2.2.1, (hb05.out.cell (p := ⟨_, _, none⟩) Bp.out.lt).trans hk0.out.2.2.2.1, (hb05.out.cell (p := ⟨_, _, none⟩) Bp.out.lt).trans hk0.out.2.2.2.2⟩))
            | ((with_reducible refine (KS0.out _).mono ?_); rintro e w5 ⟨rfl, hb5⟩
               have hb05 := hid (below2 hba hb5 (by simp))
               have hg5 := hid (show Blk w5 W.heap.size s0c from hgA.out.more hb5)
               have hk5 := hid (show w5.cell? ⟨w.heap.size, 0, none⟩ = some (.int .i64 n) ∧ w5.cell? ⟨w.heap.size, 1, none⟩ = some (.int .i64 z) ∧ w5.cell? ⟨w.heap.size + 1, 0, none⟩ = some (.int .i64 P.s) ∧ w5.cell? ⟨w.heap.size + 1, 1, none⟩ = some (.int .i64 P.o) ∧ w5.cell? ⟨w.heap.size + 1, 2, none⟩ = some (.int .i64 P.x) from ⟨(hb05.out.cell (p := ⟨_, _, none⟩) Bg.out.lt).trans hk0.out.1, (hb05.out.cell (p := ⟨_, _, none⟩) Bg.out.lt).trans hk0.out.2.1, (hb05.out.cell (p := ⟨_, _, none⟩) Bp.out.lt).trans hk0.out.2.2.1, (hb05.out.cell (p := ⟨_, _, none⟩) Bp.out.lt).trans hk0.out.2.2.2.1, (hb05.out.cell (p := ⟨_, _, none⟩) Bp.out.lt).trans hk0.out.2.2.2.2⟩))
            | ((with_reducible refine (KB.out _ (SW.out.trans (Sole.made (S := K) (hb05.out))) (dW.out.elim fun m' h => ⟨m', h.1.more (hb05.out), h.2⟩)).mono ?_); rintro e w8 ⟨q, c, rfl, hd8, S8, hc1, hc2, hR8, hq8⟩
               have SS8 := hid ((SW.out.trans (Sole.made (S := K) (hb05.out))).trans S8)
               have Bg8 := hid ((Bg.out.more (hb05.out)).sole S8 (fun h => by have := hKs.out _ h; omega))
               have Bp8 := hid ((Bp.out.more (hb05.out)).sole S8 (fun h => by have := hKs.out _ h; omega))
               have B28 := hid ((B2w.out.more (hb05.out)).sole S8 (fun h => by have := hKs.out _ h; omega))
               have B38 := hid ((B3w.out.more (hb05.out)).sole S8 (fun h => by have := hKs.out _ h; omega))
               have hs8 := hid (show W.heap.size ≤ w8.heap.size from Nat.le_trans (Below.size (hb05.out)) S8.size)
               have hg8 := hid (hg5.out.sole S8 (fun h => by have := hKs.out _ h; have := hWw.out; omega))
               obtain ⟨lg8, mg8, fg8⟩ := hg8.out
               have Bg8s := hid (fun v0 v1 v2 => ((Bg8.out.other ⟨W.heap.size, 0, none⟩ (by show W.heap.size ≠ _; have := hWw.out; omega) v0).other ⟨W.heap.size, 1, none⟩ (by show W.heap.size ≠ _; have := hWw.out; omega) v1).other ⟨W.heap.size, 2, none⟩ (by show W.heap.size ≠ _; have := hWw.out; omega) v2)
               have Bp8s := hid (fun v0 v1 v2 => ((Bp8.out.other ⟨W.heap.size, 0, none⟩ (by show W.heap.size ≠ _; have := hWw.out; omega) v0).other ⟨W.heap.size, 1, none⟩ (by show W.heap.size ≠ _; have := hWw.out; omega) v1).other ⟨W.heap.size, 2, none⟩ (by show W.heap.size ≠ _; have := hWw.out; omega) v2)
               have hk8s := hid (fun v0 v1 v2 => And.intro ((Bg8s.out v0 v1 v2).cell 0) (And.intro ((Bg8s.out v0 v1 v2).cell 1) (And.intro ((Bp8s.out v0 v1 v2).cell 0) (And.intro ((Bp8s.out v0 v1 v2).cell 1) ((Bp8s.out v0 v1 v2).cell 2)))))
               have hk8 := hid (show w8.cell? ⟨w.heap.size, 0, none⟩ = some (.int .i64 n) ∧ w8.cell? ⟨w.heap.size, 1, none⟩ = some (.int .i64 z) ∧ w8.cell? ⟨w.heap.size + 1, 0, none⟩ = some (.int .i64 P.s) ∧ w8.cell? ⟨w.heap.size + 1, 1, none⟩ = some (.int .i64 P.o) ∧ w8.cell? ⟨w.heap.size + 1, 2, none⟩ = some (.int .i64 P.x) from ⟨Bg8.out.cell 0, Bg8.out.cell 1, Bp8.out.cell 0, Bp8.out.cell 1, Bp8.out.cell 2⟩)
               have hk8a := hid (fun (C : Array Value) => have ba := below_al1 w8 (.cells C 83); And.intro ((Bg8.out.more ba).cell 0) (And.intro ((Bg8.out.more ba).cell 1) (And.intro ((Bp8.out.more ba).cell 0) (And.intro ((Bp8.out.more ba).cell 1) ((Bp8.out.more ba).cell 2))))))
            | ((with_reducible refine (KB.out _ (SW.out.trans (Sole.made (S := K) (hb05.out.alloc hb05.out.size (.cells s0c 83)))) (dW.out.elim fun m' h => ⟨m', h.1.more (hb05.out.alloc hb05.out.size (.cells s0c 83)), h.2⟩)).mono ?_); rintro e w8 ⟨q, c, rfl, hd8, S8, hc1, hc2, hR8, hq8⟩
               have SS8 := hid ((SW.out.trans (Sole.made (S := K) (hb05.out.alloc hb05.out.size (.cells s0c 83)))).trans S8)
               have Bg8 := hid ((Bg.out.more (hb05.out.alloc hb05.out.size (.cells s0c 83))).sole S8 (fun h => by have := hKs.out _ h; omega))
               have Bp8 := hid ((Bp.out.more (hb05.out.alloc hb05.out.size (.cells s0c 83))).sole S8 (fun h => by have := hKs.out _ h; omega))
               have B28 := hid ((B2w.out.more (hb05.out.alloc hb05.out.size (.cells s0c 83))).sole S8 (fun h => by have := hKs.out _ h; omega))
               have B38 := hid ((B3w.out.more (hb05.out.alloc hb05.out.size (.cells s0c 83))).sole S8 (fun h => by have := hKs.out _ h; omega))
               have hs8 := hid (show W.heap.size ≤ w8.heap.size from Nat.le_trans (Below.size (hb05.out.alloc hb05.out.size (.cells s0c 83))) S8.size)
               have hg8 := hid ((Blk.new w5 s0c 83).sole S8 (fun h => by have := hKs.out _ h; have := hWw.out; have := hb05.out.size; omega))
               obtain ⟨lg8, mg8, fg8⟩ := hg8.out
               have Bg8s := hid (fun v0 v1 v2 => ((Bg8.out.other ⟨w5.heap.size, 0, none⟩ (by show w5.heap.size ≠ _; have := hWw.out; have := hb05.out.size; omega) v0).other ⟨w5.heap.size, 1, none⟩ (by show w5.heap.size ≠ _; have := hWw.out; have := hb05.out.size; omega) v1).other ⟨w5.heap.size, 2, none⟩ (by show w5.heap.size ≠ _; have := hWw.out; have := hb05.out.size; omega) v2)
               have Bp8s := hid (fun v0 v1 v2 => ((Bp8.out.other ⟨w5.heap.size, 0, none⟩ (by show w5.heap.size ≠ _; have := hWw.out; have := hb05.out.size; omega) v0).other ⟨w5.heap.size, 1, none⟩ (by show w5.heap.size ≠ _; have := hWw.out; have := hb05.out.size; omega) v1).other ⟨w5.heap.size, 2, none⟩ (by show w5.heap.size ≠ _; have := hWw.out; have := hb05.out.size; omega) v2)
               have hk8s := hid (fun v0 v1 v2 => And.intro ((Bg8s.out v0 v1 v2).cell 0) (And.intro ((Bg8s.out v0 v1 v2).cell 1) (And.intro ((Bp8s.out v0 v1 v2).cell 0) (And.intro ((Bp8s.out v0 v1 v2).cell 1) ((Bp8s.out v0 v1 v2).cell 2)))))
               have hk8 := hid (show w8.cell? ⟨w.heap.size, 0, none⟩ = some (.int .i64 n) ∧ w8.cell? ⟨w.heap.size, 1, none⟩ = some (.int .i64 z) ∧ w8.cell? ⟨w.heap.size + 1, 0, none⟩ = some (.int .i64 P.s) ∧ w8.cell? ⟨w.heap.size + 1, 1, none⟩ = some (.int .i64 P.o) ∧ w8.cell? ⟨w.heap.size + 1, 2, none⟩ = some (.int .i64 P.x) from ⟨Bg8.out.cell 0, Bg8.out.cell 1, Bp8.out.cell 0, Bp8.out.cell 1, Bp8.out.cell 2⟩)
               have hk8a := hid (fun (C : Array Value) => have ba := below_al1 w8 (.cells C 83); And.intro ((Bg8.out.more ba).cell 0) (And.intro ((Bg8.out.more ba).cell 1) (And.intro ((Bp8.out.more ba).cell 0) (And.intro ((Bp8.out.more ba).cell 1) ((Bp8.out.more ba).cell 2))))))
            | ((with_reducible refine (KB.out _ (SW.out.trans (Sole.made (S := K) (hb05.out))) (dW.out.elim fun m' h => ⟨m', h.1.more (hb05.out), h.2⟩)).mono ?_); rintro e w8 ⟨q, c, rfl, hd8, S8, hc1, hc2, hR8, hq8⟩
               have SS8 := hid ((SW.out.trans (Sole.made (S := K) (hb05.out))).trans S8)
               have Bg8 := hid ((Bg.out.more (hb05.out)).sole S8 (fun h => by have := hKs.out _ h; omega))
               have Bp8 := hid ((Bp.out.more (hb05.out)).sole S8 (fun h => by have := hKs.out _ h; omega))
               have B28 := hid ((B2w.out.more (hb05.out)).sole S8 (fun h => by have := hKs.out _ h; omega))
               have B38 := hid ((B3w.out.more (hb05.out)).sole S8 (fun h => by have := hKs.out _ h; omega))
               have hs8 := hid (show W.heap.size ≤ w8.heap.size from Nat.le_trans (Below.size (hb05.out)) S8.size)
               have hk8 := hid (show w8.cell? ⟨w.heap.size, 0, none⟩ = some (.int .i64 n) ∧ w8.cell? ⟨w.heap.size, 1, none⟩ = some (.int .i64 z) ∧ w8.cell? ⟨w.heap.size + 1, 0, none⟩ = some (.int .i64 P.s) ∧ w8.cell? ⟨w.heap.size + 1, 1, none⟩ = some (.int .i64 P.o) ∧ w8.cell? ⟨w.heap.size + 1, 2, none⟩ = some (.int .i64 P.x) from ⟨Bg8.out.cell 0, Bg8.out.cell 1, Bp8.out.cell 0, Bp8.out.cell 1, Bp8.out.cell 2⟩)
               have hk8a := hid (fun (C : Array Value) => have ba := below_al1 w8 (.cells C 83); And.intro ((Bg8.out.more ba).cell 0) (And.intro ((Bg8.out.more ba).cell 1) (And.intro ((Bp8.out.more ba).cell 0) (And.intro ((Bp8.out.more ba).cell 1) ((Bp8.out.more ba).cell 2)))))))
        · have hqf := hid (fun b' o (e : q = some ⟨b', o, none⟩) (hn : nn ≠ 0) => show w.heap.size + 3 < b' from by
            have h1 := hq8 b' o e hn
            have h2 := hb05.out.size
            have h3 := hWw.out
            try simp only [World.size_alloc] at h1
            omega)
          have cc := hid (And.intro hc1 hc2)
          have b9 : Below w8.heap.size w8 (w8.alloc (.cells #[.int .i64 nx, .bool la, .slice q nn c] 83)) := below_al1 _ _
          have SV := hid (SS8.out.trans (Sole.made b9))
          have BgV := hid (Bg8.out.more b9)
          have BpV := hid (Bp8.out.more b9)
          have B2V := hid (B28.out.more b9)
          have B3V := hid (B38.out.more b9)
          have BSV := hid (Blk.new w8 #[.int .i64 nx, .bool la, .slice q nn c] 83)
          have dV := hid (hd8.elim fun m' h => show ∃ m', DiskM _ b m' K ∧ Quiet m' N R ∧ Soft m' c0 from ⟨m', h.1.more b9, h.2⟩)
          have RV := hid (hR8.more b9)
          have hgV := hid (show w.heap.size + 3 < w8.heap.size from by have := hWw.out; have := hs8.out; omega)
          generalize w8.alloc (.cells #[.int .i64 nx, .bool la, .slice q nn c] 83) = V at *
          generalize w8.heap.size = g at *
          go_wp2_with fail
          go_meet
          case rel => exact ⟨rfl, rfl, g, _, _, rfl, ⟨SV.out, BgV.out, BpV.out, B2V.out, B3V.out, BSV.out, dV.out, RV.out, hqf.out, hgV.out, cc.out.1, cc.out.2⟩⟩
        · have hqf := hid (fun b' o (e : q = some ⟨b', o, none⟩) (hn : nn ≠ 0) => show w.heap.size + 3 < b' from by
            have h1 := hq8 b' o e hn
            have h2 := hb05.out.size
            have h3 := hWw.out
            try simp only [World.size_alloc] at h1
            omega)
          have cc := hid (And.intro hc1 hc2)
          have S9 := sole_setAll (S := fun k => k = w5.heap.size) rfl [.int .i64 nx, .bool la, .slice q nn c] 0 w8
          have hG3 := hid (show w.heap.size + 3 < w5.heap.size from by have := hWw.out; have := hb05.out.size; omega)
          have SV := hid (SS8.out.trans' S9 (fun k hk e => absurd hk (by have := hG3.out; omega)))
          have BgV := hid (Bg8.out.sole S9 (by show ¬ _; have := hG3.out; omega))
          have BpV := hid (Bp8.out.sole S9 (by show ¬ _; have := hG3.out; omega))
          have B2V := hid (B28.out.sole S9 (by show ¬ _; have := hG3.out; omega))
          have B3V := hid (B38.out.sole S9 (by show ¬ _; have := hG3.out; omega))
          have BSV := hid (show Blk _ w5.heap.size #[.int .i64 nx, .bool la, .slice q nn c] from Blk.fill [.int .i64 nx, .bool la, .slice q nn c] 0 hg8.out (by simp))
          have dV := hid (hd8.elim fun m' h => show ∃ m', DiskM _ b m' K ∧ Quiet m' N R ∧ Soft m' c0 from ⟨m', h.1.kept S9 (fun k hk e => by have := hKs.out k hk; have := hG3.out; omega), h.2⟩)
          have RV := hid (RowP.apart hR8 S9 (fun b' o e hn (h : b' = w5.heap.size) => by
            have h1 := hq8 b' o e hn
            have h2 := hb05.out.size
            try simp only [World.size_alloc] at h1
            omega))
          have hgV := hid hG3.out
          simp only [setAll, Nat.zero_add, Nat.reduceAdd] at SV BgV BpV B2V B3V BSV dV RV
          clear S9
          generalize World.setCell _ _ _ = V at *
          generalize w5.heap.size = g at *
          go_wp2_with fail
          go_meet
          case rel => exact ⟨rfl, rfl, g, _, _, rfl, ⟨SV.out, BgV.out, BpV.out, B2V.out, B3V.out, BSV.out, dV.out, RV.out, hqf.out, hgV.out, cc.out.1, cc.out.2⟩⟩
        · have hqf := hid (fun b' o (e : q = some ⟨b', o, none⟩) (hn : nn ≠ 0) => show w.heap.size + 3 < b' from by
            have h1 := hq8 b' o e hn
            have h2 := hb05.out.size
            have h3 := hWw.out
            try simp only [World.size_alloc] at h1
            omega)
          have cc := hid (And.intro hc1 hc2)
          have S9 := sole_setAll (S := fun k => k = W.heap.size) rfl [.int .i64 nx, .bool la, .slice q nn c] 0 w8
          have hG3 := hid (show w.heap.size + 3 < W.heap.size from by have := hWw.out; have := hb05.out.size; omega)
          have SV := hid (SS8.out.trans' S9 (fun k hk e => absurd hk (by have := hG3.out; omega)))
          have BgV := hid (Bg8.out.sole S9 (by show ¬ _; have := hG3.out; omega))
          have BpV := hid (Bp8.out.sole S9 (by show ¬ _; have := hG3.out; omega))
          have B2V := hid (B28.out.sole S9 (by show ¬ _; have := hG3.out; omega))
          have B3V := hid (B38.out.sole S9 (by show ¬ _; have := hG3.out; omega))
          have BSV := hid (show Blk _ W.heap.size #[.int .i64 nx, .bool la, .slice q nn c] from Blk.fill [.int .i64 nx, .bool la, .slice q nn c] 0 hg8.out (by simp))
          have dV := hid (hd8.elim fun m' h => show ∃ m', DiskM _ b m' K ∧ Quiet m' N R ∧ Soft m' c0 from ⟨m', h.1.kept S9 (fun k hk e => by have := hKs.out k hk; have := hG3.out; omega), h.2⟩)
          have RV := hid (RowP.apart hR8 S9 (fun b' o e hn (h : b' = W.heap.size) => by
            have h1 := hq8 b' o e hn
            have h2 := hb05.out.size
            try simp only [World.size_alloc] at h1
            omega))
          have hgV := hid hG3.out
          simp only [setAll, Nat.zero_add, Nat.reduceAdd] at SV BgV BpV B2V B3V BSV dV RV
          clear S9
          generalize World.setCell _ _ _ = V at *
          generalize W.heap.size = g at *
          go_wp2_with fail
          go_meet
          case rel => exact ⟨rfl, rfl, g, _, _, rfl, ⟨SV.out, BgV.out, BpV.out, B2V.out, B3V.out, BSV.out, dV.out, RV.out, hqf.out, hgV.out, cc.out.1, cc.out.2⟩⟩
      case rest =>
        obtain ⟨rfl, rfl, g, q, c, rfl, HA⟩ := hcut
        have dV := hid HA.d
        have SV := hid HA.SV
        have B2V := hid HA.B2
        have B3V := hid HA.B3
        have RV := hid HA.RV
        have hqf := hid HA.qf
        have cc := hid (And.intro HA.c1 HA.c2)
        obtain ⟨l0, m0, f0⟩ := HA.Bg
        obtain ⟨l1, m1, f1⟩ := HA.Bp
        obtain ⟨l2, m2, f2⟩ := HA.B2
        obtain ⟨l3, m3, f3⟩ := HA.B3
        obtain ⟨ls, ms, fs⟩ := HA.BS
        have hgV := HA.gV
        clear KS0 KB HA Bg Bp B2w B3w HW SW dW
        generalize wc = V at *
        rcases (show n ≤ nx ∨ (nx < n ∧ nx = P.s) ∨ (nx < n ∧ nx ≠ P.s) by omega) with hA | ⟨hA, hB⟩ | ⟨hA, hB⟩
        · have hnG := hid (show ¬ nG = true by rw [hGh.out, decide_eq_false (show ¬ nx < n by omega)]; simp)
          clear hGh
          go_wp2_with fail
          have S9 := sole_setAll (S := fun k => k = w.heap.size + 1 + 1) rfl [.int .i64 0, .bool false, .slice none 0 0] 0 V
          have F2 := Blk.fill [.int .i64 0, .bool false, .slice none 0 0] 0 B2V.out (by simp)
          have F3a := B3V.out.sole S9 (by show ¬ _; omega)
          have d9 := dV.out.elim fun m' h => show ∃ m', DiskM _ b m' K ∧ Quiet m' N R ∧ Soft m' c0 from ⟨m', h.1.kept S9 (fun k hk e => by have := hKs.out k hk; omega), h.2⟩
          have SX := SV.out.trans' S9 (fun k hk e => absurd hk (by omega))
          generalize hV9 : setAll V (w.heap.size + 1 + 1) 0 [.int .i64 0, .bool false, .slice none 0 0] = V9 at S9 F2 F3a d9 SX
          have S10 := sole_setAll (S := fun k => k = w.heap.size + 1 + 1 + 1) rfl [.int .i64 0, .int .i64 0, .int .i64 0] 0 V9
          have F3 := hid (Blk.fill [.int .i64 0, .int .i64 0, .int .i64 0] 0 F3a (by simp))
          have F2b := hid (F2.sole S10 (by show ¬ _; omega))
          have d10 := hid (d9.elim fun m' h => show ∃ m', DiskM _ b m' K ∧ Quiet m' N R ∧ Soft m' c0 from ⟨m', h.1.kept S10 (fun k hk e => by have := hKs.out k hk; omega), h.2⟩)
          have SY := hid (SX.trans' S10 (fun k hk e => absurd hk (by omega)))
          rw [← hV9] at F3 F2b d10 SY
          simp only [setAll, Nat.zero_add, Nat.reduceAdd] at F3 F2b d10 SY
          clear S9 F2 F3a d9 SX S10 hV9 V9 l0 m0 f0 l1 m1 f1 l2 m2 f2 l3 m3 f3 ls ms fs
          generalize World.setCell _ _ _ = W9 at *
          obtain ⟨l4, k4, f4⟩ := F2b.out
          obtain ⟨l5, k5, f5⟩ := F3.out
          refine bodyPost_ret (v := .tuple #[smval 0 false none 0 0, Pc.v ⟨0, 0, 0⟩, .bool false, .int .i64 0]) (by simp [results, Try.results26, go_sem, k4, k5, fillC]) rfl ⟨d10.out, SY.out, .inr ⟨hnG.out, rfl⟩⟩
        · have hnG := hid (show ¬ nG = true by rw [hGh.out, hB]; simp)
          clear hGh
          subst hB
          go_wp2_with fail
          have S9 := sole_setAll (S := fun k => k = w.heap.size + 1 + 1) rfl [.int .i64 0, .bool false, .slice none 0 0] 0 V
          have F2 := Blk.fill [.int .i64 0, .bool false, .slice none 0 0] 0 B2V.out (by simp)
          have F3a := B3V.out.sole S9 (by show ¬ _; omega)
          have d9 := dV.out.elim fun m' h => show ∃ m', DiskM _ b m' K ∧ Quiet m' N R ∧ Soft m' c0 from ⟨m', h.1.kept S9 (fun k hk e => by have := hKs.out k hk; omega), h.2⟩
          have SX := SV.out.trans' S9 (fun k hk e => absurd hk (by omega))
          generalize hV9 : setAll V (w.heap.size + 1 + 1) 0 [.int .i64 0, .bool false, .slice none 0 0] = V9 at S9 F2 F3a d9 SX
          have S10 := sole_setAll (S := fun k => k = w.heap.size + 1 + 1 + 1) rfl [.int .i64 0, .int .i64 0, .int .i64 0] 0 V9
          have F3 := hid (Blk.fill [.int .i64 0, .int .i64 0, .int .i64 0] 0 F3a (by simp))
          have F2b := hid (F2.sole S10 (by show ¬ _; omega))
          have d10 := hid (d9.elim fun m' h => show ∃ m', DiskM _ b m' K ∧ Quiet m' N R ∧ Soft m' c0 from ⟨m', h.1.kept S10 (fun k hk e => by have := hKs.out k hk; omega), h.2⟩)
          have SY := hid (SX.trans' S10 (fun k hk e => absurd hk (by omega)))
          rw [← hV9] at F3 F2b d10 SY
          simp only [setAll, Nat.zero_add, Nat.reduceAdd] at F3 F2b d10 SY
          clear S9 F2 F3a d9 SX S10 hV9 V9 l0 m0 f0 l1 m1 f1 l2 m2 f2 l3 m3 f3 ls ms fs
          generalize World.setCell _ _ _ = W9 at *
          obtain ⟨l4, k4, f4⟩ := F2b.out
          obtain ⟨l5, k5, f5⟩ := F3.out
          refine bodyPost_ret (v := .tuple #[smval 0 false none 0 0, Pc.v ⟨0, 0, 0⟩, .bool false, .int .i64 0]) (by simp [results, Try.results26, go_sem, k4, k5, fillC]) rfl ⟨d10.out, SY.out, .inr ⟨hnG.out, rfl⟩⟩
        · have hyG := hid (show nG = true by
            have h4 : (nx == P.s) = false := by rw [beq_eq_false_iff_ne]; exact hB
            rw [hGh.out, h4, decide_eq_true hA, decide_eq_true h2b]; rfl)
          have hB2 : (nx == P.s) = false := by rw [beq_eq_false_iff_ne]; exact hB
          have hA2 : ¬ n ≤ nx := by omega
          clear hGh
          go_wp2_with fail
          go_region
          all_goals
            have S9 := sole_setAll (S := fun k => k = w.heap.size + 1 + 1) rfl [.int .i64 nx, .bool la, .slice q nn c] 0 V
            have F2 := Blk.fill [.int .i64 nx, .bool la, .slice q nn c] 0 B2V.out (by simp)
            have F3a := B3V.out.sole S9 (by show ¬ _; omega)
            have R9 := RowP.apart RV.out S9 (fun b' o e hn (h : b' = w.heap.size + 1 + 1) => by have := hqf.out b' o e hn; omega)
            have d9 := dV.out.elim fun m' h => show ∃ m', DiskM _ b m' K ∧ Quiet m' N R ∧ Soft m' c0 from ⟨m', h.1.kept S9 (fun k hk e => by have := hKs.out k hk; omega), h.2⟩
            have SX := SV.out.trans' S9 (fun k hk e => absurd hk (by omega))
            generalize hV9 : setAll V (w.heap.size + 1 + 1) 0 [.int .i64 nx, .bool la, .slice q nn c] = V9 at S9 F2 F3a d9 SX R9
            have S10 := sole_setAll (S := fun k => k = w.heap.size + 1 + 1 + 1) rfl [.int .i64 P.s, .int .i64 P.o, .int .i64 P.x] 0 V9
            have F3 := hid (Blk.fill [.int .i64 P.s, .int .i64 P.o, .int .i64 P.x] 0 F3a (by simp))
            have F2b := hid (F2.sole S10 (by show ¬ _; omega))
            have R10 := hid (RowP.apart R9 S10 (fun b' o e hn (h : b' = w.heap.size + 1 + 1 + 1) => by have := hqf.out b' o e hn; omega))
            have d10 := hid (d9.elim fun m' h => show ∃ m', DiskM _ b m' K ∧ Quiet m' N R ∧ Soft m' c0 from ⟨m', h.1.kept S10 (fun k hk e => by have := hKs.out k hk; omega), h.2⟩)
            have SY := hid (SX.trans' S10 (fun k hk e => absurd hk (by omega)))
            have hq10 := hid (fun b' o (e : q = some ⟨b', o, none⟩) (hn : nn ≠ 0) => show w.heap.size < b' from by have := hqf.out b' o e hn; omega)
            rw [← hV9] at F3 F2b d10 SY R10
            simp only [setAll, Nat.zero_add, Nat.reduceAdd] at F3 F2b d10 SY R10
            clear S9 F2 F3a d9 SX S10 hV9 V9 R9 l0 m0 f0 l1 m1 f1 l2 m2 f2 l3 m3 f3 ls ms fs
            go_wp2_with fail
            generalize World.setCell _ _ _ = W9 at *
            obtain ⟨l4, k4, f4⟩ := F2b.out
            obtain ⟨l5, k5, f5⟩ := F3.out
            refine bodyPost_ret (v := .tuple #[smval nx la q nn c, Pc.v P, .bool true, .int .i64 0]) (by simp [results, Try.results26, go_sem, k4, k5, fillC]) rfl ⟨d10.out.elim fun m' h => ⟨m', h.1.more (Below.refl _ _).drew, h.2⟩, SY.out.trans (Sole.made (Below.refl _ _).drew), .inl ⟨hyG.out, q, c, rfl, cc.out.1, cc.out.2, R10.out.more (Below.refl _ _).drew, hq10.out⟩⟩
end Go.Proofs.Ytcklmemnjchdcaa
