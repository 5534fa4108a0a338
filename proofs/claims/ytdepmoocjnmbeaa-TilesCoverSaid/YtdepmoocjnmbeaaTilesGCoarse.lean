/-
  Package tiles: coarsest, of any cells.
-/
import Derived.Test.YtdepmoocjnmbeaaTilesGClo
import Derived.LoopTactic
namespace Go.Proofs.Ytdepmoocjnmbeaa
open Go.RowKit
set_option linter.unusedVariables false
set_option linter.unusedSimpArgs false

/-- What coarsest answers. -/
def CoarseP (L : List Cl) (n : Nat) (P : Cl → Bool) (e : Ending) : Prop := ∃ (at' : Nat) (b : Bool), e = .returned (.tuple #[.int .i64 (at' : Int), .bool b]) ∧ (b = true → at' < n ∧ P (atR clT L at') = true) ∧ (b = false → ∀ i, i < n → P (atR clT L i) = false)

set_option maxRecDepth 100000 in
set_option maxHeartbeats 8000000 in
theorem gcoarse_any (L : List Cl) (n : Nat) (hn : L.length = n) (hn2 : n ≤ 1000) (p : Option Addr) (cp : Nat) (br bl bm : Nat) (P : Cl → Bool) (w : World) (R : RowOf clT w p L)
    (KC : ∀ i, i < n → ∀ W', Below w.heap.size w W' → Calls Try.prog 21 #[cl (atR clT L i).x (atR clT L i).y (atR clT L i).l, .pointer (some ⟨br, 0, none⟩), .pointer (some ⟨bl, 0, none⟩), .pointer (some ⟨bm, 0, none⟩)] W' fun e w' => e = .returned (.bool (P (atR clT L i))) ∧ Below W'.heap.size W' w') :
    Calls Try.prog 20 #[.slice p n cp, .func (.func 21) #[] #[.pointer (some ⟨br, 0, none⟩), .pointer (some ⟨bl, 0, none⟩), .pointer (some ⟨bm, 0, none⟩)]] w fun e w' =>
      CoarseP L n P e ∧ Below w.heap.size w w' := by
  have hn63 : (n : Int) ≤ 1000 := by omega
  have Rh := hid (show RowP w p 3 n (fun i => clT.cells (atR clT L i)) by have h := R; unfold RowOf at h; rw [hn] at h; exact h)
  have KCh := hid KC
  clear R KC hn
  go_enter Try.func20, Try.ntmps20
  go_wp2_with fail
  go_loopw [6, 11] (fun v i wr => ∃ (k : Nat) (a : Int), k ≤ n ∧ i = .int .i64 (k : Int) ∧ v = .int .i64 a ∧ Hid ((a = -1 ∧ ∀ j, j < k → P (atR clT L j) = false) ∨ ∃ j : Nat, j < k ∧ a = (j : Int) ∧ P (atR clT L j) = true) ∧ Below w.heap.size w wr) (fun _ i _ => n - (intOf i).toNat)
  case atStart => exact ⟨0, -1, Nat.zero_le _, rfl, rfl, hid (.inl ⟨rfl, fun j h => absurd h (Nat.not_lt_zero _)⟩), Below.refl _ _⟩
  case round =>
    obtain ⟨k, a, hk, rfl, rfl, hA, hb⟩ := hrel
    have Bh := hid hb
    by_cases hlt : k < n
    · have hlt1 : (k : Int) < (n : Int) := by omega
      obtain ⟨b, o, rfl, R0⟩ := Rh.out.row (by omega)
      have RR := R0.more hb
      have RRh := hid RR
      obtain ⟨c, hc⟩ : ∃ c, c = atR clT L k := ⟨_, rfl⟩
      have y0 := RR.at0 hlt (v := .int .u32 c.x) (by rw [hc]; rfl)
      have y1 := RR.at1 hlt (v := .int .u32 c.y) (by rw [hc]; rfl)
      have y2 := RR.at2 hlt (v := .int .i64 c.l) (by rw [hc]; rfl)
      have KC1 := hid (fun W' (h : Below w.heap.size w W') => KCh.out k hlt W' h)
      rw [← hc] at KC1
      obtain ⟨pb, hpb⟩ : ∃ b, b = P c := ⟨_, rfl⟩
      rw [← hpb] at KC1
      have hkn := hid hlt
      have hmeas := hid (tmeas n k hlt)
      have hPk := hid (show P (atR clT L k) = pb by rw [hpb, hc])
      replace hc := hid hc
      replace hpb := hid hpb
      clear R0 RR hb hk hlt
      go_wp2_with fail
      have b4 := tbelow_one wr (.cells #[.int .u32 c.x, .int .u32 c.y, .int .i64 c.l] 32)
      have P0 := hid (Blk.new wr #[.int .u32 c.x, .int .u32 c.y, .int .i64 c.l] 32)
      have E4 := hid (below2 Bh.out b4 Bh.out.size)
      have RR4 := hid (RRh.out.more b4)
      clear b4 y0 y1 y2
      have hcase := hA.out
      generalize wr.alloc (.cells #[.int .u32 c.x, .int .u32 c.y, .int .i64 c.l] 32) = W4 at *
      generalize wr.heap.size = g4 at *
      have KC4 := hid (fun u : Later W4 => KC1.out u.val (below2 E4.out u.h E4.out.size))
      have q0 := fun u : Later W4 => u.blk P0.out
      rcases hcase with ⟨rfl, hall⟩ | ⟨j, hj, rfl, hPj⟩
      · have hallh := hid hall
        clear hall
        refine wp_region_late 16 (by kernel_rfl) (by kernel_rfl) ?_
        simp only [List.take_succ_cons, List.take_zero, List.drop_succ_cons, List.drop_zero]
        iterate 16 (go_big_quiet_step ((go_at_call 21; (with_reducible exact late_call (KC4.out _)))))
        refine wpQuiet_nil ?_
        intro w5 h5'
        have h5 := late_out h5'
        have E := hid (below2 E4.out h5 E4.out.size)
        clear h5 h5' q0 KC4 P0
        cases pb with
        | true =>
          go_wp2_with fail
          refine ⟨⟨k + 1, (k : Int), by have := hkn.out; omega, by go_num, rfl, hid (.inr ⟨k, by omega, rfl, hPk.out⟩), E.out⟩, hmeas.out _ rfl⟩
        | false =>
          go_wp2_with fail
          refine ⟨⟨k + 1, -1, by have := hkn.out; omega, by go_num, rfl, hid (.inl ⟨rfl, fun i hi => ?_⟩), E.out⟩, hmeas.out _ rfl⟩
          by_cases e : i = k
          · rw [e]; exact hPk.out
          · exact hallh.out i (by omega)
      · have hjn := hid (show j < n by have := hkn.out; omega)
        have hjn1 : (j : Int) < (n : Int) := by have := hkn.out; omega
        have hj0 : (decide ((j : Int) < 0)) = false := decide_eq_false (by omega)
        have hj1 : ¬ (j : Int) < 0 := by omega
        obtain ⟨d, hd⟩ : ∃ c, c = atR clT L j := ⟨_, rfl⟩
        have q1 := fun u : Later W4 => (RR4.out.more u.h).at2 hjn.out (v := .int .i64 d.l) (by rw [hd]; rfl)
        replace hd := hid hd
        have hjk := hid (And.intro hj hPj)
        clear hj hPj
        by_cases hdl : c.l < d.l
        · have hdlB := decide_eq_true hdl
          refine wp_region_late 16 (by kernel_rfl) (by kernel_rfl) ?_
          simp only [List.take_succ_cons, List.take_zero, List.drop_succ_cons, List.drop_zero]
          iterate 16 (go_big_quiet_step ((go_at_call 21; (with_reducible exact late_call (KC4.out _)))))
          refine wpQuiet_nil ?_
          intro w5 h5'
          have h5 := late_out h5'
          have E := hid (below2 E4.out h5 E4.out.size)
          clear h5 h5' q0 q1 KC4 P0
          cases pb with
          | true =>
            go_wp2_with fail
            refine ⟨⟨k + 1, (k : Int), by have := hkn.out; omega, by go_num, rfl, hid (.inr ⟨k, by omega, rfl, hPk.out⟩), E.out⟩, hmeas.out _ rfl⟩
          | false =>
            go_wp2_with fail
            refine ⟨⟨k + 1, (j : Int), by have := hkn.out; omega, by go_num, rfl, hid (.inr ⟨j, by have := hjk.out.1; omega, rfl, hjk.out.2⟩), E.out⟩, hmeas.out _ rfl⟩
        · have hdlB := decide_eq_false hdl
          refine wp_region_late 16 (by kernel_rfl) (by kernel_rfl) ?_
          simp only [List.take_succ_cons, List.take_zero, List.drop_succ_cons, List.drop_zero]
          iterate 16 (go_big_quiet_step (fail))
          refine wpQuiet_nil ?_
          intro w5 h5'
          have h5 := late_out h5'
          have E := hid (below2 E4.out h5 E4.out.size)
          clear h5 h5' q0 q1 KC4 P0
          go_wp2_with fail
          refine ⟨⟨k + 1, (j : Int), by have := hkn.out; omega, by go_num, rfl, hid (.inr ⟨j, by have := hjk.out.1; omega, rfl, hjk.out.2⟩), E.out⟩, hmeas.out _ rfl⟩
    · have hlt1 : ¬ (k : Int) < (n : Int) := by omega
      have hkn := hid (show k = n by omega)
      clear hlt hk hb
      have hcase := hA.out
      rcases hcase with ⟨rfl, hall⟩ | ⟨j, hj, rfl, hPj⟩
      · have hallh := hid hall
        clear hall
        go_wp2_with fail
        go_ret2
        exact And.intro ⟨0, false, rfl, nofun, fun _ i hi => hallh.out i (by rw [hkn.out]; exact hi)⟩ Bh.out
      · have hjk := hid (And.intro hj hPj)
        clear hj hPj
        go_wp2_with fail
        go_ret2
        exact And.intro ⟨j, true, rfl, fun _ => ⟨by have := hjk.out.1; have := hkn.out; omega, hjk.out.2⟩, nofun⟩ Bh.out
end Go.Proofs.Ytdepmoocjnmbeaa
