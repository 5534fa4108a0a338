/-
  What the functions of package wide come to: distances, sums with their carry, comparison.
-/
import Derived.Test.YtahdhgaoofpefaaProg
import Derived.Test.YtahdhgaoofpefaaCmp
import Derived.Test.YtahdhgaoofpefaaAid
import Derived.Test.YtahdhgaoofpefaaRegion
namespace Go.Proofs.Ytahdhgaoofpefaa
open Go.RowKit
set_option maxRecDepth 100000
set_option linter.unusedVariables false

theorem add64 {x y c : Int} (hx : 0 ≤ x) (hy : 0 ≤ y) (hc0 : 0 ≤ c) (hc : c ≤ 1) (w : World) : (callFunc 79 #[.int .u64 x, .int .u64 y, .int .u64 c]).run Try.prog w =
      .ok (.value (.tuple #[.int .u64 ((x + y + c) % 18446744073709551616), .int .u64 ((x + y + c) / 18446744073709551616)])) w := by
  rw [run_callFunc_extern Try.func79 (by kernel_rfl) (by kernel_rfl) (by kernel_rfl) (e := add64Entry) (by kernel_rfl), run_add64 x y c hx hy hc0 hc]
  rfl
theorem add64s {x y c s k : Int} (hx : 0 ≤ x) (hy : 0 ≤ y) (hc0 : 0 ≤ c) (hc : c ≤ 1) (hs : s = (x + y + c) % 18446744073709551616) (hk : k = (x + y + c) / 18446744073709551616) :
    ∀ w : World, (callFunc 79 #[.int .u64 x, .int .u64 y, .int .u64 c]).run Try.prog w = .ok (.value (.tuple #[.int .u64 s, .int .u64 k])) w := by
  intro w; subst hs hk; exact add64 hx hy hc0 hc w

/-- What the sum of two comes to. -/
def loS (b d : Int) : Int := (b + d) % 18446744073709551616
def caS (b d : Int) : Int := (b + d) / 18446744073709551616
def hiS (a b c d : Int) : Int := (a + c + caS b d) % 18446744073709551616
def orI (a b : Int) : Int := if a = 0 then b else a
def cmpD (a b c d : Int) : Int := orI (cmpI a c) (cmpI b d)
def apartI (a b : Int) : Int := max a b - min a b
def clampI (n a b : Int) : Int := min (max n (min a b)) (max a b)
def sqI (n : Int) : Int := n * n

theorem sq_bd (a : Int) (ha : 0 ≤ a) (ha2 : a ≤ 4294967295) : 0 ≤ sqI a ∧ sqI a ≤ 18446744065119617025 := by
  unfold sqI
  exact ⟨Int.mul_nonneg ha ha, by have := Int.mul_le_mul ha2 ha2 ha (by omega); omega⟩
theorem clamp_bd (n a b : Int) (hn : 0 ≤ n) (hn2 : n ≤ 4294967295) (ha : 0 ≤ a) (ha2 : a ≤ 4294967295) (hb : 0 ≤ b) (hb2 : b ≤ 4294967295) : 0 ≤ clampI n a b ∧ clampI n a b ≤ 4294967295 := by
  unfold clampI; omega
theorem apartI_bd (a b : Int) (ha : 0 ≤ a) (ha2 : a ≤ 4294967295) (hb : 0 ≤ b) (hb2 : b ≤ 4294967295) : 0 ≤ apartI a b ∧ apartI a b ≤ 4294967295 := by
  unfold apartI; omega

theorem square_any (a : Int) (ha : 0 ≤ a) (ha2 : a ≤ 4294967295) (w : World) :
    Calls Try.prog 66 #[.int .u32 a] w fun e w' => e = .returned (.agg #[.int .u64 0, .int .u64 (sqI a)]) ∧ Below w.heap.size w w' := by
  have h := sq_bd a ha ha2
  have h3 : IntKind.u64.wrap (a * a) = sqI a := IntWalk.u64_in _ ⟨h.1, by have := h.2; unfold sqI at this; omega⟩
  clear h
  go_enter Try.func66, Try.ntmps66
  go_wp2
  go_returns
  exact ⟨rfl, by go_grown⟩

set_option maxHeartbeats 400000 in
theorem sum2 (a b c d : Int) (ha : 0 ≤ a) (hb : 0 ≤ b) (hc : 0 ≤ c) (hd : 0 ≤ d) (ha' : a < 18446744073709551616) (hb' : b < 18446744073709551616)
   (x : Nat) (o : Nat) (w : World) (hx : x < w.heap.size)
   (c0 : w.cell? ⟨x, o, none⟩ = some (.int .u64 a)) (c1 : w.cell? ⟨x, o+1, none⟩ = some (.int .u64 b))
   (c2 : w.cell? ⟨x, o+2, none⟩ = some (.int .u64 c)) (c3 : w.cell? ⟨x, o+3, none⟩ = some (.int .u64 d)) (hd' : d < 18446744073709551616) :
    Calls Try.prog 65 #[.slice (some ⟨x, o, none⟩) 2 2] w fun e w' => e = .returned (.agg #[.int .u64 (hiS a b c d), .int .u64 (loS b d)]) ∧ Below w.heap.size w w' := by
  have hx1 : x < w.heap.size + 1 := by omega
  have hx2 : x < w.heap.size + 2 := by omega
  have hx3 : x < w.heap.size + 3 := by omega
  have hx4 : x ≠ w.heap.size := by omega
  have hx5 : x ≠ w.heap.size + 1 := by omega
  have hx6 : x ≠ w.heap.size + 2 := by omega
  have A1 := add64s (x := 0) (y := b) (c := 0) (s := b) (k := 0) (by omega) hb (by omega) (by omega) (by omega) (by omega)
  have A2 := add64s (x := 0) (y := a) (c := 0) (s := a) (k := 0) (by omega) ha (by omega) (by omega) (by omega) (by omega)
  have A3 := add64s (x := b) (y := d) (c := 0) (s := loS b d) (k := caS b d) hb hd (by omega) (by omega) (by unfold loS; omega) (by unfold caS; omega)
  have A4 := add64s (x := a) (y := c) (c := caS b d) (s := hiS a b c d) (k := (a + c + caS b d) / 18446744073709551616) ha hc (by unfold caS; omega) (by unfold caS; omega) (by unfold hiS; omega) rfl
  clear ha hb hc hd ha' hb' hd'
  go_enter Try.func65, Try.ntmps65
  go_wp2
  go_rounds 3
  go_returns
  exact ⟨rfl, by go_grown⟩

theorem compare_u64 (a b : Int) (w : World) :
    Calls Try.prog 38 #[.int .u64 a, .int .u64 b] w fun e w' => e = .returned (.int .i64 (cmpI a b)) ∧ w' = w := by
  by_cases h1 : a < b
  · have e : cmpI a b = -1 := by simp [cmpI, h1]
    rw [e]
    clear e
    go_enter Try.func38, Try.ntmps38
    go_wp2
    go_ret
    exact ⟨rfl, rfl⟩
  · by_cases h2 : b < a
    · have e : cmpI a b = 1 := by simp [cmpI, h1, h2]
      rw [e]
      clear e
      go_enter Try.func38, Try.ntmps38
      go_wp2
      go_ret
      exact ⟨rfl, rfl⟩
    · have e : cmpI a b = 0 := by simp [cmpI, h1, h2]
      rw [e]
      clear e
      go_enter Try.func38, Try.ntmps38
      go_wp2
      go_ret
      exact ⟨rfl, rfl⟩

theorem or2 (a b : Int) (x o : Nat) (w : World)
    (c0 : w.cell? ⟨x, o, none⟩ = some (.int .i64 a)) (c1 : w.cell? ⟨x, o+1, none⟩ = some (.int .i64 b)) :
    Calls Try.prog 36 #[.slice (some ⟨x, o, none⟩) 2 2] w fun e w' => e = .returned (.int .i64 (orI a b)) ∧ w' = w := by
  by_cases h1 : a = 0
  · subst h1
    rw [show orI 0 b = b from rfl]
    by_cases h2 : b = 0
    · subst h2
      go_enter Try.func36, Try.ntmps36
      go_wp2
      go_rounds 3
      go_ret
      exact ⟨rfl, rfl⟩
    · have hb : (b != 0) = true := by simp [h2]
      go_enter Try.func36, Try.ntmps36
      go_wp2
      go_rounds 3
      go_ret
      exact ⟨rfl, rfl⟩
  · have hb : (a != 0) = true := by simp [h1]
    rw [show orI a b = a from if_neg h1]
    clear h1
    go_enter Try.func36, Try.ntmps36
    go_wp2
    go_rounds 3
    go_ret
    exact ⟨rfl, rfl⟩

theorem cmp_any (a b c d : Int) (w : World) :
    Calls Try.prog 25 #[.agg #[.int .u64 a, .int .u64 b], .agg #[.int .u64 c, .int .u64 d]] w fun e w' => e = .returned (.int .i64 (cmpD a b c d)) ∧ Below w.heap.size w w' := by
  unfold cmpD
  go_enter Try.func25, Try.ntmps25
  go_wp2
  refine wp_region_still_tail 10 (by kernel_rfl) (by kernel_rfl) ?_
  change wpStill _ _ (World.drew _) _ _ _
  simp only [List.take_succ_cons, List.take_zero, List.drop_succ_cons, List.drop_zero]
  repeat still_step
  still_call (compare_u64 _ _ _)
  repeat still_step
  still_call (compare_u64 _ _ _)
  refine wpStill_nil ?_
  change wpList _ _ _ _ _ (World.drew _)
  go_wp2_with (go_at_call 36; refine (or2 (cmpI a c) (cmpI b d) _ _ _ (by go_simp) (by go_simp)).mono ?_; rintro e w' ⟨rfl, rfl⟩)
  go_returns
  exact ⟨rfl, by go_grown⟩

theorem apart_any (a b : Int) (ha : 0 ≤ a) (ha2 : a ≤ 4294967295) (hb : 0 ≤ b) (hb2 : b ≤ 4294967295) (w : World) :
    Calls Try.prog 67 #[.int .u32 a, .int .u32 b] w fun e w' => e = .returned (.int .u32 (apartI a b)) ∧ w = w' := by
  go_enter Try.func67, Try.ntmps67
  go_wp2
  all_goals (go_ret; exact ⟨ret_int (by unfold apartI; omega), rfl⟩)

/-- Two squares, added, behind whatever ways. -/
theorem two_bd {p q : Int} (h1 : 0 ≤ p ∧ p ≤ 4294967295) (h2 : 0 ≤ q ∧ q ≤ 4294967295) : (0 ≤ sqI p ∧ sqI p < 18446744073709551616) ∧ 0 ≤ sqI q ∧ sqI q < 18446744073709551616 := by
  have a := sq_bd p h1.1 h1.2
  have b := sq_bd q h2.1 h2.2
  omega

theorem between_any (a b c d : Int) (ha : 0 ≤ a) (ha' : a ≤ 4294967295) (hb : 0 ≤ b) (hb' : b ≤ 4294967295) (hc : 0 ≤ c) (hc' : c ≤ 4294967295) (hd : 0 ≤ d) (hd' : d ≤ 4294967295) (w : World) :
    Calls Try.prog 61 #[.int .u32 a, .int .u32 b, .int .u32 c, .int .u32 d] w fun e w' => e = .returned (.agg #[.int .u64 (hiS 0 (sqI (apartI a c)) 0 (sqI (apartI b d))), .int .u64 (loS (sqI (apartI a c)) (sqI (apartI b d)))]) ∧ Below w.heap.size w w' := by
  have h1 := apartI_bd a c ha ha' hc hc'
  have h2 := apartI_bd b d hb hb' hd hd'
  obtain ⟨g1, g2⟩ := two_bd h1 h2
  have K1 := fun w => apart_any a c ha ha' hc hc' w
  have K2 := fun w => apart_any b d hb hb' hd hd' w
  generalize apartI a c = p at *
  generalize apartI b d = q at *
  have S1 := fun w => square_any p h1.1 h1.2 w
  have S2 := fun w => square_any q h2.1 h2.2 w
  generalize sqI p = pp at *
  generalize sqI q = qq at *
  have T := fun x o w hx c0 c1 c2 c3 => sum2 0 pp 0 qq (by omega) g1.1 (by omega) g2.1 (by omega) g1.2 x o w hx c0 c1 c2 c3 g2.2
  have HK1 := hid K1
  have HK2 := hid K2
  have HS1 := hid S1
  have HS2 := hid S2
  have HT := hid T
  clear K1 K2 S1 S2 T h1 h2 g1 g2 ha ha' hb hb' hc hc' hd hd'
  go_enter Try.func61, Try.ntmps61
  go_wp2_with fail
  refine (HK1.out _).mono ?_
  rintro e w' ⟨rfl, rfl⟩
  go_wp2_with fail
  refine (HS1.out _).mono ?_
  rintro e w1 ⟨rfl, hb1⟩
  have B1 := hid (Blk.more (Blk.new _ _ _) hb1)
  have H1 := hid (below2 (Below.alloc (Below.refl _ w) (Nat.le_refl _) _) hb1 (by simp))
  clear hb1
  go_wp2_with fail
  refine (HK2.out _).mono ?_
  rintro e w' ⟨rfl, rfl⟩
  go_wp2_with fail
  refine (HS2.out _).mono ?_
  rintro e w2 ⟨rfl, hb2⟩
  have B2 := hid (Blk.more B1.out hb2)
  have H2 := hid (below2 H1.out hb2 H1.out.size)
  clear hb2 B1 H1
  go_wp2_with fail
  refine (HT.out _ _ _ (by simp) (by go_simp) (by go_simp) (by go_simp) (by go_simp)).mono ?_
  rintro e w3 ⟨rfl, hb3⟩
  obtain ⟨l3, k3, f3⟩ := Blk.more (Blk.alloc B2.out _) hb3
  have H3 := hid (below2 (Below.alloc H2.out H2.out.size _) hb3 (by have := H2.out.size; simp; omega))
  clear hb3
  go_wp2
  refine bodyPost_ret (v := .agg #[.int .u64 (hiS 0 pp 0 qq), .int .u64 (loS pp qq)]) (by simp [results, Try.results61, go_sem, k3]) rfl ⟨rfl, ?_⟩
  exact Below.setCell (Below.setCell H3.out (by simp) _) (by simp) _

end Go.Proofs.Ytahdhgaoofpefaa
