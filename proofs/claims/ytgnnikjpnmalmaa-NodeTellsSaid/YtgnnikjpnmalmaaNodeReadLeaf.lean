/-
  Package node: a leaf of octets.
-/
import Derived.Test.YtgnnikjpnmalmaaNodeRd
namespace Go.Proofs.Ytgnnikjpnmalmaa
open Go.RowKit
set_option linter.unusedVariables false
set_option linter.unusedSimpArgs false

theorem node_four {w : World} {v0 v1 v2 v3 : Value} {t : TypeId} : ∀ j u, [v0, v1, v2, v3][j]? = some u → (w.alloc (.cells #[v0, v1, v2, v3] t)).cell? (Addr.add ⟨w.heap.size, 0, none⟩ j) = some u := by
  intro j u hj
  match j, hj with
  | 0, hj => simp at hj; subst hj; simp [Addr.add]
  | 1, hj => simp at hj; subst hj; simp [Addr.add]
  | 2, hj => simp at hj; subst hj; simp [Addr.add]
  | 3, hj => simp at hj; subst hj; simp [Addr.add]
/-- A node that is, or would be, a leaf. -/
abbrev lfcells (lf : Bool) (v : Value) (nx : Int) : Array Value := #[.bool lf, v, .int .i64 nx, .int .i64 0, .int .i64 0, .int .i64 0, .int .i64 0, .int .i64 0, .int .i64 0, .int .i64 0, .int .i64 0]
abbrev lfval (lf : Bool) (v : Value) (nx : Int) : Value := .agg #[.bool lf, v, .int .i64 nx, .int .i64 0, .int .i64 0, .int .i64 0, .int .i64 0, .int .i64 0, .int .i64 0, .int .i64 0, .int .i64 0]
def LeafPost (q : Nat) (l : List UInt8) (bad : Bool) (w : World) (e : Ending) (w' : World) : Prop :=
  ∃ v L nx ok rest bad', e = .returned (.tuple #[lfval ok v nx, .bool ok]) ∧ RS w' q rest bad' ∧ PtsOwn w' w.heap.size v L ∧ Sole (fun k => k = q) w w' ∧
    ((ok = true ∧ bad' = true ∧ (bad = true ∨ l.length < 2)) ∨
      (ok = true ∧ bad' = false ∧ bad = false ∧ 2 ≤ l.length ∧ nx = byteAt l 0 ∧ rdK (l.drop 2) (byteAt l 1) = some (L, rest)) ∨
      (ok = false ∧ nx = 0 ∧ v = .slice none 0 0 ∧ bad = false ∧ 2 ≤ l.length ∧ rdK (l.drop 2) (byteAt l 1) = none))
theorem leaf_states (l : List UInt8) (bad : Bool) : ∃ (b1 b2 : Bool) (r1 r2 : List UInt8) (x1 x2 : Nat),
    (b1 = (bad || decide (l.length < 1)) ∧ r1 = (if b1 then [] else l.drop 1) ∧ x1 = numOf (if b1 then [] else l.take 1)) ∧
    (b2 = (b1 || decide (r1.length < 1)) ∧ r2 = (if b2 then [] else r1.drop 1) ∧ x2 = numOf (if b2 then [] else r1.take 1)) ∧ x1 < 256 ∧ x2 < 256 ∧
    ((b2 = true ∧ x2 = 0 ∧ (bad = true ∨ l.length < 2)) ∨ (b2 = false ∧ bad = false ∧ 2 ≤ l.length ∧ x1 = byteAt l 0 ∧ x2 = byteAt l 1 ∧ r2 = l.drop 2)) := by
  have bd : ∀ (b : Bool) (m : List UInt8), numOf (if b then [] else m.take 1) < 256 := by
    intro b m
    cases b with
    | true => simp [numOf]
    | false =>
      have := numOf_lt (m.take 1)
      have hp : (256 : Nat) ^ (m.take 1).length ≤ 256 ^ 1 := Nat.pow_le_pow_right (by omega) (by rw [List.length_take]; omega)
      simp only [Bool.false_eq_true, if_false]
      omega
  refine ⟨_, _, _, _, _, _, ⟨rfl, rfl, rfl⟩, ⟨rfl, rfl, rfl⟩, bd _ _, bd _ _, ?_⟩
  cases bad with
  | true => exact .inl ⟨by simp, by simp [numOf], .inl rfl⟩
  | false =>
    match l with
    | [] => exact .inl ⟨by simp, by simp [numOf], .inr (by simp)⟩
    | [x] => exact .inl ⟨by simp, by simp [numOf], .inr (by simp)⟩
    | x :: y :: m => exact .inr ⟨by simp, rfl, by simp, by simp [numOf, byteAt], by simp [numOf, byteAt], by simp⟩

set_option maxRecDepth 100000 in
set_option maxHeartbeats 16000000 in
theorem readLeaf_any (q : Nat) (l : List UInt8) (bad : Bool) (w : World) (R : RS w q l bad) :
    Calls Try.prog 89 #[at' q] w (LeafPost q l bad w) := by
  obtain ⟨i0, hi, hz0, hz1, hz2⟩ := info_parts ptTab
  obtain ⟨b1, b2, r1, r2, x1, x2, ⟨e1, e2, e3⟩, ⟨e4, e5, e6⟩, x1b, x2b, fin⟩ := leaf_states l bad
  have KK1 := fun w R => rs_num 1 1 rfl q l bad b1 e1 w R
  have KK2 := fun w R => rs_num 1 1 rfl q r1 b1 b2 e4 w R
  simp only [← e2, ← e3] at KK1
  simp only [← e5, ← e6] at KK2
  obtain ⟨W0, hW0⟩ : ∃ W0, w.alloc (.cells (lfcells false (.slice none 0 0) 0) 61) = W0 := ⟨_, rfl⟩
  have hb0 : Below w.heap.size w W0 := by rw [← hW0]; exact (Below.refl _ _).alloc (Nat.le_refl _) _
  have BZ : Blk W0 w.heap.size (lfcells false (.slice none 0 0) 0) := by rw [← hW0]; exact Blk.new w _ _
  have hqw := R.1.lt
  have K1 := hid (KK1 W0 (R.more hb0))
  have S0 := hid (Sole.made (S := fun k => k = q) hb0)
  have HBZ := hid BZ
  have EB : Hid (∀ w' v L nx rest, b2 = true → RS w' q rest b2 → PtsOwn w' w.heap.size v L → Sole (fun k => k = q) w w' → LeafPost q l bad w (.returned (.tuple #[lfval true v nx, .bool true])) w') := hid (fun w' v L nx rest h R' O' S' => by
    rcases fin with ⟨f1, f2, f3⟩ | ⟨f1, _⟩
    · exact ⟨v, L, nx, true, rest, b2, rfl, R', O', S', .inl ⟨rfl, h, f3⟩⟩
    · rw [f1] at h; cases h)
  have EG : Hid (∀ w' v L rest, b2 = false → RS w' q rest b2 → PtsOwn w' w.heap.size v L → Sole (fun k => k = q) w w' → rdK r2 x2 = some (L, rest) → LeafPost q l bad w (.returned (.tuple #[lfval true v x1, .bool true])) w') := hid (fun w' v L rest h R' O' S' hk => by
    rcases fin with ⟨f1, _⟩ | ⟨f1, f2, f3, f4, f5, f6⟩
    · rw [f1] at h; cases h
    · exact ⟨v, L, x1, true, rest, b2, rfl, R', O', S', .inr (.inl ⟨rfl, h, f2, f3, by rw [f4], by rw [← f5, ← f6]; exact hk⟩)⟩)
  have EN : Hid (∀ w' rest bad', b2 = false → RS w' q rest bad' → Sole (fun k => k = q) w w' → rdK r2 x2 = none → LeafPost q l bad w (.returned (.tuple #[lfval false (.slice none 0 0) 0, .bool false])) w') := hid (fun w' rest bad' h R' S' hk => by
    rcases fin with ⟨f1, _⟩ | ⟨f1, f2, f3, f4, f5, f6⟩
    · rw [f1] at h; cases h
    · exact ⟨.slice none 0 0, [], 0, false, rest, bad', rfl, R', PtsOwn.nil _ _, S', .inr (.inr ⟨rfl, rfl, rfl, f2, f3, by rw [← f5, ← f6]; exact hk⟩)⟩)
  have hx2 : Hid (b2 = true → x2 = 0) := hid (fun h => by
    rcases fin with ⟨_, f2, _⟩ | ⟨f1, _⟩
    · exact f2
    · rw [f1] at h; cases h)
  replace KK2 := hid KK2
  clear e1 e2 e3 e4 e5 e6 fin KK1 BZ hb0 R
  obtain ⟨lz, kz, fz⟩ := HBZ.out
  go_enter Try.func89, Try.ntmps89
  go_wp2_with fail
  refine K1.out.mono ?_
  rintro e w1 ⟨rfl, R1, S1⟩
  have hs0 : w.heap.size < W0.heap.size := HBZ.out.lt
  have HZ1 := hid (HBZ.out.sole S1 (fun h => by have h' : w.heap.size = q := h; omega))
  have S2 := S0.out.trans S1
  have hbA : Below w1.heap.size w1 (w1.alloc (.cells (lfcells true (.slice none 0 0) x1) 61)) := (Below.refl _ _).alloc (Nat.le_refl _) _
  have BN := Blk.new w1 (lfcells true (.slice none 0 0) x1) 61
  have hg1 := HZ1.out.lt
  obtain ⟨g, hg⟩ : ∃ g, w1.heap.size = g := ⟨_, rfl⟩
  have hgz : w.heap.size < g := by omega
  rw [hg] at BN
  have K2 := hid (KK2.out _ (R1.more hbA))
  have HN := hid BN
  have HZ2 := hid (HZ1.out.more hbA)
  have SS2 := hid (S2.trans (Sole.made (S := fun k => k = q) hbA))
  simp only [hg]
  clear K1 R1 S1 HZ1 S2 hbA BN hg1 S0 lz kz fz
  go_wp2_with fail
  refine K2.out.mono ?_
  rintro e w3 ⟨rfl, R3, S3⟩
  have HN3 := hid (HN.out.sole S3 (fun h => by have h' : g = q := h; omega))
  have HZ3 := hid (HZ2.out.sole S3 (fun h => by have h' : w.heap.size = q := h; omega))
  have SS3 := hid (SS2.out.trans S3)
  have RR3 := hid R3
  clear K2 HN HZ2 SS2 S3 R3
  go_wp2_with fail
  go_loopw [12, 5, 6] (fun c z5 z6 wx => ∃ (i : Nat) (L : List Pt) (v : Value) (rest : List UInt8), i ≤ x2 ∧ c = .int .i64 (i : Int) ∧ L.length = i ∧ rdK r2 i = some (L, rest) ∧ Blk wx g (lfcells true v x1) ∧ PtsOwn wx (g + 1) v L ∧ RS wx q rest b2 ∧ Blk wx w.heap.size (lfcells false (.slice none 0 0) 0) ∧ Sole (fun k => k = q) w wx) (fun c _ _ _ => x2 - (intOf c).toNat)
  case atStart => exact ⟨0, [], .slice none 0 0, r2, by omega, rfl, rfl, rfl, HN3.out, PtsOwn.nil _ _, RR3.out, HZ3.out, SS3.out⟩
  case round =>
    clear HN3 RR3 HZ3 SS3
    obtain ⟨i, L, v, rest, hik, rfl, hL, hk, BN, OV, R, BZ, S⟩ := hrel
    have hvg := fun k hk => (OV.lt k hk).1
    by_cases hlt : i < x2
    · have hb2 : b2 = false := by
        cases hb : b2 with
        | false => rfl
        | true => have := hx2.out hb; omega
      have KG := hid (point_get q rest b2 wr R)
      have HBN := hid BN
      have HBZ' := hid BZ
      have HOV := hid OV
      have HS := hid S
      have Hk := hid hk
      have Hvg := hid hvg
      have hb2' := hid hb2
      clear BN BZ OV S hk hvg R hb2 HBZ
      go_wp2_with fail
      refine KG.out.mono ?_
      rintro e w7 ⟨P, ok, l', bad', rfl, GS, R7, S7⟩
      have B7 := HBN.out.sole S7 (fun h => by have h' : g = q := h; omega)
      have Z7 := HBZ'.out.sole S7 (fun h => by have h' : w.heap.size = q := h; omega)
      have O7 := HOV.out.sole S7 (fun k hk h => by have h' : k = q := h; have := Hvg.out k hk; omega)
      have T7 := HS.out.trans S7
      have hbA : Below w7.heap.size w7 (w7.alloc (.cells #[.int .i64 P.id, .int .u32 P.x, .int .u32 P.y, .string P.d] 33)) := (Below.refl _ _).alloc (Nat.le_refl _) _
      have BP := hid (Blk.new w7 #[.int .i64 P.id, .int .u32 P.x, .int .u32 P.y, .string P.d] 33)
      have HB8 := hid (B7.more hbA)
      have HZ8 := hid (Z7.more hbA)
      have HO8 := hid (O7.more hbA)
      have T8 := hid (T7.trans (Sole.made (S := fun k => k = q) hbA))
      have R8 := hid (R7.more hbA)
      have hg7 := B7.lt
      have HGS := hid GS
      clear HBN HBZ' HOV HS S7 R7 B7 Z7 O7 T7 hbA KG GS
      cases ok with
      | false =>
        have hnone := hid (show rdK r2 x2 = none by
          refine rdK_none r2 (i := i + 1) (rdK_stop Hk.out ?_) x2 (by omega)
          rintro ⟨q1, q2⟩
          rcases HGS.out with ⟨_, _, _, _, ⟨_, _, h⟩ | ⟨h, _⟩⟩ | ⟨h, _⟩
          · cases h
          · exact h q2
          · rcases h with h | h
            · rw [hb2'.out] at h; cases h
            · omega)
        obtain ⟨lz, kz, fz⟩ := HZ8.out
        go_wp2_with fail
        have B2 := Blk.fill (lfcells false (.slice none 0 0) 0).toList 0 HZ8.out (by simp)
        have hb9 := hid (T8.out.trans' (T := fun k => k = w.heap.size) (sole_fill (b := w.heap.size) (lfcells false (.slice none 0 0) 0).toList 0 _) (fun k hk h => by have h' : k = w.heap.size := h; omega))
        have R9 := hid (R8.out.kept (sole_fill (b := w.heap.size) (lfcells false (.slice none 0 0) 0).toList 0 _) (fun k hk h => by have h' : k = w.heap.size := h; omega))
        show bodyPost _ _ _ _ _ (setAll _ w.heap.size 0 (lfcells false (.slice none 0 0) 0).toList)
        generalize hwx : setAll _ w.heap.size 0 (lfcells false (.slice none 0 0) 0).toList = w9 at *
        obtain ⟨l7, k7, f7⟩ := B2
        refine bodyPost_ret (v := .tuple #[lfval false (.slice none 0 0) 0, .bool false]) (by simp [results, Try.results89, go_sem, k7, fillC]) rfl ?_
        exact EN.out w9 l' bad' hb2'.out R9.out hb9.out hnone.out
      | true =>
        obtain ⟨g1, g2, rfl, rfl, rfl⟩ : 13 + lenAt rest ≤ rest.length ∧ (pointOf rest).may ∧ bad' = false ∧ l' = rest.drop (13 + lenAt rest) ∧ P = pointOf rest := by
          rcases HGS.out with ⟨_, h1, h2, h3, ⟨h4, h5, _⟩ | ⟨_, _, h⟩⟩ | ⟨_, _, h, _⟩
          · exact ⟨h1, h4, h2, h3, h5⟩
          · cases h
          · cases h
        have hk1 := hid (rdK_step Hk.out g1 g2)
        have hL1 := hid (show (L ++ [pointOf rest]).length = i + 1 by rw [List.length_append, hL]; rfl)
        replace g1 := hid g1
        replace g2 := hid g2
        have hown0 := HO8.out
        unfold PtsOwn at hown0
        rw [hL] at hown0
        have hfl := hid (show flatP L ++ [Value.int .i64 (pointOf rest).id, .int .u32 (pointOf rest).x, .int .u32 (pointOf rest).y, .string (pointOf rest).d] = flatP (L ++ [pointOf rest]) by rw [flatP_append, flatP_one]; rfl)
        have hi8 : i ≤ 255 := by omega
        generalize pointOf rest = P at *
        generalize 13 + lenAt rest = m13 at *
        have hnews : ∀ j u, [Value.int .i64 P.id, .int .u32 P.x, .int .u32 P.y, .string P.d][j]? = some u → ((w7.alloc (.cells #[.int .i64 P.id, .int .u32 P.x, .int .u32 P.y, .string P.d] 33)).alloc (.cells #[.int .i64 P.id, .int .u32 P.x, .int .u32 P.y, .string P.d] 33)).cell? (Addr.add ⟨w7.heap.size + 1, 0, none⟩ j) = some u := by
          have h := node_four (w := w7.alloc (.cells #[.int .i64 P.id, .int .u32 P.x, .int .u32 P.y, .string P.d] 33)) (v0 := .int .i64 P.id) (v1 := .int .u32 P.x) (v2 := .int .u32 P.y) (v3 := .string P.d) (t := 33)
          rwa [World.size_alloc] at h
        obtain ⟨ln, kn, fn⟩ := HB8.out
        clear HGS Hk HO8
        replace hnews := hid hnews
        go_wp2_with (at_builtin; refine wpList_append_own _ rfl _ _ 51 rfl (g + 1) 33 i0 (.agg #[.int .i64 0, .int .u32 0, .int .u32 0, .string ByteArray.empty]) 4 32 Try.underlying51 hi hz0 hz1 hz2 rfl (by decide) v i (flatP L) rfl (hown0.alloc _) ⟨w7.heap.size + 1, 0, none⟩ 1 1 [.int .i64 P.id, .int .u32 P.x, .int .u32 P.y, .string P.d] rfl rfl hnews.out ?c2 ?c3 ?c4 ?c5 ?_)
        case c2 => intro u hu; simp at hu; rcases hu with rfl | rfl | rfl | rfl <;> rfl
        case c3 => unfold maxLen; omega
        case c4 => omega
        case c5 => simp; omega
        intro v9 w9 hown hgrow hne
        rw [hfl.out] at hown
        have hO9 : PtsOwn w9 (g + 1) v9 (L ++ [P]) := by unfold PtsOwn; rw [hL1.out]; exact hown
        obtain ⟨pv9, cv9, hv9, _, _, _⟩ := hO9.open
        rw [hL1.out] at hv9
        subst hv9
        have S9 := Sole.grown (S := fun k => v.ownBlock = some k) hgrow fun k hk => hk
        have ag : ¬ v.ownBlock = some g := fun h => by have := Hvg.out g h; omega
        have az : ¬ v.ownBlock = some w.heap.size := fun h => by have := Hvg.out _ h; omega
        have HN9 := hid ((HB8.out.alloc _).sole S9 ag)
        have HZ9 := (HZ8.out.alloc _).sole S9 az
        have R9 := (R8.out.more ((Below.refl _ _).alloc (Nat.le_refl _) (.cells #[.int .i64 P.id, .int .u32 P.x, .int .u32 P.y, .string P.d] 33))).kept S9 (fun k hk h => by have := Hvg.out k h; omega)
        have T9 := (T8.out.trans (Sole.alloc _ (.cells #[.int .i64 P.id, .int .u32 P.x, .int .u32 P.y, .string P.d] 33))).trans' S9 (fun k hk h => by have := Hvg.out k h; omega)
        clear ln kn fn S9 hgrow hne hown HB8 HZ8 R8 T8
        obtain ⟨ln, kn, fn⟩ := HN9.out
        go_wp2_with fail
        have S10 : Sole (fun j => j = g) w9 (w9.setCell ⟨g, 1, none⟩ (.slice pv9 (i + 1) cv9)) := Sole.setCell _ _ rfl
        have E1 := hid (HN9.out.set 1 (.slice pv9 (i + 1) cv9) (by simp))
        have E2 := hid (hO9.sole S10 (fun k hk h => by have h' : k = g := h; have := (hO9.lt k hk).1; omega))
        have E3 := hid (R9.kept S10 (fun k hk h => by have h' : k = g := h; omega))
        have E4 := hid (HZ9.sole S10 (fun h => by have h' : w.heap.size = g := h; omega))
        have E5 := hid (T9.trans' S10 (fun k hk h => by have h' : k = g := h; omega))
        clear S10 HN9 hO9 R9 HZ9 T9 ln kn fn
        go_roundw
        case rel => exact ⟨i + 1, _, _, _, by omega, by go_num, hL1.out, hk1.out, E1.out, E2.out, by rw [hb2'.out]; exact E3.out, E4.out, E5.out⟩
        case measure => simp [intOf]; omega
    · obtain rfl : i = x2 := by omega
      have HO := hid (show PtsOwn wr w.heap.size v L from own_base OV (by omega))
      have HBZ' := hid BZ
      obtain ⟨pv, cv, hv, _, _, _⟩ := OV.open
      rw [hL] at hv
      subst hv
      replace hL := hid hL
      obtain ⟨ln, kn, fn⟩ := BN
      obtain ⟨lz', kz', fz'⟩ := BZ
      have hqz : q ≠ w.heap.size := by omega
      have T := hid (S.trans' (T := fun k => k = w.heap.size) (sole_fill (b := w.heap.size) (lfcells true (.slice pv i cv) x1).toList 0 wr) (fun k hk h => by have h' : k = w.heap.size := h; omega))
      have R9 := hid (R.kept (sole_fill (b := w.heap.size) (lfcells true (.slice pv i cv) x1).toList 0 wr) (fun k hk h => by have h' : k = w.heap.size := h; omega))
      have O9 := hid (HO.out.sole (sole_fill (b := w.heap.size) (lfcells true (.slice pv i cv) x1).toList 0 wr) (fun k hk h => by have h' : k = w.heap.size := h; have := hvg k hk; omega))
      have B2 := Blk.fill (lfcells true (.slice pv i cv) x1).toList 0 HBZ'.out (by simp)
      replace hk := hid hk
      clear OV R S hvg HBZ HO HBZ'
      go_wp2_with fail
      show bodyPost _ _ _ _ _ (setAll wr w.heap.size 0 (lfcells true (.slice pv i cv) x1).toList)
      generalize setAll wr w.heap.size 0 (lfcells true (.slice pv i cv) x1).toList = w9 at *
      obtain ⟨l7, k7, f7⟩ := B2
      refine bodyPost_ret (v := .tuple #[lfval true (.slice pv i cv) x1, .bool true]) (by simp [results, Try.results89, go_sem, k7, fillC]) rfl ?_
      cases hb : b2 with
      | true => exact EB.out w9 _ L x1 rest hb (hb ▸ R9.out) O9.out T.out
      | false => exact EG.out w9 _ L rest hb (hb ▸ R9.out) O9.out T.out hk.out
end Go.Proofs.Ytgnnikjpnmalmaa
