/-
  Package tiles: met, of any cell and any window.
-/
import Derived.Test.YtdepmoocjnmbeaaTilesMet
namespace Go.Proofs.Ytdepmoocjnmbeaa
open Go.RowKit
set_option linter.unusedVariables false
set_option linter.unusedSimpArgs false

/-- A cell that is one. -/
structure okC (c : Cl) : Prop where
  l0 : 0 ≤ c.l
  l1 : c.l ≤ 32
  x0 : 0 ≤ c.x
  x1 : c.x ≤ 4294967295
  y0 : 0 ≤ c.y
  y1 : c.y ≤ 4294967295
  fx : floorI c.x c.l = c.x
  fy : floorI c.y c.l = c.y
/-- A window. -/
structure Rc where
  a : Int
  b : Int
  c : Int
  d : Int
abbrev Rc.v (r : Rc) : Value := rct r.a r.b r.c r.d
def kidC (c : Cl) (q : Nat) : Cl := ⟨c.x + (q : Int) % 2 * pw (c.l + 1), c.y + (q : Int) / 2 % 2 * pw (c.l + 1), c.l + 1⟩
def mtB (r : Rc) (c : Cl) : Bool := meetsB c.x c.y (c.x + (pw c.l - 1)) (c.y + (pw c.l - 1)) r.a r.b r.c r.d
def wiB (r : Rc) (c : Cl) : Bool := withinB c.x c.y (c.x + (pw c.l - 1)) (c.y + (pw c.l - 1)) r.a r.b r.c r.d
def metK (r : Rc) (c : Cl) (q : Nat) : List Cl := ((List.range q).map (kidC c)).filter (mtB r)
def metL (r : Rc) (c : Cl) : List Cl := metK r c 4
theorem metK_succ (r : Rc) (c : Cl) (q : Nat) : metK r c (q + 1) = if mtB r (kidC c q) = true then metK r c q ++ [kidC c q] else metK r c q := by
  unfold metK
  rw [List.range_succ, List.map_append, List.filter_append]
  by_cases h : mtB r (kidC c q) = true <;> simp [h]
theorem metK_len (r : Rc) (c : Cl) (q : Nat) : (metK r c q).length ≤ q := by
  have := List.length_filter_le (mtB r) ((List.range q).map (kidC c))
  simpa [metK] using this
theorem okC.top {c : Cl} (h : okC c) : c.x + pw c.l ≤ 4294967296 ∧ c.y + pw c.l ≤ 4294967296 := by
  have h1 := (tfloor_top h.x0 h.x1 h.l0 h.l1).2
  have h2 := (tfloor_top h.y0 h.y1 h.l0 h.l1).2
  rw [h.fx] at h1
  rw [h.fy] at h2
  exact ⟨h1, h2⟩
theorem okC.kid {c : Cl} (h : okC c) (hl : c.l < 32) (q : Nat) : okC (kidC c q) := by
  have t := h.top
  have h2 := pw_next h.l0 hl
  have hD := pw_bd (show (0 : Int) ≤ c.l + 1 by have := h.l0; omega) (show c.l + 1 ≤ 32 by omega)
  have b0 : (q : Int) % 2 = 0 ∨ (q : Int) % 2 = 1 := by omega
  have b1 : (q : Int) / 2 % 2 = 0 ∨ (q : Int) / 2 % 2 = 1 := by omega
  have e1 := kid_floor (x := c.x) (b := (q : Int) % 2) h.l0 hl
  have e2 := kid_floor (x := c.y) (b := (q : Int) / 2 % 2) h.l0 hl
  rw [h.fx] at e1
  rw [h.fy] at e2
  have := h.l0; have := h.x0; have := h.y0
  refine ⟨by show 0 ≤ c.l + 1; omega, by show c.l + 1 ≤ 32; omega, ?_, ?_, ?_, ?_, e1, e2⟩
  · show 0 ≤ c.x + (q : Int) % 2 * pw (c.l + 1); rcases b0 with b | b <;> rw [b] <;> omega
  · show c.x + (q : Int) % 2 * pw (c.l + 1) ≤ 4294967295; rcases b0 with b | b <;> rw [b] <;> omega
  · show 0 ≤ c.y + (q : Int) / 2 % 2 * pw (c.l + 1); rcases b1 with b | b <;> rw [b] <;> omega
  · show c.y + (q : Int) / 2 % 2 * pw (c.l + 1) ≤ 4294967295; rcases b1 with b | b <;> rw [b] <;> omega
theorem okC.lv {c : Cl} (h : okC c) : lvl c.l = c.l := by have := h.l0; have := h.l1; unfold lvl; omega
/-- Kid of a cell. -/
theorem gkid_any (c : Cl) (h : okC c) (hl : c.l < 32) (q : Nat) (w : World) : Calls Try.prog 15 #[cl c.x c.y c.l, .int .i64 (q : Int)] w fun e w' => e = .returned (cl (kidC c q).x (kidC c q).y (kidC c q).l) ∧ Below w.heap.size w w' := by
  have K := kid_any c.x c.y c.l (q : Int) h.x0 h.x1 h.y0 h.y1 w
  rw [h.lv, h.fx, h.fy] at K
  have e : kid c.x c.y c.l (q : Int) = cl (kidC c q).x (kidC c q).y (kidC c q).l := by
    show cl (kidX c.x c.l ((q : Int) % 2)) (kidX c.y c.l ((q : Int) / 2 % 2)) (kidL c.l) = _
    unfold kidX kidL
    rw [if_pos hl, if_pos hl, if_pos hl]
    rfl
  rw [e] at K
  exact K
theorem grect_any (c : Cl) (h : okC c) (w : World) : Calls Try.prog 13 #[cl c.x c.y c.l] w fun e w' => e = .returned (rct c.x c.y (c.x + (pw c.l - 1)) (c.y + (pw c.l - 1))) ∧ Below w.heap.size w w' := by
  have K := rectc_any c.x c.y c.l h.x0 h.x1 h.y0 h.y1 w
  rw [h.lv, h.fx, h.fy] at K
  exact K

set_option maxRecDepth 100000 in
set_option maxHeartbeats 8000000 in
theorem gmet_any (r : Rc) (c : Cl) (hc : okC c) (hl : c.l < 32) (w : World) :
    Calls Try.prog 22 #[cl c.x c.y c.l, r.v] w fun e w' => ∃ p cp, e = .returned (.slice p (metL r c).length cp) ∧ RowOwn clT w' w.heap.size (.slice p (metL r c).length cp) (metL r c) ∧ Below w.heap.size w w' := by
  have KK := hid (fun q w => gkid_any c hc hl q w)
  have KR := hid (fun q w => grect_any (kidC c q) (hc.kid hl q) w)
  have KM := hid (fun (k : Cl) w => meets_any k.x k.y (k.x + (pw k.l - 1)) (k.y + (pw k.l - 1)) r.a r.b r.c r.d w)
  have b1 := tbelow_one w (.cells #[.int .u32 c.x, .int .u32 c.y, .int .i64 c.l] 32)
  have b2 := tbelow_one (w.alloc (.cells #[.int .u32 c.x, .int .u32 c.y, .int .i64 c.l] 32)) (.cells #[.int .u32 r.a, .int .u32 r.b, .int .u32 r.c, .int .u32 r.d] 24)
  have B0 := hid ((Blk.new w #[.int .u32 c.x, .int .u32 c.y, .int .i64 c.l] 32).more b2)
  have B1 := Blk.new (w.alloc (.cells #[.int .u32 c.x, .int .u32 c.y, .int .i64 c.l] 32)) #[.int .u32 r.a, .int .u32 r.b, .int .u32 r.c, .int .u32 r.d] 24
  rw [show (w.alloc (.cells #[.int .u32 c.x, .int .u32 c.y, .int .i64 c.l] 32)).heap.size = w.heap.size + 1 by simp] at B1
  replace B1 := hid B1
  have D0 := hid (below2 b1 b2 b1.size)
  clear b1 b2
  go_enter Try.func22, Try.ntmps22
  go_wp2_with fail
  go_loopw [5, 8] (fun v i wr => ∃ (q : Nat) (p : Option Addr) (cp : Nat), q ≤ 4 ∧ i = .int .i64 (q : Int) ∧ v = .slice p (metK r c q).length cp ∧ Below w.heap.size w wr ∧ Blk wr w.heap.size #[.int .u32 c.x, .int .u32 c.y, .int .i64 c.l] ∧ Blk wr (w.heap.size + 1) #[.int .u32 r.a, .int .u32 r.b, .int .u32 r.c, .int .u32 r.d] ∧ RowOwn clT wr (w.heap.size + 2) (.slice p (metK r c q).length cp) (metK r c q)) (fun _ i _ => 4 - (intOf i).toNat)
  case atStart => exact ⟨0, none, 0, by omega, rfl, rfl, D0.out, B0.out, B1.out, RowOwn.nil _ _⟩
  case round =>
    obtain ⟨q, p, cp, hq, rfl, rfl, hbr, BA, BB, hrow⟩ := hrel
    have hbrh := hid hbr
    have BAh := hid BA
    have BBh := hid BB
    have hrowh := hid hrow
    by_cases hlt : q < 4
    · have hlt' : (q : Int) < 4 := by omega
      have K1 := hid (KK.out q)
      have K2 := hid (KR.out q)
      have K3 := hid (KM.out (kidC c q))
      obtain ⟨k, hk⟩ : ∃ k, k = kidC c q := ⟨_, rfl⟩
      rw [← hk] at K1 K2 K3
      have hms := metK_succ r c q
      rw [← hk] at hms
      replace hms := hid hms
      obtain ⟨M, hM⟩ : ∃ M : Bool, M = mtB r k := ⟨_, rfl⟩
      have hM' : meetsB k.x k.y (k.x + (pw k.l - 1)) (k.y + (pw k.l - 1)) r.a r.b r.c r.d = M := hM.symm
      rw [hM'] at K3
      clear hM'
      replace hM := hid hM
      replace hk := hid hk
      have hmeas := hid (tmeas 4 q hlt)
      have hqh := hid hlt
      have hlen := hid (metK_len r c q)
      clear hbr BB hrow hlt hq
      obtain ⟨la, ma, fa⟩ := BA
      obtain ⟨X1, hX1⟩ : ∃ X, X = k.x + (pw k.l - 1) := ⟨_, rfl⟩
      obtain ⟨Y1, hY1⟩ : ∃ X, X = k.y + (pw k.l - 1) := ⟨_, rfl⟩
      rw [← hX1, ← hY1] at K2 K3
      clear hX1 hY1
      go_wp2_with fail
      refine (K1.out _).mono ?_
      rintro e w3 ⟨rfl, hb3⟩
      have b4 := tbelow_one w3 (.cells #[.int .u32 k.x, .int .u32 k.y, .int .i64 k.l] 32)
      have b34 := below2 hb3 b4 hb3.size
      have B4 := Blk.new w3 #[.int .u32 k.x, .int .u32 k.y, .int .i64 k.l] 32
      have E4 := hid (below2 hbrh.out b34 hbrh.out.size)
      have BA4 := hid (BAh.out.more b34)
      have BB4 := hid (BBh.out.more b34)
      have R4 := hid (hrowh.out.more b34)
      have B4h := hid B4
      clear hb3 b4 b34 K1 la ma fa
      obtain ⟨l4, m4, f4⟩ := B4
      go_wp2_with fail
      generalize w3.alloc (.cells #[.int .u32 k.x, .int .u32 k.y, .int .i64 k.l] 32) = W4 at *
      generalize w3.heap.size = g4 at *
      have q0' := fun u : Later W4 => u.blk B4h.out
      have q1' := fun u : Later W4 => u.blk BB4.out
      clear l4 m4 f4
      refine wp_region_late 3 (by kernel_rfl) (by kernel_rfl) ?_
      simp only [List.take_succ_cons, List.take_zero, List.drop_succ_cons, List.drop_zero]
      iterate 3 (go_big_quiet_step ((go_at_call 13; (with_reducible exact late_call (K2.out _)))))
      refine wpQuiet_nil ?_
      intro w5 h5'
      have h5 := late_out h5'
      have E5 := hid (below2 E4.out h5 E4.out.size)
      have B5 := hid (B4h.out.more h5)
      have BA5 := hid (BA4.out.more h5)
      have BB5 := hid (BB4.out.more h5)
      have R5 := hid (R4.out.more h5)
      clear h5 h5' q0' q1' E4 B4h BA4 BB4 R4 K2
      go_wp2_with fail
      refine (K3.out _).mono ?_
      rintro e w6 ⟨rfl, hb6⟩
      have E6 := hid (below2 E5.out hb6 E5.out.size)
      have B6 := B5.out.more hb6
      have BA6 := hid (BA5.out.more hb6)
      have BB6 := hid (BB5.out.more hb6)
      have R6 := hid (R5.out.more hb6)
      clear hb6 K3 E5 B5 BA5 BB5 R5 hrowh hbrh
      cases M with
      | true =>
        have hmt := hid (show metK r c (q + 1) = metK r c q ++ [k] by rw [hms.out, if_pos hM.out.symm])
        have bB := tbelow_one w6 (.cells #[.int .u32 k.x, .int .u32 k.y, .int .i64 k.l] 32)
        have BN := Blk.new w6 #[.int .u32 k.x, .int .u32 k.y, .int .i64 k.l] 32
        have RN := one_cell (w := w6.alloc (.cells #[.int .u32 k.x, .int .u32 k.y, .int .i64 k.l] 32)) k BN
        have ON := R6.out.more bB
        have E7 := below2 E6.out bB E6.out.size
        have hb7 : w.heap.size + 2 ≤ (w6.alloc (.cells #[.int .u32 k.x, .int .u32 k.y, .int .i64 k.l] 32)).heap.size := by have := BB6.out.lt; have := bB.size; omega
        obtain ⟨v', w8, hr, O8, gr, mv⟩ := append_row clOk (w.heap.size + 2) 27 _ _ (metK r c q) ON (some ⟨w6.heap.size, 0, none⟩) 1 [k] RN (by have := hlen.out; have := hqh.out; show ((metK r c q).length + 1) * 16 ≤ _; omega) (by have := hlen.out; have := hqh.out; unfold maxLen; simp; omega) hb7
        obtain ⟨p8, c8, hv8, _, _, _⟩ := RowOwn.open clOk O8
        rw [← hmt.out] at hv8 O8
        subst hv8
        have hown := ON.within
        have S78 := Sole.grown (S := fun k => (Value.slice p (metK r c q).length cp).ownBlock = some k) gr (fun k e => e)
        have E8 := hid (E7.trans (S78.below (B := w.heap.size) E7.size (fun k e => by have := (hown k e).1; omega)))
        have BA8 := hid ((BA6.out.more bB).sole S78 (fun e => by have := (hown _ e).1; omega))
        have BB8 := hid ((BB6.out.more bB).sole S78 (fun e => by have := (hown _ e).1; omega))
        have O8h := hid O8
        obtain ⟨l6, m6, f6⟩ := B6
        clear S78 gr mv O8 E7 RN BN bB ON hb7 hown
        go_wp2_with (at_builtin; refine Lib.wpList_append_run _ rfl _ _ _ _ rfl _ _ rfl rfl _ _ hr ?_)
        refine ⟨⟨q + 1, p8, c8, by have := hqh.out; omega, by go_num, rfl, E8.out, BA8.out, BB8.out, O8h.out⟩, hmeas.out _ rfl⟩
      | false =>
        have hmt := hid (show metK r c (q + 1) = metK r c q by rw [hms.out, if_neg (by rw [← hM.out]; simp)])
        clear B6
        go_wp2_with fail
        refine ⟨⟨q + 1, p, cp, by have := hqh.out; omega, by go_num, by rw [hmt.out], E6.out, BA6.out, BB6.out, by rw [hmt.out]; exact R6.out⟩, hmeas.out _ rfl⟩
    · obtain rfl : q = 4 := by omega
      clear hrow hbr BA BB
      go_wp2_with fail
      go_ret
      exact ⟨p, cp, rfl, hrowh.out.mono (by omega), hbrh.out⟩
end Go.Proofs.Ytdepmoocjnmbeaa
