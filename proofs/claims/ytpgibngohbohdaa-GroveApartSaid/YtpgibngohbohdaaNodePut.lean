/-
  Package node: Check, and a node's octets.
-/
import Derived.Test.YtpgibngohbohdaaNode
namespace Go.Proofs.Ytpgibngohbohdaa
open Go.RowKit
set_option linter.unusedVariables false
set_option linter.unusedSimpArgs false

def nodeC (b : Bool) : Int := if b then 0 else 9
set_option maxRecDepth 100000 in
set_option maxHeartbeats 4000000 in
theorem ncheck_any (lf : Bool) (p : Option Addr) (n cap : Nat) (f : Nat → Pt) (hf : ∀ i, i < n → (f i).ok) (nx : Int) (k c : Nat → Int) (h1 : n ≤ cap) (h2 : cap ≤ maxLen) (w : World) (HR : RowP w p 4 n (fun i => pcells (f i))) :
    Calls Try.prog 58 #[ndval lf (.slice p n cap) nx k c] w fun e w' => e = .returned (.int .i64 (nodeC (nodeB lf n f nx k c))) ∧ Below w.heap.size w w' := by
  have hb0 : Below w.heap.size w (w.alloc (.cells (ndcells lf (.slice p n cap) nx k c) 56)) := (Below.refl _ _).alloc (Nat.le_refl _) _
  have BX := Blk.new w (ndcells lf (.slice p n cap) nx k c) 56
  have D0 := hid hb0
  have HBX := hid BX
  have KL := hid (leaf_any lf p n cap f hf nx k c h1 h2 _ (HR.more hb0))
  have KO := hid (other_any lf p n cap nx k c h1 h2 (w.alloc (.cells (ndcells lf (.slice p n cap) nx k c) 56)))
  have hB : nodeB lf n f nx k c = if lf then leafB n f nx k c else otherB n nx k c := rfl
  generalize nodeB lf n f nx k c = B at *
  generalize leafB n f nx k c = BL at *
  generalize otherB n nx k c = BO at *
  unfold maxLen at h2
  clear hb0 BX HR hf
  cases lf with
  | true =>
    obtain rfl : B = BL := hB
    clear KO
    obtain ⟨lx, kx, fx⟩ := HBX.out
    go_enter Try.func58, Try.ntmps58
    go_wp2_with fail
    refine KL.out.mono ?_
    rintro e w1 ⟨rfl, hb⟩
    have D1 := hid (below2 D0.out hb D0.out.size)
    have HB := HBX.out.more hb
    clear lx kx fx hb HBX KL
    obtain ⟨lx, kx, fx⟩ := HB
    cases B
    all_goals
      go_wp2_with fail
      go_ret
      exact ⟨rfl, D1.out⟩
  | false =>
    obtain rfl : B = BO := hB
    clear KL
    obtain ⟨lx, kx, fx⟩ := HBX.out
    go_enter Try.func58, Try.ntmps58
    go_wp2_with fail
    refine KO.out.mono ?_
    rintro e w1 ⟨rfl, hb⟩
    have D1 := hid (below2 D0.out hb D0.out.size)
    clear lx kx fx hb HBX KO
    cases B
    all_goals
      go_wp2_with fail
      go_ret
      exact ⟨rfl, D1.out⟩

/-- An Out that holds l, where all went well, and a block that is none of its own. -/
def WB (w0 : World) (p : Nat) (room : Int) (g : Nat) (cc : Array Value) (w : World) (l : List UInt8) : Prop := ∃ a, OutS w p a room l 0 ∧ Below p w0 w ∧ ¬ Mine p a g ∧ Blk w g cc
theorem WB.new {w0 w : World} {p : Nat} {room : Int} {l : List UInt8} (h : WS w0 p room w l) (cc : Array Value) (t : TypeId) : WB w0 p room w.heap.size cc (w.alloc (.cells cc t)) l := by
  obtain ⟨a, O, hb⟩ := h
  have hba : Below w.heap.size w (w.alloc (.cells cc t)) := (Below.refl _ _).alloc (Nat.le_refl _) _
  refine ⟨a, O.more hba, hb.trans (hba.mono (Nat.le_of_lt O.lt)), fun hk => ?_, Blk.new w cc t⟩
  have := (O.mine hk).2
  omega
theorem WB.ws {w0 w : World} {p g : Nat} {room : Int} {cc : Array Value} {l : List UInt8} (h : WB w0 p room g cc w l) : WS w0 p room w l := by
  obtain ⟨a, O, hb, _⟩ := h; exact ⟨a, O, hb⟩
theorem WB.blk {w0 w : World} {p g : Nat} {room : Int} {cc : Array Value} {l : List UInt8} (h : WB w0 p room g cc w l) : Blk w g cc := by
  obtain ⟨_, _, _, _, B⟩ := h; exact B
theorem wb_num {w0 w : World} {p g : Nat} {room : Int} {cc : Array Value} {l : List UInt8} (h : WB w0 p room g cc w l) (h0 : 0 ≤ room) (h1 : room ≤ 65536) (N size : Int) (m : Nat) (hm : min (max size 1) 6 = m) (n0 : 0 ≤ N) (n1 : N < (256 : Int) ^ m) (hr : (l.length : Int) + m ≤ room) :
    Calls Try.prog 75 #[at' p, .int .i64 N, .int .i64 size] w fun en w' => en = .returned (.tuple #[]) ∧ WB w0 p room g cc w' (l ++ leB N.toNat m) := by
  obtain ⟨a, O, hb, hn, B⟩ := h
  refine (ow_num N size m hm p a room l (l ++ leB N.toNat m) 0 0 w O h0 h1 (by omega) (.inr (.inr (.inl ⟨rfl, by omega, hr, rfl, rfl⟩)))).mono ?_
  rintro en w' ⟨he, a', O', G⟩
  refine ⟨he, a', O', hb.trans (O.below G), ?_, B.sole G.sole hn⟩
  rintro (h | ⟨x, hx, hxb⟩)
  · exact hn (.inl h)
  · rcases G.new with e | ⟨g', e, hg'⟩
    · exact hn (.inr ⟨x, e ▸ hx, hxb⟩)
    · rw [e] at hx
      cases hx
      have := B.lt
      simp only at hxb
      omega

/-- The octets of points, one behind the other. -/
def ptsB (f : Nat → Pt) : Nat → List UInt8
  | 0 => []
  | i + 1 => ptsB f i ++ pointB (f i)
theorem ptsB_length (f : Nat → Pt) : ∀ n, (∀ i, i < n → (f i).d.size ≤ 16) → (ptsB f n).length ≤ 29 * n
  | 0, _ => Nat.le_refl _
  | n + 1, h => by
    have h1 := ptsB_length f n fun i hi => h i (by omega)
    have h2 := h n (by omega)
    simp only [ptsB, List.length_append, pointB_length]
    omega
def numsB (g : Nat → Int) (s : Nat) : Nat → List UInt8
  | 0 => []
  | q + 1 => numsB g s q ++ leB (g q).toNat s
theorem numsB_length (g : Nat → Int) (s : Nat) : ∀ n, (numsB g s n).length = s * n
  | 0 => rfl
  | n + 1 => by simp only [numsB, List.length_append, numsB_length g s n, leB_length]; rw [Nat.mul_succ]
def lheadB (nx : Int) (n : Nat) : List UInt8 := [] ++ leB (1 : Int).toNat 1 ++ leB nx.toNat 1 ++ leB (n : Int).toNat 1
theorem lheadB_length (nx : Int) (n : Nat) : (lheadB nx n).length = 3 := by simp [lheadB, leB_length]
def leafO (nx : Int) (n : Nat) (f : Nat → Pt) : List UInt8 := lheadB nx n ++ ptsB f n
def otherO (k c : Nat → Int) : List UInt8 := [] ++ leB (0 : Int).toNat 1 ++ numsB k 1 4 ++ numsB c 2 4
def nodeO (lf : Bool) (n : Nat) (f : Nat → Pt) (nx : Int) (k c : Nat → Int) : List UInt8 := if lf then leafO nx n f else otherO k c
def nodeL (lf : Bool) (n : Nat) (f : Nat → Pt) (nx : Int) (k c : Nat → Int) : List UInt8 := if nodeB lf n f nx k c then nodeO lf n f nx k c else []
theorem goodL_may {f : Nat → Pt} {i : Nat} (h : goodL f i = true) : (f i).may := by
  unfold goodL at h
  simp only [Bool.and_eq_true, decide_eq_true_eq] at h
  exact h.1
theorem leafB_parts {n : Nat} {f : Nat → Pt} {nx : Int} {k c : Nat → Int} (h : leafB n f nx k c = true) : n ≤ 4 ∧ 0 ≤ nx ∧ nx ≤ 255 ∧ zeroA k = true ∧ zeroA c = true ∧ ∀ i, i < n → goodL f i = true := by
  unfold leafB at h
  simp only [Bool.and_eq_true, decide_eq_true_eq] at h
  exact ⟨h.1, h.2.1, h.2.2.1, h.2.2.2.1, h.2.2.2.2.1, (allL_iff f n).1 h.2.2.2.2.2⟩
theorem otherB_parts {n : Nat} {nx : Int} {k c : Nat → Int} (h : otherB n nx k c = true) : n = 0 ∧ nx = 0 ∧ ∀ i, i < 4 → 0 ≤ k i ∧ k i ≤ 255 ∧ 0 ≤ c i ∧ c i ≤ 65535 ∧ (k i = 0 ↔ c i = 0) := by
  unfold otherB at h
  simp only [Bool.and_eq_true, decide_eq_true_eq] at h
  exact ⟨h.1, h.2.1, fun i hi => (goodQ_iff _ _).1 ((allQ_iff k c 4).1 h.2.2 i hi)⟩

set_option maxRecDepth 100000 in
set_option maxHeartbeats 4000000 in
theorem putLeaf_any (p : Option Addr) (n cap : Nat) (f : Nat → Pt) (hf : ∀ i, i < n → (f i).ok) (nx : Int) (k c : Nat → Int) (h1 : n ≤ cap) (h2 : cap ≤ maxLen) (w0 w : World) (HR : RowP w0 p 4 n (fun i => pcells (f i))) (hB : leafB n f nx k c = true) (hW : WS w0 w0.heap.size 256 w []) :
    Calls Try.prog 102 #[at' w0.heap.size, ndval true (.slice p n cap) nx k c] w fun e w' => e = .returned (.tuple #[]) ∧ WS w0 w0.heap.size 256 w' (leafO nx n f) := by
  obtain ⟨n4, x0, x1, _, _, hg⟩ := leafB_parts hB
  have B0 := WB.new hW (ndcells true (.slice p n cap) nx k c) 56
  have HR0 := hid HR
  have HF := hid hf
  have HG := hid hg
  have hgs : w.heap.size = w.heap.size := rfl
  generalize hP : w0.heap.size = P at *
  have HP := hid hP
  have HX := hid B0.blk
  have K1 := hid (wb_num B0 (by omega) (by omega) 1 1 1 rfl (by omega) (by omega) (by simp))
  unfold maxLen at h2
  clear HR hf hg hB hW hP
  obtain ⟨lx, kx, fx⟩ := HX.out
  go_enter Try.func102, Try.ntmps102
  go_wp2_with fail
  refine K1.out.mono ?_
  rintro e w1 ⟨rfl, B1⟩
  have HX1 := B1.blk
  have K2 := hid (wb_num B1 (by omega) (by omega) nx 1 1 rfl (by omega) (by omega) (by simp [leB_length]))
  clear lx kx fx HX K1 B1 B0
  obtain ⟨lx, kx, fx⟩ := HX1
  go_wp2_with fail
  refine K2.out.mono ?_
  rintro e w2 ⟨rfl, B2⟩
  have HX2 := B2.blk
  have K3 := hid (wb_num B2 (by omega) (by omega) n 1 1 rfl (by omega) (by omega) (by simp [leB_length]))
  clear lx kx fx K2 B2
  obtain ⟨lx, kx, fx⟩ := HX2
  go_wp2_with fail
  refine K3.out.mono ?_
  rintro e w3 ⟨rfl, B3⟩
  have HX3 := B3.blk
  have W3 := B3.ws
  rw [show [] ++ leB (1 : Int).toNat 1 ++ leB nx.toNat 1 ++ leB (n : Int).toNat 1 = lheadB nx n from rfl] at W3
  replace W3 := hid W3
  clear lx kx fx K3 B3
  obtain ⟨lx, kx, fx⟩ := HX3
  go_wp2_with fail
  clear lx kx fx
  go_loopw [20, 5] (fun i z5 wx => ∃ q : Nat, q ≤ n ∧ i = .int .i64 (q : Int) ∧ WS w0 P 256 wx (lheadB nx n ++ ptsB f q)) (fun i _ _ => n - (intOf i).toNat)
  case atStart => exact ⟨0, by omega, rfl, by simpa [ptsB] using W3.out⟩
  case round =>
    obtain ⟨q, hq, rfl, hW⟩ := hrel
    by_cases hlt : q < n
    · have hbw := hW.below
      rw [← HP.out] at hbw
      obtain ⟨b, o, rfl, R0⟩ := HR0.out.row (by omega)
      have R := R0.more hbw
      have z0 := R.at0 hlt (v := .int .i64 (f q).id) rfl
      have z1 := R.at1 hlt (v := .int .u32 (f q).x) rfl
      have z2 := R.at2 hlt (v := .int .u32 (f q).y) rfl
      have z3 := R.at3 hlt (v := .string (f q).d) rfl
      have hl := ptsB_length f q fun i hi => (goodL_may (HG.out i (by omega))).2.2
      have hpl := pointB_length (f q)
      have hm := goodL_may (HG.out q hlt)
      have hms := hm.2.2
      have KP := hid (ws_point (w := wr.alloc (.cells #[.int .i64 (f q).id, .int .u32 (f q).x, .int .u32 (f q).y, .string (f q).d] 75)) (hW.more ((Below.refl _ _).alloc (Nat.le_refl _) _)) (by omega) (by omega) (f q) (HF.out q hlt) hm (by rw [List.length_append, lheadB_length, hpl]; omega))
      clear hbw R R0 hl hpl hm hms
      replace hW := hid hW
      go_wp2_with fail
      refine KP.out.mono ?_
      rintro e w5 ⟨rfl, W5⟩
      rw [List.append_assoc] at W5
      replace W5 := hid W5
      clear KP
      go_wp2_with fail
      go_roundw
      case rel => exact ⟨q + 1, by omega, by go_num, W5.out⟩
      case measure => simp [intOf]; omega
    · obtain rfl : q = n := by omega
      replace hW := hid hW
      go_wp2
      go_end0
      exact ⟨rfl, hW.out⟩
end Go.Proofs.Ytpgibngohbohdaa
