/-
  Package node: Check, and a node's octets.
-/
import Derived.Test.YtghboanmiggcnaaNode
namespace Go.Proofs.Ytghboanmiggcnaa
open Go.RowKit
set_option linter.unusedVariables false
set_option linter.unusedSimpArgs false

def nodeC (b : Bool) : Int := if b then 0 else 9
set_option maxRecDepth 100000 in
set_option maxHeartbeats 4000000 in
theorem ncheck_any (lf : Bool) (p : Option Addr) (n cap : Nat) (f : Nat → Pt) (hf : ∀ i, i < n → (f i).ok) (nx : Int) (k c : Nat → Int) (h1 : n ≤ cap) (h2 : cap ≤ maxLen) (w : World) (HR : RowP w p 4 n (fun i => pcells (f i))) :
    Calls Try.prog 28 #[ndval lf (.slice p n cap) nx k c] w fun e w' => e = .returned (.int .i64 (nodeC (nodeB lf n f nx k c))) ∧ Below w.heap.size w w' := by
  have hb0 : Below w.heap.size w (w.alloc (.cells (ndcells lf (.slice p n cap) nx k c) 29)) := (Below.refl _ _).alloc (Nat.le_refl _) _
  have BX := Blk.new w (ndcells lf (.slice p n cap) nx k c) 29
  have D0 := hid hb0
  have HBX := hid BX
  have KL := hid (leaf_any lf p n cap f hf nx k c h1 h2 _ (HR.more hb0))
  have KO := hid (other_any lf p n cap nx k c h1 h2 (w.alloc (.cells (ndcells lf (.slice p n cap) nx k c) 29)))
  have hB : nodeB lf n f nx k c = if lf then leafB n f nx k c else otherB n nx k c := rfl
  generalize nodeB lf n f nx k c = B at *
  generalize leafB n f nx k c = BL at *
  generalize otherB n nx k c = BO at *
  unfold maxLen at h2
  clear hb0 BX HR hf
  cases lf with
  | true =>
    obtain rfl : B = BL := hB
    clear KO
    obtain ⟨lx, kx, fx⟩ := HBX.out
    go_enter Try.func28, Try.ntmps28
    go_wp2_with fail
    refine KL.out.mono ?_
    rintro e w1 ⟨rfl, hb⟩
    have D1 := hid (below2 D0.out hb D0.out.size)
    have HB := HBX.out.more hb
    clear lx kx fx hb HBX KL
    obtain ⟨lx, kx, fx⟩ := HB
    cases B
    all_goals
      go_wp2_with fail
      go_ret
      exact ⟨rfl, D1.out⟩
  | false =>
    obtain rfl : B = BO := hB
    clear KL
    obtain ⟨lx, kx, fx⟩ := HBX.out
    go_enter Try.func28, Try.ntmps28
    go_wp2_with fail
    refine KO.out.mono ?_
    rintro e w1 ⟨rfl, hb⟩
    have D1 := hid (below2 D0.out hb D0.out.size)
    clear lx kx fx hb HBX KO
    cases B
    all_goals
      go_wp2_with fail
      go_ret
      exact ⟨rfl, D1.out⟩

/-- An Out that holds l, where all went well, and a block that is none of its own. -/
def WB (w0 : World) (p : Nat) (room : Int) (g : Nat) (cc : Array Value) (w : World) (l : List UInt8) : Prop := ∃ a, OutS w p a room l 0 ∧ Below p w0 w ∧ ¬ Mine p a g ∧ Blk w g cc
theorem WB.new {w0 w : World} {p : Nat} {room : Int} {l : List UInt8} (h : WS w0 p room w l) (cc : Array Value) (t : TypeId) : WB w0 p room w.heap.size cc (w.alloc (.cells cc t)) l := by
  obtain ⟨a, O, hb⟩ := h
  have hba : Below w.heap.size w (w.alloc (.cells cc t)) := (Below.refl _ _).alloc (Nat.le_refl _) _
  refine ⟨a, O.more hba, hb.trans (hba.mono (Nat.le_of_lt O.lt)), fun hk => ?_, Blk.new w cc t⟩
  have := (O.mine hk).2
  omega
theorem WB.ws {w0 w : World} {p g : Nat} {room : Int} {cc : Array Value} {l : List UInt8} (h : WB w0 p room g cc w l) : WS w0 p room w l := by
  obtain ⟨a, O, hb, _⟩ := h; exact ⟨a, O, hb⟩
theorem WB.blk {w0 w : World} {p g : Nat} {room : Int} {cc : Array Value} {l : List UInt8} (h : WB w0 p room g cc w l) : Blk w g cc := by
  obtain ⟨_, _, _, _, B⟩ := h; exact B
/-- The octets of points, one behind the other. -/
def ptsB (f : Nat → Pt) : Nat → List UInt8
  | 0 => []
  | i + 1 => ptsB f i ++ pointB (f i)
theorem ptsB_length (f : Nat → Pt) : ∀ n, (∀ i, i < n → (f i).d.size ≤ 16) → (ptsB f n).length ≤ 29 * n
  | 0, _ => Nat.le_refl _
  | n + 1, h => by
    have h1 := ptsB_length f n fun i hi => h i (by omega)
    have h2 := h n (by omega)
    simp only [ptsB, List.length_append, pointB_length]
    omega
def numsB (g : Nat → Int) (s : Nat) : Nat → List UInt8
  | 0 => []
  | q + 1 => numsB g s q ++ leB (g q).toNat s
theorem numsB_length (g : Nat → Int) (s : Nat) : ∀ n, (numsB g s n).length = s * n
  | 0 => rfl
  | n + 1 => by simp only [numsB, List.length_append, numsB_length g s n, leB_length]; rw [Nat.mul_succ]
def lheadB (nx : Int) (n : Nat) : List UInt8 := [] ++ leB (1 : Int).toNat 1 ++ leB nx.toNat 1 ++ leB (n : Int).toNat 1
theorem lheadB_length (nx : Int) (n : Nat) : (lheadB nx n).length = 3 := by simp [lheadB, leB_length]
def leafO (nx : Int) (n : Nat) (f : Nat → Pt) : List UInt8 := lheadB nx n ++ ptsB f n
def otherO (k c : Nat → Int) : List UInt8 := [] ++ leB (0 : Int).toNat 1 ++ numsB k 1 4 ++ numsB c 2 4
def nodeO (lf : Bool) (n : Nat) (f : Nat → Pt) (nx : Int) (k c : Nat → Int) : List UInt8 := if lf then leafO nx n f else otherO k c
def nodeL (lf : Bool) (n : Nat) (f : Nat → Pt) (nx : Int) (k c : Nat → Int) : List UInt8 := if nodeB lf n f nx k c then nodeO lf n f nx k c else []
theorem goodL_may {f : Nat → Pt} {i : Nat} (h : goodL f i = true) : (f i).may := by
  unfold goodL at h
  simp only [Bool.and_eq_true, decide_eq_true_eq] at h
  exact h.1
theorem leafB_parts {n : Nat} {f : Nat → Pt} {nx : Int} {k c : Nat → Int} (h : leafB n f nx k c = true) : n ≤ 4 ∧ 0 ≤ nx ∧ nx ≤ 255 ∧ zeroA k = true ∧ zeroA c = true ∧ ∀ i, i < n → goodL f i = true := by
  unfold leafB at h
  simp only [Bool.and_eq_true, decide_eq_true_eq] at h
  exact ⟨h.1, h.2.1, h.2.2.1, h.2.2.2.1, h.2.2.2.2.1, (allL_iff f n).1 h.2.2.2.2.2⟩
theorem otherB_parts {n : Nat} {nx : Int} {k c : Nat → Int} (h : otherB n nx k c = true) : n = 0 ∧ nx = 0 ∧ ∀ i, i < 4 → 0 ≤ k i ∧ k i ≤ 255 ∧ 0 ≤ c i ∧ c i ≤ 65535 ∧ (k i = 0 ↔ c i = 0) := by
  unfold otherB at h
  simp only [Bool.and_eq_true, decide_eq_true_eq] at h
  exact ⟨h.1, h.2.1, fun i hi => (goodQ_iff _ _).1 ((allQ_iff k c 4).1 h.2.2 i hi)⟩

end Go.Proofs.Ytghboanmiggcnaa
