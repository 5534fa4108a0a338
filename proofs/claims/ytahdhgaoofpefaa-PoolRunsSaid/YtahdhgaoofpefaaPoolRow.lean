/-
  package pool: append of any whole numbers to a row of the call's own; New and Ints, of a row as it comes in.
-/
import Derived.Test.YtahdhgaoofpefaaPoolNobody
import Derived.Test.YtahdhgaoofpefaaPlainInts
import Derived.Lib.AppendZeros
namespace Go.Proofs.Ytahdhgaoofpefaa
open Go.RowKit Go.Conc
set_option linter.unusedVariables false
set_option linter.unusedSimpArgs false

/-- The first n of these numbers. -/
def intsL (g : Nat → Int) (n : Nat) : List Int := (List.range n).map g
theorem intsL_length (g : Nat → Int) (n : Nat) : (intsL g n).length = n := by simp [intsL]
theorem intsL_get (g : Nat → Int) (n i : Nat) (hi : i < n) : (intsL g n).getD i 0 = g i := by simp [intsL, List.getD, hi]
theorem RowP.ints {w : World} {a : Option Addr} {n : Nat} {g : Nat → Int} (h : RowP w a 1 n (fun i => [.int .i64 (g i)])) : RowP w a 1 (intsL g n).length (fun i => [.int .i64 ((intsL g n).getD i 0)]) := by
  rw [intsL_length]
  rcases h with h | ⟨b, o, e, r⟩
  · exact .inl h
  · exact .inr ⟨b, o, e, r.lt, fun i hi j v hv => r.cell i hi j v (by rw [intsL_get g n i hi] at hv; exact hv)⟩
theorem RowP.same {w : World} {a : Option Addr} {n : Nat} {f g : Nat → Int} (h : RowP w a 1 n (fun i => [.int .i64 (g i)])) (hfg : ∀ i, i < n → f i = g i) : RowP w a 1 n (fun i => [.int .i64 (f i)]) := by
  rcases h with h | ⟨b, o, e, r⟩
  · exact .inl h
  · exact .inr ⟨b, o, e, r.lt, fun i hi j v hv => r.cell i hi j v (by simp only [hfg i hi] at hv; exact hv)⟩
theorem RowP.drop_sole {S : Nat → Prop} {w w' : World} {a : Option Addr} {sz n : Nat} {f : Nat → List Value} (h : RowP w a sz n f) (hs : Sole S w w') (hn : ∀ k, k < w.heap.size → ¬ S k) : RowP w' a sz n f :=
  h.imp id fun ⟨b, o, e, r⟩ => ⟨b, o, e, Nat.lt_of_lt_of_le r.lt hs.size, fun i hi j v hv => (hs.cell r.lt (hn b r.lt)).trans (r.cell i hi j v hv)⟩

/-- append(s, t...) of whole numbers: s a row of the call's own, t any. -/
theorem append_ints (base : Nat) (ty : TypeId) (w : World) (v : Value) (l : List Int) (hown : IntsOwn w base v l) (a : Option Addr) (c : Nat) (m : List Int) (R : RowP w a 1 m.length (fun i => [.int .i64 (m.getD i 0)])) (hn : l.length + m.length ≤ 17592186044416) (hbase : base ≤ w.heap.size) :
    ∃ v' w', (Builtin.append_ #[22, 22] ty #[v, .slice a m.length c]).run Try.prog w = .ok v' w' ∧ IntsOwn w' base v' (l ++ m) ∧ w.grownBy w' v.ownBlock := by
  obtain ⟨i, hi, hz, hs, hby⟩ := info_parts intTab
  have ht := Try.underlying22
  by_cases h0 : m = []
  · subst h0
    refine ⟨v, w, ?_, by simpa using hown, ⟨rfl, rfl, rfl, Nat.le_refl _, fun _ _ _ => rfl⟩⟩
    rcases hown.2 with ⟨rfl, h0⟩ | ⟨g, cap, cur, rfl, hbg, hg, hnc, hcm, hcs, htake⟩
    · cases a <;> simp [Builtin.append_, run_underlying ht, sizeOf, typeInfo, hi, hs, Builtin.lenOf, Builtin.firstCells, loadCells, loadCellsFrom, storeCells]
    · cases a <;> simp [Builtin.append_, run_underlying ht, sizeOf, typeInfo, hi, hs, Builtin.lenOf, Builtin.firstCells, loadCells, loadCellsFrom, storeCells, hnc]
  · have hp : m.length ≠ 0 := fun h => h0 (List.eq_nil_of_length_eq_zero h)
    obtain ⟨b, o, rfl, r⟩ := R.row hp
    have hnews : ∀ j u, (m.map (Value.int .i64))[j]? = some u → w.cell? ((⟨b, o, none⟩ : Addr).add j) = some u := by
      intro j u hu
      have hj : j < m.length := by
        have := (List.getElem?_eq_some_iff.1 hu).1
        rwa [List.length_map] at this
      have e : (⟨b, o, none⟩ : Addr).add j = ⟨b, o + j, none⟩ := by
        unfold Addr.add
        split
        · subst j; rfl
        · rfl
      have := r.at0 hj (v := .int .i64 (m.getD j 0)) rfl
      rw [Nat.mul_one] at this
      rw [e, this, ← hu]
      simp [hj]
    have hlen : (m.map (Value.int .i64)).length = m.length * 1 := by rw [List.length_map, Nat.mul_one]
    obtain ⟨v', w', hr, O, G, N⟩ := run_append_own (P := Try.prog) w base 22 ty 3 i (.int .i64 0) 1 8 ht hi hz hs hby rfl (by omega) v l.length (l.map (Value.int .i64)) hown ⟨b, o, none⟩ m.length c (m.map (Value.int .i64)) hlen hnews (fun u hu => by obtain ⟨x, -, rfl⟩ := List.mem_map.1 hu; rfl) (by unfold maxLen; omega) (by omega) hbase
    refine ⟨v', w', hr, ?_, G⟩
    unfold IntsOwn
    rw [List.length_append, List.map_append]
    exact O

/-- An append whose run is known, under a guard that holds. -/
theorem wpList_append_g {P : Program} (w : World) {ops : Array Oper} {rest : List Oper} {o : Oper} {a : Act} {Q : Exit → Act → World → Prop} (hw : Region.wanted o (yielded ops a.tmps) = true) (s x : Operand) (t tn : TypeId)
    (ho : o.op = .call { callee := .builtin .append, args := #[s, x], argTypes := #[t, tn] }) (vs vx : Value) (hs : a.eval s = vs) (hx : a.eval x = vx)
    (v' : Value) (w' : World) (hr : (Builtin.append_ #[t, tn] o.type #[vs, vx]).run P w = .ok v' w') (h : wpList P ops Q rest (a.put o.dst v') w') : wpList P ops Q (o :: rest) a w := by
  simp only [wpList, hw, if_true]
  exact .inl (Lib.wp_append_run w s x t tn ho vs vx hs hx v' w' hr h)

theorem newN_any (a : Option Addr) (cap n : Nat) (g : Nat → Int) (h1 : n ≤ cap) (h2 : cap ≤ maxLen) (w : World) (R : RowP w a 1 n (fun i => [.int .i64 (g i)])) :
    Calls Try.prog 11 #[.slice a n cap] w fun e w' => ∃ p c, e = .returned (.pointer (some ⟨p, 0, none⟩)) ∧ w.heap.size ≤ p ∧ w.heap.size ≤ c ∧ PoolS w' p c ((intsL g n).take 32) ∧ Below w.heap.size w w' := by
  have h := new_any a cap (intsL g n) (by rw [intsL_length]; exact h1) h2 w R.ints
  rw [intsL_length] at h
  exact h

/-- croftplain.Ints of a row of the call's own, and of another one: the same. -/
theorem intsSame_any (l : List Int) (v : Value) (base : Nat) (w : World) (hown : IntsOwn w base v l) (b : Option Addr) (cb : Nat) (h3 : l.length ≤ cb) (h4 : cb ≤ maxLen) (HB : RowP w b 1 l.length (fun i => [.int .i64 (l.getD i 0)])) :
    Calls Try.prog 15 #[v, .slice b l.length cb] w fun e w' => e = .returned (.bool true) ∧ Below w.heap.size w w' := by
  obtain ⟨p, cap, rfl, h1, h2, R⟩ := hown.open
  exact plainInts_same p b l.length cap cb (fun i => l.getD i 0) h1 h2 h3 h4 w R HB
theorem intsOwn_any (l : List Int) (v v' : Value) (base base' : Nat) (w : World) (hown : IntsOwn w base v l) (hown' : IntsOwn w base' v' l) :
    Calls Try.prog 15 #[v, v'] w fun e w' => e = .returned (.bool true) ∧ Below w.heap.size w w' := by
  obtain ⟨p, cap, rfl, h1, h2, R⟩ := hown'.open
  exact intsSame_any l v base w hown p cap h1 h2 R
end Go.Proofs.Ytahdhgaoofpefaa
