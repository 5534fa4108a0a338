/-
  SeglogBack answers true for any summary, any two numbers, any items (nodes with any points) and any two numbers, and changes nothing that was there: what a batch has written is what is loaded, whatever sector is hurt, and nothing else is. For every input, without a condition.
-/
import Derived.Test.YtpgibngohbohdaaSbkE
import Derived.Test.YtpgibngohbohdaaSbkB
import Derived.Deep.Slices
import Derived.Test.YtpgibngohbohdaaSbkF
import Derived.Test.YtpgibngohbohdaaOpen

/-
  Items that come in.
-/




namespace Go.Proofs.Ytpgibngohbohdaa
open Go.ChangeShapes Go.WideShapes Go.ChangeAt Go.RowKit Go.Joins Go.Deep
set_option linter.unusedVariables false
set_option linter.unusedSimpArgs false

set_option maxRecDepth 100000 in
/-- A node in a field. -/
theorem nd_in {H : Type} {enc : TypeId × Value → H} {W : World} {cs : List Value} {fuel : Nat} {x : DataW H × List MemPlace} (hf : DataW.trod enc Try.prog W 0 (fun _ => true) true fuel 56 cs = some x) :
    ∃ d : NdS, cs = [.bool d.lf, .slice d.p d.n d.cap, .int .i64 d.nx, .int .i64 (d.k 0), .int .i64 (d.k 1), .int .i64 (d.k 2), .int .i64 (d.k 3), .int .i64 (d.c 0), .int .i64 (d.c 1), .int .i64 (d.c 2), .int .i64 (d.c 3)] ∧ d.there W := by
  obtain ⟨xs, m, _, hx, hl, hxl, hfield⟩ := DataW.trod_struct Try.underlying56 hf
  have hC : Try.prog.cellsOf 56 = 11 := by kernel_rfl
  have hcb : Try.prog.cellsOf 4 = 1 := by kernel_rfl
  have hcs : Try.prog.cellsOf 53 = 1 := by kernel_rfl
  have hci : Try.prog.cellsOf 3 = 1 := by kernel_rfl
  have hca : Try.prog.cellsOf 54 = 4 := by kernel_rfl
  have hl' : cs.length = 11 := by rw [← hC]; exact hl
  have hxl' : xs.length = 5 := hxl
  match cs, hl', xs, hxl' with
  | [e0, e1, e2, k0, k1, k2, k3, c0, c1, c2, c3], _, [y0, y1, y2, y3, y4], _ =>
    have h0 := hfield 0 _ rfl
    have h1 := hfield 1 _ rfl
    have h2 := hfield 2 _ rfl
    have h3 := hfield 3 _ rfl
    have h4 := hfield 4 _ rfl
    simp [Value.cells, hcb, hcs, hci, hca] at h0 h1 h2 h3 h4
    obtain ⟨lf, r0, _⟩ := DataW.trod_bool Try.underlying4 h0
    obtain ⟨nx, r2, _, _⟩ := DataW.trod_int Try.underlying3 h2
    obtain ⟨n, F, ⟨q, cap, hcv, g1, g2, g3⟩, hF, _⟩ := sl_in8 Try.underlying53 Try.underlying75 (by kernel_rfl) (by kernel_rfl) (by decide) h1
    obtain ⟨_, _, _, _, _, _, a0, a1, a2, a3⟩ := trod_array4 Try.underlying54 hci h3
    obtain ⟨_, _, _, _, _, _, b0', b1, b2, b3⟩ := trod_array4 Try.underlying54 hci h4
    obtain ⟨z0, s0, _, _⟩ := DataW.trod_int Try.underlying3 a0
    obtain ⟨z1, s1, _, _⟩ := DataW.trod_int Try.underlying3 a1
    obtain ⟨z2, s2, _, _⟩ := DataW.trod_int Try.underlying3 a2
    obtain ⟨z3, s3, _, _⟩ := DataW.trod_int Try.underlying3 a3
    obtain ⟨u0, t0, _, w0⟩ := DataW.trod_int Try.underlying3 b0'
    obtain ⟨u1, t1, _, w1⟩ := DataW.trod_int Try.underlying3 b1
    obtain ⟨u2, t2, _, w2⟩ := DataW.trod_int Try.underlying3 b2
    obtain ⟨u3, t3, _, w3⟩ := DataW.trod_int Try.underlying3 b3
    simp at r0 r2 s0 s1 s2 s3 t0 t1 t2 t3
    subst r0 r2 s0 s1 s2 s3 t0 t1 t2 t3 hcv
    have each : ∀ i, i < n → ∃ q : Pt, q.ok ∧ [F i 0, F i 1, F i 2, F i 3] = pcells q := by
      intro i hi
      obtain ⟨m0, y0, t0⟩ := hF i hi 0 _ rfl
      obtain ⟨m1, y1, t1⟩ := hF i hi 1 _ rfl
      obtain ⟨m2, y2, t2⟩ := hF i hi 2 _ rfl
      obtain ⟨m3, y3, t3⟩ := hF i hi 3 _ rfl
      obtain ⟨a, e0, _, w0⟩ := DataW.trod_int Try.underlying3 t0
      obtain ⟨b, e1, _, w1⟩ := DataW.trod_int Try.underlying73 t1
      obtain ⟨c, e2, _, w2⟩ := DataW.trod_int Try.underlying73 t2
      obtain ⟨s, e3, _, w3⟩ := DataW.trod_string Try.underlying9 t3
      simp at e0 e1 e2 e3
      have g0 := bounds_i64 w0
      have g1 := bounds_u32 w1
      have g2 := bounds_u32 w2
      exact ⟨⟨a, b, c, s⟩, ⟨g0.1, g0.2, g1.1, g1.2, g2.1, g2.2, w3⟩, by rw [e0, e1, e2, e3]; rfl⟩
    have hg : ∃ g : Nat → Pt, ∀ i, i < n → (g i).ok ∧ [F i 0, F i 1, F i 2, F i 3] = pcells (g i) := by
      haveI : Nonempty Pt := ⟨⟨0, 0, 0, ByteArray.empty⟩⟩
      exact ⟨fun i => Classical.epsilon fun q => q.ok ∧ [F i 0, F i 1, F i 2, F i 3] = pcells q, fun i hi => Classical.epsilon_spec (each i hi)⟩
    obtain ⟨g, hg⟩ := hg
    refine ⟨⟨lf, q, n, cap, g, nx, fun i => if i = 0 then z0 else if i = 1 then z1 else if i = 2 then z2 else z3, fun i => if i = 0 then u0 else if i = 1 then u1 else if i = 2 then u2 else u3⟩, rfl, ⟨g3.imp id fun ⟨b, o, e, hlt, hc⟩ => ⟨b, o, e, hlt, fun i hi j v hv => ?row⟩, g1, g2, fun i hi => (hg i hi).1⟩⟩
    case row =>
      rw [← (hg i hi).2] at hv
      match j, hv with
      | 0, hv => simp at hv; subst hv; exact hc i hi 0 (by decide)
      | 1, hv => simp at hv; subst hv; exact hc i hi 1 (by decide)
      | 2, hv => simp at hv; subst hv; exact hc i hi 2 (by decide)
      | 3, hv => simp at hv; subst hv; exact hc i hi 3 (by decide)
set_option maxRecDepth 100000 in
/-- A slice of items that comes in. -/
theorem its_of {H : Type} {enc : TypeId × Value → H} {W : World} {b0 : Nat} {v : Value} {d : DataW H} {p : List MemPlace} (hv : Value.okWide Try.prog W .any b0 45 v) (h : DataW.Trod enc Try.prog W 0 (fun _ => true) true 45 v d p) :
    ∃ (L : List ItS) (a : Option Addr) (cap : Nat), v = .slice a L.length cap ∧ ItsOk W a cap L := by
  obtain ⟨fuel, hf⟩ := h
  obtain ⟨a0, len, cap, rfl⟩ := okWide_slice Try.underlying45 hv
  rcases open_slice Try.underlying45 hf with ⟨hcs, _⟩ | ⟨a, len', cap', m, n, D, Pl, hcs, hb, hl, hm, hmm, hx, hi⟩
  · simp [Value.cells] at hcs
    obtain ⟨rfl, rfl, rfl⟩ := hcs
    exact ⟨[], none, 0, rfl, ⟨.inl rfl, Nat.le_refl _, Nat.zero_le _, nofun⟩⟩
  · simp [Value.cells] at hcs
    obtain ⟨rfl, rfl, rfl⟩ := hcs
    have hlm : len ≤ m := by rw [hmm]; split <;> omega
    have hC : Try.prog.cellsOf 58 = 12 := by kernel_rfl
    have hci : Try.prog.cellsOf 3 = 1 := by kernel_rfl
    have hcn : Try.prog.cellsOf 56 = 11 := by kernel_rfl
    have each : ∀ i, i < len → ∃ x : ItS, x.nd.there W ∧ ∀ j u, (itT.cells x)[j]? = some u → W.cell? (a.add (i * 12 + j)) = some u := by
      intro i him
      obtain ⟨cs, hc, ht⟩ := hi i (by omega)
      rw [hC] at hc
      obtain ⟨y0, y1, n', _, _, h0, h1⟩ := trod_struct2 Try.underlying58 ht
      obtain ⟨_, hcl, hat⟩ := World.cells?_some hc
      obtain ⟨e0, rest, rfl⟩ : ∃ e0 rest, cs = e0 :: rest := by
        cases cs with
        | nil => cases hcl
        | cons x l => exact ⟨x, l, rfl⟩
      simp [hci, hcn] at h0 h1
      have hr : rest.length = 11 := by simpa using hcl
      rw [List.take_of_length_le (by omega)] at h1
      obtain ⟨id, r0, _, _⟩ := DataW.trod_int Try.underlying3 h0
      simp at r0
      subst r0
      obtain ⟨d, rfl, hd⟩ := nd_in h1
      refine ⟨⟨id, d⟩, hd, fun j u hu => ?_⟩
      have hj : j < 12 := (List.getElem?_eq_some_iff.1 hu).1
      rw [← Go.Deep.add_add, hat j hj]
      exact hu
    have hg : ∃ g : Nat → ItS, ∀ i, i < len → (g i).nd.there W ∧ ∀ j u, (itT.cells (g i))[j]? = some u → W.cell? (a.add (i * 12 + j)) = some u := by
      haveI : Nonempty ItS := ⟨itT.dflt⟩
      exact ⟨fun i => Classical.epsilon fun x => x.nd.there W ∧ ∀ j u, (itT.cells x)[j]? = some u → W.cell? (a.add (i * 12 + j)) = some u, fun i hi => Classical.epsilon_spec (each i hi)⟩
    obtain ⟨g, hg⟩ := hg
    have hlen : ((List.range len).map g).length = len := by simp
    refine ⟨(List.range len).map g, some a, cap, by rw [hlen], ⟨?_, by rw [hlen]; exact hl, hm, fun x hx => ?_⟩⟩
    · by_cases h0 : len = 0
      · subst h0; exact .inl (by simp)
      · have c0 := (hg 0 (by omega)).2 0 _ rfl
        have hsp : a.spot = none := by
          have := World.cell?_spot c0
          simpa [Addr.add] using this
        obtain ⟨b, o, sp⟩ := a
        simp only at hsp
        subst hsp
        have hadd : ∀ k, Addr.add ⟨b, o, none⟩ k = ⟨b, o + k, none⟩ := by
          intro k
          unfold Addr.add
          split
          · subst k; rfl
          · rfl
        refine .inr ⟨b, o, rfl, ?_, fun i hi j u hu => ?_⟩
        · have := cell_lt c0
          rwa [hadd] at this
        · rw [hlen] at hi
          have e1 : atR itT ((List.range len).map g) i = g i := by rw [atR_eq _ i (by rw [hlen]; exact hi)]; simp
          have hu' : (itT.cells (g i))[j]? = some u := by rw [← e1]; exact hu
          have := (hg i hi).2 j u hu'
          rw [hadd, ← Nat.add_assoc] at this
          exact this
    · obtain ⟨i, hi, rfl⟩ := List.mem_map.1 hx
      exact (hg i (List.mem_range.1 hi)).1
set_option maxRecDepth 100000 in
/-- A summary that comes in, with its numbers. -/
theorem sm_ofw {H : Type} {enc : TypeId × Value → H} {W : World} {b0 : Nat} {v : Value} {d : DataW H} {p : List MemPlace} (hv : Value.okWide Try.prog W .any b0 44 v) (h : DataW.Trod enc Try.prog W 0 (fun _ => true) true 44 v d p) :
    ∃ (nx : Int) (la : Bool) (q : Option Addr) (n cap : Nat) (f : Nat → En), v = smval nx la q n cap ∧ n ≤ cap ∧ cap ≤ maxLen ∧ RowP W q 2 n (fun i => ecells (f i)) ∧ ∀ i, i < n → (Lit.int .i64 (f i).i).wf = true := by
  obtain ⟨c0, c1, c2, y0, y1, y2, m, rfl, hd, _, hy0, hy1, hy2⟩ := open_agg3 Try.underlying44 (by kernel_rfl) (by kernel_rfl) hv h
  obtain ⟨a, e0, _, _⟩ := DataW.trod_int Try.underlying3 hy0
  obtain ⟨la, e1, _⟩ := DataW.trod_bool Try.underlying4 hy1
  simp at e0 e1
  subst e0 e1
  obtain ⟨n, F, ⟨q, cap, hcv, h1, h2, h3⟩, hF, hx⟩ := sl_in Try.underlying42 Try.underlying105 (by kernel_rfl) (by kernel_rfl) (by decide) hy2
  subst hcv
  have each : ∀ i, i < n → ∃ e : En, (Lit.int .i64 e.i).wf = true ∧ [F i 0, F i 1] = ecells e := by
    intro i hi
    obtain ⟨m0, z0, t0⟩ := hF i hi 0 _ rfl
    obtain ⟨m1, z1, t1⟩ := hF i hi 1 _ rfl
    obtain ⟨a', e0, _, _⟩ := DataW.trod_int Try.underlying3 t0
    obtain ⟨b', e1, _, wb⟩ := DataW.trod_int Try.underlying3 t1
    simp at e0 e1
    exact ⟨⟨a', b'⟩, wb, by rw [e0, e1]; rfl⟩
  have hg : ∃ g : Nat → En, ∀ i, i < n → (Lit.int .i64 (g i).i).wf = true ∧ [F i 0, F i 1] = ecells (g i) := by
    haveI : Nonempty En := ⟨⟨0, 0⟩⟩
    exact ⟨fun i => Classical.epsilon fun e => (Lit.int .i64 e.i).wf = true ∧ [F i 0, F i 1] = ecells e, fun i hi => Classical.epsilon_spec (each i hi)⟩
  obtain ⟨g, hg⟩ := hg
  refine ⟨a, la, q, n, cap, g, rfl, h1, h2, h3.imp id fun ⟨b, o, e, hlt, hc⟩ => ⟨b, o, e, hlt, fun i hi j v hv => ?_⟩, fun i hi => (hg i hi).1⟩
  rw [← (hg i hi).2] at hv
  match j, hv with
  | 0, hv => simp at hv; subst hv; exact hc i hi 0 (by decide)
  | 1, hv => simp at hv; subst hv; exact hc i hi 1 (by decide)
end Go.Proofs.Ytpgibngohbohdaa

namespace Go.Proofs.Ytpgibngohbohdaa
open Go.ChangeShapes Go.WideShapes Go.ChangeAt Go.RowKit
set_option linter.unusedVariables false
set_option maxRecDepth 100000

theorem seglogBack_lifted (os : Os) (started : os.Started) (H : Type) (enc : TypeId × Value → H) :
    ReturnsInHanded {} Try.checked os 4 .any (Rows.seglogBackSpec.pre6 enc Try.prog Try.f4 [] false) (Rows.seglogBackSpec.post enc Try.prog Try.f4 false true false false) :=
  lift (C := Try.checked) (s := Rows.seglogBackSpec) own (by kernel_rfl) Try.func4 laidOut rfl rfl Try.underlying4 (by kernel_rfl)
    (fun H ds hd => by match ds, hd with | [d1, d2, d3, d4, d5, d6], _ => rfl) os started H enc
    (ChangeSpec.witness6 (enc := enc) (C := Try.checked) false ⟨#[], #[.agg #[.int .i64 0, .bool false, .slice none 0 0], .int .i64 0, .int .i64 0, .slice none 0 0, .int .i64 0, .int .i64 0], []⟩ 8 (by kernel_rfl) (by kernel_rfl) (by kernel_rfl) (by kernel_rfl))
    (fun W base args ds ps hval0 hA0 => by
      have hval : ∀ (j : Nat) t v, Try.f4.params[j]? = some t → args[j]? = some v → Value.okWide Try.prog W .any base t v := hval0
      have hA : DataW.TrodAll enc Try.prog W 0 (fun _ => true) true Try.f4.params.toList args.toList ds ps := hA0
      rw [Try.params4] at hA hval
      obtain ⟨v0, s0, d0, e0, p0, q0, g0, h0, r0⟩ := args_cons hA
      obtain ⟨v1, s1, d1, e1, p1, q1, rfl, h1, r1⟩ := args_cons r0
      obtain ⟨v2, s2, d2, e2, p2, q2, rfl, h2, r2⟩ := args_cons r1
      obtain ⟨v3, s3, d3, e3, p3, q3, rfl, h3, r3⟩ := args_cons r2
      obtain ⟨v4, s4, d4, e4, p4, q4, rfl, h4, r4⟩ := args_cons r3
      obtain ⟨v5, s5, d5, e5, p5, q5, rfl, h5, r5⟩ := args_cons r4
      obtain ⟨rfl, _, _⟩ := trodAll_nil r5
      obtain rfl : args = #[v0, v1, v2, v3, v4, v5] := by cases args; simp_all
      obtain ⟨nx, la, q, n, cap, f, rfl, l1, l2, R, fw⟩ := sm_ofw (hval 0 44 v0 rfl rfl) h0
      obtain ⟨ep, rfl, hep, hep'⟩ := open_i64 Try.underlying3 (hval 1 3 v1 rfl rfl) h1
      obtain ⟨sq, rfl, hsq, hsq'⟩ := open_i64 Try.underlying3 (hval 2 3 v2 rfl rfl) h2
      obtain ⟨L, lp, lc, rfl, RL⟩ := its_of (hval 3 45 v3 rfl rfl) h3
      obtain ⟨hu, rfl, hhu, hhu'⟩ := open_i64 Try.underlying3 (hval 4 3 v4 rfl rfl) h4
      obtain ⟨le, rfl, hle, hle'⟩ := open_i64 Try.underlying3 (hval 5 3 v5 rfl rfl) h5
      exact seglogBack nx la q n cap f l1 l2 fw ep sq L lp lc hu le W R RL)

theorem seglogBack_holds : Rows.SeglogBackSaid :=
  OpenClaim.holds_of_wide 4 Try.f4 rfl rfl rfl rfl rfl rfl rfl ⟨rfl, rfl, rfl, rfl, rfl⟩ rfl rfl rfl rfl rfl (by kernel_rfl) Try.func4 (by kernel_rfl)
    (of_decide_eq_true (by kernel_rfl)) (by unfold Func.isWrapper; rw [if_neg (of_decide_eq_false (by kernel_rfl))]; exact ⟨rfl, rfl⟩)
    (fun os started H enc _ => seglogBack_lifted os started H enc)
#print axioms seglogBack_holds
end Go.Proofs.Ytpgibngohbohdaa
