/-
  Package disk: settle: all that waits has its fate.
-/
import Derived.Test.YtpgibngohbohdaaDiskSettle0
import Derived.Test.YtpgibngohbohdaaDiskBecome
namespace Go.Proofs.Ytpgibngohbohdaa
open Go.RowKit Go.Shelf Go.Maps
set_option linter.unusedVariables false
set_option linter.unusedSimpArgs false

attribute [local go_sem] Oper.semAt_some

theorem cells_at {W : World} {b o : Nat} {v : Value} (h : W.cell? ⟨b, o, none⟩ = some v) : ∃ ob : Obj, W.heap[b]? = some ob ∧ ob.isCells = true := by
  unfold World.cell? at h
  cases hb : W.heap[b]? with
  | none => simp [hb] at h
  | some ob =>
    refine ⟨ob, rfl, ?_⟩
    cases ob <;> simp [hb] at h <;> rfl
theorem not_row {W W' : World} {row : Option Nat} {b o : Nat} {v : Value} (h : W.cell? ⟨b, o, none⟩ = some v) (hr : ∀ r, row = some r → ∃ o : Obj, W.heap[r]? = some o ∧ o.isCells = false) : row ≠ some b := fun e => by
  obtain ⟨ob, h1, h2⟩ := cells_at h
  obtain ⟨o', h3, h4⟩ := hr b e
  rw [h1] at h3; cases h3
  rw [h2] at h4; cases h4
theorem row_kept {α : Type} {T : RowT α} {W W' : World} {row : Option Nat} {base : Nat} {v : Value} {L : List α} (h : RowOwn T W base v L) (hg : W.grownBy W' row) (hr : ∀ r, row = some r → ∃ o : Obj, W.heap[r]? = some o ∧ o.isCells = false) : RowOwn T W' base v L := by
  refine ⟨h.1, h.2.imp id ?_⟩
  rintro ⟨g, cap, cur, rfl, hb, hg0, h1, h2, h3, h4⟩
  exact ⟨g, cap, cur, rfl, hb, (grownBy_keeps_cells hg hr hg0 rfl).trans hg0, h1, h2, h3, h4⟩
theorem octs_kept {W W' : World} {row : Option Nat} {x : OcS} (h : x.there W) (hg : W.grownBy W' row) (hr : ∀ r, row = some r → ∃ o : Obj, W.heap[r]? = some o ∧ o.isCells = false) : x.there W' := by
  refine ⟨?_, h.2⟩
  rcases h.1 with h0 | ⟨b, o, e, hlt, hc⟩
  · exact .inl h0
  · exact .inr ⟨b, o, e, Nat.lt_of_lt_of_le hlt hg.size, fun i hi => cell_kept (hc i hi) hg hr⟩
theorem soft_kept {W W' : World} {row : Option Nat} {x : OcS} (h : x.soft W) (hne : x.l.length ≠ 0) (hg : W.grownBy W' row) (hr : ∀ r, row = some r → ∃ o : Obj, W.heap[r]? = some o ∧ o.isCells = false) : x.soft W' := by
  refine ⟨octs_kept h.1 hg hr, fun b o e => ⟨Nat.lt_of_lt_of_le (h.2 b o e).1 hg.size, fun i => ?_⟩⟩
  rcases h.1.1 with h0 | ⟨b', o', e', hlt, hc⟩
  · exact absurd (by rw [h0]; rfl) hne
  · rw [e] at e'; cases e'
    have hnb : row ≠ some b := not_row (W' := W') (hc 0 (by omega)) hr
    exact (World.frozen?_of_block (a := ⟨b, i, none⟩) (hg.block b hlt (fun e => hnb e.symm))).trans ((h.2 b o e).2 i)
/-- A loop's own blocks are turned: the disk is as it was. -/
theorem DiskM.turned {W W' : World} {b B : Nat} {m : DM} {K : Nat → Prop} {row : Option Nat} (h : DiskM W b m K) (hg : W.grownBy W' row) (hr : ∀ r, row = some r → B ≤ r ∧ ∃ o : Obj, W.heap[r]? = some o ∧ o.isCells = false) (hl : m.lm < B) (ho : m.om < B) : DiskM W' b m K := by
  have hr' := fun r e => (hr r e).2
  have hnb : row ≠ some b := not_row (W' := W') (h.blk.cell 0 |>.trans (by rfl)) hr'
  have hbk : ∀ k, row ≠ some k → k < W.heap.size → W'.heap[k]? = W.heap[k]? := fun k hk hlt => hg.block k hlt (fun e => hk e.symm)
  exact
  { blk := ⟨Nat.lt_of_lt_of_le h.blk.lt hg.size, fun o => (World.cell?_of_block (a := ⟨b, o, none⟩) (hbk b hnb h.blk.lt)).trans (h.blk.cell o), fun o => (World.frozen?_of_block (a := ⟨b, o, none⟩) (hbk b hnb h.blk.lt)).trans (h.blk.frz o)⟩
    apart := h.apart
    kk := h.kk
    klt := fun k hk => Nat.lt_of_lt_of_le (h.klt k hk) hg.size
    S := row_kept h.S hg hr'
    SO := fun x hx => ⟨soft_kept (h.SO x hx).1 (by obtain ⟨_, _, _, _, e⟩ := (h.SO x hx).2; omega) hg hr', (h.SO x hx).2⟩
    Q := row_kept h.Q hg hr'
    QO := fun y hy => ⟨⟨soft_kept (h.QO y hy).1.1 (by obtain ⟨_, _, _, _, e⟩ := (h.QO y hy).1.2; omega) hg hr', (h.QO y hy).1.2⟩, (h.QO y hy).2⟩
    F := row_kept h.F hg hr'
    L := by
      have hlt := h.L.lt
      obtain ⟨es, clock, hb, r⟩ := h.L
      exact ⟨es, clock, (hbk _ (fun e => by have := (hr _ e).1; omega) hlt).trans hb, r⟩
    O := by
      have hlt := h.O.lt
      obtain ⟨es, clock, hb, r⟩ := h.O
      exact ⟨es, clock, (hbk _ (fun e => by have := (hr _ e).1; omega) hlt).trans hb, r⟩
    last := h.last
    lenS := h.lenS
    cwf := h.cwf
    fwf := h.fwf
    uniq := h.uniq }

/-- Sectors, and which are odd. -/
abbrev SD := List (List UInt8) × (Int → Bool)
def stepD (s : SD) (z : Int) (l : List UInt8) (f : Int) : SD :=
  if 1 ≤ f then (s.1.set z.toNat (nowL f l (s.1.getD z.toNat [])), fun y => if y = z then oddL l (s.1.getD z.toNat []) (nowL f l (s.1.getD z.toNat [])) (s.2 y) else s.2 y) else s
def settleD (Qs : List WtS) (Fs : List Int) {N : Nat} (s : SD) (pre : List (Fin N)) : SD := pre.foldl (fun s i => stepD s (atR wtT Qs i.val).at_ (atR wtT Qs i.val).x.l (atR fatT Fs i.val)) s
theorem settleD_snoc (Qs : List WtS) (Fs : List Int) {N : Nat} (s : SD) (pre : List (Fin N)) (i : Fin N) : settleD Qs Fs s (pre ++ [i]) = stepD (settleD Qs Fs s pre) (atR wtT Qs i.val).at_ (atR wtT Qs i.val).x.l (atR fatT Fs i.val) := by
  simp [settleD]
def DM.moved (m : DM) (L : List OcS) (DO : DataW Unit) (n' : Nat) : DM := { m with Ls := L, DO := DO, n' := n' }
/-- A disk whose sectors have become others. -/
structure Moved' (W : World) (b : Nat) (m : DM) (K : Nat → Prop) (B : Nat) (s : SD) (j : Nat) (L : List OcS) (DO : DataW Unit) (n' : Nat) (K' : Nat → Prop) : Prop where
  D : DiskM W b (m.moved L DO n') K'
  len : L.length = m.Ls.length
  S : L.map OcS.l = s.1
  O : ∀ z : Int, (Lit.int .i64 z).wf = true → Maps.has DO (.int .i64 z) = s.2 z
  n : n' ≤ m.n' + j
  K : ∀ k, K' k → K k ∨ B ≤ k

set_option maxRecDepth 100000 in
set_option maxHeartbeats 8000000 in
theorem settle_in (m : DM) (b : Nat) (K : Nat → Prop) (w : World) (D : DiskM w b m K) (fp : Option Addr) (fc : Nat) (Fs : List Int) (RF : RowOf fatT w fp Fs) (hl2 : Fs.length ≤ maxLen) (hFT : ∀ b' o, fp = some ⟨b', o, none⟩ → Fs.length ≠ 0 → ¬ (m.sv.ownBlock = some b' ∨ b' = m.om))
    (hFw : ∀ f ∈ Fs, f ≤ 9223372036854775807) (hn : m.n' + m.Qs.length < 1000000) (N : Nat) (hN : N = min m.Qs.length Fs.length) (s0 : SD) (hS0 : m.Ls.map OcS.l = s0.1) (hO0 : ∀ z : Int, (Lit.int .i64 z).wf = true → Maps.has m.DO (.int .i64 z) = s0.2 z) :
    CallsIn Fence.wide 5 Try.prog 63 #[.pointer (some ⟨b, 0, none⟩), .slice fp Fs.length fc] w fun e w' => e = .returned (.tuple #[]) ∧ ∃ L DO n' K', DiskM w' b (m.moved L DO n').clean K' ∧ L.length = m.Ls.length ∧ L.map OcS.l = (settleD m.Qs Fs s0 (fk N N)).1 ∧
      (∀ z : Int, (Lit.int .i64 z).wf = true → Maps.has DO (.int .i64 z) = (settleD m.Qs Fs s0 (fk N N)).2 z) ∧ n' ≤ m.n' + m.Qs.length ∧ (∀ k, K' k → K k ∨ w.heap.size ≤ k) ∧ Sole K w w' := by
  have hro : Fence.wide.round = none := rfl
  have b1 : Below w.heap.size w (((w.alloc (.cells #[.pointer (some ⟨b, 0, none⟩)] 24)).alloc (.cells #[.pointer (some ⟨b, 0, none⟩)] 24)).alloc (.cells #[.slice fp Fs.length fc] 29)) := (((Below.refl _ _).alloc (Nat.le_refl _) _).alloc (by simp) _).alloc (by simp; omega) _
  have c0 : (((w.alloc (.cells #[.pointer (some ⟨b, 0, none⟩)] 24)).alloc (.cells #[.pointer (some ⟨b, 0, none⟩)] 24)).alloc (.cells #[.slice fp Fs.length fc] 29)).cell? ⟨w.heap.size, 0, none⟩ = some (.pointer (some ⟨b, 0, none⟩)) :=
    (((Blk.new w #[.pointer (some ⟨b, 0, none⟩)] 24).alloc _).alloc _).cell 0
  have c1 : (((w.alloc (.cells #[.pointer (some ⟨b, 0, none⟩)] 24)).alloc (.cells #[.pointer (some ⟨b, 0, none⟩)] 24)).alloc (.cells #[.slice fp Fs.length fc] 29)).cell? ⟨w.heap.size + 1, 0, none⟩ = some (.pointer (some ⟨b, 0, none⟩)) := by
    have := ((Blk.new (w.alloc (.cells #[.pointer (some ⟨b, 0, none⟩)] 24)) #[.pointer (some ⟨b, 0, none⟩)] 24).alloc (.cells #[.slice fp Fs.length fc] 29)).cell 0
    rw [World.size_alloc] at this
    exact this
  have c2 : (((w.alloc (.cells #[.pointer (some ⟨b, 0, none⟩)] 24)).alloc (.cells #[.pointer (some ⟨b, 0, none⟩)] 24)).alloc (.cells #[.slice fp Fs.length fc] 29)).cell? ⟨w.heap.size + 1 + 1, 0, none⟩ = some (.slice fp Fs.length fc) := by
    have := (Blk.new ((w.alloc (.cells #[.pointer (some ⟨b, 0, none⟩)] 24)).alloc (.cells #[.pointer (some ⟨b, 0, none⟩)] 24)) #[.slice fp Fs.length fc] 29).cell 0
    rw [World.size_alloc, World.size_alloc] at this
    exact this
  have s3 : (((w.alloc (.cells #[.pointer (some ⟨b, 0, none⟩)] 24)).alloc (.cells #[.pointer (some ⟨b, 0, none⟩)] 24)).alloc (.cells #[.slice fp Fs.length fc] 29)).heap.size = w.heap.size + 3 := by simp
  have hbl := D.blk.lt
  have klt := hid D.klt
  refine callsIn_of_wp_marks Try.func63 rfl trivial ?_ hro
  simp only [Try.ntmps63, List.size_toArray, List.length_cons, List.length_nil, Nat.reduceAdd, Nat.reduceSub, Array.replicate_succ, Array.replicate_zero, List.push_toArray, List.append_toArray, List.nil_append, List.cons_append]
  gi_wp2_with (refine ⟨trivial, ?_⟩; gi_at_call 92; refine (callsIn_wide.2 (fated_any _ _ _ _ _)).mono ?_; rintro e w' ⟨rfl, rfl⟩)
  generalize ((w.alloc (.cells #[.pointer (some ⟨b, 0, none⟩)] 24)).alloc (.cells #[.pointer (some ⟨b, 0, none⟩)] 24)).alloc (.cells #[.slice fp Fs.length fc] 29) = W3 at *
  have D3 := hid (D.more b1)
  obtain ⟨p8, c8, hv8, _, hq2, R8⟩ := D3.out.Q.open wtOk
  have e8 : m.wp = p8 ∧ m.wc = c8 := by simpa [DM.wv] using hv8
  have hR8 : RowP W3 m.wp 2 m.Qs.length (fun i => [.int .i64 (atR wtT m.Qs i).at_, .slice (atR wtT m.Qs i).x.a (atR wtT m.Qs i).x.l.length (atR wtT m.Qs i).x.cap]) := by rw [e8.1]; exact R8
  have hw3 : W3.cell? ⟨b, 3, none⟩ = some (.slice m.wp m.Qs.length m.wc) := D3.out.blk.cell 3
  have hqR : ∀ b' o, m.wp = some ⟨b', o, none⟩ → m.Qs.length ≠ 0 → b' < W3.heap.size := fun b' o e hne => by
    obtain ⟨b2, o2, e2, r2⟩ := hR8.row hne
    rw [e] at e2; cases e2; exact r2.lt
  have hfR : ∀ b' o, fp = some ⟨b', o, none⟩ → Fs.length ≠ 0 → b' < W3.heap.size := fun b' o e hne => by
    obtain ⟨b2, o2, e2, r2⟩ := (RF.more b1).row hne
    rw [e] at e2; cases e2; exact r2.lt
  have hks : ∀ k, (m.sv.ownBlock = some k ∨ k = m.om) → k < w.heap.size := fun k e => e.elim (fun e => klt.out k (D.kk k (.inr (.inr (.inr (.inl e)))))) (fun e => klt.out k (D.kk k (.inr (.inr (.inl e)))))
  have hlmB := klt.out m.lm (D.kk _ (.inr (.inl rfl)))
  have hTK : ∀ k, (m.sv.ownBlock = some k ∨ k = m.om) → K k := fun k e => e.elim (fun e => D.kk k (.inr (.inr (.inr (.inl e))))) (fun e => D.kk k (.inr (.inr (.inl e))))
  have hwQ : ∀ b' o, m.wp = some ⟨b', o, none⟩ → m.Qs.length ≠ 0 → ¬ (m.sv.ownBlock = some b' ∨ b' = m.om) := fun b' o e hne => by
    obtain ⟨g, cap, cur, hv, _, _, _⟩ := (D.Q.2.resolve_left (fun h => hne h.2))
    have e2 : m.wv.ownBlock = some b' := by
      have : m.wp = some ⟨g, 0, none⟩ := by have := hv; simp only [DM.wv, Value.slice.injEq] at this; exact this.1
      rw [this] at e; cases e
      rw [hv]; rfl
    rintro (r | r)
    · exact (D.apart.s _ r).2.2.2.1 e2
    · exact (D.apart.w _ e2).2.2.1 r
  refine wpIn_rangeFunc_ownH hro (by omega) (gf := 116) (lb := #[.pointer (some ⟨w.heap.size + 1, 0, none⟩), .pointer (some ⟨w.heap.size + 1 + 1, 0, none⟩)]) rfl trivial (enters_of Try.func116 (by kernel_rfl) rfl)
    (fated_stops (5 - 1) (by omega) (w.heap.size + 1) (w.heap.size + 1 + 1) b m.wp fp m.wc fc m.Qs Fs N hN (by have := D3.out.Q.open wtOk; obtain ⟨_, _, _, h1, h2, _⟩ := this; omega) hl2 (fun k => (m.sv.ownBlock = some k ∨ k = m.om) ∨ W3.heap.size ≤ k) W3 c1 hw3 c2 (by rintro (r | r); (have := hks _ r; omega); omega) (by omega) (by omega) (by omega) hR8
      (fun b' o e hne => by rintro (r | r); exact hwQ b' o e hne r; (have := hqR b' o e hne; omega)) (RF.more b1) (fun b' o e hne => by rintro (r | r); exact hFT b' o e hne r; (have := hfR b' o e hne; omega)))
    (fun h k => Sole.trans h k) (fun W l o o' hl h hc hw => Sole.grown (grownBy_putObj' W l o') (fun k e => by cases e; exact .inr hl)) (Below.refl _ _) (fun _ => rfl)
    (fun pre W => ∃ L DO n' K', Moved' W b m K W3.heap.size (settleD m.Qs Fs s0 pre) pre.length L DO n' K' ∧ Sole (fun k => m.sv.ownBlock = some k ∨ k = m.om) W3 W)
    (fun _ _ _ => False)
    (fun pre A B row ⟨L, DO, n', K', MV, SW⟩ hg hr => ⟨L, DO, n', K', ⟨MV.D.turned hg hr (by show m.lm < _; omega) (by have := hks m.om (.inr rfl); show m.om < _; omega), MV.len, MV.S, MV.O, MV.n, MV.K⟩, SW.trans' (Sole.grown (S := fun k => row = some k) hg fun k e => e) fun k hk e => by have := (hr k e).1; omega⟩)
    (fun cd => fun _ _ _ _ h _ _ => h)
    ⟨m.Ls, m.DO, m.n', K, ⟨D3.out, rfl, hS0, hO0, Nat.le_refl _, fun k hk => .inl hk⟩, Sole.refl _ _⟩
    (fun i a' W => ∃ Bi, W3.heap.size ≤ Bi ∧ W.heap[Bi]? = some (.cells #[.int .i64 (atR wtT m.Qs i.val).at_, .slice (atR wtT m.Qs i.val).x.a (atR wtT m.Qs i.val).x.l.length (atR wtT m.Qs i.val).x.cap] 118) ∧ a' = { tmps := #[.pointer (some ⟨b, 0, none⟩), .slice fp Fs.length fc, .pointer (some ⟨w.heap.size, 0, none⟩), undef, .pointer (some ⟨Bi, 0, none⟩), .int .i64 (atR fatT Fs i.val), .pointer (some ⟨b, 0, none⟩), .slice fp Fs.length fc, .func (.func 116) #[] #[.pointer (some ⟨w.heap.size + 1, 0, none⟩), .pointer (some ⟨w.heap.size + 1 + 1, 0, none⟩)], wVal (atR wtT m.Qs i.val), .int .i64 (atR fatT Fs i.val), undef, undef, undef, undef, undef, undef, undef, undef], defers := [] })
    ?hAx ?assign ?body ?done ?stop
  case hAx =>
    rintro i a' _ X Y row ⟨Bi, h3, h5, h7⟩ hg hr
    exact ⟨Bi, h3, (grownBy_keeps_cells hg (fun r e => (hr r e).2) h5 rfl).trans h5, h7⟩
  case assign =>
    rintro l pre i W Kc ⟨L, DO, n', K', MV, SW⟩ hK
    simp only [wVal] at hK ⊢
    gi_wp2
    have hb2 : Below W.heap.size W (W.alloc (.cells #[.int .i64 (atR wtT m.Qs i.val).at_, .slice (atR wtT m.Qs i.val).x.a (atR wtT m.Qs i.val).x.l.length (atR wtT m.Qs i.val).x.cap] 118)) := (Below.refl _ W).alloc (Nat.le_refl _) _
    refine hK _ _ ((KeepsOthers.alloc _ _).from _) (Sole.made hb2) ⟨L, DO, n', K', ⟨MV.D.more hb2, MV.len, MV.S, MV.O, MV.n, MV.K⟩, SW.trans (Sole.made hb2)⟩ ⟨W.heap.size, SW.size, World.alloc_heap_new W _, rfl⟩
  case body =>
    rintro l pre i a' W hl ⟨r, hr⟩ ⟨L, DO, n', K', MV, SW⟩ ⟨Bi, h3, h5, rfl⟩ hlt
    have hi := i.isLt
    have hiQ : i.val < m.Qs.length := by omega
    have hiF : i.val < Fs.length := by omega
    have hQO := MV.D.QO (atR wtT m.Qs i.val) (atR_mem (T := wtT) m.Qs i.val hiQ)
    have hat0 : 0 ≤ (atR wtT m.Qs i.val).at_ := hQO.2.1
    have hat1 : (atR wtT m.Qs i.val).at_ < (L.length : Int) := hQO.2.2
    clear hQO
    have hBi : Bi < W.heap.size := (Array.getElem?_eq_some_iff.1 h5).1
    have a0 : W.cell? ⟨Bi, 0, none⟩ = some (.int .i64 (atR wtT m.Qs i.val).at_) := by simp [World.cell?, show W.heap[Bi]? = _ from h5]
    have a1 : W.cell? ⟨Bi, 1, none⟩ = some (.slice (atR wtT m.Qs i.val).x.a (atR wtT m.Qs i.val).x.l.length (atR wtT m.Qs i.val).x.cap) := by simp [World.cell?, show W.heap[Bi]? = _ from h5]
    have hcl := (SW.cell (o := 0) (show w.heap.size < W3.heap.size by omega) (fun e => by have := hks _ e; omega)).trans c0
    have hfw := hFw _ (atR_mem (T := fatT) Fs i.val hiF)
    have hatn : (atR wtT m.Qs i.val).at_ = (((atR wtT m.Qs i.val).at_.toNat : Nat) : Int) := by omega
    have hsv : (m.moved L DO n').sv = m.sv := by simp [DM.sv, DM.moved, MV.len]
    have hsnoc := settleD_snoc m.Qs Fs s0 pre i
    have HMV := hid MV
    have HSW := hid SW
    have hKF : ∀ w9 : World, Sole (fun k => m.sv.ownBlock = some k ∨ k = m.om) W w9 → KeepsFrom W3.heap.size W w9 := fun w9 S => ⟨S.size, fun k o hB hk ho => (S.block k (Array.getElem?_eq_some_iff.1 hk).1 (fun e => by have := hks k e; omega)).trans hk⟩
    replace hKF := hid hKF
    by_cases hf : 1 ≤ atR fatT Fs i.val
    · have KB := hid (become_any (m.moved L DO n') b K' W MV.D i.val hiQ (atR wtT m.Qs i.val).at_.toNat hatn (atR fatT Fs i.val) hf hfw (by have := MV.n; show n' < _; omega))
      have hstep : settleD m.Qs Fs s0 (pre ++ [i]) = stepD (settleD m.Qs Fs s0 pre) (atR wtT m.Qs i.val).at_ (atR wtT m.Qs i.val).x.l (atR fatT Fs i.val) := hsnoc
      unfold stepD at hstep
      rw [if_pos hf] at hstep
      have hfd : decide (atR fatT Fs i.val ≥ 1) = true := decide_eq_true hf
      have hget : (settleD m.Qs Fs s0 pre).1.getD (atR wtT m.Qs i.val).at_.toNat [] = (ocA L (atR wtT m.Qs i.val).at_.toNat).l := by
        have hlt2 : (atR wtT m.Qs i.val).at_.toNat < L.length := by have := MV.len; have h9 : (atR wtT m.Qs i.val).at_ < (L.length : Int) := hat1; omega
        rw [← MV.S, ocA_eq L _ hlt2]
        simp [List.getD, hlt2]
      rw [hget] at hstep
      have hfinal : Hid (∀ w9, BecPost (m.moved L DO n') b (atR wtT m.Qs i.val).at_.toNat K' (atR fatT Fs i.val) (atR wtT m.Qs i.val).x.l W (.returned (.tuple #[])) w9 → KeepsFrom W3.heap.size W w9 ∧ Sole (fun k => (m.sv.ownBlock = some k ∨ k = m.om) ∨ W3.heap.size ≤ k) W w9 ∧
          ∃ L DO n' K', Moved' w9 b m K W3.heap.size (settleD m.Qs Fs s0 (pre ++ [i])) (pre ++ [i]).length L DO n' K' ∧ Sole (fun k => m.sv.ownBlock = some k ∨ k = m.om) W3 w9) := hid (by
        rintro w9 ⟨_, x, DO2, n2, K2, hxl, D2, hn2, hodd, S2, hK2⟩
        rw [hsv] at S2
        replace S2 : Sole (fun k => m.sv.ownBlock = some k ∨ k = m.om) W w9 := S2
        have hxl2 : x.l = nowL (atR fatT Fs i.val) (atR wtT m.Qs i.val).x.l (ocA L (atR wtT m.Qs i.val).at_.toNat).l := hxl
        refine ⟨hKF.out w9 S2, S2.mono fun k _ e => .inl e, L.set (atR wtT m.Qs i.val).at_.toNat x, DO2, n2, K2, ⟨D2, by rw [List.length_set]; exact MV.len, ?_, ?_, ?_, ?_⟩, SW.trans S2⟩
        · rw [List.map_set, MV.S, hstep, hxl2]
        · intro z hz
          rw [hodd z hz, hstep]
          show (if z = (((atR wtT m.Qs i.val).at_.toNat : Nat) : Int) then oddL (atR wtT m.Qs i.val).x.l (ocA L (atR wtT m.Qs i.val).at_.toNat).l x.l (Maps.has DO (.int .i64 z)) else Maps.has DO (.int .i64 z)) = _
          rw [← hatn, hxl2, MV.O z hz]
        · have h1 := MV.n
          have h2 : n2 ≤ n' + 1 := hn2
          rw [List.length_append, List.length_singleton]
          omega
        · intro k hk
          rcases hK2 k hk with r' | r'
          · exact MV.K k r'
          · exact .inr (Nat.le_trans SW.size r'))
      clear MV SW hsnoc hstep hget hat0 hat1 h5 hatn hsv
      dsimp only [wVal]
      generalize hF' : atR fatT Fs i.val = fv at *
      gi_wp2_with (refine ⟨trivial, ?_⟩; gi_at_call 65; refine (CallsIn.inRound l (callsIn_wide.2 KB.out)).mono ?_; rintro e w9 hBP; obtain rfl := hBP.1; have HBP := hid hBP; clear hBP)
      exact hfinal.out _ HBP.out
    · have hfd : decide (atR fatT Fs i.val ≥ 1) = false := decide_eq_false hf
      have hstep : settleD m.Qs Fs s0 (pre ++ [i]) = settleD m.Qs Fs s0 pre := by rw [hsnoc]; unfold stepD; rw [if_neg hf]
      have hfinal : Hid (KeepsFrom W3.heap.size W W ∧ Sole (fun k => (m.sv.ownBlock = some k ∨ k = m.om) ∨ W3.heap.size ≤ k) W W ∧
          ∃ L DO n' K', Moved' W b m K W3.heap.size (settleD m.Qs Fs s0 (pre ++ [i])) (pre ++ [i]).length L DO n' K' ∧ Sole (fun k => m.sv.ownBlock = some k ∨ k = m.om) W3 W) := hid
        ⟨KeepsFrom.refl _ _, Sole.refl _ _, L, DO, n', K', ⟨MV.D, MV.len, by rw [hstep]; exact MV.S, by rw [hstep]; exact MV.O, by have := MV.n; rw [List.length_append]; omega, MV.K⟩, SW⟩
      clear MV SW hsnoc hstep hat0 hat1 h5 hatn hsv
      dsimp only [wVal]
      generalize hF' : atR fatT Fs i.val = fv at *
      clear s3
      gi_wp2
      obtain ⟨f1, f2, L9, D9, n9, K9, f3, f4⟩ := hfinal.out
      first | exact ⟨f1, f2, L9, D9, n9, K9, f3, f4⟩ | exact ⟨f1, f2, ⟨L9, D9, n9, K9, f3⟩, f4⟩
  case done =>
    rintro Db zs W hD rfl ⟨L, DO, n', K', MV, SW⟩ hK
    have hcl := (SW.cell (o := 0) (show w.heap.size < W3.heap.size by omega) (fun e => by have := hks _ e; omega)).trans c0
    have KF := hid (forget_any (m.moved L DO n') b K' W MV.D)
    have HMV := hid MV
    have HSW := hid SW
    have HK := hid hK
    clear hK MV SW
    gi_wp2_with (refine ⟨trivial, ?_⟩; gi_at_call 66; refine (callsIn_wide.2 KF.out).mono ?_; rintro e w' ⟨rfl, D', S'⟩)
    rename World => w9
    have hDn : ¬ (Db = b ∨ Db = m.lm) := by omega
    have hlt : Db < W.heap.size := (Array.getElem?_eq_some_iff.1 HK.out).1
    have hK' : w9.heap[Db]? = some (.deferred (some [])) := (S'.block Db hlt hDn).trans HK.out
    refine ⟨by simp, .inl ⟨_, _, rfl, run_takeDeferred hK', ?_⟩⟩
    have hg := grownBy_putObj' w9 Db (.deferred none)
    have D9 : DiskM (w9.putObj Db (.deferred none)) b (m.moved L DO n').clean K' := D'.turned (B := W3.heap.size) hg (fun r e => by cases e; exact ⟨hD, _, hK', rfl⟩) (by show m.lm < _; omega) (by have := hks m.om (.inr rfl); show m.om < _; omega)
    have Sd : Sole (fun k => k = Db) w9 (w9.putObj Db (.deferred none)) := Sole.grown hg (fun k e => by cases e; rfl)
    have S1 : Sole K w w9 := ((Sole.made b1).trans (HSW.out.mono fun k _ e => hTK k e)).trans (S'.mono fun k _ e => e.elim (fun e => e ▸ D.kk _ (.inl rfl)) (fun e => e ▸ D.kk _ (.inr (.inl rfl))))
    have hpn : (fk N N).length = N := fk_len N N (Nat.le_refl _)
    have hMn := HMV.out.n
    rw [hpn] at hMn
    exact ⟨.tuple #[], results_none rfl _ _ _, rfl, L, DO, n', K', D9, HMV.out.len, HMV.out.S, HMV.out.O, by omega, fun k hk => (HMV.out.K k hk).imp id fun h => by omega, S1.trans' Sd fun k hk e => by omega⟩
  case stop =>
    rintro Db cd pre W hD hpre hf hK
    exact hf.elim
end Go.Proofs.Ytpgibngohbohdaa
