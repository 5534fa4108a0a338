/-
  Package disk: become.
-/
import Derived.Test.YtpgibngohbohdaaDiskBecTail
import Derived.Test.YtpgibngohbohdaaBytesConcat
namespace Go.Proofs.Ytpgibngohbohdaa
open Go.RowKit Go.Maps
set_option linter.unusedVariables false
set_option linter.unusedSimpArgs false

theorem slice_to (a : Addr) (n c k : Nat) (hk : k ≤ c) (w : World) : (Instr.sliceAt 35 (.slice (some a) n c) none (some (.int .i64 (k : Int))) none).run Try.prog w = .ok (.slice (some a) k c) w := by
  have hu := Try.underlying35
  simp [go_sem, hu, hk]
theorem slice_from (b o n c k : Nat) (hk : k ≤ n) (hn : n ≤ c) (hc : ¬ c = k) (w : World) : (Instr.sliceAt 35 (.slice (some ⟨b, o, none⟩) n c) (some (.int .i64 (k : Int))) none none).run Try.prog w = .ok (.slice (some ⟨b, o + k, none⟩) (n - k) (c - k)) w := by
  have hu := Try.underlying35
  simp [go_sem, hu, hk, hn, hc]
theorem quiet_slice {P : Program} {ops : Array Oper} {C : World → Prop} {Q : Act → Prop} {o : Oper} {rest : List Oper} {a : Act} {t : TypeId} {x : Operand} {lo hi mx : Option Operand} (ho : o.op = .slice t x lo hi mx) (hg : o.guard = none) (v : Value)
    (hr : ∀ w, (Instr.sliceAt t (a.eval x) (lo.map a.eval) (hi.map a.eval) (mx.map a.eval)).run P w = .ok v w) (h : wpQuiet P ops C Q rest (a.put o.dst v)) : wpQuiet P ops C Q (o :: rest) a := by
  unfold wpQuiet
  rw [if_pos (by simp [Region.wanted, hg])]
  refine ⟨v, fun w _ => ?_, h⟩
  unfold Oper.quietAt
  have : (execOp a.eval o).run P w = .ok (.value v) w := by simp [execOp, ho, hr, Result.andThen]
  rw [this]
  exact ⟨rfl, rfl⟩
/-- What a sector becomes, of what was written and of what stood there. -/
def nowL (f : Int) (l old : List UInt8) : List UInt8 := if 2 ≤ f then l.take ((f - 2) % 256).toNat ++ old.drop ((f - 2) % 256).toNat else l
def BecPost (m : DM) (b i : Nat) (K : Nat → Prop) (f : Int) (ly : List UInt8) (w : World) (e : Ending) (w' : World) : Prop :=
  e = .returned (.tuple #[]) ∧ ∃ x DO n' K1, x.l = nowL f ly (ocA m.Ls i).l ∧ DiskM w' b (m.became i x DO n') K1 ∧ n' ≤ m.n' + 1 ∧
    (∀ z : Int, (Lit.int .i64 z).wf = true → Maps.has DO (.int .i64 z) = if z = (i : Int) then oddL ly (ocA m.Ls i).l x.l (Maps.has m.DO (.int .i64 z)) else Maps.has m.DO (.int .i64 z)) ∧ Sole (fun k => m.sv.ownBlock = some k ∨ k = m.om) w w' ∧ (∀ k, K1 k → K k ∨ w.heap.size ≤ k)

set_option maxRecDepth 100000 in
set_option maxHeartbeats 4000000 in
theorem become_any (m : DM) (b : Nat) (K : Nat → Prop) (w : World) (D : DiskM w b m K) (j : Nat) (hj : j < m.Qs.length) (i : Nat) (hat : (atR wtT m.Qs j).at_ = (i : Int)) (f : Int) (hf : 1 ≤ f) (hf2 : f ≤ 9223372036854775807) (hn : m.n' < 1000000) :
    Calls Try.prog 65 #[.pointer (some ⟨b, 0, none⟩), .agg #[.int .i64 (atR wtT m.Qs j).at_, .slice (atR wtT m.Qs j).x.a (atR wtT m.Qs j).x.l.length (atR wtT m.Qs j).x.cap], .int .i64 f] w (BecPost m b i K f (atR wtT m.Qs j).x.l w) := by
  have hmem := atR_mem (T := wtT) m.Qs j hj
  obtain ⟨⟨hys, gy, hya, kgy, hgy, hyl⟩, hat0, hat1⟩ := D.QO _ hmem
  have hyt := hys.1
  have hysh := hid hys
  clear hys
  have hi : i < m.Ls.length := by omega
  obtain ⟨⟨hot, _⟩, go, hoa, kgo, hgo, hol⟩ := D.SO _ (ocA_mem m.Ls i hi)
  have hnowy : (∃ j', j' < m.Qs.length ∧ (atR wtT m.Qs j).x = (atR wtT m.Qs j').x ∧ (atR wtT m.Qs j').at_ = (i : Int)) := ⟨j, hj, rfl, hat⟩
  rw [hat, hyl]
  have hb1 : Below w.heap.size w (w.alloc (.cells #[.int .i64 (i : Int), .slice (atR wtT m.Qs j).x.a 256 (atR wtT m.Qs j).x.cap] 118)) := (Below.refl _ _).alloc (Nat.le_refl _) _
  have BW := Blk.new w #[.int .i64 (i : Int), .slice (atR wtT m.Qs j).x.a 256 (atR wtT m.Qs j).x.cap] 118
  generalize hw1 : w.alloc (.cells #[.int .i64 (i : Int), .slice (atR wtT m.Qs j).x.a 256 (atR wtT m.Qs j).x.cap] 118) = w1 at *
  have B1 := D.blk.more hb1
  simp only [DM.cells, DM.sv, DM.wv, DM.fv] at B1
  obtain ⟨sg, _, e1, e2, hsg, _⟩ := sure_set D hb1 hi (atR wtT m.Qs j).x hyl
  obtain ⟨p7, c7, hv7, _, _, R7⟩ := (D.S.more hb1).open ocOk
  have e7 : m.sp = p7 ∧ m.sc = c7 := by simpa [DM.sv] using hv7
  have hR7 : RowP w1 m.sp 1 m.Ls.length (fun i => [.slice (ocA m.Ls i).a (ocA m.Ls i).l.length (ocA m.Ls i).cap]) := by rw [e7.1]; exact R7
  obtain ⟨b7, o7, hq7, r7⟩ := hR7.row (by omega)
  rw [e1] at hq7
  have c7 := r7.at0 (i := i) hi (v := .slice (ocA m.Ls i).a (ocA m.Ls i).l.length (ocA m.Ls i).cap) rfl
  simp only [Option.some.injEq, Addr.mk.injEq, and_true] at hq7
  obtain ⟨rfl, rfl⟩ := hq7
  rw [Nat.mul_one, Nat.zero_add, hol] at c7
  rw [e1] at B1
  generalize hY : (atR wtT m.Qs j).x = y at *
  generalize hO : ocA m.Ls i = o at *
  have hi' : (i : Int) < (m.Ls.length : Int) := by omega
  have hi0 : (0 : Int) ≤ (i : Int) := by omega
  obtain ⟨ya, yc, yl⟩ := y
  obtain ⟨oa, oc, ol⟩ := o
  dsimp only at hya hoa hyl hol BW hw1 c7
  subst hya hoa
  replace D := hid D
  have hilen := hid hi
  have hnowh := hid hnowy
  have hyth := hid hyt
  have hoth := hid hot
  have hgyh := hid hgy
  have hgoh := hid hgo
  have hylh := hid hyl
  have holh := hid hol
  have hOh := hid hO
  clear hR7 R7 hv7 e7 r7 hi hnowy hyt hot hgy hgo hyl hol hY hO hat hat0 hat1 hmem hj kgy kgo
  go_enter Try.func65, Try.ntmps65
  go_wp2_with fail

  have BW1 := hid BW
  have hb1h := hid hb1
  have D1 := hid (D.out.more hb1)
  have cold : ∀ u : Later w1, u.val.cell? ⟨sg, i, none⟩ = some (.slice (some ⟨go, 0, none⟩) 256 oc) := fun u => (u.cell sg i hsg).trans c7
  have q0 := fun u : Later w1 => u.blk B1
  have q1 := fun u : Later w1 => u.blk BW
  clear hw1 hb1 BW B1 c7
  rename_i K1 hK1
  replace hK1 := hid hK1
  refine wp_region_late 8 (by kernel_rfl) (by kernel_rfl) ?_
  simp only [List.take_succ_cons, List.take_zero, List.drop_succ_cons, List.drop_zero]
  repeat (go_big_quiet_step (fail))
  refine wpQuiet_nil ?_
  intro w2 h2'
  have h2 := late_out h2'
  clear h2' q0 q1 cold
  have hb2 := hid (below2 hb1h.out h2 hb1h.out.size)
  have BW2 := BW1.out.more h2
  have BW2h := hid BW2
  obtain ⟨lw, kw, fw⟩ := BW2
  clear h2
  go_wp2_with fail
  refine hK1.out _ _ ?_
  refine wp_seq_k (fun K2 hK2 => ?_)
  replace hK2 := hid hK2
  go_wp2_with fail
  refine hK2.out _ _ ?_
  refine wp_seq_k (fun K3 hK3 => ?_)
  replace hK3 := hid hK3
  by_cases hf3 : 2 ≤ f
  · obtain ⟨k, hk, hk2⟩ : ∃ k : Nat, (f - 2) % 256 = (k : Int) ∧ k < 256 := ⟨((f - 2) % 256).toNat, by omega, by omega⟩
    have hyc : 256 ≤ yc := by have h1 : yl.length ≤ yc := hyth.out.2.1; have := hylh.out; omega
    have hoc : 256 ≤ oc := by have h1 : ol.length ≤ oc := hoth.out.2.1; have := holh.out; omega
    have hkc : ((k : Nat) : Int) ≤ (yc : Int) := by omega
    have hk0 : (0 : Int) ≤ (k : Int) := by omega
    have hk1 : (k : Int) ≤ 256 := by omega
    have hkn := hid (show k ≤ yc by omega)
    have hkn1 := hid (show k ≤ 256 by omega)
    have hkn2 := hid (show ¬ oc = k by omega)
    have hkn3 := hid (show 256 ≤ oc by omega)
    have hoc' : (256 : Int) ≤ (oc : Int) := by omega
    have hne : ¬ oc - k = 0 := by omega
    obtain ⟨F, hF⟩ : ∃ F : Int, f - 2 = F := ⟨_, rfl⟩
    have hwf : wrap64 (f - 2) = F := by rw [← hF]; exact IntWalk.wrap64_in _ ⟨by omega, by omega⟩
    have htm : Int.tmod F 256 = (k : Int) := by rw [← hF, Int.tmod_eq_emod_of_nonneg (by omega)]; exact hk
    have hfd : decide (f ≥ 2) = true := decide_eq_true hf3
    have hfd2 : decide (2 ≤ f) = true := decide_eq_true hf3
    replace hf3 := hid hf3
    replace hf := hid hf
    replace hf2 := hid hf2
    replace hF := hid hF
    have hwk : wrap64 (k : Int) = (k : Int) := IntWalk.wrap64_in _ ⟨by omega, by omega⟩
    have hkh := hid hk
    clear hk
    replace hyc := hid hyc
    replace hoc := hid hoc
    replace hk2 := hid hk2
    go_wp2_with fail
    clear hwf htm
    have q1 := fun u : Later w2 => u.blk BW2h.out
    refine wp_region_late 7 (by kernel_rfl) (by kernel_rfl) ?_
    simp only [List.take_succ_cons, List.take_zero, List.drop_succ_cons, List.drop_zero]
    clear hkc hk0 hk1 hoc' hne
    iterate 3 (go_big_quiet_step (fail))
    refine quiet_slice rfl rfl _ (slice_to ⟨gy, 0, none⟩ 256 yc k hkn.out) ?_
    simp only [Act.put, List.setIfInBounds_toArray, List.set_cons_succ, List.set_cons_zero]
    iterate 2 (go_big_quiet_step (fail))
    refine quiet_slice rfl rfl _ (slice_from go 0 256 oc k hkn1.out hkn3.out hkn2.out) ?_
    simp only [Act.put, List.setIfInBounds_toArray, List.set_cons_succ, List.set_cons_zero, Nat.zero_add]
    refine wpQuiet_nil ?_
    intro w3 h3'
    have h3 := late_out h3'
    clear h3' q1
    have hb3 := below2 hb2.out h3 hb2.out.size
    have BW3 := BW2h.out.more h3
    have hlX : (yl.take k).length = k := by rw [List.length_take, hylh.out]; have := hk2.out; omega
    have hlY : (ol.drop k).length = 256 - k := by rw [List.length_drop, holh.out]
    have hbA : Below w3.heap.size w3 (w3.alloc (.cells #[.slice (some ⟨gy, 0, none⟩) k yc, .slice (some ⟨go, k, none⟩) (256 - k) (oc - k)] 35)) := (Below.refl _ _).alloc (Nat.le_refl _) _
    have BA := Blk.new w3 #[.slice (some ⟨gy, 0, none⟩) k yc, .slice (some ⟨go, k, none⟩) (256 - k) (oc - k)] 35
    have hsA : (w3.alloc (.cells #[.slice (some ⟨gy, 0, none⟩) k yc, .slice (some ⟨go, k, none⟩) (256 - k) (oc - k)] 35)).heap.size = w3.heap.size + 1 := by simp
    have hb4 := below2 hb3 hbA hb3.size
    have BW4 := hid (BW3.more hbA)
    have hX : (⟨some ⟨gy, 0, none⟩, yc, yl.take k⟩ : OcS).there (w3.alloc (.cells #[.slice (some ⟨gy, 0, none⟩) k yc, .slice (some ⟨go, k, none⟩) (256 - k) (oc - k)] 35)) := ⟨(hyth.out.more hb4).1.take k, by rw [hlX]; exact hkn.out, (hyth.out.more hb4).2.2⟩
    have hoD := Octs.drop (hoth.out.more hb4).1 k
    rw [Nat.zero_add] at hoD
    have hY : (⟨some ⟨go, k, none⟩, oc - k, ol.drop k⟩ : OcS).there (w3.alloc (.cells #[.slice (some ⟨gy, 0, none⟩) k yc, .slice (some ⟨go, k, none⟩) (256 - k) (oc - k)] 35)) := ⟨hoD, by rw [hlY]; have := hkn3.out; show 256 - k ≤ oc - k; omega, by have h1 : oc ≤ maxLen := (hoth.out.more hb4).2.2; show oc - k ≤ maxLen; omega⟩
    have KC := hid (bconcat_any (⟨some ⟨gy, 0, none⟩, yc, yl.take k⟩ : OcS) (⟨some ⟨go, k, none⟩, oc - k, ol.drop k⟩ : OcS) 256 (by rw [hlX, hlY]; have := hk2.out; omega) (by omega) (by omega) w3.heap.size _ hX hY (by rw [hlX, hlY]; exact BA))
    replace hb4 := hid hb4
    have hlXY : (yl.take k ++ ol.drop k).length = 256 := by rw [List.length_append, hlX, hlY]; have := hk2.out; omega
    replace hlXY := hid hlXY
    clear hX hY hoD BA hlX hlY BW3 hb3 h3 lw kw fw hbA
    go_wp2_with fail
    generalize w3.alloc (.cells #[.slice (some ⟨gy, 0, none⟩) k yc, .slice (some ⟨go, k, none⟩) (256 - k) (oc - k)] 35) = w4 at *
    refine KC.out.mono ?_
    rintro e w5 ⟨q, cap, rfl, O5, hb5⟩
    have O5' := O5
    rw [← hlXY.out] at O5'
    obtain ⟨g9, cap9, cur9, he9, hg9, hl9, hc9, B9, _, _⟩ := own_blk O5' (by rw [hlXY.out]; omega)
    have hq9 : q = some ⟨g9, 0, none⟩ ∧ cap = cap9 := by simpa using he9
    obtain ⟨rfl, rfl⟩ := hq9
    rw [hlXY.out] at hl9
    have hb05 := below2 hb4.out hb5 hb4.out.size
    have hgw : w.heap.size ≤ g9 := Nat.le_trans hb4.out.size hg9
    have hbb : ∀ g, m.base b g → g < w.heap.size := fun g hg => D.out.klt g (D.out.kk g hg)
    have hO5 := hid O5'
    have hB9 := hid B9
    have hb5h := hid hb5
    replace hb05 := hid hb05
    replace hgw := hid hgw
    replace hbb := hid hbb
    replace hl9 := hid hl9
    replace hc9 := hid hc9
    clear O5 O5' B9 he9 hb5 KC hg9
    go_wp2_with fail
    refine hK3.out _ _ ?_
    exact becTail (R := BecPost m b i K f yl w) D.out hb05.out hilen.out ⟨some ⟨gy, 0, none⟩, yc, yl⟩ ⟨some ⟨g9, 0, none⟩, cap, yl.take k ++ ol.drop k⟩ ⟨some ⟨go, 0, none⟩, oc, ol⟩ (hyth.out.more hb05.out) hylh.out ⟨⟨Octs.of_own hO5.out, by rw [hlXY.out]; exact hl9.out, hc9.out⟩, fun b' o e => by cases e; exact ⟨hB9.out.lt, hB9.out.frz⟩⟩ hlXY.out (hoth.out.more hb05.out) holh.out
      (by intro b' o e; cases e; rintro (r | r); exact hgyh.out (.inr (.inr (.inr (.inl r)))); exact hgyh.out (.inr (.inr (.inl r))))
      (by intro b' o e; cases e; rintro (r | r); (have := hbb.out g9 (.inr (.inr (.inr (.inl r)))); have := hgw.out; omega); (have := hbb.out g9 (.inr (.inr (.inl r))); have := hgw.out; omega))
      (by intro b' o e; cases e; rintro (r | r); exact hgoh.out (.inr (.inr (.inr (.inl r)))); exact hgoh.out (.inr (.inr (.inl r))))
      (.inr ⟨g9, rfl, hgw.out, hB9.out.lt⟩) (BW4.out.more hb5h.out) (Nat.le_refl _) hn
      (by
        intro w' DO n' K' D' hn' hodd hs hK'
        refine ⟨rfl, _, DO, n', K', ?_, D', hn', ?_, hs, hK'⟩
        · unfold nowL; rw [if_pos hf3.out, hOh.out, show ((f - 2) % 256).toNat = k by have := hkh.out; omega]
        · rw [hOh.out]; exact hodd)
  · obtain rfl : f = 1 := by omega
    go_wp2_with fail
    refine hK3.out _ _ ?_
    refine becTail D.out hb2.out hilen.out ⟨some ⟨gy, 0, none⟩, yc, yl⟩ ⟨some ⟨gy, 0, none⟩, yc, yl⟩ ⟨some ⟨go, 0, none⟩, oc, ol⟩ (hyth.out.more hb2.out) hylh.out (hysh.out.more hb2.out) hylh.out (hoth.out.more hb2.out) holh.out ?_ ?_ ?_ (.inl hnowh.out) BW2h.out (Nat.le_refl _) hn ?_
    · intro b' o e; cases e; rintro (r | r); exact hgyh.out (.inr (.inr (.inr (.inl r)))); exact hgyh.out (.inr (.inr (.inl r)))
    · intro b' o e; cases e; rintro (r | r); exact hgyh.out (.inr (.inr (.inr (.inl r)))); exact hgyh.out (.inr (.inr (.inl r)))
    · intro b' o e; cases e; rintro (r | r); exact hgoh.out (.inr (.inr (.inr (.inl r)))); exact hgoh.out (.inr (.inr (.inl r)))
    · intro w' DO n' K' D' hn' hodd hs hK'
      refine ⟨rfl, _, DO, n', K', ?_, D', hn', ?_, hs, hK'⟩
      · unfold nowL; rw [if_neg (by omega)]
      · rw [hOh.out]; exact hodd
end Go.Proofs.Ytpgibngohbohdaa
