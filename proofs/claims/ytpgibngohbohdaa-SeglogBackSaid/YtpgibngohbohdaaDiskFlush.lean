/-
  Package disk: Flush.
-/
import Derived.Test.YtpgibngohbohdaaDiskCut
namespace Go.Proofs.Ytpgibngohbohdaa
open Go.RowKit Go.Maps
set_option linter.unusedVariables false
set_option linter.unusedSimpArgs false

/-- The first j of what waits become sure, wholly. -/
def flushD (Qs : List WtS) (s : SD) (j : Nat) : SD := (Qs.take j).foldl (fun s y => stepD s y.at_ y.x.l 1) s
theorem flushD_succ (Qs : List WtS) (s : SD) (j : Nat) (h : j < Qs.length) : flushD Qs s (j + 1) = stepD (flushD Qs s j) (atR wtT Qs j).at_ (atR wtT Qs j).x.l 1 := by
  unfold flushD
  rw [List.take_add_one, List.getElem?_eq_getElem h, Option.toList_some, List.foldl_append, List.foldl_cons, List.foldl_nil, atR_eq Qs j h]
/-- One of those that wait becomes sure: what is known then. -/
theorem moved_step {W w9 : World} {b : Nat} {m : DM} {K : Nat → Prop} {B : Nat} {s s' : SD} {c : Nat} {L : List OcS} {DO : DataW Unit} {n' : Nat} {K' : Nat → Prop} (MV : Moved' W b m K B s c L DO n' K') {j : Nat} (hj : j < m.Qs.length) {f : Int} (hf : 1 ≤ f) (hs : s' = stepD s (atR wtT m.Qs j).at_ (atR wtT m.Qs j).x.l f) {W0 : World} (hB0 : B ≤ W0.heap.size)
    (hb : BecPost (m.moved L DO n') b (atR wtT m.Qs j).at_.toNat K' f (atR wtT m.Qs j).x.l W0 (.returned (.tuple #[])) w9) :
    (∃ L DO n' K', Moved' w9 b m K B s' (c + 1) L DO n' K') ∧ Sole (fun k => m.sv.ownBlock = some k ∨ k = m.om) W0 w9 := by
  have hQO := MV.D.QO (atR wtT m.Qs j) (atR_mem (T := wtT) m.Qs j hj)
  have hat0 : 0 ≤ (atR wtT m.Qs j).at_ := hQO.2.1
  have hat1 : (atR wtT m.Qs j).at_ < (L.length : Int) := hQO.2.2
  have hatn : (atR wtT m.Qs j).at_ = (((atR wtT m.Qs j).at_.toNat : Nat) : Int) := by omega
  have hsv : (m.moved L DO n').sv = m.sv := by simp [DM.sv, DM.moved, MV.len]
  have hget : s.1.getD (atR wtT m.Qs j).at_.toNat [] = (ocA L (atR wtT m.Qs j).at_.toNat).l := by
    have hlt2 : (atR wtT m.Qs j).at_.toNat < L.length := by omega
    rw [← MV.S, ocA_eq L _ hlt2]
    simp [List.getD, hlt2]
  unfold stepD at hs
  rw [if_pos hf, hget] at hs
  obtain ⟨_, x, DO2, n2, K2, hxl, D2, hn2, hodd, S2, hK2⟩ := hb
  rw [hsv] at S2
  replace S2 : Sole (fun k => m.sv.ownBlock = some k ∨ k = m.om) W0 w9 := S2
  have hxl2 : x.l = nowL f (atR wtT m.Qs j).x.l (ocA L (atR wtT m.Qs j).at_.toNat).l := hxl
  refine ⟨⟨L.set (atR wtT m.Qs j).at_.toNat x, DO2, n2, K2, ⟨D2, by rw [List.length_set]; exact MV.len, ?_, ?_, ?_, ?_⟩⟩, S2⟩
  · rw [List.map_set, MV.S, hs, hxl2]
  · intro z hz
    rw [hodd z hz, hs]
    show (if z = (((atR wtT m.Qs j).at_.toNat : Nat) : Int) then oddL (atR wtT m.Qs j).x.l (ocA L (atR wtT m.Qs j).at_.toNat).l x.l (Maps.has DO (.int .i64 z)) else Maps.has DO (.int .i64 z)) = _
    rw [← hatn, hxl2, MV.O z hz]
  · have h1 := MV.n
    have h2 : n2 ≤ n' + 1 := hn2
    omega
  · intro k hk
    rcases hK2 k hk with r' | r'
    · exact MV.K k r'
    · exact .inr (Nat.le_trans hB0 r')

set_option maxRecDepth 100000 in
set_option maxHeartbeats 4000000 in
theorem flush_any {G : (Nat → Prop) → DM → World → World → Prop} (m : DM) (b : Nat) (K : Nat → Prop) (w : World) (D : DiskM w b m K) (htr : m.trb = false) (hn : m.n' + m.Qs.length < 1000000) (hq : m.Qs.length ≤ 1000000)
    (KG : ∀ L DO n' w1 K1, n' ≤ m.n' + m.Qs.length → DiskM w1 b ((m.after.moved L DO n').clean.counted) K1 → Calls Try.prog 69 #[.pointer (some ⟨b, 0, none⟩)] w1 fun e w' => e = .returned (.tuple #[]) ∧ G K1 ((m.after.moved L DO n').clean.counted) w1 w') :
    Calls Try.prog 37 #[.pointer (some ⟨b, 0, none⟩)] w fun e w' => e = .returned (.int .i64 0) ∧
      ∃ L DO n' w1 K1, DiskM w1 b ((m.after.moved L DO n').clean.counted) K1 ∧ L.length = m.Ls.length ∧ L.map OcS.l = (flushD m.Qs m.sd m.Qs.length).1 ∧ (∀ z : Int, (Lit.int .i64 z).wf = true → Maps.has DO (.int .i64 z) = (flushD m.Qs m.sd m.Qs.length).2 z) ∧ n' ≤ m.n' + m.Qs.length ∧ Sole K w w1 ∧ (∀ k, K1 k → K k ∨ w.heap.size ≤ k) ∧ G K1 ((m.after.moved L DO n').clean.counted) w1 w' := by
  have KT := hid (trouble_any m b w D.blk)
  have Dh := hid D
  have ht := htr
  have KGh := hid KG
  clear D htr KG
  simp only [ht, Bool.false_eq_true, if_false, ↓reduceIte] at KT
  go_enter Try.func37, Try.ntmps37
  go_wp2_with fail
  refine KT.out.mono ?_
  rintro e w1 ⟨rfl, hB, hS⟩
  have D1 := hid (Dh.out.after hB hS)
  have S1 := hid (hS.mono (T := K) fun k _ e => e ▸ Dh.out.kk _ (.inl rfl))
  have B1 : Blk w1 b #[.bool true, .bool m.off, .slice m.sp m.Ls.length m.sc, .slice m.wp m.Qs.length m.wc, .map (some m.lm), .map (some m.om), .bool m.tl, .int .i64 m.cl, .slice m.fp m.Fs.length m.fc, .bool m.after.tf, .int .i64 m.after.fl] := hB
  generalize m.after.tf = atf at B1
  generalize m.after.fl = afl at B1
  obtain ⟨l1, k1, f1⟩ := B1
  have hTK := hid (fun k (e : m.sv.ownBlock = some k ∨ k = m.om) => show K k from e.elim (fun e => Dh.out.kk k (.inr (.inr (.inr (.inl e))))) (fun e => Dh.out.kk k (.inr (.inr (.inl e)))))
  have hks := hid (fun k (e : m.sv.ownBlock = some k ∨ k = m.om) => Dh.out.klt k (hTK.out k e))
  clear hB hS KT
  have hqn : (m.Qs.length : Int) ≤ 1000000 := by omega
  go_wp2_with fail
  go_loopw [16] (fun i wr => ∃ k : Nat, k ≤ m.Qs.length ∧ i = .int .i64 (k : Int) ∧ (∃ L DO n' K', Moved' wr b m.after K w1.heap.size (flushD m.Qs m.sd k) k L DO n' K') ∧ Sole (fun k => m.sv.ownBlock = some k ∨ k = m.om) w1 wr) (fun i _ => m.Qs.length - (intOf i).toNat)
  case atStart => exact ⟨0, Nat.zero_le _, rfl, ⟨m.Ls, m.DO, m.n', K, ⟨D1.out, rfl, rfl, fun z hz => rfl, Nat.le_refl _, fun k hk => .inl hk⟩⟩, Sole.refl _ _⟩
  case round =>
    obtain ⟨k, hk, rfl, ⟨L, DO, n', K', MV⟩, SW⟩ := hrel
    by_cases hlt : k < m.Qs.length
    · have hlt' : (k : Int) < (m.Qs.length : Int) := by omega
      obtain ⟨p8, c8, hv8, _, _, R8⟩ := MV.D.Q.open wtOk
      have e8 : m.wp = p8 ∧ m.wc = c8 := by simpa [DM.wv, DM.moved, DM.after] using hv8
      have hR8 : RowP wr m.wp 2 m.Qs.length (fun i => [.int .i64 (atR wtT m.Qs i).at_, .slice (atR wtT m.Qs i).x.a (atR wtT m.Qs i).x.l.length (atR wtT m.Qs i).x.cap]) := by rw [e8.1]; exact R8
      obtain ⟨bq, oq, hqq, rq⟩ := hR8.row (by omega)
      have z0 : wr.cell? ⟨bq, oq + k * 2, none⟩ = some (.int .i64 (atR wtT m.Qs k).at_) := rq.at0 hlt rfl
      have z1 : wr.cell? ⟨bq, oq + k * 2 + 1, none⟩ = some (.slice (atR wtT m.Qs k).x.a (atR wtT m.Qs k).x.l.length (atR wtT m.Qs k).x.cap) := rq.at1 hlt rfl
      have hb2 : Below wr.heap.size wr (wr.alloc (.cells #[.int .i64 (atR wtT m.Qs k).at_, .slice (atR wtT m.Qs k).x.a (atR wtT m.Qs k).x.l.length (atR wtT m.Qs k).x.cap] 118)) := (Below.refl _ _).alloc (Nat.le_refl _) _
      have MV2 : Moved' (wr.alloc (.cells #[.int .i64 (atR wtT m.Qs k).at_, .slice (atR wtT m.Qs k).x.a (atR wtT m.Qs k).x.l.length (atR wtT m.Qs k).x.cap] 118)) b m.after K w1.heap.size (flushD m.Qs m.sd k) k L DO n' K' := ⟨MV.D.more hb2, MV.len, MV.S, MV.O, MV.n, MV.K⟩
      have hat0 : 0 ≤ (atR wtT m.Qs k).at_ := (MV.D.QO (atR wtT m.Qs k) (atR_mem (T := wtT) m.Qs k hlt)).2.1
      have KB := hid (become_any (m.after.moved L DO n') b K' _ MV2.D k hlt (atR wtT m.Qs k).at_.toNat (by show (atR wtT m.Qs k).at_ = _; omega) 1 (by omega) (by omega) (by have := MV.n; show n' < _; have h9 : m.after.n' = m.n' := rfl; omega))
      have hsz2 : w1.heap.size ≤ (wr.alloc (.cells #[.int .i64 (atR wtT m.Qs k).at_, .slice (atR wtT m.Qs k).x.a (atR wtT m.Qs k).x.l.length (atR wtT m.Qs k).x.cap] 118)).heap.size := Nat.le_trans SW.size hb2.size
      have hst := hid (fun w9 hb => moved_step (w9 := w9) MV2 hlt (f := 1) (by omega) (flushD_succ m.Qs m.sd k hlt) hsz2 hb)
      have SW2 := hid (SW.trans (Sole.made hb2))
      have hltn := hid hlt
      clear MV MV2 SW hR8 R8 rq hv8 e8 hb2 hsz2 hat0
      rw [hqq]
      go_wp2_with fail
      refine KB.out.mono ?_
      rintro e w9 hBP
      obtain rfl := hBP.1
      obtain ⟨h1, h2⟩ := hst.out w9 hBP
      have E := hid (And.intro h1 (SW2.out.trans h2))
      clear h1 h2 hBP KB hst z0 z1
      go_wp2_with fail
      go_roundw
      case rel => exact ⟨k + 1, by have := hltn.out; omega, by simp, E.out.1, E.out.2⟩
      case measure => have := hltn.out; simp [intOf]; omega
    · obtain rfl : k = m.Qs.length := by omega
      have KF := hid (forget_any (m.after.moved L DO n') b K' wr MV.D)
      have HMV := hid MV
      have HSW := hid SW
      have hlt' : ¬ ((m.Qs.length : Int) < (m.Qs.length : Int)) := by omega
      clear MV SW hlt
      go_wp2_with fail
      refine KF.out.mono ?_
      rintro e w3 ⟨rfl, D3, S3⟩
      have KCt := hid (count_any (G := fun m1 w1 w' => G K' m1 w1 w') _ b K' w3 D3 (fun w1 Dx => KGh.out L DO n' w1 K' HMV.out.n Dx))
      have HS3 := hid S3
      clear D3 S3 KF
      go_wp2_with fail
      refine KCt.out.mono ?_
      rintro e w9 ⟨rfl, w8, D8, S8, hG⟩
      have SA : Sole K w w3 := (S1.out.trans (HSW.out.mono fun k _ e => hTK.out k e)).trans (HS3.out.mono fun k _ e => e.elim (fun e => e ▸ Dh.out.kk _ (.inl rfl)) (fun e => e ▸ Dh.out.kk _ (.inr (.inl rfl))))
      have hKb : ∀ k, K' k → K k ∨ w.heap.size ≤ k := fun k hk => (HMV.out.K k hk).imp id fun h => Nat.le_trans S1.out.size h
      have E2 := hid (show ∃ L DO n' w1 K1, DiskM w1 b ((m.after.moved L DO n').clean.counted) K1 ∧ L.length = m.Ls.length ∧ L.map OcS.l = (flushD m.Qs m.sd m.Qs.length).1 ∧ (∀ z : Int, (Lit.int .i64 z).wf = true → Maps.has DO (.int .i64 z) = (flushD m.Qs m.sd m.Qs.length).2 z) ∧ n' ≤ m.n' + m.Qs.length ∧ Sole K w w1 ∧ (∀ k, K1 k → K k ∨ w.heap.size ≤ k) ∧ G K1 ((m.after.moved L DO n').clean.counted) w1 w9 from
        ⟨L, DO, n', w8, K', D8, HMV.out.len, HMV.out.S, HMV.out.O, HMV.out.n, SA.trans' S8 (fun k hk e => (hKb k e).resolve_right (by omega)), hKb, hG⟩)
      clear D8 S8 hG KCt SA hKb
      go_wp2_with fail
      go_ret
      exact ⟨rfl, E2.out⟩
end Go.Proofs.Ytpgibngohbohdaa
