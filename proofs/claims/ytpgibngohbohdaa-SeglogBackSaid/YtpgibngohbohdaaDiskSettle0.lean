/-
  Package disk: settle, where nothing has a fate.
-/
import Derived.Test.YtpgibngohbohdaaDiskFated
namespace Go.Proofs.Ytpgibngohbohdaa
open Go.RowKit Go.Shelf
set_option linter.unusedVariables false
set_option linter.unusedSimpArgs false

attribute [local go_sem] Oper.semAt_some

/-- All that waits may come, each with its fate. -/
theorem fated_stops (fr : Nat) (hn : 1 ≤ fr) (Bd Bf b : Nat) (wp fp : Option Addr) (wc fc : Nat) (Qs : List WtS) (Fs : List Int) (N : Nat) (hN : N = min Qs.length Fs.length) (hl1 : Qs.length ≤ maxLen) (hl2 : Fs.length ≤ maxLen) (T : Nat → Prop) (w : World)
    (hd : w.cell? ⟨Bd, 0, none⟩ = some (.pointer (some ⟨b, 0, none⟩))) (hw : w.cell? ⟨b, 3, none⟩ = some (.slice wp Qs.length wc)) (hf : w.cell? ⟨Bf, 0, none⟩ = some (.slice fp Fs.length fc)) (hTf : ¬ T Bf) (hBf : Bf < w.heap.size) (hBd : Bd < w.heap.size) (hb : b < w.heap.size)
    (RQ : RowP w wp 2 Qs.length (fun i => [.int .i64 (atR wtT Qs i).at_, .slice (atR wtT Qs i).x.a (atR wtT Qs i).x.l.length (atR wtT Qs i).x.cap])) (hTQ : ∀ b o, wp = some ⟨b, o, none⟩ → Qs.length ≠ 0 → ¬ T b)
    (RF : RowP w fp 1 Fs.length (fun i => [.int .i64 (atR fatT Fs i)])) (hTF : ∀ b o, fp = some ⟨b, o, none⟩ → Fs.length ≠ 0 → ¬ T b) :
    SeqStopsK Fence.wide fr Try.prog 116 #[.pointer (some ⟨Bd, 0, none⟩), .pointer (some ⟨Bf, 0, none⟩)] (fun i : Fin N => #[wVal (atR wtT Qs i.val), .int .i64 (atR fatT Fs i.val)]) (Sole T) (fun ys => ys = fk N N) (fun pre => ∃ k, k ≤ N ∧ pre = fk N k) N w := fun l J Jx W hW hJ _ hY h0 =>
  fated1_in fr hn l Bd Bf b wp fp wc fc Qs Fs N hN hl1 hl2 T J Jx W hJ hY ((hW.cell (p := ⟨Bd, 0, none⟩) hBd).trans hd) ((hW.cell (p := ⟨b, 3, none⟩) hb).trans hw) ((hW.cell (p := ⟨Bf, 0, none⟩) hBf).trans hf) hTf (Nat.lt_of_lt_of_le hBf hW.size) (RQ.more hW) hTQ (RF.more hW) hTF h0

set_option maxRecDepth 100000 in
set_option maxHeartbeats 4000000 in
theorem settle_none_in (m : DM) (b : Nat) (K : Nat → Prop) (w : World) (D : DiskM w b m K) (fp : Option Addr) (fc : Nat) (Fs : List Int) (RF : RowOf fatT w fp Fs) (hl2 : Fs.length ≤ maxLen) (h0 : min m.Qs.length Fs.length = 0) :
    CallsIn Fence.wide 5 Try.prog 63 #[.pointer (some ⟨b, 0, none⟩), .slice fp Fs.length fc] w fun e w' => e = .returned (.tuple #[]) ∧ DiskM w' b m.clean K ∧ Sole K w w' := by
  have hro : Fence.wide.round = none := rfl
  have b1 : Below w.heap.size w (((w.alloc (.cells #[.pointer (some ⟨b, 0, none⟩)] 24)).alloc (.cells #[.pointer (some ⟨b, 0, none⟩)] 24)).alloc (.cells #[.slice fp Fs.length fc] 29)) := (((Below.refl _ _).alloc (Nat.le_refl _) _).alloc (by simp) _).alloc (by simp; omega) _
  have c0 : (((w.alloc (.cells #[.pointer (some ⟨b, 0, none⟩)] 24)).alloc (.cells #[.pointer (some ⟨b, 0, none⟩)] 24)).alloc (.cells #[.slice fp Fs.length fc] 29)).cell? ⟨w.heap.size, 0, none⟩ = some (.pointer (some ⟨b, 0, none⟩)) :=
    (((Blk.new w #[.pointer (some ⟨b, 0, none⟩)] 24).alloc _).alloc _).cell 0
  have c1 : (((w.alloc (.cells #[.pointer (some ⟨b, 0, none⟩)] 24)).alloc (.cells #[.pointer (some ⟨b, 0, none⟩)] 24)).alloc (.cells #[.slice fp Fs.length fc] 29)).cell? ⟨w.heap.size + 1, 0, none⟩ = some (.pointer (some ⟨b, 0, none⟩)) := by
    have := ((Blk.new (w.alloc (.cells #[.pointer (some ⟨b, 0, none⟩)] 24)) #[.pointer (some ⟨b, 0, none⟩)] 24).alloc (.cells #[.slice fp Fs.length fc] 29)).cell 0
    rw [World.size_alloc] at this
    exact this
  have c2 : (((w.alloc (.cells #[.pointer (some ⟨b, 0, none⟩)] 24)).alloc (.cells #[.pointer (some ⟨b, 0, none⟩)] 24)).alloc (.cells #[.slice fp Fs.length fc] 29)).cell? ⟨w.heap.size + 1 + 1, 0, none⟩ = some (.slice fp Fs.length fc) := by
    have := (Blk.new ((w.alloc (.cells #[.pointer (some ⟨b, 0, none⟩)] 24)).alloc (.cells #[.pointer (some ⟨b, 0, none⟩)] 24)) #[.slice fp Fs.length fc] 29).cell 0
    rw [World.size_alloc, World.size_alloc] at this
    exact this
  have s3 : (((w.alloc (.cells #[.pointer (some ⟨b, 0, none⟩)] 24)).alloc (.cells #[.pointer (some ⟨b, 0, none⟩)] 24)).alloc (.cells #[.slice fp Fs.length fc] 29)).heap.size = w.heap.size + 3 := by simp
  have hbl := D.blk.lt
  have klt := hid D.klt
  refine callsIn_of_wp_marks Try.func63 rfl trivial ?_ hro
  simp only [Try.ntmps63, List.size_toArray, List.length_cons, List.length_nil, Nat.reduceAdd, Nat.reduceSub, Array.replicate_succ, Array.replicate_zero, List.push_toArray, List.append_toArray, List.nil_append, List.cons_append]
  gi_wp2_with (refine ⟨trivial, ?_⟩; gi_at_call 92; refine (callsIn_wide.2 (fated_any _ _ _ _ _)).mono ?_; rintro e w' ⟨rfl, rfl⟩)
  generalize ((w.alloc (.cells #[.pointer (some ⟨b, 0, none⟩)] 24)).alloc (.cells #[.pointer (some ⟨b, 0, none⟩)] 24)).alloc (.cells #[.slice fp Fs.length fc] 29) = W3 at *
  have D3 := hid (D.more b1)
  obtain ⟨p8, c8, hv8, _, hq2, R8⟩ := D3.out.Q.open wtOk
  have e8 : m.wp = p8 ∧ m.wc = c8 := by simpa [DM.wv] using hv8
  have hR8 : RowP W3 m.wp 2 m.Qs.length (fun i => [.int .i64 (atR wtT m.Qs i).at_, .slice (atR wtT m.Qs i).x.a (atR wtT m.Qs i).x.l.length (atR wtT m.Qs i).x.cap]) := by rw [e8.1]; exact R8
  have hw3 : W3.cell? ⟨b, 3, none⟩ = some (.slice m.wp m.Qs.length m.wc) := D3.out.blk.cell 3
  have hqR : ∀ b' o, m.wp = some ⟨b', o, none⟩ → m.Qs.length ≠ 0 → b' < W3.heap.size := fun b' o e hne => by
    obtain ⟨b2, o2, e2, r2⟩ := hR8.row hne
    rw [e] at e2; cases e2; exact r2.lt
  have hfR : ∀ b' o, fp = some ⟨b', o, none⟩ → Fs.length ≠ 0 → b' < W3.heap.size := fun b' o e hne => by
    obtain ⟨b2, o2, e2, r2⟩ := (RF.more b1).row hne
    rw [e] at e2; cases e2; exact r2.lt
  refine wpIn_rangeFunc_ownH hro (by omega) (gf := 116) (lb := #[.pointer (some ⟨w.heap.size + 1, 0, none⟩), .pointer (some ⟨w.heap.size + 1 + 1, 0, none⟩)]) rfl trivial (enters_of Try.func116 (by kernel_rfl) rfl)
    (fated_stops (5 - 1) (by omega) (w.heap.size + 1) (w.heap.size + 1 + 1) b m.wp fp m.wc fc m.Qs Fs 0 h0.symm (Nat.le_trans (by have := D3.out.Q.open wtOk; obtain ⟨_, _, _, h1, h2, _⟩ := this; omega) (Nat.le_refl maxLen)) hl2 (fun k => W3.heap.size ≤ k) W3 c1 hw3 c2 (by omega) (by omega) (by omega) (by omega) hR8 (fun b' o e hne => by have := hqR b' o e hne; omega) (RF.more b1) (fun b' o e hne => by have := hfR b' o e hne; omega))
    (fun h k => Sole.trans h k) (fun W l o o' hl h hc hw => Sole.grown (grownBy_putObj' W l o') (fun k e => by cases e; exact hl)) (Below.refl _ _) (fun _ => rfl)
    (fun pre W => Below W3.heap.size W3 W)
    (fun _ _ _ => False)
    (ownFrom_below (Nat.le_refl _) (Nat.le_refl _))
    (fun cd => fun _ _ _ _ h _ _ => h)
    (Below.refl _ _)
    (fun i a' W => True)
    ?hAx ?assign ?body ?done ?stop
  case hAx => exact fun _ _ _ _ _ _ _ _ _ => trivial
  case assign => exact fun l pre x => x.elim0
  case body => exact fun l pre x => x.elim0
  case done =>
    rintro Db zs W hD rfl hI hK
    have hcl := (hI.cell (p := ⟨w.heap.size, 0, none⟩) (show w.heap.size < W3.heap.size by omega)).trans c0
    have KF := hid (forget_any m b K W (D3.out.more hI))
    have HI := hid hI
    have HK := hid hK
    clear hI hK
    gi_wp2_with (refine ⟨trivial, ?_⟩; gi_at_call 66; refine (callsIn_wide.2 KF.out).mono ?_; rintro e w' ⟨rfl, D', S'⟩)
    rename World => w9
    have S' : Sole K W w9 := S'.mono fun k _ e => e.elim (fun e => e ▸ D3.out.kk _ (.inl rfl)) (fun e => e ▸ D3.out.kk _ (.inr (.inl rfl)))
    have hDn : ¬ K Db := fun hk => by have := klt.out Db hk; omega
    have hlt : Db < W.heap.size := (Array.getElem?_eq_some_iff.1 HK.out).1
    have hK' : w9.heap[Db]? = some (.deferred (some [])) := (S'.block Db hlt hDn).trans HK.out
    refine ⟨by simp, .inl ⟨_, _, rfl, run_takeDeferred hK', ?_⟩⟩
    have Sd : Sole (fun k => k = Db) w9 (w9.putObj Db (.deferred none)) := Sole.grown (grownBy_putObj' w9 Db _) (fun k e => by cases e; rfl)
    have S1 : Sole K w w9 := ((Sole.made b1).trans (Sole.made HI.out)).trans S'
    exact ⟨.tuple #[], results_none rfl _ _ _, rfl, D'.kept Sd (fun k hk e => hDn (e ▸ hk)), S1.trans' Sd fun k hk e => by omega⟩
  case stop =>
    rintro Db cd pre W hD hpre hf hK
    exact hf.elim
end Go.Proofs.Ytpgibngohbohdaa
