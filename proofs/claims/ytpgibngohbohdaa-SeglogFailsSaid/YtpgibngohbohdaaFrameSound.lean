/-
  Package frame: Sound.
-/
import Derived.Test.YtpgibngohbohdaaFrameMath
import Derived.Test.YtpgibngohbohdaaRefPoint
import Derived.Deep.RegionWith
import Derived.Deep.DeepCutAuto
namespace Go.Proofs.Ytpgibngohbohdaa
open Go.RowKit
set_option linter.unusedVariables false
set_option linter.unusedSimpArgs false

/-- A block made ahead of a step of an In, or between two. -/
theorem blk_between {w1 w2 : World} {q : Nat} {c : Array Value} {t : TypeId} (S : Sole (fun k => k = q) (w1.alloc (.cells c t)) w2) (hq : q < w1.heap.size) : Blk w2 w1.heap.size c :=
  (Blk.new w1 c t).sole S fun h => by have h' : w1.heap.size = q := h; omega
theorem blk_ahead {w w1 w2 : World} {q n : Nat} {c : Array Value} {t : TypeId} (hb : Below n (w.alloc (.cells c t)).drew w1) (hn : w.heap.size < n) (hq : w.heap.size < q) (S : Sole (fun k => k = q) w1 w2) : Blk w2 w.heap.size c :=
  ((Blk.new w c t).drew.below hb hn).sole S fun h => by have h' : w.heap.size = q := h; omega
theorem blk_ahead2 {w w1 w2 : World} {q n : Nat} {c : Array Value} {t : TypeId} (hb : Below n (w.drew.alloc (.cells c t)) w1) (hn : w.heap.size < n) (hq : w.heap.size < q) (S : Sole (fun k => k = q) w1 w2) : Blk w2 w.heap.size c :=
  ((Blk.new w c t).drew.below (w := (w.alloc (.cells c t)).drew) hb hn).sole S fun h => by have h' : w.heap.size = q := h; omega
theorem blk_one {w : World} {b : Nat} {v : Value} (B : Blk w b #[v]) : w.cell? ⟨b, 0, none⟩ = some v := B.cell 0

set_option maxRecDepth 100000 in
set_option maxHeartbeats 8000000 in
theorem sound_any (l : List UInt8) (a : Option Addr) (cap : Nat) (h1 : l.length ≤ cap) (h2 : cap ≤ maxLen) (w : World) (O : Octs w a l) :
    Calls Try.prog 106 #[.slice a l.length cap] w fun e w' => e = .returned (.bool (soundB l)) ∧ Below w.heap.size w w' := by
  by_cases hlen : l.length = 256
  · obtain ⟨b, o, rfl, hb, hc⟩ := O.row (by intro h; rw [h] at hlen; cases hlen)
    rw [hlen] at h1 ⊢
    have O1 := O.drop 252
    have O2 := O.take 252
    have l1 : (l.drop 252).length = 4 := by simp [hlen]
    have l2 : (l.take 252).length = 252 := by simp [hlen]
    have KO := hid (fun (wx : World) (hb : Below w.heap.size w wx) => rs_open (l.drop 252) (some ⟨b, o + 252, none⟩) (cap - 252) wx (O1.more hb) (by omega))
    have KC := hid (fun (wx : World) (hb : Below w.heap.size w wx) (g : Nat) => crc_one (l.take 252) (some ⟨b, o, none⟩) cap g (by omega) h2 wx (O2.more hb))
    rw [l1] at KO
    rw [l2] at KC
    have hs : Hid (soundB l = ((numOf ((l.drop 252).take 4) : Int) == (crcN (l.take 252) : Int))) := hid (by
      rw [List.take_of_length_le (l := l.drop 252) (i := 4) (by omega)]
      unfold soundB
      rw [hlen]
      by_cases h : numOf (l.drop 252) = crcN (l.take 252)
      · rw [h]; simp
      · have h' : ¬ (numOf (l.drop 252) : Int) = (crcN (l.take 252) : Int) := by omega
        simp [h, h'])
    unfold maxLen at h2
    have e1 : (252 : Int) ≤ cap := by omega
    clear O hc
    go_enter Try.func106, Try.ntmps106
    go_wp2_with fail
    have cl := crcN_lt (l.take 252)
    have cl0 : 0 ≤ (crcN (l.take 252) : Int) ∧ (crcN (l.take 252) : Int) ≤ 4294967295 := by omega
    have cw : IntKind.i64.wrap (crcN (l.take 252) : Int) = (crcN (l.take 252) : Int) := IntWalk.i64_in _ (by omega)
    clear cl
    go_region_with (first
      | ((with_reducible refine (KO.out _ (by first | exact (Below.refl _ _).drew | exact ((Below.refl _ _).alloc (Nat.le_refl _) _).drew)).mono ?_); rintro e w1 ⟨q, rfl, hq, R1, hb1⟩; have hqw : w.heap.size ≤ q := (by have h := hq; simp at h; omega); have hq1 := R1.1.lt; have B1 : Below w.heap.size w w1 := (by first | exact ((Below.refl w.heap.size w).drew).trans (hb1.mono (Nat.le_refl _)) | exact (((Below.refl w.heap.size w).alloc (Nat.le_refl _) _).drew).trans (hb1.mono (by simp))))
      | ((with_reducible refine (rs_nums 4 4 rfl q (l.drop 252) _ (by first | exact R1 | exact R1.more ((Below.refl _ _).alloc (Nat.le_refl _) _)) (by omega)).mono ?_); rintro e w2 ⟨rfl, R2, S2⟩; have B2 : Below w.heap.size w w2 := (by first | exact in_below B1 hqw S2 | exact in_below (B1.alloc B1.size _) hqw S2))
      | ((first | (have C2 := blk_between S2 hq1; have c1 := C2.lt; have c2 := blk_one C2) | (have C2 := blk_ahead hb1 (by simp) (by have h := hq; simp at h; omega) S2; have c1 := C2.lt; have c2 := blk_one C2) | skip); (with_reducible refine (KC.out _ (by first | exact B2 | exact B2.alloc B2.size _) _ (by first | assumption | simp) (by first | assumption | simp)).mono ?_); rintro e w3 ⟨rfl, hb3⟩; have B3 : Below w.heap.size w w3 := (by first | exact below2 B2 hb3 B2.size | exact below2 (B2.alloc B2.size _) hb3 (by have h := B2.size; simp; omega))))
    all_goals
      have E := hid B3
      clear B3 B2 hb3
      go_wp2_with fail
      go_ret
      exact ⟨by rw [hs.out]; first | rfl | (show Ending.returned (.bool ((numOf ((l.drop 252).take 4) : Int) == IntKind.i64.wrap (crcN (l.take 252) : Int))) = _; rw [cw]), E.out⟩
  · have hne : ((l.length : Int) != 256) = true := by simp; omega
    have hs : Hid (soundB l = false) := hid (by unfold soundB; simp [hlen])
    have hl' : (l.length : Int) ≤ 9223372036854775807 := by unfold maxLen at h2; omega
    clear hlen h1 h2 O
    go_enter Try.func106, Try.ntmps106
    go_wp2
    go_ret
    exact ⟨by rw [hs.out]; rfl, Below.refl _ _⟩
end Go.Proofs.Ytpgibngohbohdaa
