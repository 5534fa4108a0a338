/-
  Package disk: New.
-/
import Derived.Test.YtpgibngohbohdaaDiskRead
import Derived.OwnWalk
import Derived.Laws.OwnMore
namespace Go.Proofs.Ytpgibngohbohdaa
open Go.RowKit Go.Maps
set_option linter.unusedVariables false
set_option linter.unusedSimpArgs false

theorem flatO_map : ∀ L : List OcS, flatR ocT L = L.map (fun x => .slice x.a x.l.length x.cap)
  | [] => rfl
  | x :: L => by
    have := flatO_map L
    unfold flatR at this ⊢
    rw [List.flatMap_cons, this]
    rfl
/-- A store into a row of octets. -/
theorem rowO_set {w : World} {base g n cap : Nat} {L : List OcS} (h : RowOwn ocT w base (.slice (some ⟨g, 0, none⟩) n cap) L) (hn : n = L.length) (j : Nat) (x : OcS) :
    RowOwn ocT (w.setCell ⟨g, j, none⟩ (.slice x.a x.l.length x.cap)) base (.slice (some ⟨g, 0, none⟩) n cap) (L.set j x) := by
  subst hn
  have := own_set h j (.slice x.a x.l.length x.cap)
  unfold RowOwn
  rw [List.length_set, flatO_map, List.map_set, ← flatO_map]
  exact this
def zerosN (n : Nat) : List UInt8 := List.replicate n 0
theorem zerosN_len (n : Nat) : (zerosN n).length = n := List.length_replicate
def emptyO : OcS := ⟨none, 0, []⟩
theorem made_octs (t : TypeId) (n : Nat) (w : World) : Octs (w.alloc (.cells (madeCells #[.int .u8 0] n) t)) (some ⟨w.heap.size, 0, none⟩) (zerosN n) := by
  refine .inr ⟨_, _, rfl, by simp, fun i hi => ?_⟩
  have h := (Blk.new w (madeCells #[.int .u8 0] n) t).cell (0 + i)
  rw [h, Nat.zero_add]
  have hi' : i < n := by rw [zerosN_len] at hi; exact hi
  simp [madeCells, zerosN, hi', Nat.mod_one]
theorem made_nils (n : Nat) : (madeCells #[.slice none 0 0] n).toList = flatR ocT (List.replicate n emptyO) := by
  rw [flatO_map, List.map_replicate]
  apply List.ext_getElem?
  intro t
  by_cases h : t < n
  · simp [madeCells, h, emptyO, Nat.mod_one]
  · rw [List.getElem?_eq_none (by simp [size_madeCells]; omega), List.getElem?_eq_none (by simp; omega)]
theorem run_zeros (n : Nat) (hn : n ≤ 1000000) (w : World) : (Instr.makeSlice 35 (.int .i64 (n : Int)) (.int .i64 (n : Int))).run Try.prog w = .ok (.slice (some ⟨w.heap.size, 0, none⟩) n n) (w.alloc (.cells (madeCells #[.int .u8 0] n) 5)) := by
  obtain ⟨i, hi, hz, hs, hby⟩ := info_parts u8Info
  have := run_make (P := Try.prog) w 35 5 i (.int .u8 0) Try.underlying35 hi hz .i64 .i64 (n : Int) (n : Int) (by omega) (Int.le_refl _) (by rw [hby]; omega) (by omega)
  simp only [Int.toNat_natCast, hs, Nat.mul_one] at this
  exact this

theorem run_nils (n : Nat) (hn : n ≤ 1000000) (w : World) : (Instr.makeSlice 26 (.int .i64 (n : Int)) (.int .i64 (n : Int))).run Try.prog w = .ok (.slice (some ⟨w.heap.size, 0, none⟩) n n) (w.alloc (.cells (madeCells #[.slice none 0 0] n) 35)) := by
  obtain ⟨i, hi, hz, hs, hby⟩ := info_parts ocOk.tab
  have := run_make (P := Try.prog) w 26 35 i (.slice none 0 0) Try.underlying26 hi hz .i64 .i64 (n : Int) (n : Int) (by omega) (Int.le_refl _) (by rw [hby]; show (24 : Int) * _ ≤ _; omega) (by omega)
  simp only [Int.toNat_natCast, hs] at this
  rw [show n * ocT.sz = n from Nat.mul_one n] at this
  exact this
/-- A new disk's sectors, as far as they are made. -/
structure NewL (w : World) (S0 N k : Nat) (L : List OcS) : Prop where
  len : L.length = k
  row : RowOwn ocT w 0 (.slice (some ⟨S0, 0, none⟩) N N) (L ++ List.replicate (N - k) emptyO)
  oct : ∀ x ∈ L, x.soft w ∧ (∃ g, x.a = some ⟨g, 0, none⟩ ∧ S0 + 4 ≤ g ∧ g < w.heap.size) ∧ x.l = zerosN 256
  uniq : (L.map (·.a)).Nodup
theorem NewL.drew {w : World} {S0 N k : Nat} {L : List OcS} (h : NewL w S0 N k L) : NewL w.drew S0 N k L :=
  ⟨h.len, h.row.drew, fun x hx => ⟨(h.oct x hx).1.more (Below.refl _ _).drew, (h.oct x hx).2⟩, h.uniq⟩
theorem NewL.next {w : World} {S0 N k : Nat} {L : List OcS} (h : NewL w S0 N k L) (hk : k < N) (hS : S0 + 4 ≤ w.heap.size) :
    ∃ L', NewL ((w.alloc (.cells (madeCells #[.int .u8 0] 256) 5)).setCell ⟨S0, k, none⟩ (.slice (some ⟨w.heap.size, 0, none⟩) 256 256)) S0 N (k + 1) L' := by
  have hb : Below w.heap.size w (w.alloc (.cells (madeCells #[.int .u8 0] 256) 5)) := (Below.refl _ _).alloc (Nat.le_refl _) _
  have O := made_octs 5 256 w
  have BA := Blk.new w (madeCells #[.int .u8 0] 256) 5
  have hs : (w.alloc (.cells (madeCells #[.int .u8 0] 256) 5)).heap.size = w.heap.size + 1 := by simp
  generalize w.alloc (.cells (madeCells #[.int .u8 0] 256) 5) = wA at *
  have hsole : Sole (fun j => j = S0) wA (wA.setCell ⟨S0, k, none⟩ (.slice (some ⟨w.heap.size, 0, none⟩) 256 256)) := Sole.setCell wA _ rfl
  have hl := h.len
  have hrow := rowO_set (h.row.more hb) (by simp; omega) k ⟨some ⟨w.heap.size, 0, none⟩, 256, zerosN 256⟩
  rw [show (zerosN 256).length = 256 from zerosN_len 256] at hrow
  refine ⟨L ++ [⟨some ⟨w.heap.size, 0, none⟩, 256, zerosN 256⟩], by simp [hl], ?_, ?_, ?_⟩
  · have e : (L ++ List.replicate (N - k) emptyO).set k ⟨some ⟨w.heap.size, 0, none⟩, 256, zerosN 256⟩ = L ++ [⟨some ⟨w.heap.size, 0, none⟩, 256, zerosN 256⟩] ++ List.replicate (N - (k + 1)) emptyO := by
      rw [List.set_append_right _ _ (by omega), hl, Nat.sub_self, show N - k = (N - (k + 1)) + 1 by omega, List.replicate_succ, List.set_cons_zero, List.append_assoc]
      rfl
    rw [← e]
    exact hrow
  · intro x hx
    rcases List.mem_append.1 hx with hx | hx
    · obtain ⟨ht, ⟨g, e, h1, h2⟩, hz⟩ := h.oct x hx
      exact ⟨so_sole (ht.more hb) hsole fun b o e' => by rw [e] at e'; cases e'; omega, ⟨g, e, h1, by have := hsole.size; omega⟩, hz⟩
    · simp only [List.mem_singleton] at hx
      subst hx
      refine ⟨⟨⟨O.sole hsole fun b o e' _ => by cases e'; omega, by rw [zerosN_len]; exact Nat.le_refl _, by show 256 ≤ maxLen; unfold maxLen; omega⟩, fun b o e' => by cases e'; exact ⟨by have := hsole.size; omega, fun i => (hsole.frozen BA.lt (show ¬ w.heap.size = S0 by omega)).trans (BA.frz i)⟩⟩, ⟨_, rfl, by omega, by have := hsole.size; omega⟩, rfl⟩
  · rw [List.map_append, List.nodup_append]
    refine ⟨h.uniq, by simp, fun a ha c hc => ?_⟩
    simp only [List.map_cons, List.map_nil, List.mem_singleton] at hc
    obtain ⟨x, hx, rfl⟩ := List.mem_map.1 ha
    obtain ⟨_, ⟨g, e, h1, h2⟩, _⟩ := h.oct x hx
    rw [hc, e]
    intro he
    cases he
    omega

theorem own_fill {w : World} {base : Nat} {e : TypeId} {size g n m : Nat} {xs : List Value} (h : w.ownsRow base e size (.slice (some ⟨g, 0, none⟩) n n) m xs) : ∃ c : Array Value, Blk w g c ∧ c.toList = xs := by
  rcases h.2 with ⟨hv, _⟩ | ⟨g', cap, cur, hv, hb, hg, h1, h2, h3, h4⟩
  · simp at hv
  · simp at hv
    obtain ⟨rfl, rfl, rfl⟩ := hv
    refine ⟨cur, ⟨(h.lt g rfl).2, fun o => by simp [World.cell?, hg], fun o => by simp [World.frozen?, hg]⟩, ?_⟩
    rw [← h4, List.take_of_length_le]
    rw [Array.length_toList, h3]
    exact Nat.le_refl _
/-- A new disk. -/
structure NewD (m : DM) (N : Nat) : Prop where
  off : m.off = false
  tl : m.tl = false
  tf : m.tf = false
  Q : m.Qs = []
  S : m.Ls.length = N
  Z : ∀ x ∈ m.Ls, x.l = zerosN 256
  O : ∀ z : Int, Maps.has m.DO (.int .i64 z) = false
  n : m.n = 0
  n' : m.n' = 0
def newM (S0 N : Nat) (L : List OcS) : DM := ⟨false, false, 0, false, 0, some ⟨S0, 0, none⟩, N, L, none, 0, [], none, 0, [], S0 + 1, S0 + 2, 0, 0, .map [], .map []⟩
def sectorsN (z : Int) : Nat := (min (max z 0) 4096).toNat
def newW (w : World) (N : Nat) : World := (((w.alloc (.cells (madeCells #[.slice none 0 0] N) 35)).alloc (.map #[] 0)).alloc (.map #[] 0)).alloc (.cells #[.bool true, .bool false, .slice (some ⟨w.heap.size, 0, none⟩) N N, .slice none 0 0, .map (some (w.heap.size + 1)), .map (some (w.heap.size + 1 + 1)), .bool false, .int .i64 0, .slice none 0 0, .bool false, .int .i64 0] 88)
structure NewMem (w W : World) (N : Nat) : Prop where
  size : W.heap.size = w.heap.size + 4
  blk : Blk W (w.heap.size + 3) #[.bool true, .bool false, .slice (some ⟨w.heap.size, 0, none⟩) N N, .slice none 0 0, .map (some (w.heap.size + 1)), .map (some (w.heap.size + 1 + 1)), .bool false, .int .i64 0, .slice none 0 0, .bool false, .int .i64 0]
  row : NewL W w.heap.size N 0 []
  L : W.ownsMap (H := Unit) Try.prog 3 (plainElem Try.prog 3) (w.heap.size + 1) 0 (.map [])
  O : W.ownsMap (H := Unit) Try.prog 3 unitElem (w.heap.size + 1 + 1) 0 (.map [])
  low : Below w.heap.size w W
theorem newMem (w : World) (N : Nat) (hN : N ≤ 4096) : NewMem w (newW w N) N := by
  unfold newW
  have b1 : Below w.heap.size w (w.alloc (.cells (madeCells #[.slice none 0 0] N) 35)) := (Below.refl _ _).alloc (Nat.le_refl _) _
  have s1 : (w.alloc (.cells (madeCells #[.slice none 0 0] N) 35)).heap.size = w.heap.size + 1 := by simp
  have R : RowOwn ocT (w.alloc (.cells (madeCells #[.slice none 0 0] N) 35)) 0 (.slice (some ⟨w.heap.size, 0, none⟩) N N) (List.replicate N emptyO) := by
    have := World.ownsRow_lit (size := 1) (e := 35) (base := 0) w (madeCells #[.slice none 0 0] N) N (Nat.zero_le _) (by unfold maxLen; omega) (by rw [size_madeCells, Nat.mul_one])
    unfold RowOwn
    rw [List.length_replicate, ← made_nils]
    exact this
  generalize w.alloc (.cells (madeCells #[.slice none 0 0] N) 35) = W1 at *
  have M2 := World.ownsMap_made (H := Unit) W1 Try.prog 3 (plainElem Try.prog 3)
  have b2 : Below W1.heap.size W1 (W1.alloc (.map #[] 0)) := (Below.refl _ _).alloc (Nat.le_refl _) _
  have s2 : (W1.alloc (.map #[] 0)).heap.size = w.heap.size + 2 := by simp [s1]
  have R2 := R.more b2
  have B2 := below2 b1 b2 b1.size
  generalize W1.alloc (.map #[] 0) = W2 at *
  have M3 := World.ownsMap_made (H := Unit) W2 Try.prog 3 unitElem
  have b3 : Below W2.heap.size W2 (W2.alloc (.map #[] 0)) := (Below.refl _ _).alloc (Nat.le_refl _) _
  have s3 : (W2.alloc (.map #[] 0)).heap.size = w.heap.size + 3 := by simp [s2]
  have R3 := R2.more b3
  have B3 := below2 B2 b3 B2.size
  have M2' := map_sole M2 (Sole.made (S := fun _ => False) b3) id
  generalize W2.alloc (.map #[] 0) = W3 at *
  generalize hc : (#[.bool true, .bool false, .slice (some ⟨w.heap.size, 0, none⟩) N N, .slice none 0 0, .map (some (w.heap.size + 1)), .map (some (w.heap.size + 1 + 1)), .bool false, .int .i64 0, .slice none 0 0, .bool false, .int .i64 0] : Array Value) = c
  have b4 : Below W3.heap.size W3 (W3.alloc (.cells c 88)) := (Below.refl _ _).alloc (Nat.le_refl _) _
  have B := Blk.new W3 c 88
  rw [s3] at B
  rw [s1] at M2'
  rw [s2] at M3
  have hL := map_sole M2' (Sole.made (S := fun _ => False) b4) id
  have hO := map_sole M3 (Sole.made (S := fun _ => False) b4) id
  have hR := R3.more b4
  exact ⟨by simp [s3], by rw [hc]; exact B, ⟨rfl, by simpa using hR, nofun, by simp⟩, hL, hO, below2 B3 b4 B3.size⟩
theorem newD_of {w W wr : World} {N : Nat} {L : List OcS} (hN : N ≤ 4096) (M : NewMem w W N) (hs : Sole (fun k => k = w.heap.size) W wr) (h : NewL wr w.heap.size N N L) :
    DiskM wr (w.heap.size + 3) (newM w.heap.size N L) (fun k => w.heap.size ≤ k ∧ k < wr.heap.size) ∧ NewD (newM w.heap.size N L) N ∧ Below w.heap.size w wr := by
  obtain ⟨hl, hrow, hoct, huniq⟩ := h
  subst hl
  have hsz := hs.size
  have hms := M.size
  have hbase : ∀ g, (newM w.heap.size L.length L).base (w.heap.size + 3) g → g = w.heap.size + 3 ∨ g = w.heap.size + 1 ∨ g = w.heap.size + 2 ∨ g = w.heap.size := by
    rintro g (e | e | e | e | e | e)
    · exact .inl e
    · exact .inr (.inl e)
    · exact .inr (.inr (.inl e))
    · exact .inr (.inr (.inr (by simpa [DM.sv, newM, Value.ownBlock, eq_comm] using e)))
    · cases e
    · cases e
  refine ⟨?_, ⟨rfl, rfl, rfl, rfl, rfl, fun x hx => (hoct x hx).2.2, fun z => by rfl, rfl, rfl⟩, M.low.trans (hs.below (B := w.heap.size) (by omega) fun k e => by omega)⟩
  exact
  { blk := (M.blk.sole hs (by omega))
    apart := ⟨by show w.heap.size + 3 ≠ w.heap.size + 1; omega, by show w.heap.size + 3 ≠ w.heap.size + 2; omega, by show w.heap.size + 1 ≠ w.heap.size + 2; omega, fun k e => by
      have e' : w.heap.size = k := by simpa [DM.sv, newM, Value.ownBlock] using e
      refine ⟨by omega, by show k ≠ w.heap.size + 1; omega, by show k ≠ w.heap.size + 2; omega, nofun, nofun⟩, nofun, nofun⟩
    kk := fun k hk => by have := hbase k hk; show w.heap.size ≤ k ∧ k < wr.heap.size; omega
    klt := fun k hk => hk.2
    S := (by simpa using hrow : RowOwn ocT wr 0 (.slice (some ⟨w.heap.size, 0, none⟩) L.length L.length) L)
    SO := fun x hx => by
      obtain ⟨ht, ⟨g, e, h1, h2⟩, hz⟩ := hoct x hx
      exact ⟨ht, g, e, ⟨by omega, h2⟩, fun hb => by have := hbase g hb; omega, by rw [hz, zerosN_len]⟩
    Q := RowOwn.nil _ _
    QO := nofun
    F := RowOwn.nil _ _
    L := map_sole M.L hs (show ¬ (w.heap.size + 1 = w.heap.size) by omega)
    O := map_sole M.O hs (show ¬ (w.heap.size + 1 + 1 = w.heap.size) by omega)
    last := LastOk.nil
    lenS := hN
    cwf := rfl
    fwf := rfl
    uniq := ⟨huniq, List.nodup_nil, nofun⟩ }
set_option maxRecDepth 100000 in
set_option maxHeartbeats 2000000 in
theorem dnew_any (z : Int) (w : World) : Calls Try.prog 8 #[.int .i64 z] w fun e w' =>
    ∃ L, e = .returned (.pointer (some ⟨w.heap.size + 3, 0, none⟩)) ∧ DiskM w' (w.heap.size + 3) (newM w.heap.size (sectorsN z) L) (fun k => w.heap.size ≤ k ∧ k < w'.heap.size) ∧ NewD (newM w.heap.size (sectorsN z) L) (sectorsN z) ∧ Below w.heap.size w w' := by
  have hN : (sectorsN z : Int) = min (max z 0) 4096 := by unfold sectorsN; omega
  have hN4 : sectorsN z ≤ 4096 := by unfold sectorsN; omega
  generalize sectorsN z = N at *
  have hmm := @run_makeMap Try.prog
  have hNm : min (max z 0) 4096 = (N : Int) := hN.symm
  have mk2 := run_nils N (by omega) w
  clear hN
  have mk : ∀ w, (Instr.makeSlice 35 (.int .i64 256) (.int .i64 256)).run Try.prog w = .ok (.slice (some ⟨w.heap.size, 0, none⟩) 256 256) (w.alloc (.cells (madeCells #[.int .u8 0] 256) 5)) := fun w => run_zeros 256 (by omega) w
  have NM := hid (newMem w N hN4)
  have hN4h := hid hN4
  go_enter Try.func8, Try.ntmps8
  go_wp2_with fail
  change Code.wp _ _ _ _ (newW w N)
  generalize newW w N = W at *
  have B0 := NM.out.blk
  go_loopw [18] (fun i wr => ∃ k : Nat, k ≤ N ∧ i = .int .i64 (k : Int) ∧ Sole (fun j => j = w.heap.size) W wr ∧ ∃ L, NewL wr w.heap.size N k L) (fun i _ => N - (intOf i).toNat)
  case atStart => exact ⟨0, Nat.zero_le _, rfl, Sole.refl _ _, _, NM.out.row⟩
  case round =>
    obtain ⟨k, hk, rfl, hs, L, HL⟩ := hrel
    by_cases hlt : k < N
    · obtain ⟨c5, B5, hc5⟩ := own_fill HL.row
      have hc : c5[k]? = some (.slice none 0 0) := by
        rw [← Array.getElem?_toList, hc5, flatO_map, List.map_append, List.getElem?_append_right (by simp [HL.len]), List.length_map, HL.len, Nat.sub_self, List.map_replicate]
        simp [List.getElem?_replicate, emptyO]
        omega
      have B3 := NM.out.blk.sole hs (by omega)
      obtain ⟨L', HL'⟩ := HL.drew.next hlt (by have := hs.size; have := NM.out.size; show _ ≤ wr.heap.size; omega)
      have hs' : Sole (fun j => j = w.heap.size) W ((wr.drew.alloc (.cells (madeCells #[.int .u8 0] 256) 5)).setCell ⟨w.heap.size, k, none⟩ (.slice (some ⟨wr.drew.heap.size, 0, none⟩) 256 256)) := (hs.drew.trans (Sole.alloc wr.drew _)).trans (Sole.setCell _ _ rfl)
      rw [World.setCell_alloc_past _ _ _ _ (show w.heap.size < wr.drew.heap.size by have := hs.size; have := NM.out.size; show _ < wr.heap.size; omega)] at hs' HL'
      have E := hid (And.intro hs' HL')
      obtain ⟨l3, k3, f3⟩ := B3
      obtain ⟨l5, k5, f5⟩ := B5
      have x5 := (k5 k).trans hc
      have y5 := f5 k
      clear hs HL hs' HL' k5 f5 hc hc5 B0
      go_wp2_with fail
      go_region
      go_wp2_with fail
      go_roundw
      case rel => exact ⟨k + 1, by omega, by simp, E.out.1, L', E.out.2⟩
      case measure => simp [intOf]; omega
    · obtain rfl : k = N := by omega
      have E := hid (newD_of hN4h.out NM.out hs HL)
      clear hs HL B0
      go_wp2_with fail
      go_ret
      exact ⟨L, rfl, E.out⟩
end Go.Proofs.Ytpgibngohbohdaa
