/-
  Layer 30: alive: a sync.
-/
import Derived.Test.YtngfhbclapadoaaCodePut
namespace Go.Proofs.Ytngfhbclapadoaa
open Go.RowKit
set_option linter.unusedVariables false
set_option linter.unusedSimpArgs false

def sp8 : Sp := ⟨8, 0, 0, 0, 0, 0, ByteArray.empty, none, 0, []⟩
def sp14 : Sp := ⟨14, 0, 0, 0, 0, 0, ByteArray.empty, none, 0, []⟩
theorem sp8_ok : sp8.ok := ⟨by simp [sp8], by simp [sp8], by simp [sp8], by simp [sp8], by simp [sp8], by simp [sp8], by simp [sp8], by simp [sp8], by simp [sp8], by simp [sp8], by simp [sp8], by simp [sp8], by simp [sp8], by simp [sp8]⟩
theorem sp14_ok : sp14.ok := ⟨by simp [sp14], by simp [sp14], by simp [sp14], by simp [sp14], by simp [sp14], by simp [sp14], by simp [sp14], by simp [sp14], by simp [sp14], by simp [sp14], by simp [sp14], by simp [sp14], by simp [sp14], by simp [sp14]⟩
theorem sp8_ck : spCk sp8 = 0 := by simp [spCk, sp8, fatesB]
theorem sp14_ck : spCk sp14 = 12 := by simp [spCk, sp14]
theorem sp8_E : spE [sp8] = 0 := by
  show (if spCk sp8 = 0 then 0 else spCk sp8) = 0
  rw [if_pos sp8_ck]
theorem sp8_O : (spO [sp8]).length = 23 := by
  have e : spO [sp8] = stepO sp8 := by simp [spO, sp8_ck]
  rw [e, stepO_length]
  simp [sp8]

set_option maxRecDepth 100000 in
set_option maxHeartbeats 2000000 in
theorem alive30 (w : World) : Calls Try.prog 16 #[] w fun e w' => e = .returned (.bool true) ∧ Below w.heap.size w w' := by
  have B := Blk.new w (sparr sp8) 49
  have hb : Below w.heap.size w (w.alloc (.cells (sparr sp8) 49)) := (Below.refl _ _).alloc (Nat.le_refl _) _
  have K := hid (codeput_any [sp8] (some ⟨w.heap.size, 0, none⟩) 1 (fun s hs => by simp at hs; rw [hs]; exact sp8_ok) (by simp) (by simp) (by unfold maxLen; omega) _ (rowOf_one spOk B rfl) (fun s hs => by simp at hs; rw [hs]; exact .inl rfl))
  have KC := hid (fun wx => codecheck_any sp14 sp14_ok wx (.inl rfl))
  have hl := sp8_O
  rw [sp8_E, if_pos rfl] at K
  rw [sp14_ck] at KC
  generalize spO [sp8] = X at *
  have hbh := hid hb
  clear B hb
  dsimp only [spval, sparr, sp8, sp14, List.length_nil, List.length_cons] at K KC hbh
  go_enter Try.func16, Try.ntmps16
  go_wp2_with fail
  refine K.out.mono ?_
  rintro e w2 ⟨v, rfl, xa, xc, rfl, OX, hb2⟩
  have D2 := hid (below2 hbh.out hb2 hbh.out.size)
  rw [hl]
  clear K OX hb2
  go_wp2_with fail
  refine (KC.out _).mono ?_
  rintro e w3 ⟨rfl, hb3⟩
  have D3 := hid (below2 D2.out hb3 D2.out.size)
  clear KC hb3
  go_wp2_with fail
  go_ret
  exact ⟨rfl, D3.out⟩
end Go.Proofs.Ytngfhbclapadoaa
