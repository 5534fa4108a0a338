/-
  Package frame: a sector's octets, and what octets have.
-/
import Derived.Test.YtpgibngohbohdaaLittleChain
import Derived.Test.YtpgibngohbohdaaCrcRef
import Derived.Test.YtpgibngohbohdaaCrcOf
namespace Go.Proofs.Ytpgibngohbohdaa
open Go.RowKit
set_option linter.unusedVariables false
set_option linter.unusedSimpArgs false

/-- A stamp. -/
structure Stp where
  e : Int
  s : Int
  a : Int
def Stp.ok (t : Stp) : Prop := -9223372036854775808 ≤ t.e ∧ t.e ≤ 9223372036854775807 ∧ -9223372036854775808 ≤ t.s ∧ t.s ≤ 9223372036854775807 ∧ -9223372036854775808 ≤ t.a ∧ t.a ≤ 9223372036854775807
abbrev sval (t : Stp) : Value := .agg #[.int .i64 t.e, .int .i64 t.s, .int .i64 t.a]
abbrev scells (t : Stp) : Array Value := #[.int .i64 t.e, .int .i64 t.s, .int .i64 t.a]
/-- May a sector of that kind and stamp be? -/
def stFits (kind : Int) (t : Stp) : Prop := 0 ≤ kind ∧ kind ≤ 255 ∧ 0 ≤ t.e ∧ t.e ≤ 4294967295 ∧ 0 ≤ t.s ∧ t.s ≤ 4294967295 ∧ 0 ≤ t.a ∧ t.a ≤ 65535
instance (kind : Int) (t : Stp) : Decidable (stFits kind t) := by unfold stFits; infer_instance
/-- The sum of octets, as a sector has it. -/
def crcN (l : List UInt8) : Nat := 4294967295 - sumN l
theorem crcN_int (l : List UInt8) : (crcN l : Int) = 4294967295 - (sumN l : Int) := by have := sumN_lt l; unfold crcN; omega
theorem crcN_lt (l : List UInt8) : crcN l < 4294967296 := by unfold crcN; omega
/-- The fourteen octets ahead of the text. -/
def headB (kind : Int) (t : Stp) (n : Nat) : List UInt8 := [67, 82] ++ leB kind.toNat 1 ++ leB t.e.toNat 4 ++ leB t.s.toNat 4 ++ leB t.a.toNat 2 ++ leB n 1
theorem headB_length (kind : Int) (t : Stp) (n : Nat) : (headB kind t n).length = 14 := by simp [headB, leB_length]
def bodyB (kind : Int) (t : Stp) (l : List UInt8) : List UInt8 := headB kind t l.length ++ l ++ List.replicate (238 - l.length) 0
theorem bodyB_length (kind : Int) (t : Stp) (l : List UInt8) (h : l.length ≤ 238) : (bodyB kind t l).length = 252 := by
  simp only [bodyB, List.length_append, headB_length, List.length_replicate]; omega
def sealB (kind : Int) (t : Stp) (l : List UInt8) : List UInt8 := bodyB kind t l ++ leB (crcN (bodyB kind t l)) 4
theorem sealB_length (kind : Int) (t : Stp) (l : List UInt8) (h : l.length ≤ 238) : (sealB kind t l).length = 256 := by
  simp only [sealB, List.length_append, bodyB_length kind t l h, leB_length]
/-- Seal's error. -/
def sealC (kind : Int) (t : Stp) (n : Nat) : Int := if stFits kind t then (if n ≤ 238 then 0 else 5) else 4
/-- Seal's octets. -/
def sealL (kind : Int) (t : Stp) (l : List UInt8) : List UInt8 := if stFits kind t ∧ l.length ≤ 238 then sealB kind t l else []

/-- The sum of one row. -/
theorem crc_one (l : List UInt8) (a : Option Addr) (cap b : Nat) (h1 : l.length ≤ cap) (h2 : cap ≤ maxLen) (w : World) (O : Octs w a l) (hb : b < w.heap.size) (hc : w.cell? ⟨b, 0, none⟩ = some (.slice a l.length cap)) :
    Calls Try.prog 83 #[.slice (some ⟨b, 0, none⟩) 1 1] w fun e w' => e = .returned (.int .u32 (crcN l : Int)) ∧ Below w.heap.size w w' := by
  have K := of_any (some ⟨b, 0, none⟩) 1 1 (fun _ => a) (fun _ => l.length) (fun _ => cap) (fun _ => byteAt l) (Nat.le_refl _) (by decide) (fun j _ k _ => byteAt_lt _ _) (fun j _ => ⟨h1, h2⟩) w
    (.inr ⟨b, 0, rfl, hb, fun i hi j v hv => by
      have : i = 0 := by omega
      subst this
      rcases j with _ | j
      · simp at hv; subst hv; simpa using hc
      · simp at hv⟩) (fun i hi => row_of_octs O)
  refine K.mono ?_
  rintro e w' ⟨rfl, hb'⟩
  refine ⟨?_, hb'⟩
  rw [crcN_int]
  congr 2
  show 4294967295 - ((alongN tabN (byteAt l) 4294967295 l.length : Nat) : Int) = _
  rw [show alongN tabN (byteAt l) 4294967295 l.length = sumN l from bits_along _ _ _]

/-- Are the sum and the length right? -/
def soundB (l : List UInt8) : Bool := decide (l.length = 256) && decide (numOf (l.drop 252) = crcN (l.take 252))
/-- How long the text is. -/
def txtN (l : List UInt8) : Nat := numOf ((l.drop 13).take 1)
/-- Is it a sector? -/
def goodB (l : List UInt8) : Bool := soundB l && (decide (l.take 2 = [67, 82]) && (decide (txtN l ≤ 238) && ((l.take 252).drop (14 + txtN l)).all (· == 0)))
def openK (l : List UInt8) : Int := if goodB l then numOf ((l.drop 2).take 1) else 0
def openS (l : List UInt8) : Stp := if goodB l then ⟨numOf ((l.drop 3).take 4), numOf ((l.drop 7).take 4), numOf ((l.drop 11).take 2)⟩ else ⟨0, 0, 0⟩
def openT (l : List UInt8) : List UInt8 := if goodB l then (l.drop 14).take (txtN l) else []
def openE (l : List UInt8) : Int := if goodB l then 0 else 16
theorem txtN_lt (l : List UInt8) : txtN l < 256 := by
  have h := numOf_lt ((l.drop 13).take 1)
  have hp : (256 : Nat) ^ ((l.drop 13).take 1).length ≤ 256 ^ 1 := Nat.pow_le_pow_right (by omega) (by rw [List.length_take]; omega)
  unfold txtN
  omega

/-- Octets of a row, at a place: parts of an appended list. -/
theorem drop_pre {l m : List UInt8} {n : Nat} (h : l.length = n) : (l ++ m).drop n = m := by subst h; simp
theorem take_pre {l m : List UInt8} {n : Nat} (h : l.length = n) : (l ++ m).take n = l := by subst h; simp
/-- What was sealed is a sector, with what it has. -/
theorem seal_good (kind : Int) (t : Stp) (l : List UInt8) (hf : stFits kind t) (hl : l.length ≤ 238) :
    soundB (sealB kind t l) = true ∧ goodB (sealB kind t l) = true ∧ openK (sealB kind t l) = kind ∧ openS (sealB kind t l) = t ∧ openT (sealB kind t l) = l ∧ openE (sealB kind t l) = 0 := by
  have L := bodyB_length kind t l hl
  obtain ⟨k0, k1, e0, e1, s0, s1, a0, a1⟩ := hf
  have h252 : (sealB kind t l).drop 252 = leB (crcN (bodyB kind t l)) 4 := drop_pre L
  have t252 : (sealB kind t l).take 252 = bodyB kind t l := take_pre L
  have cl := crcN_lt (bodyB kind t l)
  have snd : soundB (sealB kind t l) = true := by
    unfold soundB
    rw [sealB_length kind t l hl, h252, t252, numOf_leB, Nat.mod_eq_of_lt (by omega)]
    simp
  have q0 : sealB kind t l = [67, 82] ++ (leB kind.toNat 1 ++ (leB t.e.toNat 4 ++ (leB t.s.toNat 4 ++ (leB t.a.toNat 2 ++ (leB l.length 1 ++ (l ++ (List.replicate (238 - l.length) 0 ++ leB (crcN (bodyB kind t l)) 4))))))) := by
    simp only [sealB, bodyB, headB, List.append_assoc]
  have d2 : (sealB kind t l).drop 2 = leB kind.toNat 1 ++ (leB t.e.toNat 4 ++ (leB t.s.toNat 4 ++ (leB t.a.toNat 2 ++ (leB l.length 1 ++ (l ++ (List.replicate (238 - l.length) 0 ++ leB (crcN (bodyB kind t l)) 4)))))) := by rw [q0]; exact drop_pre rfl
  have d3 : (sealB kind t l).drop 3 = leB t.e.toNat 4 ++ (leB t.s.toNat 4 ++ (leB t.a.toNat 2 ++ (leB l.length 1 ++ (l ++ (List.replicate (238 - l.length) 0 ++ leB (crcN (bodyB kind t l)) 4))))) := by
    rw [show 3 = 2 + 1 from rfl, ← List.drop_drop, d2]; exact drop_pre (leB_length _ _)
  have d7 : (sealB kind t l).drop 7 = leB t.s.toNat 4 ++ (leB t.a.toNat 2 ++ (leB l.length 1 ++ (l ++ (List.replicate (238 - l.length) 0 ++ leB (crcN (bodyB kind t l)) 4)))) := by
    rw [show 7 = 3 + 4 from rfl, ← List.drop_drop, d3]; exact drop_pre (leB_length _ _)
  have d11 : (sealB kind t l).drop 11 = leB t.a.toNat 2 ++ (leB l.length 1 ++ (l ++ (List.replicate (238 - l.length) 0 ++ leB (crcN (bodyB kind t l)) 4))) := by
    rw [show 11 = 7 + 4 from rfl, ← List.drop_drop, d7]; exact drop_pre (leB_length _ _)
  have d13 : (sealB kind t l).drop 13 = leB l.length 1 ++ (l ++ (List.replicate (238 - l.length) 0 ++ leB (crcN (bodyB kind t l)) 4)) := by
    rw [show 13 = 11 + 2 from rfl, ← List.drop_drop, d11]; exact drop_pre (leB_length _ _)
  have d14 : (sealB kind t l).drop 14 = l ++ (List.replicate (238 - l.length) 0 ++ leB (crcN (bodyB kind t l)) 4) := by
    rw [show 14 = 13 + 1 from rfl, ← List.drop_drop, d13]; exact drop_pre (leB_length _ _)
  have tn : txtN (sealB kind t l) = l.length := by
    unfold txtN
    rw [d13, take_pre (leB_length _ _), numOf_leB]
    exact Nat.mod_eq_of_lt (by omega)
  have z : ((sealB kind t l).take 252).drop (14 + txtN (sealB kind t l)) = List.replicate (238 - l.length) 0 := by
    rw [t252, tn]
    unfold bodyB
    refine drop_pre ?_
    rw [List.length_append, headB_length]
  have gd : goodB (sealB kind t l) = true := by
    unfold goodB
    rw [snd, z, tn, show (sealB kind t l).take 2 = [67, 82] by rw [q0]; exact take_pre rfl]
    simp [hl]
  refine ⟨snd, gd, ?_, ?_, ?_, ?_⟩
  · unfold openK
    rw [gd, if_pos rfl, d2, take_pre (leB_length _ _), numOf_leB, Nat.mod_eq_of_lt (by omega)]
    omega
  · unfold openS
    rw [gd, if_pos rfl, d3, take_pre (leB_length _ _), d7, take_pre (leB_length _ _), d11, take_pre (leB_length _ _), numOf_leB, numOf_leB, numOf_leB, Nat.mod_eq_of_lt (by omega), Nat.mod_eq_of_lt (by omega), Nat.mod_eq_of_lt (by omega)]
    cases t
    simp only at e0 s0 a0 ⊢
    congr 1 <;> omega
  · unfold openT
    rw [gd, if_pos rfl, tn, d14, take_pre rfl]
  · unfold openE
    rw [gd, if_pos rfl]
end Go.Proofs.Ytpgibngohbohdaa
