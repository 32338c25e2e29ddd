/- Plain mathematics of chains: a key's Step, so many of them, a chain's keys, which leads to which. -/
import Derived.Test.YthhhldnlmkoamaaDoorDrM
import Derived.Test.YthhhldnlmkoamaaDoorStr
import Derived.Test.YthhhldnlmkoamaaDoorGenT
import Derived.Test.YthhhldnlmkoamaaDoorGat
namespace Go.Proofs.YthhhldnlmkoamaaDoor
open Go.RowKit

def linkL : List UInt8 := [99, 97, 114, 99, 97, 110, 101, 116, 32, 108, 105, 110, 107]
def chainN : List UInt8 := [99, 104, 97, 105, 110]
def stepL (k : List UInt8) : List UInt8 := sumL (linkL ++ k)
theorem stepL_length (k : List UInt8) : (stepL k).length = 32 := sumL_length _
def backL (k : List UInt8) : Nat → List UInt8
  | 0 => k
  | n + 1 => backL (stepL k) n
theorem backL_succ (k : List UInt8) (n : Nat) : backL k (n + 1) = stepL (backL k n) := by
  induction n generalizing k with
  | zero => rfl
  | succ n ih => rw [backL, ih, backL]
theorem backL_add (k : List UInt8) (m n : Nat) : backL (backL k m) n = backL k (m + n) := by
  induction n with
  | zero => rfl
  | succ n ih => rw [backL_succ, ih, ← backL_succ]; rfl
theorem backL_length (k : List UInt8) (n : Nat) (h : k.length ≤ 4000) : (backL k n).length ≤ 4000 := by
  cases n with
  | zero => exact h
  | succ n => rw [backL_succ, stepL_length]; omega
theorem backL_32 (k : List UInt8) (n : Nat) (h : k.length = 32) : (backL k n).length = 32 := by
  cases n with
  | zero => exact h
  | succ n => rw [backL_succ, stepL_length]
def backA (k : List UInt8) (z : Int) : List UInt8 := if z < 0 ∨ 64 < z then [] else backL k z.toNat
def backC (z : Int) : Int := if z < 0 ∨ 64 < z then 2 else 0
def keyBad (len idx : Int) : Prop := len < 1 ∨ 64 < len ∨ idx < 0 ∨ len < idx
instance (len idx : Int) : Decidable (keyBad len idx) := inferInstanceAs (Decidable (_ ∨ _))
def keyA (seed : List UInt8) (len idx : Int) : List UInt8 := if keyBad len idx then [] else backL (namedL seed chainN) (len - idx).toNat
def chKeyC (len idx : Int) : Int := if keyBad len idx then 2 else 0
def leadsB (yi : Int) (yk : List UInt8) (oi : Int) (ok : List UInt8) : Bool := decide (0 ≤ oi ∧ oi ≤ yi ∧ yk.length = 32 ∧ yi - oi ≤ 64 ∧ backL yk (yi - oi).toNat = ok)

theorem key_len (seed : List UInt8) (len idx : Int) (h : ¬ keyBad len idx) : (keyA seed len idx).length = 32 := by
  rw [keyA, if_neg h]
  exact backL_32 _ _ (namedL_length _ _)
/-- Each key of a chain leads to those of lesser indexes. -/
theorem keys_lead (seed : List UInt8) (len i j : Int) (h : ¬ keyBad len i) (hj : 0 ≤ j) (hi : j ≤ i) : leadsB i (keyA seed len i) j (keyA seed len j) = true := by
  have hb : ¬ keyBad len j := by simp only [keyBad, not_or, Int.not_lt] at h ⊢; omega
  simp only [keyBad, not_or, Int.not_lt] at h
  obtain ⟨h1, h2, h3, h4⟩ := h
  rw [leadsB, decide_eq_true_eq]
  refine ⟨hj, hi, key_len seed len i (by simp only [keyBad, not_or, Int.not_lt]; omega), by omega, ?_⟩
  rw [keyA, keyA, if_neg (by simp only [keyBad, not_or, Int.not_lt]; omega), if_neg hb, backL_add]
  congr 1
  omega
/-- A key is the Step of the next one. -/
theorem key_step (seed : List UInt8) (len i : Int) (h : ¬ keyBad len i) (hi : 1 ≤ i) : stepL (keyA seed len i) = keyA seed len (i - 1) := by
  have hb : ¬ keyBad len (i - 1) := by simp only [keyBad, not_or, Int.not_lt] at h ⊢; omega
  have h' := h
  simp only [keyBad, not_or, Int.not_lt] at h'
  rw [keyA, keyA, if_neg h, if_neg hb, ← backL_succ]
  congr 1
  omega
end Go.Proofs.YthhhldnlmkoamaaDoor
