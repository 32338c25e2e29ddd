/- Plain mathematics of package mac: a key made long, the tag; the chapter's example. It speaks of no program. -/
import Derived.Test.YthhhldnlmkoamaaDoorDgM
namespace Go.Proofs.YthhhldnlmkoamaaDoor

/-- A key made 64 bytes. -/
def baseL (k : List UInt8) : List UInt8 := if k.length ≤ 64 then k else sumL k
def keyL (k : List UInt8) : List UInt8 := baseL k ++ List.replicate (64 - (baseL k).length) 0
theorem baseL_length (k : List UInt8) : (baseL k).length ≤ 64 := by
  unfold baseL
  split
  · assumption
  · rw [sumL_length]; decide
theorem keyL_length (k : List UInt8) : (keyL k).length = 64 := by
  have := baseL_length k
  simp [keyL]
  omega
def xorB (c : UInt8) (l : List UInt8) : List UInt8 := l.map (· ^^^ c)
theorem xorB_length (c : UInt8) (l : List UInt8) : (xorB c l).length = l.length := by simp [xorB]
/-- The tag. -/
def macL (k m : List UInt8) : List UInt8 := sumL (xorB 92 (keyL k) ++ sumL (xorB 54 (keyL k) ++ m))
theorem macL_length (k m : List UInt8) : (macL k m).length = 32 := sumL_length _
theorem macL_key (k k' m : List UInt8) (h : keyL k = keyL k') : macL k m = macL k' m := by rw [macL, macL, h]
theorem keyL_keyL (k : List UInt8) : keyL (keyL k) = keyL k := by
  have h : baseL (keyL k) = keyL k := by
    rw [baseL, if_pos (by rw [keyL_length]; exact Nat.le_refl _)]
  rw [keyL, h, keyL_length]
  simp
theorem keyL_zero (k : List UInt8) (h : k.length ≤ 63) : keyL (k ++ [0]) = keyL k := by
  have h1 : baseL (k ++ [0]) = k ++ [0] := by rw [baseL, if_pos (by simp; omega)]
  have h2 : baseL k = k := by rw [baseL, if_pos (by omega)]
  have e : 64 - k.length = (64 - (k ++ [0]).length) + 1 := by simp; omega
  rw [keyL, keyL, h1, h2, e, List.replicate_succ]
  simp
end Go.Proofs.YthhhldnlmkoamaaDoor
