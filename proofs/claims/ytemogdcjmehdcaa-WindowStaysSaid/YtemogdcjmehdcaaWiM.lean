/- Plain mathematics of windows: 64 truths as a number, a window's bits, Fresh, Mark, Seen. It speaks of no program. -/
import Derived.Test.YtemogdcjmehdcaaGenA
import Derived.Test.YtemogdcjmehdcaaRecWn
namespace Go.Proofs.Ytemogdcjmehdcaa
set_option maxRecDepth 100000

/-- The number of the first k of 64 truths, the highest first: those from 64 - k on. -/
def numTo (f : Nat → Bool) : Nat → Nat
  | 0 => 0
  | k + 1 => 2 * numTo f k + (f (63 - k)).toNat
def num64 (f : Nat → Bool) : Nat := numTo f 64
theorem numTo_lt (f : Nat → Bool) (k : Nat) : numTo f k < 2 ^ k := by
  induction k with
  | zero => simp [numTo]
  | succ k ih =>
    rw [numTo, Nat.pow_succ]
    have : (f (63 - k)).toNat ≤ 1 := Bool.toNat_le _
    omega
theorem num64_lt (f : Nat → Bool) : num64 f < 18446744073709551616 := numTo_lt f 64
theorem numTo_bit (f : Nat → Bool) (k i : Nat) (hk : k ≤ 64) (hi : i < k) : (numTo f k).testBit i = f (64 - k + i) := by
  induction k generalizing i with
  | zero => omega
  | succ k ih =>
    rw [numTo]
    cases i with
    | zero =>
      have e : 64 - (k + 1) + 0 = 63 - k := by omega
      rw [e, Nat.testBit_zero]
      cases f (63 - k) <;> simp [Nat.add_mod]
    | succ i =>
      have e : 64 - (k + 1) + (i + 1) = 64 - k + i := by omega
      have hb : (f (63 - k)).toNat ≤ 1 := Bool.toNat_le _
      rw [e, Nat.testBit_succ, show (2 * numTo f k + (f (63 - k)).toNat) / 2 = numTo f k by omega]
      exact ih i (by omega) (by omega)
theorem num64_bit (f : Nat → Bool) (i : Nat) (hi : i < 64) : (num64 f).testBit i = f i := by
  rw [num64, numTo_bit f 64 i (Nat.le_refl _) hi]
  congr 1
  omega
/-- A number below 2^64 is told by its bits. -/
theorem num64_is (f : Nat → Bool) (m : Nat) (hm : m < 2 ^ 64) (h : ∀ i, i < 64 → m.testBit i = f i) : num64 f = m := by
  apply Nat.eq_of_testBit_eq
  intro i
  by_cases hi : i < 64
  · rw [num64_bit f i hi, h i hi]
  · have h1 : num64 f < 2 ^ i := Nat.lt_of_lt_of_le (numTo_lt f 64) (Nat.pow_le_pow_right (by decide) (by omega))
    have h2 : m < 2 ^ i := Nat.lt_of_lt_of_le hm (Nat.pow_le_pow_right (by decide) (by omega))
    rw [Nat.testBit_lt_two_pow h1, Nat.testBit_lt_two_pow h2]

def Win.bit (w : Win) (k : Nat) : Bool := if k < 64 then w.low.testBit k else w.high.testBit (k - 64)
def Win.ok (w : Win) : Prop := w.low < 18446744073709551616 ∧ w.high < 18446744073709551616
def freshX (w : Win) (n : Int) : Int :=
  if n < 1 ∨ 1073741824 < n ∨ w.top < 0 ∨ 1073741824 < w.top then 2 else if w.top < n then 0 else if 127 < w.top - n then 23 else if w.bit (w.top - n).toNat = true then 22 else 0
/-- The bits behind a mark: moved up, and one set. -/
def Win.moved (w : Win) (up set : Nat) (i : Nat) : Bool := decide (i = set) || (decide (up ≤ i) && w.bit (i - up))
def markW (w : Win) (n : Int) : Win :=
  if freshX w n ≠ 0 then w else ⟨max w.top n, num64 (w.moved (n - w.top).toNat (w.top - n).toNat), num64 fun i => w.moved (n - w.top).toNat (w.top - n).toNat (64 + i)⟩
def seenB (w : Win) (n : Int) : Bool := decide (freshX w n = 22)

theorem markW_ok {w : Win} (h : w.ok) (n : Int) : (markW w n).ok := by
  rw [markW]
  split
  · exact h
  · exact ⟨num64_lt _, num64_lt _⟩
theorem mark_bit (w : Win) (n : Int) (h : freshX w n = 0) (i : Nat) (hi : i < 128) : (markW w n).bit i = w.moved (n - w.top).toNat (w.top - n).toNat i := by
  rw [markW, if_neg (by simp [h]), Win.bit]
  by_cases h64 : i < 64
  · rw [if_pos h64]
    exact num64_bit _ i h64
  · rw [if_neg h64]
    show (num64 _).testBit (i - 64) = _
    rw [num64_bit _ (i - 64) (by omega)]
    congr 1
    omega
end Go.Proofs.Ytemogdcjmehdcaa
