/- Plain mathematics of layer 20: a window's halves moved and marked as numbers of 64 bits. It speaks of no program. -/
import Derived.Test.YtemogdcjmehdcaaWiM
namespace Go.Proofs.Ytemogdcjmehdcaa
set_option maxRecDepth 100000

def upLo (lo p : Nat) : Nat := if 64 ≤ p then 0 else lo * 2 ^ p % 18446744073709551616
def upHi (lo hi p : Nat) : Nat := if 64 ≤ p then lo * 2 ^ (p - 64) % 18446744073709551616 else hi * 2 ^ p % 18446744073709551616 ||| lo / 2 ^ (64 - p)
def setLo (lo k : Nat) : Nat := if k < 64 then lo ||| 2 ^ k else lo
def setHi (hi k : Nat) : Nat := if k < 64 then hi else hi ||| 2 ^ (k - 64)
theorem shl_lt (x p : Nat) : x * 2 ^ p % 18446744073709551616 < 18446744073709551616 := Nat.mod_lt _ (by decide)
theorem or_lt64 {x y : Nat} (hx : x < 18446744073709551616) (hy : y < 18446744073709551616) : x ||| y < 18446744073709551616 := Nat.or_lt_two_pow (n := 64) hx hy
theorem pow_lt64 {k : Nat} (h : k < 64) : 2 ^ k < 18446744073709551616 := Nat.pow_lt_pow_right (n := 64) (by decide) h
theorem div_lt64 {x : Nat} (k : Nat) (h : x < 18446744073709551616) : x / 2 ^ k < 18446744073709551616 := Nat.lt_of_le_of_lt (Nat.div_le_self _ _) h
theorem upLo_lt (lo p : Nat) : upLo lo p < 18446744073709551616 := by
  rw [upLo]
  split
  · decide
  · exact shl_lt _ _
theorem upHi_lt {lo : Nat} (hi p : Nat) (h : lo < 18446744073709551616) : upHi lo hi p < 18446744073709551616 := by
  rw [upHi]
  split
  · exact shl_lt _ _
  · exact or_lt64 (shl_lt _ _) (div_lt64 _ h)
theorem setLo_lt {lo k : Nat} (h : lo < 18446744073709551616) : setLo lo k < 18446744073709551616 := by
  rw [setLo]
  split
  · exact or_lt64 h (pow_lt64 (by omega))
  · exact h
theorem setHi_lt {hi k : Nat} (h : hi < 18446744073709551616) (hk : k < 128) : setHi hi k < 18446744073709551616 := by
  rw [setHi]
  split
  · exact h
  · exact or_lt64 h (pow_lt64 (by omega))
theorem shl_bit (x p i : Nat) (hi : i < 64) : (x * 2 ^ p % 18446744073709551616).testBit i = (decide (p ≤ i) && x.testBit (i - p)) := by
  rw [show (18446744073709551616 : Nat) = 2 ^ 64 from rfl, Nat.testBit_mod_two_pow, ← Nat.shiftLeft_eq, Nat.testBit_shiftLeft]
  simp [hi]
theorem shr_bit (x p i : Nat) : (x / 2 ^ p).testBit i = x.testBit (p + i) := by rw [← Nat.shiftRight_eq_div_pow, Nat.testBit_shiftRight]
theorem high_bit {x : Nat} (h : x < 18446744073709551616) (i : Nat) (hi : 64 ≤ i) : x.testBit i = false :=
  Nat.testBit_lt_two_pow (Nat.lt_of_lt_of_le (show x < 2 ^ 64 from h) (Nat.pow_le_pow_right (by decide) hi))

theorem setLo_bit (W : Win) (p k i : Nat) (hi : i < 64) : (setLo (upLo W.low p) k).testBit i = W.moved p k i := by
  have h1 : (upLo W.low p).testBit i = (decide (p ≤ i) && W.bit (i - p)) := by
    rw [upLo]
    split
    · have : ¬ p ≤ i := by omega
      simp [this]
    · rw [shl_bit _ _ _ hi, Win.bit, if_pos (by omega)]
  rw [setLo, Win.moved]
  split
  · rw [Nat.testBit_or, h1, Nat.testBit_two_pow, Bool.or_comm]
    by_cases e : k = i
    · subst e; simp
    · have e' : ¬ i = k := fun h => e h.symm
      simp [e, e']
  · have e : ¬ i = k := by omega
    rw [h1]
    simp [e]
theorem setHi_bit (W : Win) (hok : W.ok) (p k i : Nat) (hi : i < 64) : (setHi (upHi W.low W.high p) k).testBit i = W.moved p k (64 + i) := by
  have h1 : (upHi W.low W.high p).testBit i = (decide (p ≤ 64 + i) && W.bit (64 + i - p)) := by
    rw [upHi]
    split
    · rw [shl_bit _ _ _ hi]
      by_cases e : p - 64 ≤ i
      · have e2 : p ≤ 64 + i := by omega
        rw [Win.bit, if_pos (by omega), show 64 + i - p = i - (p - 64) by omega]
        simp [e, e2]
      · have e2 : ¬ p ≤ 64 + i := by omega
        simp [e, e2]
    · rw [Nat.testBit_or, shl_bit _ _ _ hi, shr_bit, Win.bit]
      have e2 : p ≤ 64 + i := by omega
      by_cases e : p ≤ i
      · rw [if_neg (by omega), show 64 + i - p - 64 = i - p by omega, high_bit hok.1 (64 - p + i) (by omega)]
        simp [e, e2]
      · rw [if_pos (by omega), show 64 + i - p = 64 - p + i by omega]
        simp [e, e2]
  rw [setHi, Win.moved]
  split
  · have e : ¬ 64 + i = k := by omega
    rw [h1]
    simp [e]
  · rw [Nat.testBit_or, h1, Nat.testBit_two_pow, Bool.or_comm]
    by_cases e : k - 64 = i
    · have e' : 64 + i = k := by omega
      simp [e, e']
    · have e' : ¬ 64 + i = k := by omega
      simp [e, e']

/-- A window marked, half by half. -/
theorem mark_is (W : Win) (hok : W.ok) (n : Int) (h : freshX W n = 0) :
    markW W n = ⟨max W.top n, setLo (upLo W.low (n - W.top).toNat) (W.top - n).toNat, setHi (upHi W.low W.high (n - W.top).toNat) (W.top - n).toNat⟩ := by
  have hk : (W.top - n).toNat < 128 := by
    rw [freshX] at h
    split at h
    · cases h
    · split at h
      · omega
      · split at h
        · cases h
        · omega
  rw [markW, if_neg (by simp [h])]
  congr 1
  · exact num64_is _ _ (setLo_lt (upLo_lt _ _)) fun i hi => setLo_bit W _ _ i hi
  · exact num64_is _ _ (setHi_lt (upHi_lt _ _ hok.1) hk) fun i hi => setHi_bit W hok _ _ i hi
theorem fresh_place (W : Win) (n : Int) (h : freshX W n = 0) : 0 ≤ W.top ∧ W.top ≤ 1073741824 ∧ 1 ≤ n ∧ n ≤ 1073741824 ∧ W.top - n ≤ 127 := by
  rw [freshX] at h
  split at h
  · cases h
  · split at h
    · omega
    · split at h
      · cases h
      · omega
theorem bit_lo (W : Win) (k : Nat) (h : k < 64) : W.bit k = decide (W.low / 2 ^ k % 2 = 1) := by rw [Win.bit, if_pos h, Nat.testBit_eq_decide_div_mod_eq]
theorem bit_hi (W : Win) (k : Nat) (h : ¬ k < 64) : W.bit k = decide (W.high / 2 ^ (k - 64) % 2 = 1) := by rw [Win.bit, if_neg h, Nat.testBit_eq_decide_div_mod_eq]
end Go.Proofs.Ytemogdcjmehdcaa
