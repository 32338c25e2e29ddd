/- Plain mathematics of package poly: numbers of digits by 256, what Clamp clears, the tag. It speaks of no program. -/
import Derived.Test.YtbdcligpbogkjaaGenA
namespace Go.Proofs.Ytbdcligpbogkjaa

/-- What the first m digits stand for. -/
def vt (l : List Nat) : Nat → Nat
  | 0 => 0
  | i + 1 => vt l i + 256 ^ i * l.getD i 0
theorem vt_ext (l l' : List Nat) (m : Nat) (h : ∀ i, i < m → l.getD i 0 = l'.getD i 0) : vt l m = vt l' m := by
  induction m with
  | zero => rfl
  | succ m ih => rw [vt, vt, ih fun i hi => h i (by omega), h m (by omega)]
theorem getD_set (l : List Nat) (i j x : Nat) (hi : i < l.length) : (l.set i x).getD j 0 = if i = j then x else l.getD j 0 := by
  simp only [List.getD, List.getElem?_set]
  by_cases h : i = j
  · subst h; simp [hi]
  · simp [h]
theorem vt_set (l : List Nat) (i x m : Nat) (hl : i < l.length) (hm : i < m) : vt (l.set i x) m + 256 ^ i * l.getD i 0 = vt l m + 256 ^ i * x := by
  induction m with
  | zero => omega
  | succ m ih =>
    rw [vt, vt, getD_set _ _ _ _ hl]
    by_cases h : i = m
    · subst h
      have e : vt (l.set i x) i = vt l i := vt_ext _ _ _ fun j hj => by rw [getD_set _ _ _ _ hl, if_neg (by omega)]
      rw [if_pos rfl, e]
      omega
    · have := ih (by omega)
      rw [if_neg h]
      omega
theorem vt_set_out (l : List Nat) (i x m : Nat) (hl : i < l.length) (hm : m ≤ i) : vt (l.set i x) m = vt l m :=
  vt_ext _ _ _ fun j hj => by rw [getD_set _ _ _ _ hl, if_neg (by omega)]
theorem vt_le (l : List Nat) (D m : Nat) (h : ∀ i, l.getD i 0 ≤ D) : vt l m ≤ D * 256 ^ m := by
  induction m with
  | zero => simp [vt]
  | succ m ih =>
    have h1 := Nat.mul_le_mul_left (256 ^ m) (h m)
    have e : D * 256 ^ (m + 1) = 256 * (D * 256 ^ m) := by rw [Nat.pow_succ, Nat.mul_comm (256 ^ m), ← Nat.mul_assoc, ← Nat.mul_assoc, Nat.mul_comm D 256]
    have e2 : 256 ^ m * D = D * 256 ^ m := Nat.mul_comm _ _
    rw [vt]
    omega
theorem vt_lt (l : List Nat) (m : Nat) (h : ∀ i, l.getD i 0 < 256) : vt l m < 256 ^ m := by
  induction m with
  | zero => simp [vt]
  | succ m ih =>
    have h1 := Nat.mul_le_mul_left (256 ^ m) (show l.getD m 0 ≤ 255 by have := h m; omega)
    rw [vt, Nat.pow_succ]
    omega
theorem vt_zeros (l : List Nat) (m k : Nat) (h : ∀ i, m ≤ i → l.getD i 0 = 0) : vt l (m + k) = vt l m := by
  induction k with
  | zero => rfl
  | succ k ih =>
    show vt l (m + k + 1) = _
    rw [vt, ih, h (m + k) (by omega)]
    simp
/-- All digits behind are 0, if it is small. -/
theorem vt_small (l : List Nat) (m k : Nat) (h : vt l (m + k) < 256 ^ m) : vt l m = vt l (m + k) := by
  induction k with
  | zero => rfl
  | succ k ih =>
    have e : vt l (m + (k + 1)) = vt l (m + k) + 256 ^ (m + k) * l.getD (m + k) 0 := rfl
    rw [e] at h ⊢
    have hp : 256 ^ m ≤ 256 ^ (m + k) := Nat.pow_le_pow_right (by decide) (by omega)
    have hz : l.getD (m + k) 0 = 0 := by
      rcases Nat.eq_zero_or_pos (l.getD (m + k) 0) with h0 | h0
      · exact h0
      · have := Nat.mul_le_mul_left (256 ^ (m + k)) h0
        omega
    rw [hz] at h ⊢
    simpa using ih (by omega)
theorem vt_mono (l : List Nat) (m k : Nat) : vt l m ≤ vt l (m + k) := by
  induction k with
  | zero => exact Nat.le_refl _
  | succ k ih =>
    have e : vt l (m + (k + 1)) = vt l (m + k) + 256 ^ (m + k) * l.getD (m + k) 0 := rfl
    rw [e]
    omega

/-- A digit made, and what goes over. -/
theorem carry_step (V T W over d : Nat) (hT : T + W * over = V) : T + W * ((over + d) % 256) + W * 256 * ((over + d) / 256) = V + W * d := by
  have h := Nat.div_add_mod (over + d) 256
  have h2 : W * (over + d) = W * (256 * ((over + d) / 256)) + W * ((over + d) % 256) := by rw [← Nat.mul_add, h]
  have h3 : W * 256 * ((over + d) / 256) = W * (256 * ((over + d) / 256)) := Nat.mul_assoc _ _ _
  have h4 : W * (over + d) = W * over + W * d := Nat.mul_add _ _ _
  omega

/-- The modulus. -/
def pP : Nat := 1361129467683753853853498429727072845819
theorem pP_is : pP = 2 ^ 130 - 5 := by decide
/-- What stands from 2^130 on is taken five times. -/
def fold5 (v : Nat) : Nat := v % 2 ^ 130 + 5 * (v / 2 ^ 130)
theorem fold5_mod (v : Nat) : fold5 v % pP = v % pP := by
  have h := Nat.div_add_mod v (2 ^ 130)
  have e : v = fold5 v + pP * (v / 2 ^ 130) := by
    rw [fold5, pP]
    omega
  rw [e, Nat.add_mul_mod_self_left, ← e]
theorem fold5_four (v : Nat) (hv : v < 2 ^ 142 * 2 ^ 142) : fold5 (fold5 (fold5 (fold5 v))) < 2 ^ 130 := by
  have h1 : fold5 v < 2 ^ 158 := by rw [fold5]; omega
  have h2 : fold5 (fold5 v) < 2 ^ 130 + 2 ^ 31 := by rw [fold5]; omega
  generalize fold5 (fold5 v) = x at *
  have h3 : fold5 x < 2 ^ 130 := by rw [fold5]; omega
  rw [fold5]
  omega
def foldN (v : Nat) : Nat → Nat
  | 0 => v
  | n + 1 => fold5 (foldN v n)
theorem foldN_mod (v n : Nat) : foldN v n % pP = v % pP := by
  induction n with
  | zero => rfl
  | succ n ih => rw [foldN, fold5_mod, ih]
theorem foldN_four (v : Nat) (hv : v < 2 ^ 142 * 2 ^ 142) : foldN v 4 < 2 ^ 130 := fold5_four v hv
theorem mul_step (a b x y V A B : Nat) (W : Nat) (hW : W = A * B) : V * y + A * x * (a + B * b) = (V * y + A * x * a) + W * (x * b) := by
  subst hW
  rw [Nat.mul_add, ← Nat.add_assoc]
  congr 1
  rw [Nat.mul_assoc, Nat.mul_assoc, Nat.mul_left_comm x B b]

/-- The number of bytes. -/
def leNat (l : List UInt8) : Nat := vt (l.map (·.toNat)) l.length
/-- A block's number, with a byte 1 behind. -/
def chunkN (c : List UInt8) : Nat := leNat c + 256 ^ c.length
/-- Behind so many blocks. -/
def accN (r : Nat) (msg : List UInt8) : Nat → Nat
  | 0 => 0
  | k + 1 => (accN r msg k + chunkN ((msg.drop (16 * k)).take 16)) * r % pP
def clampL (l : List UInt8) : List UInt8 :=
  if l.length < 16 then [] else [l.getD 0 0, l.getD 1 0, l.getD 2 0, l.getD 3 0 % 16, l.getD 4 0 - l.getD 4 0 % 4, l.getD 5 0, l.getD 6 0, l.getD 7 0 % 16, l.getD 8 0 - l.getD 8 0 % 4, l.getD 9 0, l.getD 10 0, l.getD 11 0 % 16, l.getD 12 0 - l.getD 12 0 % 4, l.getD 13 0, l.getD 14 0, l.getD 15 0 % 16]
def tagN (key msg : List UInt8) : Nat := accN (leNat (clampL key)) msg ((msg.length + 15) / 16) + leNat ((key.drop 16).take 16)
/-- The tag: the lowest 16 digits. -/
def tagL (key msg : List UInt8) : List UInt8 := (List.range 16).map fun i => UInt8.ofNat (tagN key msg / 256 ^ i)
theorem tagL_length (key msg : List UInt8) : (tagL key msg).length = 16 := by simp [tagL]
theorem clampL_length (l : List UInt8) (h : 16 ≤ l.length) : (clampL l).length = 16 := by rw [clampL, if_neg (by omega)]; rfl
theorem accN_lt (r : Nat) (msg : List UInt8) (k : Nat) : accN r msg k < pP := by
  cases k with
  | zero => exact (show 0 < pP by decide)
  | succ k => exact Nat.mod_lt _ (by decide)
end Go.Proofs.Ytbdcligpbogkjaa
