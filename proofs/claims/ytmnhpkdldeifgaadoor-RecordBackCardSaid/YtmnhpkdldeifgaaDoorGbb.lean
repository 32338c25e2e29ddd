/- Plain mathematics: numbers of parts by any base (poly's five parts of 26 bits, say), as XPoM's vt has them by 256. It speaks of no program. -/
import Derived.Test.YtmnhpkdldeifgaaDoorGk
namespace Go.Proofs.YtmnhpkdldeifgaaDoor
set_option maxRecDepth 100000

/-- What the first m parts stand for. -/
def vb (b : Nat) (l : List Nat) : Nat → Nat
  | 0 => 0
  | i + 1 => vb b l i + b ^ i * l.getD i 0
theorem vb_256 (l : List Nat) (m : Nat) : vb 256 l m = vt l m := by
  induction m with
  | zero => rfl
  | succ m ih => rw [vb, vt, ih]
theorem vb_ext (b : Nat) (l l' : List Nat) (m : Nat) (h : ∀ i, i < m → l.getD i 0 = l'.getD i 0) : vb b l m = vb b l' m := by
  induction m with
  | zero => rfl
  | succ m ih => rw [vb, vb, ih fun i hi => h i (by omega), h m (by omega)]
theorem vb_set (b : Nat) (l : List Nat) (i x m : Nat) (hl : i < l.length) (hm : i < m) : vb b (l.set i x) m + b ^ i * l.getD i 0 = vb b l m + b ^ i * x := by
  induction m with
  | zero => omega
  | succ m ih =>
    rw [vb, vb, getD_set _ _ _ _ hl]
    by_cases h : i = m
    · subst h
      have e : vb b (l.set i x) i = vb b l i := vb_ext _ _ _ _ fun j hj => by rw [getD_set _ _ _ _ hl, if_neg (by omega)]
      rw [if_pos rfl, e]
      omega
    · have := ih (by omega)
      rw [if_neg h]
      omega
theorem vb_add (b : Nat) (l : List Nat) (i a m : Nat) (hl : i < l.length) (hm : i < m) : vb b (l.set i (l.getD i 0 + a)) m = vb b l m + b ^ i * a := by
  have h := vb_set b l i (l.getD i 0 + a) m hl hm
  rw [Nat.mul_add] at h
  omega
theorem vb_le (b : Nat) (hb : 2 ≤ b) (l : List Nat) (D m : Nat) (h : ∀ i, l.getD i 0 ≤ D) : vb b l m ≤ D * b ^ m := by
  induction m with
  | zero => simp [vb]
  | succ m ih =>
    have h1 := Nat.mul_le_mul_left (b ^ m) (h m)
    have e : D * b ^ (m + 1) = b * (D * b ^ m) := by rw [Nat.pow_succ, Nat.mul_comm (b ^ m), ← Nat.mul_assoc, ← Nat.mul_assoc, Nat.mul_comm D b]
    have e2 : b ^ m * D = D * b ^ m := Nat.mul_comm _ _
    have e3 := Nat.mul_le_mul_right (D * b ^ m) hb
    rw [vb]
    omega
theorem vb_lt (b : Nat) (l : List Nat) (m : Nat) (hb : 0 < b) (h : ∀ i, i < m → l.getD i 0 < b) : vb b l m < b ^ m := by
  induction m with
  | zero => simp [vb]
  | succ m ih =>
    have h0 := ih fun i hi => h i (by omega)
    have h1 := Nat.mul_le_mul_left (b ^ m) (show l.getD m 0 ≤ b - 1 by have := h m (by omega); omega)
    have e : b ^ (m + 1) = b ^ m * (b - 1) + b ^ m := by
      rw [Nat.pow_succ]
      have : b = (b - 1) + 1 := by omega
      calc b ^ m * b = b ^ m * ((b - 1) + 1) := by rw [← this]
        _ = b ^ m * (b - 1) + b ^ m := by rw [Nat.mul_add, Nat.mul_one]
    rw [vb, e]
    omega
/-- What stands over a part is carried to the next one: the number stays. -/
theorem vb_carry (b : Nat) (l : List Nat) (i m : Nat) (hl : i + 1 < l.length) (hm : i + 1 < m) :
    vb b ((l.set i (l.getD i 0 % b)).set (i + 1) (l.getD (i + 1) 0 + l.getD i 0 / b)) m = vb b l m := by
  have h1 := vb_set b l i (l.getD i 0 % b) m (by omega) (by omega)
  have e0 : (l.set i (l.getD i 0 % b)).getD (i + 1) 0 = l.getD (i + 1) 0 := by rw [getD_set _ _ _ _ (by omega), if_neg (by omega)]
  have h2 := vb_add b (l.set i (l.getD i 0 % b)) (i + 1) (l.getD i 0 / b) m (by simpa using hl) hm
  rw [e0] at h2
  have h3 := Nat.div_add_mod (l.getD i 0) b
  have h4 : b ^ (i + 1) * (l.getD i 0 / b) = b ^ i * (b * (l.getD i 0 / b)) := by rw [Nat.pow_succ, Nat.mul_assoc]
  have h5 : b ^ i * l.getD i 0 = b ^ i * (b * (l.getD i 0 / b)) + b ^ i * (l.getD i 0 % b) := by rw [← Nat.mul_add, h3]
  rw [h2]
  omega
/-- What stands over the last of five parts of 26 bits is taken five times: the same modulo 2^130 - 5. -/
theorem vb_over (l : List Nat) (hl : l.length = 5) :
    (vb (2 ^ 26) ((l.set 4 (l.getD 4 0 % 2 ^ 26)).set 0 (l.getD 0 0 + 5 * (l.getD 4 0 / 2 ^ 26))) 5) % pP = vb (2 ^ 26) l 5 % pP := by
  have h1 := vb_set (2 ^ 26) l 4 (l.getD 4 0 % 2 ^ 26) 5 (by omega) (by omega)
  have e0 : (l.set 4 (l.getD 4 0 % 2 ^ 26)).getD 0 0 = l.getD 0 0 := by rw [getD_set _ _ _ _ (by omega), if_neg (by omega)]
  have h2 := vb_add (2 ^ 26) (l.set 4 (l.getD 4 0 % 2 ^ 26)) 0 (5 * (l.getD 4 0 / 2 ^ 26)) 5 (by simp [hl]) (by omega)
  rw [e0] at h2
  have h3 := Nat.div_add_mod (l.getD 4 0) (2 ^ 26)
  have e : vb (2 ^ 26) l 5 = vb (2 ^ 26) ((l.set 4 (l.getD 4 0 % 2 ^ 26)).set 0 (l.getD 0 0 + 5 * (l.getD 4 0 / 2 ^ 26))) 5 + pP * (l.getD 4 0 / 2 ^ 26) := by
    rw [h2, pP]
    generalize vb (2 ^ 26) (l.set 4 (l.getD 4 0 % 2 ^ 26)) 5 = X at *
    omega
  rw [e, Nat.add_mul_mod_self_left]
end Go.Proofs.YtmnhpkdldeifgaaDoor
