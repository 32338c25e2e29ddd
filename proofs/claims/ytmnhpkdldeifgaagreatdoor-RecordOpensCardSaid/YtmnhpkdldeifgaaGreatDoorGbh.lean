/- Plain mathematics: numbers in five parts of 26 bits, as package poly has them: carried, folded, multiplied, brought below the modulus, read out of bytes and written to them. It speaks of no program. -/
import Derived.Test.YtmnhpkdldeifgaaGreatDoorGbg
namespace Go.Proofs.YtmnhpkdldeifgaaGreatDoor
set_option maxRecDepth 100000

theorem getD_put (l : List Nat) (i x : Nat) (hi : i < l.length) : (l.set i x).getD i 0 = x := by rw [getD_set _ _ _ _ hi, if_pos rfl]
theorem getD_far (l : List Nat) (i j x : Nat) (h : i ≠ j) : (l.set i x).getD j 0 = l.getD j 0 := by simp [List.getD, h]

/-- All parts are below a bound. -/
def Under (l : List Nat) (B : Nat) : Prop := ∀ i, l.getD i 0 < B
theorem Under.set {l : List Nat} {B : Nat} (h : Under l B) (i x : Nat) (hx : x < B) : Under (l.set i x) B := fun j => by
  by_cases hl : i < l.length
  · rw [getD_set _ _ _ _ hl]
    split
    · exact hx
    · exact h j
  · rw [List.set_eq_of_length_le (by omega)]
    exact h j
theorem Under.mono {l : List Nat} {B C : Nat} (h : Under l B) (hc : B ≤ C) : Under l C := fun i => Nat.lt_of_lt_of_le (h i) hc

/-- So many parts carried, and what goes over. -/
def carryTo (l : List Nat) : Nat → List Nat × Nat
  | 0 => (l, 0)
  | k + 1 => ((carryTo l k).1.set k (((carryTo l k).1.getD k 0 + (carryTo l k).2) % 2 ^ 26), ((carryTo l k).1.getD k 0 + (carryTo l k).2) / 2 ^ 26)
theorem carryTo_length (l : List Nat) (k : Nat) : (carryTo l k).1.length = l.length := by
  induction k with
  | zero => rfl
  | succ k ih => rw [carryTo, List.length_set, ih]
theorem carryTo_high (l : List Nat) (k i : Nat) (h : k ≤ i) : (carryTo l k).1.getD i 0 = l.getD i 0 := by
  induction k with
  | zero => rfl
  | succ k ih => rw [carryTo, getD_far _ _ _ _ (by omega), ih (by omega)]
theorem carryTo_low (l : List Nat) (k i : Nat) (h : i < k) (hk : k ≤ l.length) : (carryTo l k).1.getD i 0 < 2 ^ 26 := by
  induction k with
  | zero => omega
  | succ k ih =>
    rw [carryTo, getD_set _ _ _ _ (by rw [carryTo_length]; omega)]
    split
    · exact Nat.mod_lt _ (by decide)
    · exact ih (by omega) (by omega)
theorem carryTo_under (l : List Nat) (B k : Nat) (h : Under l B) (hB : 2 ^ 26 ≤ B) : Under (carryTo l k).1 B := by
  induction k with
  | zero => exact h
  | succ k ih =>
    rw [carryTo]
    exact ih.set _ _ (Nat.lt_of_lt_of_le (Nat.mod_lt _ (by decide)) hB)
theorem carryTo_over (l : List Nat) (k : Nat) (h : Under l (2 ^ 63)) : (carryTo l k).2 < 2 ^ 38 := by
  induction k with
  | zero => exact (by decide : (0 : Nat) < 2 ^ 38)
  | succ k ih =>
    have := carryTo_under l _ k h (by decide) k
    rw [carryTo]
    omega
theorem carryTo_value (l : List Nat) (k : Nat) (hk : k ≤ l.length) : vb (2 ^ 26) (carryTo l k).1 k + (2 ^ 26) ^ k * (carryTo l k).2 = vb (2 ^ 26) l k := by
  induction k with
  | zero => rfl
  | succ k ih =>
    have ih := ih (by omega)
    have e1 : vb (2 ^ 26) (carryTo l (k + 1)).1 k = vb (2 ^ 26) (carryTo l k).1 k := vb_ext _ _ _ _ fun i hi => by rw [carryTo, getD_far _ _ _ _ (by omega)]
    have e2 : (carryTo l (k + 1)).1.getD k 0 = (l.getD k 0 + (carryTo l k).2) % 2 ^ 26 := by rw [carryTo, getD_put _ _ _ (by rw [carryTo_length]; omega), carryTo_high _ _ _ (Nat.le_refl _)]
    have e3 : (carryTo l (k + 1)).2 = (l.getD k 0 + (carryTo l k).2) / 2 ^ 26 := by rw [carryTo, carryTo_high _ _ _ (Nat.le_refl _)]
    rw [vb, vb, e1, e2, e3]
    have h := Nat.div_add_mod (l.getD k 0 + (carryTo l k).2) (2 ^ 26)
    generalize (l.getD k 0 + (carryTo l k).2) / 2 ^ 26 = q at h ⊢
    generalize (l.getD k 0 + (carryTo l k).2) % 2 ^ 26 = r at h ⊢
    have h1 : (2 ^ 26) ^ (k + 1) * q = (2 ^ 26) ^ k * (2 ^ 26 * q) := by rw [Nat.pow_succ, Nat.mul_assoc]
    have h2 : (2 ^ 26) ^ k * (2 ^ 26 * q) + (2 ^ 26) ^ k * r = (2 ^ 26) ^ k * l.getD k 0 + (2 ^ 26) ^ k * (carryTo l k).2 := by rw [← Nat.mul_add, h, Nat.mul_add]
    omega

theorem five_lt (l : List Nat) (h : ∀ i, i < 5 → l.getD i 0 < 2 ^ 26) : vb (2 ^ 26) l 5 < 2 ^ 130 := by
  have := vb_lt (2 ^ 26) l 5 (by decide) h
  rw [← Nat.pow_mul] at this
  exact this
/-- The number that carry answers. -/
def carryL (l : List Nat) : List Nat := (carryTo l 5).1
def overN (l : List Nat) : Nat := (carryTo l 5).2
theorem carryL_length (l : List Nat) : (carryL l).length = l.length := carryTo_length l 5
theorem carryL_under (l : List Nat) (hl : l.length = 5) : Under (carryL l) (2 ^ 26) := fun i => by
  by_cases hi : i < 5
  · exact carryTo_low l 5 i hi (by omega)
  · have e : (carryL l).getD i 0 = 0 := by
      have : (carryL l)[i]? = none := List.getElem?_eq_none (by rw [carryL_length]; omega)
      simp [List.getD, this]
    rw [e]
    decide
theorem carry_both (l : List Nat) (hl : l.length = 5) : vb (2 ^ 26) (carryL l) 5 + 2 ^ 130 * overN l = vb (2 ^ 26) l 5 := by
  have h := carryTo_value l 5 (by omega)
  rw [← Nat.pow_mul] at h
  exact h
theorem carryL_value (l : List Nat) (hl : l.length = 5) : vb (2 ^ 26) (carryL l) 5 = vb (2 ^ 26) l 5 % 2 ^ 130 ∧ overN l = vb (2 ^ 26) l 5 / 2 ^ 130 := by
  have h := carry_both l hl
  have h2 := five_lt _ fun i _ => carryL_under l hl i
  omega
theorem overN_lt (l : List Nat) (h : Under l (2 ^ 63)) : overN l < 2 ^ 38 := carryTo_over l 5 h

/-- The number that fold answers. -/
def foldL (l : List Nat) : List Nat := (carryL l).set 0 ((carryL l).getD 0 0 + overN l * 5)
theorem foldL_length (l : List Nat) : (foldL l).length = l.length := by rw [foldL, List.length_set, carryL_length]
theorem foldL_value (l : List Nat) (hl : l.length = 5) : vb (2 ^ 26) (foldL l) 5 = fold5 (vb (2 ^ 26) l 5) := by
  obtain ⟨h1, h2⟩ := carryL_value l hl
  rw [foldL, vb_add _ _ _ _ _ (by rw [carryL_length]; omega) (by decide), h1, h2, fold5]
  omega
theorem foldL_under (l : List Nat) (hl : l.length = 5) (B : Nat) (hB : 2 ^ 26 + 5 * overN l ≤ B) : Under (foldL l) B := by
  have h := carryL_under l hl
  refine (h.mono (by omega)).set _ _ ?_
  have := h 0
  omega
/-- Folded twice it is below 2^130. -/
theorem foldL_twice (l : List Nat) (hl : l.length = 5) (h : Under l (2 ^ 63)) : vb (2 ^ 26) (foldL (foldL l)) 5 < 2 ^ 130 ∧ vb (2 ^ 26) (foldL (foldL l)) 5 % pP = vb (2 ^ 26) l 5 % pP ∧ Under (foldL (foldL l)) (2 ^ 27) := by
  have hl2 : (foldL l).length = 5 := by rw [foldL_length, hl]
  have o1 := overN_lt l h
  have v1 := foldL_value l hl
  have v2 := foldL_value _ hl2
  have c1 := (carryL_value l hl).2
  have c2 := (carryL_value _ hl2).2
  have m1 := fold5_mod (vb (2 ^ 26) l 5)
  have m2 := fold5_mod (fold5 (vb (2 ^ 26) l 5))
  rw [v1] at v2 c2
  generalize hV : vb (2 ^ 26) l 5 = V at *
  have k1 : fold5 V < 2 ^ 130 + 2 ^ 41 := by rw [fold5]; omega
  have k2 : overN (foldL l) ≤ 1 := by omega
  refine ⟨?_, ?_, ?_⟩
  · rw [v2]
    rw [fold5]
    omega
  · rw [v2, m2, m1]
  · exact foldL_under _ hl2 _ (by omega)

/-- So many products put to their places. -/
def mulPut (a b p : List Nat) (i k : Nat) : List Nat :=
  if i + k < 5 then p.set (i + k) (p.getD (i + k) 0 + a.getD i 0 * b.getD k 0) else p.set (i + k - 5) (p.getD (i + k - 5) 0 + a.getD i 0 * b.getD k 0 * 5)
def mulTo (a b : List Nat) : Nat → List Nat
  | 0 => [0, 0, 0, 0, 0]
  | n + 1 => mulPut a b (mulTo a b n) (n / 5) (n % 5)
theorem mulPut_length (a b p : List Nat) (i k : Nat) : (mulPut a b p i k).length = p.length := by
  rw [mulPut]
  split <;> rw [List.length_set]
theorem mulTo_length (a b : List Nat) (n : Nat) : (mulTo a b n).length = 5 := by
  induction n with
  | zero => rfl
  | succ n ih => rw [mulTo, mulPut_length, ih]
theorem mulTo_under (a b : List Nat) (ha : Under a (2 ^ 28)) (hb : Under b (2 ^ 26)) (n : Nat) : Under (mulTo a b n) (n * 2 ^ 57 + 1) := by
  induction n with
  | zero =>
    intro i
    have : (mulTo a b 0).getD i 0 = 0 := by
      rw [mulTo]
      rcases i with _ | _ | _ | _ | _ | i <;> rfl
    rw [this]
    decide
  | succ n ih =>
    have h1 := ha (n / 5)
    have h2 := hb (n % 5)
    have h3 : a.getD (n / 5) 0 * b.getD (n % 5) 0 ≤ 2 ^ 28 * 2 ^ 26 := Nat.mul_le_mul (Nat.le_of_lt h1) (Nat.le_of_lt h2)
    rw [mulTo, mulPut]
    split
    · refine (ih.mono (by omega)).set _ _ ?_
      have := ih (n / 5 + n % 5)
      omega
    · refine (ih.mono (by omega)).set _ _ ?_
      have := ih (n / 5 + n % 5 - 5)
      omega
theorem over_mod (X Y : Nat) : (X + 2 ^ 130 * Y) % pP = (X + Y * 5) % pP := by
  have e : X + 2 ^ 130 * Y = X + Y * 5 + pP * Y := by rw [pP]; omega
  rw [e, Nat.add_mul_mod_self_left]
theorem mulPut_value (a b p : List Nat) (hp : p.length = 5) (i k : Nat) (hi : i < 5) (hk : k < 5) (X : Nat) (h : vb (2 ^ 26) p 5 % pP = X % pP) :
    vb (2 ^ 26) (mulPut a b p i k) 5 % pP = (X + (2 ^ 26) ^ i * a.getD i 0 * ((2 ^ 26) ^ k * b.getD k 0)) % pP := by
  have e0 : (2 ^ 26) ^ i * a.getD i 0 * ((2 ^ 26) ^ k * b.getD k 0) = (2 ^ 26) ^ (i + k) * (a.getD i 0 * b.getD k 0) := by
    rw [Nat.pow_add, Nat.mul_mul_mul_comm]
  rw [e0, mulPut]
  generalize a.getD i 0 * b.getD k 0 = m
  by_cases hik : i + k < 5
  · rw [if_pos hik, vb_add _ _ _ _ _ (by omega) hik, Nat.add_mod, h, ← Nat.add_mod]
  · rw [if_neg hik, vb_add _ _ _ _ _ (by omega) (by omega), Nat.add_mod, h, ← Nat.add_mod]
    have e1 : (2 ^ 26) ^ (i + k) * m = 2 ^ 130 * ((2 ^ 26) ^ (i + k - 5) * m) := by
      have : (2 ^ 26) ^ (i + k) = 2 ^ 130 * (2 ^ 26) ^ (i + k - 5) := by
        rw [show (2 : Nat) ^ 130 = (2 ^ 26) ^ 5 by rw [← Nat.pow_mul], ← Nat.pow_add]
        congr 1
        omega
      rw [this, Nat.mul_assoc]
    rw [e1, over_mod, ← Nat.mul_assoc]
theorem mulTo_value (a b : List Nat) (n : Nat) (hn : n ≤ 25) :
    vb (2 ^ 26) (mulTo a b n) 5 % pP = (vb (2 ^ 26) a (n / 5) * vb (2 ^ 26) b 5 + (2 ^ 26) ^ (n / 5) * a.getD (n / 5) 0 * vb (2 ^ 26) b (n % 5)) % pP := by
  induction n with
  | zero => simp [mulTo, vb]
  | succ n ih =>
    have h := mulPut_value a b _ (mulTo_length a b n) (n / 5) (n % 5) (by omega) (Nat.mod_lt _ (by decide)) _ (ih (by omega))
    rw [mulTo, h]
    by_cases h4 : n % 5 = 4
    · have q1 : (n + 1) / 5 = n / 5 + 1 := by omega
      have q2 : (n + 1) % 5 = 0 := by omega
      rw [q1, q2, h4]
      have v5 : vb (2 ^ 26) b 5 = vb (2 ^ 26) b 4 + (2 ^ 26) ^ 4 * b.getD 4 0 := rfl
      have v0 : vb (2 ^ 26) b 0 = 0 := rfl
      have va : vb (2 ^ 26) a (n / 5 + 1) = vb (2 ^ 26) a (n / 5) + (2 ^ 26) ^ (n / 5) * a.getD (n / 5) 0 := rfl
      rw [v0, va, Nat.mul_zero, Nat.add_zero, Nat.add_mul, Nat.add_assoc, ← Nat.mul_add, ← v5]
    · have q1 : (n + 1) / 5 = n / 5 := by omega
      have q2 : (n + 1) % 5 = n % 5 + 1 := by omega
      have vs : vb (2 ^ 26) b (n % 5 + 1) = vb (2 ^ 26) b (n % 5) + (2 ^ 26) ^ (n % 5) * b.getD (n % 5) 0 := rfl
      rw [q1, q2, vs, Nat.mul_add, Nat.add_assoc]
/-- The number that times answers. -/
def timesL (a b : List Nat) : List Nat := foldL (foldL (mulTo a b 25))
theorem timesL_length (a b : List Nat) : (timesL a b).length = 5 := by rw [timesL, foldL_length, foldL_length, mulTo_length]
theorem mulTo_small (a b : List Nat) (ha : Under a (2 ^ 28)) (hb : Under b (2 ^ 26)) (n : Nat) (hn : n ≤ 25) : Under (mulTo a b n) (2 ^ 62) := (mulTo_under a b ha hb n).mono (by omega)
theorem timesL_value (a b : List Nat) (ha : Under a (2 ^ 28)) (hb : Under b (2 ^ 26)) :
    vb (2 ^ 26) (timesL a b) 5 < 2 ^ 130 ∧ vb (2 ^ 26) (timesL a b) 5 % pP = vb (2 ^ 26) a 5 * vb (2 ^ 26) b 5 % pP ∧ Under (timesL a b) (2 ^ 27) := by
  obtain ⟨h1, h2, h3⟩ := foldL_twice (mulTo a b 25) (mulTo_length ..) ((mulTo_small a b ha hb 25 (by decide)).mono (by decide))
  have h := mulTo_value a b 25 (by decide)
  have v0 : vb (2 ^ 26) b 0 = 0 := rfl
  rw [show 25 / 5 = 5 by decide, show 25 % 5 = 0 by decide, v0, Nat.mul_zero, Nat.add_zero] at h
  exact ⟨h1, h2.trans h, h3⟩

/-- Part by part: so many parts of the other are put to the one's. -/
def plusTo (a b : List Nat) : Nat → List Nat
  | 0 => a
  | k + 1 => (plusTo a b k).set k ((plusTo a b k).getD k 0 + b.getD k 0)
theorem plusTo_length (a b : List Nat) (k : Nat) : (plusTo a b k).length = a.length := by
  induction k with
  | zero => rfl
  | succ k ih => rw [plusTo, List.length_set, ih]
theorem plusTo_at (a b : List Nat) (k i : Nat) (hk : k ≤ a.length) : (plusTo a b k).getD i 0 = a.getD i 0 + if i < k then b.getD i 0 else 0 := by
  induction k with
  | zero => simp [plusTo]
  | succ k ih =>
    rw [plusTo, getD_set _ _ _ _ (by rw [plusTo_length]; omega)]
    by_cases h : k = i
    · subst h
      rw [if_pos rfl, ih (by omega)]
      simp
    · rw [if_neg h, ih (by omega)]
      by_cases h2 : i < k
      · rw [if_pos h2, if_pos (by omega)]
      · rw [if_neg h2, if_neg (by omega)]
def plusL (a b : List Nat) : List Nat := plusTo a b 5
theorem plusL_length (a b : List Nat) : (plusL a b).length = a.length := plusTo_length a b 5
theorem plusTo_under (a b : List Nat) (k A B : Nat) (hk : k ≤ a.length) (ha : Under a A) (hb : Under b B) : Under (plusTo a b k) (A + B) := fun i => by
  rw [plusTo_at _ _ _ _ hk]
  have := ha i
  have := hb i
  split <;> omega
theorem plusTo_value (a b : List Nat) (k m : Nat) (hk : k ≤ a.length) (hm : k ≤ m) : vb (2 ^ 26) (plusTo a b k) m = vb (2 ^ 26) a m + vb (2 ^ 26) b k := by
  induction k with
  | zero => rfl
  | succ k ih =>
    rw [plusTo, vb_add _ _ _ _ _ (by rw [plusTo_length]; omega) (by omega), ih (by omega) (by omega), vb]
    omega
theorem plusL_value (a b : List Nat) (ha : a.length = 5) : vb (2 ^ 26) (plusL a b) 5 = vb (2 ^ 26) a 5 + vb (2 ^ 26) b 5 := plusTo_value a b 5 5 (by omega) (by omega)

/-- The number that rest answers. -/
def moreL (l : List Nat) : List Nat := l.set 0 (l.getD 0 0 + 5)
def restL (l : List Nat) : List Nat := carryL (l.set 0 (l.getD 0 0 + overN (moreL l) * 5))
theorem moreL_length (l : List Nat) : (moreL l).length = l.length := List.length_set ..
theorem restL_length (l : List Nat) : (restL l).length = l.length := by rw [restL, carryL_length, List.length_set]
theorem overN_one (l : List Nat) (hl : l.length = 5) (h : vb (2 ^ 26) l 5 < 2 ^ 130) : overN (moreL l) ≤ 1 := by
  have h1 := (carryL_value (moreL l) (by rw [moreL_length, hl])).2
  rw [moreL, vb_add _ _ _ _ _ (by omega) (by omega)] at h1
  rw [moreL]
  omega
theorem restL_value (l : List Nat) (hl : l.length = 5) (h : vb (2 ^ 26) l 5 < 2 ^ 130) : vb (2 ^ 26) (restL l) 5 = vb (2 ^ 26) l 5 % pP := by
  have h1 := (carryL_value (moreL l) (by rw [moreL_length, hl])).2
  rw [moreL, vb_add _ _ _ _ _ (by omega) (by omega)] at h1
  have h2 := (carryL_value (l.set 0 (l.getD 0 0 + overN (moreL l) * 5)) (by rw [List.length_set, hl])).1
  rw [vb_add _ _ _ _ _ (by omega) (by omega)] at h2
  rw [restL, h2, moreL, h1]
  generalize vb (2 ^ 26) l 5 = V at *
  by_cases hp : V < pP
  · rw [Nat.mod_eq_of_lt hp]
    rw [pP] at hp
    omega
  · have e : V % pP = V - pP := by
      rw [Nat.mod_eq_sub_mod (by omega), Nat.mod_eq_of_lt]
      rw [pP] at hp ⊢
      omega
    rw [e]
    rw [pP] at hp ⊢
    omega

/-- A number's parts, so many of them; the others are 0 still. -/
def partsTo (V k : Nat) : List Nat := (List.range 5).map fun i => if i < k then V / (2 ^ 26) ^ i % 2 ^ 26 else 0
theorem partsTo_length (V k : Nat) : (partsTo V k).length = 5 := by simp [partsTo]
theorem partsTo_zero (V : Nat) : partsTo V 0 = [0, 0, 0, 0, 0] := rfl
theorem partsTo_set (V k : Nat) (hk : k < 5) : (partsTo V k).set k (V / (2 ^ 26) ^ k % 2 ^ 26) = partsTo V (k + 1) := by
  apply List.ext_getElem?
  intro i
  simp only [partsTo, List.getElem?_set, List.getElem?_map, List.length_map, List.length_range]
  by_cases h : k = i
  · subst h
    simp [hk]
  · rw [if_neg h]
    by_cases hi : i < 5
    · rw [List.getElem?_range hi]
      simp only [Option.map_some]
      by_cases h2 : i < k
      · rw [if_pos h2, if_pos (by omega)]
      · rw [if_neg h2, if_neg (by omega)]
    · rw [List.getElem?_eq_none (by simp; omega)]
      rfl
def partsL (V : Nat) : List Nat := partsTo V 5
theorem partsTo_at (V k i : Nat) : (partsTo V k).getD i 0 = if i < 5 ∧ i < k then V / (2 ^ 26) ^ i % 2 ^ 26 else 0 := by
  by_cases hi : i < 5
  · simp only [partsTo, List.getD, List.getElem?_map, List.getElem?_range hi, Option.map_some, Option.getD_some]
    by_cases h2 : i < k
    · rw [if_pos h2, if_pos ⟨hi, h2⟩]
    · rw [if_neg h2, if_neg (fun h => h2 h.2)]
  · rw [if_neg (fun h => hi h.1)]
    have : (partsTo V k)[i]? = none := List.getElem?_eq_none (by rw [partsTo_length]; omega)
    simp [List.getD, this]
theorem partsTo_under (V k : Nat) : Under (partsTo V k) (2 ^ 26) := fun i => by
  rw [partsTo_at]
  split
  · exact Nat.mod_lt _ (by decide)
  · decide
theorem partsL_below (V m : Nat) (hm : m ≤ 5) : vb (2 ^ 26) (partsL V) m = V % (2 ^ 26) ^ m := by
  induction m with
  | zero => rw [vb, Nat.pow_zero, Nat.mod_one]
  | succ m ih =>
    have e : (2 ^ 26) ^ (m + 1) = (2 ^ 26) ^ m * 2 ^ 26 := Nat.pow_succ _ _
    have e2 := @Nat.mod_mul ((2 ^ 26) ^ m) (2 ^ 26) V
    rw [vb, ih (by omega), partsL, partsTo_at, if_pos ⟨by omega, by omega⟩, e, e2]
theorem partsL_value (V : Nat) (hV : V < 2 ^ 130) : vb (2 ^ 26) (partsL V) 5 = V := by
  rw [partsL_below V 5 (by decide), ← Nat.pow_mul]
  exact Nat.mod_eq_of_lt hV

/-- The first byte of a part, and the bits of it that are another's. -/
def atN (i : Nat) : Nat := i * 26 / 8
def bitN (i : Nat) : Nat := i * 26 % 8
theorem at_bit (i : Nat) : (2 ^ 26) ^ i = 256 ^ atN i * 2 ^ bitN i := by
  rw [show (256 : Nat) = 2 ^ 8 by decide, ← Nat.pow_mul, ← Nat.pow_mul, ← Nat.pow_add]
  congr 1
  rw [atN, bitN]
  omega
theorem atN_le (i : Nat) (h : i < 5) : atN i ≤ 13 := by rw [atN]; omega
theorem bitN_le (i : Nat) (h : i < 5) : bitN i ≤ 6 := by
  rcases i with _ | _ | _ | _ | _ | i
  all_goals first | decide | omega

/-- Room: the 16 bytes and the one behind them. -/
def roomL (b : List UInt8) (x : UInt8) : List UInt8 := b ++ x :: List.replicate (16 - b.length) 0
theorem roomL_length (b : List UInt8) (x : UInt8) (h : b.length ≤ 16) : (roomL b x).length = 17 := by simp [roomL]; omega
theorem vt_append (a b : List Nat) (m : Nat) : vt (a ++ b) (a.length + m) = vt a a.length + 256 ^ a.length * vt b m := by
  induction m with
  | zero =>
    rw [vt, Nat.mul_zero, Nat.add_zero, Nat.add_zero]
    exact vt_ext _ _ _ fun i hi => by simp [List.getD, List.getElem?_append_left hi]
  | succ m ih =>
    have e : (a ++ b).getD (a.length + m) 0 = b.getD m 0 := by simp [List.getD, List.getElem?_append_right]
    rw [← Nat.add_assoc, vt, ih, vt, e, Nat.mul_add, Nat.pow_add, Nat.mul_assoc, Nat.add_assoc]
theorem vt_replicate (n m : Nat) : vt (List.replicate n 0) m = 0 := by
  induction m with
  | zero => rfl
  | succ m ih =>
    have e : (List.replicate n 0).getD m 0 = 0 := by
      simp only [List.getD, List.getElem?_replicate]
      split <;> rfl
    rw [vt, ih, e, Nat.mul_zero]
theorem leNat_append (a b : List UInt8) : leNat (a ++ b) = leNat a + 256 ^ a.length * leNat b := by
  have h := vt_append (a.map (·.toNat)) (b.map (·.toNat)) b.length
  rw [List.length_map, ← List.map_append, ← List.length_append] at h
  exact h
theorem leNat_cons (x : UInt8) (b : List UInt8) : leNat (x :: b) = x.toNat + 256 * leNat b := by
  have h := leNat_append [x] b
  have e : leNat [x] = x.toNat := by simp [leNat, vt]
  rw [e] at h
  exact h
theorem leNat_zeros (n : Nat) : leNat (List.replicate n 0) = 0 := by
  induction n with
  | zero => rfl
  | succ n ih => rw [List.replicate_succ, leNat_cons, ih]; rfl
theorem roomL_value (b : List UInt8) (x : UInt8) : leNat (roomL b x) = leNat b + 256 ^ b.length * x.toNat := by
  rw [roomL, leNat_append, leNat_cons, leNat_zeros, Nat.mul_zero, Nat.add_zero]
theorem leNat_lt (b : List UInt8) : leNat b < 256 ^ b.length := by
  induction b with
  | nil => exact (by decide : leNat [] < 256 ^ 0)
  | cons x b ih =>
    have := x.toNat_lt
    rw [leNat_cons, List.length_cons, Nat.pow_succ]
    omega
theorem roomL_lt (b : List UInt8) (x : UInt8) (h : b.length ≤ 16) (hx : x.toNat ≤ 1) : leNat (roomL b x) < 2 ^ 130 := by
  have h1 := leNat_lt b
  have h2 : 256 ^ b.length ≤ 256 ^ 16 := Nat.pow_le_pow_right (by decide) h
  have h3 := Nat.mul_le_mul_left (256 ^ b.length) hx
  rw [roomL_value]
  omega
theorem leNat_digit (b : List UInt8) (i : Nat) : leNat b / 256 ^ i % 256 = (b.getD i 0).toNat := by
  induction b generalizing i with
  | nil =>
    have : leNat [] = 0 := rfl
    rw [this]
    simp
  | cons x b ih =>
    have := x.toNat_lt
    rw [leNat_cons]
    cases i with
    | zero =>
      rw [Nat.pow_zero, Nat.div_one]
      simp
    | succ i =>
      have e : (x.toNat + 256 * leNat b) / 256 ^ (i + 1) = leNat b / 256 ^ i := by
        rw [Nat.pow_succ, Nat.mul_comm (256 ^ i), ← Nat.div_div_eq_div_mul]
        congr 1
        omega
      rw [e, ih]
      simp
/-- Four bytes together. -/
theorem four_bytes (b : List UInt8) (a : Nat) :
    (b.getD a 0).toNat + (b.getD (a + 1) 0).toNat * 2 ^ 8 + (b.getD (a + 2) 0).toNat * 2 ^ 16 + (b.getD (a + 3) 0).toNat * 2 ^ 24 = leNat b / 256 ^ a % 2 ^ 32 := by
  have d : ∀ j, leNat b / 256 ^ (a + j) = leNat b / 256 ^ a / 256 ^ j := fun j => by rw [Nat.pow_add, Nat.div_div_eq_div_mul]
  have h0 := leNat_digit b a
  have h1 := leNat_digit b (a + 1)
  have h2 := leNat_digit b (a + 2)
  have h3 := leNat_digit b (a + 3)
  rw [d] at h1 h2 h3
  generalize leNat b / 256 ^ a = X at *
  omega
/-- A part out of four bytes. -/
theorem part_of (V i : Nat) (hi : i < 5) : V / 256 ^ atN i % 2 ^ 32 / 2 ^ bitN i % 2 ^ 26 = V / (2 ^ 26) ^ i % 2 ^ 26 := by
  rw [at_bit i, ← Nat.div_div_eq_div_mul]
  generalize V / 256 ^ atN i = X
  rcases i with _ | _ | _ | _ | _ | i
  · rw [show bitN 0 = 0 by decide]; omega
  · rw [show bitN 1 = 2 by decide]; omega
  · rw [show bitN 2 = 4 by decide]; omega
  · rw [show bitN 3 = 6 by decide]; omega
  · rw [show bitN 4 = 0 by decide]; omega
  · omega

/-- The lowest bytes of a number. -/
def lowB (n V : Nat) : List UInt8 := (List.range n).map fun i => UInt8.ofNat (V / 256 ^ i)
theorem lowB_length (n V : Nat) : (lowB n V).length = n := by simp [lowB]
theorem lowB_at (n V i : Nat) (h : i < n) : (lowB n V)[i]? = some (UInt8.ofNat (V / 256 ^ i)) := by simp [lowB, h]
theorem lowB_zero (n : Nat) : lowB n 0 = List.replicate n 0 := by
  apply List.ext_getElem?
  intro i
  by_cases h : i < n
  · rw [lowB_at _ _ _ h, List.getElem?_replicate, if_pos h, Nat.zero_div]
    rfl
  · rw [List.getElem?_eq_none (by rw [lowB_length]; omega), List.getElem?_eq_none (by simp; omega)]
theorem lowB_take (n m V : Nat) (h : m ≤ n) : (lowB n V).take m = lowB m V := by
  apply List.ext_getElem?
  intro i
  by_cases hi : i < m
  · rw [List.getElem?_take_of_lt hi, lowB_at _ _ _ hi, lowB_at _ _ _ (by omega)]
  · rw [List.getElem?_eq_none (by simp; omega), List.getElem?_eq_none (by rw [lowB_length]; omega)]
theorem lowB_mod (n V W M : Nat) (hM : 256 ^ n ∣ M) (h : V % M = W % M) : lowB n V = lowB n W := by
  apply List.ext_getElem?
  intro i
  by_cases hi : i < n
  · rw [lowB_at _ _ _ hi, lowB_at _ _ _ hi]
    obtain ⟨q, rfl⟩ := hM
    have e : ∀ X, X / 256 ^ i % 256 = X % (256 ^ n * q) / 256 ^ i % 256 := fun X => by
      have hp : 256 ^ n * q = 256 ^ i * 256 * (256 ^ (n - (i + 1)) * q) := by
        rw [← Nat.mul_assoc, ← Nat.pow_succ, ← Nat.pow_add]
        congr 2
        omega
      rw [hp, Nat.mul_assoc, Nat.mod_mul_right_div_self, Nat.mod_mul_right_mod]
    congr 1
    apply UInt8.toNat_inj.1
    simp only [UInt8.toNat_ofNat']
    have e1 := e V
    have e2 := e W
    rw [h] at e1
    exact e1.trans e2.symm
  · rw [List.getElem?_eq_none (by rw [lowB_length]; omega), List.getElem?_eq_none (by rw [lowB_length]; omega)]
/-- A byte put to its place. -/
theorem lowB_set (n V j c : Nat) (h : V / 256 ^ j + c < 256) : (lowB n V).set j (UInt8.ofNat (V / 256 ^ j + c)) = lowB n (V + 256 ^ j * c) := by
  have hp : 0 < 256 ^ j := Nat.pow_pos (by decide)
  have ej : (V + 256 ^ j * c) / 256 ^ j = V / 256 ^ j + c := Nat.add_mul_div_left _ _ hp
  apply List.ext_getElem?
  intro i
  rw [List.getElem?_set, lowB_length]
  by_cases hi : i < n
  · rw [lowB_at _ _ _ hi, lowB_at _ _ _ hi]
    by_cases hij : j = i
    · subst hij
      rw [if_pos rfl, if_pos hi, ej]
    · rw [if_neg hij]
      congr 1
      apply UInt8.toNat_inj.1
      simp only [UInt8.toNat_ofNat']
      by_cases hlt : i < j
      · have e : 256 ^ j = 256 ^ i * (256 * 256 ^ (j - (i + 1))) := by
          rw [← Nat.mul_assoc, ← Nat.pow_succ, ← Nat.pow_add]
          congr 1
          omega
        rw [e, Nat.mul_assoc, Nat.add_mul_div_left _ _ (Nat.pow_pos (by decide)), Nat.mul_assoc, Nat.add_mul_mod_self_left]
      · have e : 256 ^ i = 256 ^ j * 256 ^ (i - j) := by
          rw [← Nat.pow_add]
          congr 1
          omega
        have hb : 256 ≤ 256 ^ (i - j) := by
          have := Nat.pow_le_pow_right (show 0 < 256 by decide) (show 1 ≤ i - j by omega)
          omega
        rw [e, ← Nat.div_div_eq_div_mul, ← Nat.div_div_eq_div_mul, ej, Nat.div_eq_of_lt (by omega), Nat.div_eq_of_lt (by omega)]
  · rw [List.getElem?_eq_none (by rw [lowB_length]; omega), List.getElem?_eq_none (by rw [lowB_length]; omega)]
    split <;> simp_all

/-- So far a number's bytes are written: i parts, and k bytes of the next one. -/
def layN (P x i k : Nat) : Nat := P + 256 ^ atN i * (x * 2 ^ bitN i % 256 ^ k)
theorem layN_step (P x i k : Nat) (hi : i < 5) (hk : k < 4) (hx : x < 2 ^ 26) (hP : P < (2 ^ 26) ^ i) :
    ∃ b q, layN P x i k / 256 ^ (atN i + k) < 2 ^ b ∧ x * 2 ^ bitN i / 2 ^ (8 * k) % 256 = q * 2 ^ b ∧ layN P x i k / 256 ^ (atN i + k) + q * 2 ^ b < 256 ∧ layN P x i k + 256 ^ (atN i + k) * (q * 2 ^ b) = layN P x i (k + 1) := by
  rw [layN, layN]
  rcases k with _ | k
  · refine ⟨bitN i, x % 2 ^ (8 - bitN i), ?_⟩
    rcases i with _ | _ | _ | _ | _ | i
    · rw [show atN 0 = 0 by decide, show bitN 0 = 0 by decide]; omega
    · rw [show atN 1 = 3 by decide, show bitN 1 = 2 by decide]; omega
    · rw [show atN 2 = 6 by decide, show bitN 2 = 4 by decide]; omega
    · rw [show atN 3 = 9 by decide, show bitN 3 = 6 by decide]; omega
    · rw [show atN 4 = 13 by decide, show bitN 4 = 0 by decide]; omega
    · omega
  · refine ⟨0, x * 2 ^ bitN i / 2 ^ (8 * (k + 1)) % 256, ?_⟩
    rcases k with _ | _ | _ | k
    · rcases i with _ | _ | _ | _ | _ | i
      · rw [show atN 0 = 0 by decide, show bitN 0 = 0 by decide]; omega
      · rw [show atN 1 = 3 by decide, show bitN 1 = 2 by decide]; omega
      · rw [show atN 2 = 6 by decide, show bitN 2 = 4 by decide]; omega
      · rw [show atN 3 = 9 by decide, show bitN 3 = 6 by decide]; omega
      · rw [show atN 4 = 13 by decide, show bitN 4 = 0 by decide]; omega
      · omega
    · rcases i with _ | _ | _ | _ | _ | i
      · rw [show atN 0 = 0 by decide, show bitN 0 = 0 by decide]; omega
      · rw [show atN 1 = 3 by decide, show bitN 1 = 2 by decide]; omega
      · rw [show atN 2 = 6 by decide, show bitN 2 = 4 by decide]; omega
      · rw [show atN 3 = 9 by decide, show bitN 3 = 6 by decide]; omega
      · rw [show atN 4 = 13 by decide, show bitN 4 = 0 by decide]; omega
      · omega
    · rcases i with _ | _ | _ | _ | _ | i
      · rw [show atN 0 = 0 by decide, show bitN 0 = 0 by decide]; omega
      · rw [show atN 1 = 3 by decide, show bitN 1 = 2 by decide]; omega
      · rw [show atN 2 = 6 by decide, show bitN 2 = 4 by decide]; omega
      · rw [show atN 3 = 9 by decide, show bitN 3 = 6 by decide]; omega
      · rw [show atN 4 = 13 by decide, show bitN 4 = 0 by decide]; omega
      · omega
    · omega
theorem layN_zero (P x i : Nat) : layN P x i 0 = P := by rw [layN, Nat.pow_zero, Nat.mod_one, Nat.mul_zero, Nat.add_zero]
theorem layN_four (l : List Nat) (i : Nat) (hi : i < 5) (hx : l.getD i 0 < 2 ^ 26) : layN (vb (2 ^ 26) l i) (l.getD i 0) i 4 = vb (2 ^ 26) l (i + 1) := by
  have hb := bitN_le i hi
  have h2 : 2 ^ bitN i ≤ 2 ^ 6 := Nat.pow_le_pow_right (by decide) hb
  have h : l.getD i 0 * 2 ^ bitN i < 256 ^ 4 := by
    have := Nat.mul_le_mul (show l.getD i 0 ≤ 2 ^ 26 - 1 by omega) h2
    omega
  rw [layN, Nat.mod_eq_of_lt h, vb, at_bit i, Nat.mul_comm (l.getD i 0), Nat.mul_assoc]
theorem vb_under (l : List Nat) (h : Under l (2 ^ 26)) (i : Nat) : vb (2 ^ 26) l i < (2 ^ 26) ^ i := vb_lt (2 ^ 26) l i (by decide) fun j _ => h j
end Go.Proofs.YtmnhpkdldeifgaaGreatDoor
