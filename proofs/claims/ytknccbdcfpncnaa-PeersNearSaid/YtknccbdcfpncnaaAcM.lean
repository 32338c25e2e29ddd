/- Plain mathematics of package arc: ways on the circle, what lies between, the nearest place, places in order. It speaks of no program. -/
import Derived.Test.YtknccbdcfpncnaaGenA
namespace Go.Proofs.Ytknccbdcfpncnaa
set_option maxRecDepth 100000

/-- How far b lies ahead of a. -/
def distN (a b : Nat) : Nat := if a ≤ b then b - a else 18446744073709551616 - a + b
def withinB (a x b : Nat) : Bool := if a = b then true else if a < b then decide (a < x) && decide (x ≤ b) else decide (a < x) || decide (x ≤ b)
def insideB (a x b : Nat) : Bool := if a = b then decide (x ≠ a) else withinB a x b && decide (x ≠ b)
def startN (id : Nat) (bit : Int) : Nat := if bit < 0 ∨ 63 < bit then id else (id + 2 ^ bit.toNat) % 18446744073709551616
theorem distN_lt (a b : Nat) (ha : a < 18446744073709551616) (hb : b < 18446744073709551616) : distN a b < 18446744073709551616 := by
  rw [distN]
  split <;> omega
theorem distN_inj (a b c : Nat) (ha : a < 18446744073709551616) (hb : b < 18446744073709551616) (hc : c < 18446744073709551616) (h : distN a b = distN a c) : b = c := by
  rw [distN, distN] at h
  split at h <;> split at h <;> omega

/-- The first place of the nearest one. -/
def nearL (key : Nat) : List Nat → Option Nat
  | [] => none
  | x :: l => match nearL key l with
    | none => some 0
    | some k => if distN key x ≤ distN key (l.getD k 0) then some 0 else some (k + 1)
def nearI (key : Nat) (ids : List Nat) : Int := match nearL key ids with
  | none => -1
  | some k => (k : Int)
theorem nearL_none (key : Nat) (l : List Nat) : nearL key l = none ↔ l = [] := by
  cases l with
  | nil => simp [nearL]
  | cons x l =>
    simp only [nearL, reduceCtorEq, iff_false]
    cases nearL key l with
    | none => simp
    | some k => simp; split <;> simp
theorem nearL_spec (key : Nat) (l : List Nat) (k : Nat) (h : nearL key l = some k) : k < l.length ∧ ∀ y ∈ l, distN key (l.getD k 0) ≤ distN key y := by
  induction l generalizing k with
  | nil => simp [nearL] at h
  | cons x l ih =>
    simp only [nearL] at h
    cases hn : nearL key l with
    | none =>
      rw [hn] at h
      injection h with h
      subst h
      have := (nearL_none key l).1 hn
      subst this
      simp
    | some j =>
      rw [hn] at h
      obtain ⟨h1, h2⟩ := ih j hn
      simp only at h
      split at h
      · rename_i hle
        injection h with h
        subst h
        refine ⟨by simp, fun y hy => ?_⟩
        rcases List.mem_cons.1 hy with rfl | hy
        · simp
        · exact Nat.le_trans hle (h2 y hy)
      · rename_i hle
        injection h with h
        subst h
        refine ⟨by simp; omega, fun y hy => ?_⟩
        rcases List.mem_cons.1 hy with rfl | hy
        · have e : (y :: l).getD (j + 1) 0 = l.getD j 0 := rfl
          rw [e]
          omega
        · exact h2 y hy

/-- One put in behind all that are not farther. -/
def insR (a x : Nat) : List Nat → List Nat
  | [] => [x]
  | y :: l => if distN a x < distN a y then x :: y :: l else y :: insR a x l
def orderTo (a : Nat) (ids : List Nat) : Nat → List Nat
  | 0 => []
  | k + 1 => insR a (ids.getD k 0) (orderTo a ids k)
def orderL (a : Nat) (ids : List Nat) : List Nat := orderTo a ids ids.length
def Rising (a : Nat) (l : List Nat) : Prop := l.Pairwise fun x y => distN a x ≤ distN a y
theorem insR_length (a x : Nat) (l : List Nat) : (insR a x l).length = l.length + 1 := by
  induction l with
  | nil => rfl
  | cons y l ih =>
    rw [insR]
    split
    · rfl
    · simp [ih]
theorem insR_mem (a x z : Nat) (l : List Nat) : z ∈ insR a x l ↔ z = x ∨ z ∈ l := by
  induction l with
  | nil => simp [insR]
  | cons y l ih =>
    rw [insR]
    split
    · simp
    · simp only [List.mem_cons, ih]
      constructor
      · rintro (h | h | h)
        · exact .inr (.inl h)
        · exact .inl h
        · exact .inr (.inr h)
      · rintro (h | h | h)
        · exact .inr (.inl h)
        · exact .inl h
        · exact .inr (.inr h)
theorem insR_rising (a x : Nat) (l : List Nat) (h : Rising a l) : Rising a (insR a x l) := by
  induction l with
  | nil => simp [insR, Rising]
  | cons y l ih =>
    have hy := List.pairwise_cons.1 h
    rw [insR]
    split
    · rename_i hlt
      refine List.pairwise_cons.2 ⟨fun z hz => ?_, h⟩
      rcases List.mem_cons.1 hz with rfl | hz
      · omega
      · have := hy.1 z hz
        omega
    · rename_i hlt
      refine List.pairwise_cons.2 ⟨fun z hz => ?_, ih hy.2⟩
      rcases (insR_mem a x z l).1 hz with rfl | hz
      · omega
      · exact hy.1 z hz
theorem orderTo_length (a : Nat) (ids : List Nat) (k : Nat) : (orderTo a ids k).length = k := by
  induction k with
  | zero => rfl
  | succ k ih => rw [orderTo, insR_length, ih]
theorem orderL_length (a : Nat) (ids : List Nat) : (orderL a ids).length = ids.length := orderTo_length _ _ _
theorem orderTo_rising (a : Nat) (ids : List Nat) (k : Nat) : Rising a (orderTo a ids k) := by
  induction k with
  | zero => exact List.Pairwise.nil
  | succ k ih => exact insR_rising _ _ _ ih
theorem orderTo_mem (a : Nat) (ids : List Nat) (k : Nat) (hk : k ≤ ids.length) (z : Nat) : z ∈ orderTo a ids k ↔ z ∈ ids.take k := by
  induction k with
  | zero => simp [orderTo]
  | succ k ih =>
    have e : ids.getD k 0 = ids[k]'(by omega) := by simp [List.getD, List.getElem?_eq_getElem (show k < ids.length by omega)]
    rw [orderTo, insR_mem, ih (by omega), List.take_succ_eq_append_getElem (by omega), List.mem_append, List.mem_singleton, e, or_comm]
theorem orderL_mem (a : Nat) (ids : List Nat) (z : Nat) : z ∈ orderL a ids ↔ z ∈ ids := by
  rw [orderL, orderTo_mem _ _ _ (Nat.le_refl _), List.take_of_length_le (Nat.le_refl _)]
theorem insR_last (a x : Nat) (l : List Nat) (h : ∀ y ∈ l, distN a y ≤ distN a x) : insR a x l = l ++ [x] := by
  induction l with
  | nil => rfl
  | cons y l ih =>
    have := h y (by simp)
    rw [insR, if_neg (by omega), ih fun z hz => h z (by simp [hz])]
    rfl
/-- What is in order stays. -/
theorem orderTo_same (a : Nat) (ids : List Nat) (h : Rising a ids) (k : Nat) (hk : k ≤ ids.length) : orderTo a ids k = ids.take k := by
  induction k with
  | zero => simp [orderTo]
  | succ k ih =>
    have e : ids.getD k 0 = ids[k]'(by omega) := by simp [List.getD, List.getElem?_eq_getElem (show k < ids.length by omega)]
    rw [orderTo, ih (by omega), insR_last, List.take_succ_eq_append_getElem (by omega), e]
    intro y hy
    obtain ⟨i, hi, rfl⟩ := List.mem_iff_getElem.1 hy
    rw [List.getElem_take, e]
    have hi2 : i < k := by
      rw [List.length_take] at hi
      omega
    exact List.pairwise_iff_getElem.1 h i k (by omega) (by omega) hi2
theorem orderL_same (a : Nat) (ids : List Nat) : orderL a (orderL a ids) = orderL a ids := by
  have h := orderTo_same a (orderL a ids) (orderTo_rising a ids ids.length) (orderL a ids).length (Nat.le_refl _)
  rw [List.take_of_length_le (Nat.le_refl _)] at h
  exact h
/-- The first in order is the nearest one. -/
theorem first_nearest (a : Nat) (ids : List Nat) (ha : a < 18446744073709551616) (hids : ∀ x ∈ ids, x < 18446744073709551616) (k : Nat) (h : nearL a ids = some k) : (orderL a ids).getD 0 0 = ids.getD k 0 := by
  obtain ⟨h1, h2⟩ := nearL_spec a ids k h
  have hl : 0 < (orderL a ids).length := by rw [orderL_length]; omega
  have e1 : (orderL a ids).getD 0 0 = (orderL a ids)[0] := by simp [List.getD, List.getElem?_eq_getElem hl]
  have e2 : ids.getD k 0 = ids[k] := by simp [List.getD, List.getElem?_eq_getElem h1]
  have m1 : (orderL a ids)[0] ∈ ids := (orderL_mem a ids _).1 (List.getElem_mem hl)
  have m2 : ids[k] ∈ orderL a ids := (orderL_mem a ids _).2 (List.getElem_mem h1)
  have d1 : distN a ids[k] ≤ distN a (orderL a ids)[0] := by rw [← e2]; exact h2 _ m1
  have d2 : distN a (orderL a ids)[0] ≤ distN a ids[k] := by
    obtain ⟨i, hi, e⟩ := List.mem_iff_getElem.1 m2
    rw [← e]
    by_cases h0 : i = 0
    · subst h0
      exact Nat.le_refl _
    · exact List.pairwise_iff_getElem.1 (orderTo_rising a ids ids.length) 0 i hl hi (by omega)
  rw [e1, e2]
  exact distN_inj a _ _ ha (hids _ m1) (hids _ (List.getElem_mem h1)) (Nat.le_antisymm d2 d1)

/-- The document's way to the place: from the end. -/
def posN (a x : Nat) (out : List Nat) : Nat → Nat
  | 0 => 0
  | k + 1 => if distN a x < distN a (out.getD k 0) then posN a x out k else k + 1
theorem posN_le (a x : Nat) (out : List Nat) (k : Nat) : posN a x out k ≤ k := by
  induction k with
  | zero => exact Nat.le_refl _
  | succ k ih =>
    rw [posN]
    split <;> omega
theorem posN_zero (a x y : Nat) (l : List Nat) (h : ∀ z ∈ y :: l, distN a x < distN a z) (k : Nat) (hk : k ≤ (y :: l).length) : posN a x (y :: l) k = 0 := by
  induction k with
  | zero => rfl
  | succ k ih =>
    have hm : (y :: l).getD k 0 ∈ y :: l := by
      rw [List.getD, List.getElem?_eq_getElem (show k < (y :: l).length by omega)]
      exact List.getElem_mem _
    rw [posN, if_pos (h _ hm), ih (by omega)]
theorem posN_cons (a x y : Nat) (l : List Nat) (h : ¬ distN a x < distN a y) (k : Nat) : posN a x (y :: l) (k + 1) = posN a x l k + 1 := by
  induction k with
  | zero =>
    rw [posN, posN]
    have e : (y :: l).getD 0 0 = y := rfl
    rw [e, if_neg h]
  | succ k ih =>
    have e : (y :: l).getD (k + 1) 0 = l.getD k 0 := rfl
    rw [posN, e, ih, posN]
    split <;> rfl
theorem insR_pos (a x : Nat) (out : List Nat) (h : Rising a out) : insR a x out = out.take (posN a x out out.length) ++ x :: out.drop (posN a x out out.length) := by
  induction out with
  | nil => rfl
  | cons y l ih =>
    have hy := List.pairwise_cons.1 h
    rw [insR]
    split
    · rename_i hlt
      rw [posN_zero a x y l (fun z hz => ?_) _ (Nat.le_refl _)]
      · rfl
      · rcases List.mem_cons.1 hz with rfl | hz
        · exact hlt
        · have := hy.1 z hz
          omega
    · rename_i hlt
      rw [ih hy.2, List.length_cons, posN_cons a x y l hlt]
      rfl
end Go.Proofs.Ytknccbdcfpncnaa
