/- WindowOnce: plain mathematics of windows behind any numbers. It speaks of no program. -/
import Derived.Test.YtemogdcjmehdcaaWiL
import Derived.Test.YtemogdcjmehdcaaWiStays
namespace Go.Proofs.Ytemogdcjmehdcaa
set_option maxRecDepth 100000

def topOf (t : Nat) (p : List Nat) : Nat := p.foldl max t
theorem topOf_snoc (t : Nat) (p : List Nat) (x : Nat) : topOf t (p ++ [x]) = max (topOf t p) x := by simp [topOf]
theorem le_topOf (t : Nat) (p : List Nat) : t ≤ topOf t p := by
  induction p generalizing t with
  | nil => exact Nat.le_refl _
  | cons x r ih => exact Nat.le_trans (Nat.le_max_left t x) (ih (max t x))
theorem among_snoc (n t : Nat) (p : List Nat) (x : Nat) : amongFrom n t (p ++ [x]) = (amongFrom n t p || decide (x = n ∧ topOf t p < n + 128)) := by
  induction p generalizing t with
  | nil =>
    rw [List.nil_append, amongFrom, amongFrom, amongFrom]
    by_cases h : x = n ∧ t < n + 128
    · rw [if_pos h]
      simp [topOf, h]
    · rw [if_neg h]
      have h' : ¬ (x = n ∧ topOf t [] < n + 128) := h
      rw [decide_eq_false h']
      rfl
  | cons y r ih =>
    rw [List.cons_append, amongFrom, amongFrom]
    by_cases h : y = n ∧ t < n + 128
    · rw [if_pos h, if_pos h]
      simp
    · rw [if_neg h, if_neg h, ih]
      rfl
theorem among_le (n t : Nat) (p : List Nat) (h : amongFrom n t p = true) : n ≤ topOf t p := by
  induction p generalizing t with
  | nil => simp [amongFrom] at h
  | cons y r ih =>
    rw [amongFrom] at h
    split at h
    · have := le_topOf (max t y) r
      have e : topOf t (y :: r) = topOf (max t y) r := rfl
      omega
    · exact ih _ h

/-- A window behind these numbers. -/
structure Inv (W : Win) (T : Nat) (p : List Nat) : Prop where
  ok : W.ok
  top : W.top = (T : Int)
  low : T < 65536
  is : topOf 0 p = T
  bits : ∀ n, 1 ≤ n → n ≤ T → T < n + 128 → W.bit (T - n) = amongFrom n 0 p
theorem Inv.start : Inv win0 0 [] := ⟨⟨by decide, by decide⟩, rfl, by decide, rfl, fun n h1 h2 => by omega⟩
theorem Inv.isInt {W : Win} {T : Nat} {p : List Nat} (h : Inv W T p) : IsInt W.top := by
  have := h.top
  have := h.low
  exact isInt_of (by omega) (by omega)
theorem Inv.nought {W : Win} {T : Nat} {p : List Nat} (h : Inv W T p) : Inv W T (p ++ [0]) where
  ok := h.ok
  top := h.top
  low := h.low
  is := by rw [topOf_snoc, h.is]; omega
  bits n h1 h2 h3 := by
    rw [among_snoc, h.bits n h1 h2 h3]
    have e : ¬ (0 = n ∧ topOf 0 p < n + 128) := by omega
    rw [decide_eq_false e, Bool.or_false]
theorem Inv.fresh {W : Win} {T : Nat} {p : List Nat} (h : Inv W T p) (x : Nat) (h1 : 1 ≤ x) (h2 : x < 65536) :
    freshX W (x : Int) = if T < x then 0 else if 127 < T - x then 23 else if W.bit (T - x) = true then 22 else 0 := by
  have ht := h.top
  have hl := h.low
  rw [freshX, if_neg (by omega), ht]
  by_cases a : T < x
  · rw [if_pos a, if_pos (by omega)]
  · have e : ((T : Int) - (x : Int)).toNat = T - x := by omega
    rw [if_neg a, if_neg (by omega), e]
    by_cases b : 127 < T - x
    · rw [if_pos b, if_pos (by omega)]
    · rw [if_neg b, if_neg (by omega)]
theorem Inv.step {W : Win} {T : Nat} {p : List Nat} (h : Inv W T p) (x : Nat) (h1 : 1 ≤ x) (h2 : x < 65536) : Inv (markW W (x : Int)) (max T x) (p ++ [x]) where
  ok := markW_ok h.ok _
  low := by have := h.low; omega
  is := by rw [topOf_snoc, h.is]
  top := by
    have hf := h.fresh x h1 h2
    have ht := h.top
    by_cases a : T < x
    · rw [if_pos a] at hf
      rw [mark_top hf, ht]
      omega
    · by_cases b : freshX W (x : Int) = 0
      · rw [mark_top b, ht]
        omega
      · rw [markW, if_pos b, ht]
        omega
  bits n n1 n2 n3 := by
    have hf := h.fresh x h1 h2
    have ht := h.top
    have hl := h.low
    rw [among_snoc, h.is]
    by_cases b : freshX W (x : Int) = 0
    · have hb := mark_bit W (x : Int) b (max T x - n) (by omega)
      rw [hb, Win.moved, ht]
      have xn : T < x + 128 := by
        by_cases a : T < x
        · omega
        · rw [if_neg a] at hf
          by_cases c : 127 < T - x
          · rw [if_pos c] at hf
            omega
          · omega
      by_cases e : x = n
      · subst e
        have e1 : max T x - x = ((T : Int) - (x : Int)).toNat := by omega
        rw [decide_eq_true e1, decide_eq_true (⟨rfl, xn⟩ : x = x ∧ T < x + 128)]
        simp
      · have e1 : ¬ max T x - n = ((T : Int) - (x : Int)).toNat := by omega
        have e2 : ¬ (x = n ∧ T < n + 128) := fun k => e k.1
        rw [decide_eq_false e1, decide_eq_false e2, Bool.or_false, Bool.false_or]
        by_cases c : n ≤ T
        · have e3 : ((x : Int) - (T : Int)).toNat ≤ max T x - n := by omega
          have e4 : max T x - n - ((x : Int) - (T : Int)).toNat = T - n := by omega
          rw [decide_eq_true e3, e4, Bool.true_and]
          exact h.bits n n1 c (by omega)
        · have e3 : ¬ ((x : Int) - (T : Int)).toNat ≤ max T x - n := by omega
          rw [decide_eq_false e3, Bool.false_and]
          symm
          apply Bool.eq_false_iff.2
          intro k
          have := among_le n 0 p k
          rw [h.is] at this
          exact c this
    · have a : ¬ T < x := by
        intro a
        rw [if_pos a] at hf
        exact b hf
      have em : max T x = T := by omega
      rw [if_neg a] at hf
      rw [markW, if_pos b, em]
      rw [em] at n2 n3
      rw [h.bits n n1 n2 n3]
      by_cases e : x = n
      · subst e
        have hx : ¬ 127 < T - x := by omega
        rw [if_neg hx] at hf
        have hb : W.bit (T - x) = true := by
          apply Classical.byContradiction
          intro k
          rw [if_neg k] at hf
          exact b hf
        rw [← h.bits x n1 n2 n3, hb, Bool.true_or]
      · have e2 : ¬ (x = n ∧ T < n + 128) := fun k => e k.1
        rw [decide_eq_false e2, Bool.or_false]
/-- What was fresh, and was marked, is seen. -/
theorem Inv.marked {W : Win} {T : Nat} {p : List Nat} (h : Inv W T p) (x : Nat) (h1 : 1 ≤ x) (h2 : x < 65536) (hf : freshX W (x : Int) = 0) : freshX (markW W (x : Int)) (x : Int) = 22 := by
  have hs := h.step x h1 h2
  have hq := h.fresh x h1 h2
  rw [hf] at hq
  have xn : T < x + 128 := by
    by_cases a : T < x
    · omega
    · rw [if_neg a] at hq
      by_cases c : 127 < T - x
      · rw [if_pos c] at hq
        omega
      · omega
  have hb := hs.bits x h1 (Nat.le_max_right _ _) (by omega)
  rw [among_snoc, h.is, decide_eq_true (⟨rfl, xn⟩ : x = x ∧ T < x + 128), Bool.or_true] at hb
  rw [hs.fresh x h1 h2, if_neg (by omega), if_neg (by omega), if_pos hb]
theorem Inv.seen {W : Win} {T : Nat} {p : List Nat} (h : Inv W T p) (n : Nat) (h1 : 1 ≤ n) (h2 : n ≤ T) : seenB W (n : Int) = (amongFrom n 0 p && decide (T < n + 128)) := by
  have hl := h.low
  have hf := h.fresh n h1 (by omega)
  rw [seenB, hf, if_neg (by omega)]
  by_cases c : T < n + 128
  · rw [if_neg (by omega), decide_eq_true c, Bool.and_true, h.bits n h1 h2 c]
    cases amongFrom n 0 p <;> rfl
  · rw [if_pos (by omega), decide_eq_false c, Bool.and_false]
    rfl
end Go.Proofs.Ytemogdcjmehdcaa
