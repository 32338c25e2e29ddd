/- Layer 23: a node's sessions: plain functions. -/
import Derived.Test.YtjohlnpalcmhbaaRecSe
import Derived.Test.YtjohlnpalcmhbaaReR
import Derived.Test.YtjohlnpalcmhbaaEnV
namespace Go.Proofs.Ytjohlnpalcmhbaa
set_option maxRecDepth 100000
open Go.RowKit

/-- The first place that fits. -/
def firstS (p : Ses → Bool) : List Ses → Nat → Int
  | [], _ => -1
  | s :: r, k => if p s then (k : Int) else firstS p r (k + 1)
/-- The last one. -/
def lastS (p : Ses → Bool) : List Ses → Nat → Int → Int
  | [], _, b => b
  | s :: r, k, b => lastS p r (k + 1) (if p s then (k : Int) else b)
def byIdP (n : Nat) (s : Ses) : Bool := decide (s.state ≠ 1) && decide (s.id = n) && decide (0 < n)
def waitsP (n : Nat) (s : Ses) : Bool := decide (s.state = 1) && decide (s.nonce = n)
def asksP (e : Ent) (s : Ses) : Bool := decide (s.state = 1) && entW s.peer e
def forP (e : Ent) (s : Ses) : Bool := decide (s.state = 3) && entW s.peer e && !spentS s
/-- One that was accepted of the same asker. -/
def halfP (t s : Ses) : Bool := decide (s.role = 2) && decide (s.nonce = t.nonce) && entW s.peer t.peer
def againS (l : List Ses) (s : Ses) : Bool :=
  if s.state = 1 then decide (0 ≤ firstS (waitsP s.nonce) l 0) else decide (0 ≤ firstS (byIdP s.id) l 0) || (decide (s.state = 2) && l.any (halfP s))
def freeP (busy : List Nat) (s : Ses) : Bool := decide (s.state ≠ 1) && !busy.contains s.id
/-- Of the places from lo on, ahead of hi: that of the one used least of those that fit, the first of these. -/
def IsOld (p : Ses → Bool) (l : List Ses) (lo hi : Nat) (i : Int) : Prop :=
  (i = -1 ∧ ∀ j s, lo ≤ j → j < hi → l[j]? = some s → p s = false) ∨
  ∃ k s, i = ((k : Nat) : Int) ∧ lo ≤ k ∧ k < hi ∧ l[k]? = some s ∧ p s = true ∧ ∀ j t, lo ≤ j → j < hi → l[j]? = some t → p t = true → (j < k → s.used < t.used) ∧ s.used ≤ t.used
theorem IsOld.one {p : Ses → Bool} {l : List Ses} {lo hi : Nat} {i j : Int} (h : IsOld p l lo hi i) (h' : IsOld p l lo hi j) : i = j := by
  rcases h with ⟨rfl, h⟩ | ⟨k, s, rfl, h1, h2, h3, h4, h5⟩ <;> rcases h' with ⟨rfl, g⟩ | ⟨m, t, rfl, g1, g2, g3, g4, g5⟩
  · rfl
  · rw [h m t g1 g2 g3] at g4; cases g4
  · rw [g k s h1 h2 h3] at h4; cases h4
  · have a := h5 m t g1 g2 g3 g4
    have b := g5 k s h1 h2 h3 h4
    have : ¬ m < k := fun q => by have := a.1 q; omega
    have : ¬ k < m := fun q => by have := b.1 q; omega
    omega
/-- .. looked for from the right. -/
def oldR (p : Ses → Bool) : List Ses → Int
  | [] => -1
  | s :: r => if p s && (decide (oldR p r < 0) || decide (s.used ≤ ((r[(oldR p r).toNat]?).map (·.used)).getD 0)) then 0 else if oldR p r < 0 then -1 else oldR p r + 1
theorem oldR_is (p : Ses → Bool) (l : List Ses) : IsOld p l 0 l.length (oldR p l) := by
  induction l with
  | nil => exact .inl ⟨rfl, fun j s _ h => by simp at h⟩
  | cons x r ih =>
    rw [oldR]
    rcases ih with ⟨e, h⟩ | ⟨k, s, e, h1, h2, h3, h4, h5⟩
    · rw [e]
      by_cases hp : p x = true
      · rw [if_pos (by simp [hp])]
        refine .inr ⟨0, x, rfl, Nat.le_refl _, by simp, rfl, hp, fun j t _ hj ht hq => ⟨fun h => by omega, ?_⟩⟩
        cases j with
        | zero => simp only [List.getElem?_cons_zero, Option.some.injEq] at ht; subst ht; exact Int.le_refl _
        | succ j => rw [List.getElem?_cons_succ] at ht; rw [h j t (Nat.zero_le _) (by simpa using hj) ht] at hq; cases hq
      · rw [if_neg (by simp [hp]), if_pos (by decide)]
        refine .inl ⟨rfl, fun j t _ hj ht => ?_⟩
        cases j with
        | zero => simp only [List.getElem?_cons_zero, Option.some.injEq] at ht; subst ht; simpa using hp
        | succ j => rw [List.getElem?_cons_succ] at ht; exact h j t (Nat.zero_le _) (by simpa using hj) ht
    · rw [e]
      have hk : ¬ ((k : Int) < 0) := by omega
      have ek : ((k : Int)).toNat = k := by omega
      rw [ek, h3, Option.map_some, Option.getD_some]
      by_cases hp : p x = true ∧ x.used ≤ s.used
      · rw [if_pos (by simp [hp.1, hp.2])]
        refine .inr ⟨0, x, rfl, Nat.le_refl _, by simp, rfl, hp.1, fun j t _ hj ht hq => ⟨fun h => by omega, ?_⟩⟩
        cases j with
        | zero => simp only [List.getElem?_cons_zero, Option.some.injEq] at ht; subst ht; exact Int.le_refl _
        | succ j => rw [List.getElem?_cons_succ] at ht; have := (h5 j t (Nat.zero_le _) (by simpa using hj) ht hq).2; omega
      · rw [if_neg (by simp only [Bool.and_eq_true, Bool.or_eq_true, decide_eq_true_eq]; rintro ⟨a, b | b⟩; exact hk b; exact hp ⟨a, b⟩), if_neg hk]
        refine .inr ⟨k + 1, s, by omega, Nat.zero_le _, by simpa using h2, by rw [List.getElem?_cons_succ]; exact h3, h4, fun j t _ hj ht hq => ?_⟩
        cases j with
        | zero =>
          simp only [List.getElem?_cons_zero, Option.some.injEq] at ht
          subst ht
          have : ¬ x.used ≤ s.used := fun q => hp ⟨hq, q⟩
          exact ⟨fun _ => by omega, by omega⟩
        | succ j =>
          rw [List.getElem?_cons_succ] at ht
          have := h5 j t (Nat.zero_le _) (by simpa using hj) ht hq
          exact ⟨fun h => this.1 (by omega), this.2⟩
/-- One place less to the left. -/
theorem IsOld.left {p : Ses → Bool} {l : List Ses} {k : Nat} {x : Ses} {i : Int} (hx : l[k]? = some x) (h : IsOld p l (k + 1) l.length i)
    {j : Int} (hj : (p x = true ∧ (i < 0 ∨ ∃ s, l[i.toNat]? = some s ∧ x.used ≤ s.used) ∧ j = (k : Int)) ∨ ((p x = false ∨ 0 ≤ i ∧ ∃ s, l[i.toNat]? = some s ∧ ¬ x.used ≤ s.used) ∧ j = i)) : IsOld p l k l.length j := by
  have hkl := (List.getElem?_eq_some_iff.1 hx).1
  rcases hj with ⟨hp, hu, rfl⟩ | ⟨hu, rfl⟩
  · refine .inr ⟨k, x, rfl, Nat.le_refl _, hkl, hx, hp, fun j t h1 h2 h3 h4 => ⟨fun q => by omega, ?_⟩⟩
    by_cases e : j = k
    · subst e; rw [hx] at h3; injection h3 with h3; rw [h3]; exact Int.le_refl _
    · rcases h with ⟨rfl, h⟩ | ⟨m, s, rfl, g1, g2, g3, g4, g5⟩
      · rw [h j t (by omega) h2 h3] at h4; cases h4
      · rcases hu with hu | ⟨s', hs', hu⟩
        · omega
        · rw [Int.toNat_natCast, g3] at hs'
          injection hs' with hs'
          subst hs'
          have := (g5 j t (by omega) h2 h3 h4).2
          omega
  · rcases h with ⟨rfl, h⟩ | ⟨m, s, rfl, g1, g2, g3, g4, g5⟩
    · rcases hu with hu | ⟨hu, -⟩
      · refine .inl ⟨rfl, fun j t h1 h2 h3 => ?_⟩
        by_cases e : j = k
        · subst e; rw [hx] at h3; injection h3 with h3; rw [← h3]; exact hu
        · exact h j t (by omega) h2 h3
      · omega
    · refine .inr ⟨m, s, rfl, by omega, g2, g3, g4, fun j t h1 h2 h3 h4 => ?_⟩
      by_cases e : j = k
      · subst e
        rw [hx] at h3
        injection h3 with h3
        subst h3
        rcases hu with hu | ⟨-, s', hs', hu⟩
        · rw [hu] at h4; cases h4
        · rw [Int.toNat_natCast, g3] at hs'
          injection hs' with hs'
          subst hs'
          exact ⟨fun _ => by omega, by omega⟩
      · exact g5 j t (by omega) h2 h3 h4
/-- One place more to the right. -/
theorem IsOld.right {p : Ses → Bool} {l : List Ses} {k : Nat} {x : Ses} {i : Int} (hx : l[k]? = some x) (h : IsOld p l 0 k i)
    {j : Int} (hj : (p x = true ∧ (i < 0 ∨ ∃ s, l[i.toNat]? = some s ∧ x.used < s.used) ∧ j = (k : Int)) ∨ ((p x = false ∨ 0 ≤ i ∧ ∃ s, l[i.toNat]? = some s ∧ ¬ x.used < s.used) ∧ j = i)) : IsOld p l 0 (k + 1) j := by
  rcases hj with ⟨hp, hu, rfl⟩ | ⟨hu, rfl⟩
  · refine .inr ⟨k, x, rfl, Nat.zero_le _, by omega, hx, hp, fun j t h1 h2 h3 h4 => ?_⟩
    by_cases e : j = k
    · subst e; rw [hx] at h3; injection h3 with h3; rw [h3]; exact ⟨fun q => by omega, Int.le_refl _⟩
    · rcases h with ⟨rfl, h⟩ | ⟨m, s, rfl, g1, g2, g3, g4, g5⟩
      · rw [h j t (by omega) (by omega) h3] at h4; cases h4
      · rcases hu with hu | ⟨s', hs', hu⟩
        · omega
        · rw [Int.toNat_natCast, g3] at hs'
          injection hs' with hs'
          subst hs'
          have := (g5 j t (by omega) (by omega) h3 h4).2
          exact ⟨fun _ => by omega, by omega⟩
  · rcases h with ⟨rfl, h⟩ | ⟨m, s, rfl, g1, g2, g3, g4, g5⟩
    · rcases hu with hu | ⟨hu, -⟩
      · refine .inl ⟨rfl, fun j t h1 h2 h3 => ?_⟩
        by_cases e : j = k
        · subst e; rw [hx] at h3; injection h3 with h3; rw [← h3]; exact hu
        · exact h j t (by omega) (by omega) h3
      · omega
    · refine .inr ⟨m, s, rfl, g1, by omega, g3, g4, fun j t h1 h2 h3 h4 => ?_⟩
      by_cases e : j = k
      · subst e
        rw [hx] at h3
        injection h3 with h3
        subst h3
        rcases hu with hu | ⟨-, s', hs', hu⟩
        · rw [hu] at h4; cases h4
        · rw [Int.toNat_natCast, g3] at hs'
          injection hs' with hs'
          subst hs'
          exact ⟨fun _ => by omega, by omega⟩
      · exact g5 j t (by omega) (by omega) h3 h4
def dropS (l : List Ses) (i : Int) : List Ses := if 0 ≤ i then l.eraseIdx i.toNat else l
def putS (l : List Ses) (i : Int) (s : Ses) : List Ses := if 0 ≤ i then l.set i.toNat s else l
def closeS (l : List Ses) (n : List UInt8) : List Ses := l.filter fun s => decide (s.peer.name ≠ n)
/-- Add: the list, and the error. -/
def addS (l : List Ses) (busy : List Nat) (s : Ses) : List Ses × Int :=
  if againS l s then (l, 26) else if l.length < 24 then (l ++ [s], 0) else if oldR (freeP busy) l < 0 then (l, 27) else (dropS l (oldR (freeP busy) l) ++ [s], 0)
theorem dropS_length (l : List Ses) (i : Int) : (dropS l i).length ≤ l.length := by
  rw [dropS]
  split
  · exact List.length_eraseIdx_le ..
  · exact Nat.le_refl _
theorem addS_length (l : List Ses) (busy : List Nat) (s : Ses) : (addS l busy s).1.length ≤ l.length + 1 := by
  have := dropS_length l (oldR (freeP busy) l)
  rw [addS]
  split
  · exact Nat.le_succ _
  · split
    · simp
    · split
      · exact Nat.le_succ _
      · simp; omega
/-- What is gone through, element by element. -/
theorem dropS_step (l : List Ses) (i : Int) (k : Nat) (x : Ses) (hx : l[k]? = some x) :
    dropS (l.take (k + 1)) i = dropS (l.take k) i ++ (if (k : Int) = i then [] else [x]) := by
  have hk := (List.getElem?_eq_some_iff.1 hx).1
  have ht : l.take (k + 1) = l.take k ++ [x] := by rw [List.take_add_one, hx]; rfl
  have hl : (l.take k).length = k := by rw [List.length_take]; omega
  rw [ht, dropS, dropS]
  by_cases h0 : 0 ≤ i
  · rw [if_pos h0, if_pos h0]
    by_cases e : (k : Int) = i
    · rw [if_pos e, ← e, Int.toNat_natCast, List.eraseIdx_append_of_length_le (by omega), hl, Nat.sub_self, List.eraseIdx_of_length_le (by omega : (l.take k).length ≤ k), List.eraseIdx_cons_zero]
    · rw [if_neg e]
      rcases Nat.lt_or_ge i.toNat k with h | h
      · rw [List.eraseIdx_append_of_lt_length (by omega)]
      · rw [List.eraseIdx_append_of_length_le (by omega), hl, List.eraseIdx_of_length_le (by omega : (l.take k).length ≤ i.toNat), List.eraseIdx_of_length_le (by simp; omega)]
  · rw [if_neg h0, if_neg h0, if_neg (by omega)]
theorem closeS_step (l : List Ses) (n : List UInt8) (k : Nat) (x : Ses) (hx : l[k]? = some x) :
    closeS (l.take (k + 1)) n = closeS (l.take k) n ++ (if x.peer.name = n then [] else [x]) := by
  have ht : l.take (k + 1) = l.take k ++ [x] := by rw [List.take_add_one, hx]; rfl
  rw [ht, closeS, closeS, List.filter_append]
  by_cases e : x.peer.name = n
  · simp [e]
  · simp [e]
theorem firstS_le (p : Ses → Bool) (l : List Ses) (k : Nat) : firstS p l k < (k + l.length : Nat) ∧ -1 ≤ firstS p l k := by
  induction l generalizing k with
  | nil => rw [firstS]; constructor <;> simp <;> omega
  | cons x r ih =>
    rw [firstS]
    have := ih (k + 1)
    split
    · constructor <;> simp <;> omega
    · constructor <;> simp at * <;> omega
theorem firstS_any (p : Ses → Bool) (l : List Ses) (k : Nat) : decide (0 ≤ firstS p l k) = l.any p := by
  induction l generalizing k with
  | nil => simp [firstS]
  | cons x r ih =>
    rw [firstS, List.any_cons]
    cases hp : p x with
    | true => rw [if_pos rfl, Bool.true_or, decide_eq_true_eq]; omega
    | false => rw [if_neg (by simp), Bool.false_or, ih]
theorem lastS_snoc (p : Ses → Bool) (a : List Ses) (x : Ses) (k : Nat) (b : Int) : lastS p (a ++ [x]) k b = if p x then ((k + a.length : Nat) : Int) else lastS p a k b := by
  induction a generalizing k b with
  | nil => simp [lastS]
  | cons y r ih => rw [List.cons_append, lastS, ih, lastS]; simp only [List.length_cons]; rw [show k + 1 + r.length = k + (r.length + 1) by omega]
end Go.Proofs.Ytjohlnpalcmhbaa
