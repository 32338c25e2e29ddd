/- Layer 23: what is there behind one was added: plain functions. -/
import Derived.Test.YtjohlnpalcmhbaaTbM
namespace Go.Proofs.Ytjohlnpalcmhbaa
set_option maxRecDepth 100000
open Go.RowKit

/-- j of them were looked for, one behind the other, in what stays; a were found: at most one, that may go, was not. -/
def Kp (l K : List Ses) (f : Ses → Bool) (j a : Nat) : Prop :=
  (K = l ∧ a = j) ∨ ∃ d y, l[d]? = some y ∧ f y = true ∧ K = l.eraseIdx d ∧ ((a = j ∧ (j ≤ d ∨ l[j]? = some y)) ∨ (a + 1 = j ∧ d < j))
theorem Kp.le {l K : List Ses} {f : Ses → Bool} {j a : Nat} (h : Kp l K f j a) : a ≤ j := by
  rcases h with ⟨-, h⟩ | ⟨d, y, -, -, -, ⟨h, -⟩ | ⟨h, -⟩⟩ <;> omega
theorem Kp.hit {l K : List Ses} {f : Ses → Bool} {j a : Nat} {x : Ses} (h : Kp l K f j a) (hx : l[j]? = some x) (hy : K[a]? = some x) : Kp l K f (j + 1) (a + 1) := by
  rcases h with ⟨rfl, rfl⟩ | ⟨d, y, h1, h2, rfl, ⟨rfl, h⟩ | ⟨h, h3⟩⟩
  · exact .inl ⟨rfl, rfl⟩
  · refine .inr ⟨d, y, h1, h2, rfl, .inl ⟨rfl, ?_⟩⟩
    rw [List.getElem?_eraseIdx] at hy
    by_cases q : a < d
    · exact .inl q
    · rw [if_neg q] at hy
      refine .inr ?_
      rw [hy]
      rcases h with h | h
      · have e : a = d := by omega
        rw [e, h1] at hx
        exact hx.symm
      · rw [hx] at h
        exact h
  · exact .inr ⟨d, y, h1, h2, rfl, .inr ⟨by omega, by omega⟩⟩
theorem Kp.miss {l K : List Ses} {f : Ses → Bool} {j a : Nat} {x : Ses} (h : Kp l K f j a) (hx : l[j]? = some x) (hy : K[a]? ≠ some x) : f x = true ∧ Kp l K f (j + 1) a := by
  rcases h with ⟨rfl, rfl⟩ | ⟨d, y, h1, h2, rfl, ⟨rfl, h⟩ | ⟨h, h3⟩⟩
  · exact absurd hx hy
  · rw [List.getElem?_eraseIdx] at hy
    have q : ¬ a < d := fun q => by rw [if_pos q] at hy; exact hy hx
    have e : l[a]? = some y := by
      rcases h with h | h
      · rw [show a = d by omega]; exact h1
      · exact h
    rw [hx] at e
    injection e with e
    subst e
    exact ⟨h2, .inr ⟨d, x, h1, h2, rfl, .inr ⟨rfl, by omega⟩⟩⟩
  · rw [List.getElem?_eraseIdx, if_neg (by omega), h] at hy
    exact absurd hx hy
theorem Kp.fin {l K : List Ses} {f : Ses → Bool} {a : Nat} (h : Kp l K f l.length a) : a = K.length ∧ l.length ≤ a + 1 := by
  rcases h with ⟨rfl, rfl⟩ | ⟨d, y, h1, h2, rfl, ⟨rfl, h⟩ | ⟨h, h3⟩⟩
  · exact ⟨rfl, by omega⟩
  · have hd := (List.getElem?_eq_some_iff.1 h1).1
    rcases h with h | h
    · omega
    · have := (List.getElem?_eq_some_iff.1 h).1; omega
  · have hd := (List.getElem?_eq_some_iff.1 h1).1
    rw [List.length_eraseIdx_of_lt hd]
    omega
theorem addS_no {l : List Ses} {busy : List Nat} {s : Ses} (h : (addS l busy s).2 ≠ 0) : (addS l busy s).1 = l := by
  rw [addS] at *
  split
  · rfl
  · split
    · simp_all
    · split
      · rfl
      · simp_all
theorem addS_ok {l : List Ses} {busy : List Nat} {s : Ses} (h : (addS l busy s).2 = 0) : ∃ K, (addS l busy s).1 = K ++ [s] ∧ Kp l K (freeP busy) 0 0 ∧ (K.length + 1 ≤ l.length ∨ K.length + 1 ≤ 24) := by
  rw [addS] at *
  split
  · simp_all
  · split
    · exact ⟨l, rfl, .inl ⟨rfl, rfl⟩, .inr (by omega)⟩
    · split
      · simp_all
      · rename_i hj
        rcases oldR_is (freeP busy) l with ⟨e, -⟩ | ⟨k, y, e, -, h2, h3, h4, -⟩
        · omega
        · rw [e]
          refine ⟨l.eraseIdx k, by rw [dropS, if_pos (by omega), Int.toNat_natCast], .inr ⟨k, y, h3, h4, rfl, .inl ⟨rfl, .inl (Nat.zero_le _)⟩⟩, .inl ?_⟩
          rw [List.length_eraseIdx_of_lt h2]
          omega
end Go.Proofs.Ytjohlnpalcmhbaa
