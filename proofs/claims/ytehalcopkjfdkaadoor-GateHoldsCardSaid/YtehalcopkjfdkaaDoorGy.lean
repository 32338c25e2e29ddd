/- A block of SHA-256 that is known, reckoned step by step. It speaks of no program. -/
import Derived.Test.YtehalcopkjfdkaaDoorGi
namespace Go.Proofs.YtehalcopkjfdkaaDoor
set_option maxRecDepth 100000

/-- A block's words and states, step by step. -/
def certOK (s : List UInt32) (l : List UInt8) (W : List UInt32) (S : List (List UInt32)) : Bool :=
  words16 l == W.take 16 && W.length == 64 && (List.range 48).all (fun n => nextW (W.take (16 + n)) == W.getD (16 + n) 0) && S.getD 0 [] == s && (List.range 64).all (fun t => rnd (kt.getD t 0) (W.getD t 0) (S.getD t []) == S.getD (t + 1) [])
theorem cert_block (s : List UInt32) (l : List UInt8) (W : List UInt32) (S : List (List UInt32)) (h : certOK s l W S = true) : blockS s l = addW s (S.getD 64 []) := by
  simp only [certOK, Bool.and_eq_true, beq_iff_eq] at h
  obtain ⟨⟨⟨⟨h1, h2⟩, h3⟩, h4⟩, h5⟩ := h
  have hw : ∀ n, n ≤ 48 → schedN (words16 l) n = W.take (16 + n) := by
    intro n
    induction n with
    | zero => intro _; exact h1
    | succ n ih =>
      intro hn
      have q := List.all_eq_true.1 h3 n (by simp; omega)
      simp only [beq_iff_eq] at q
      have hl : 16 + n < W.length := by omega
      rw [schedN, ih (by omega), q, ← Nat.add_assoc, List.take_succ_eq_append_getElem hl]
      simp [List.getD, List.getElem?_eq_getElem hl]
  have hW : wordsOf l = W := (hw 48 (Nat.le_refl _)).trans (List.take_of_length_le (by omega))
  have hs : ∀ t, t ≤ 64 → rounds W s t = S.getD t [] := by
    intro t
    induction t with
    | zero => intro _; exact h4.symm
    | succ t ih =>
      intro ht
      have q := List.all_eq_true.1 h5 t (by simp; omega)
      simp only [beq_iff_eq] at q
      rw [rounds, ih (by omega), q]
  rw [blockS, hW, hs 64 (Nat.le_refl _)]
end Go.Proofs.YtehalcopkjfdkaaDoor
