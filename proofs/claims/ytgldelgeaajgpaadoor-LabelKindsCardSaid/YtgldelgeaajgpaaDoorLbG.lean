/- What the document's ReadNumber of layer 10 answers, of any text; what is written is read back. -/
import Derived.Test.YtgldelgeaajgpaaDoorLbF
namespace Go.Proofs.YtgldelgeaajgpaaDoor
open Go.RowKit

theorem refReadNumber_nil (w : World) :
    Calls Tryd.prog 26 #[.string ⟨([] : List UInt8).toArray⟩] w fun e w' => e = .returned (.tuple #[.int .i64 (rnA []), .bool (rnB [])]) ∧ w = w' := by
  have HN : Hid (rnB [] = false) := Lib.hid rfl
  go_enter Tryd.func26, Tryd.ntmps26
  go_wp2
  go_ret2
  exact ⟨by rw [HN.out, rn_not [] HN.out]; rfl, rfl⟩

theorem refReadNumber_any (l : List UInt8) (hl : l.length ≤ 100000) (w : World) :
    Calls Tryd.prog 26 #[.string ⟨l.toArray⟩] w fun e w' => e = .returned (.tuple #[.int .i64 (rnA l), .bool (rnB l)]) ∧ w = w' := by
  match l, hl with
  | [], _ => exact refReadNumber_nil w
  | c0 :: l, hl =>
    by_cases hc : c0 = 45
    · exact refReadNumber_neg (c0 :: l) hl c0 rfl hc w
    · exact refReadNumber_pos (c0 :: l) hl c0 rfl hc w

theorem allDec_append (a b : List UInt8) : allDec (a ++ b) = (allDec a && allDec b) := by simp [allDec]
theorem hexC_dec (d : Nat) (h : d < 10) : digN (hexC d) = d ∧ hexC d ≠ 45 ∧ (d ≠ 0 → hexC d ≠ 48) := by
  have : ∀ d : Fin 10, digN (hexC d.val) = d.val ∧ hexC d.val ≠ 45 ∧ (d.val ≠ 0 → hexC d.val ≠ 48) := by decide
  exact this ⟨d, h⟩
theorem decL_facts (m : Nat) : ∀ n : Nat, n ≤ m → allDec (decL n) = true ∧ decV (decL n) = n ∧ (∃ d r, decL n = hexC d :: r ∧ d < 10 ∧ (n ≠ 0 → d ≠ 0)) ∧ (1 < (decL n).length → n ≠ 0) := by
  induction m with
  | zero =>
    intro n hn
    obtain rfl : n = 0 := by omega
    rw [decL_lt 0 (by decide)]
    exact ⟨by decide, by decide, ⟨0, [], rfl, by decide, by decide⟩, by decide⟩
  | succ m ih =>
    intro n hn
    by_cases h : n < 10
    · rw [decL_lt n h]
      have hd := hexC_dec n h
      refine ⟨?_, ?_, ⟨n, [], rfl, h, id⟩, fun h => absurd h (by simp)⟩
      · simp [allDec, hd.1, h]
      · simp [decV, hd.1]
    · rw [decL_ge n h]
      obtain ⟨h1, h2, ⟨d, r, h3, h4, h5⟩, h6⟩ := ih (n / 10) (by omega)
      have hd := hexC_dec (n % 10) (by omega)
      refine ⟨?_, ?_, ⟨d, r ++ [hexC (n % 10)], by rw [h3]; rfl, h4, fun _ => h5 (by omega)⟩, fun _ => by omega⟩
      · rw [allDec_append, h1]
        simp [allDec, hd.1]
        omega
      · rw [decV_snoc, h2, hd.1]
        omega
/-- What Number wrote, ReadNumber reads: of a number from -2^30 to 2^30, and of no other one. -/
theorem read_num (k : Int) : rnB (numL k) = decide (-1073741824 ≤ k ∧ k ≤ 1073741824) ∧ rnA (numL k) = if -1073741824 ≤ k ∧ k ≤ 1073741824 then k else 0 := by
  obtain ⟨n, hn⟩ : ∃ n, n = k.natAbs := ⟨_, rfl⟩
  obtain ⟨h1, h2, ⟨d, r, h3, h4, h5⟩, h6⟩ := decL_facts n n (Nat.le_refl _)
  have hd := hexC_dec d h4
  have hneg : isNeg (numL k) = decide (k < 0) := by
    rw [isNeg, numL]
    by_cases h : k < 0
    · rw [if_pos h, decide_eq_true h]
      rfl
    · rw [if_neg h, decide_eq_false h, show k.toNat = n by omega, h3]
      simpa using hd.2.1
  have hdig : digitsL (numL k) = decL n := by
    rw [digitsL, hneg]
    by_cases h : k < 0
    · rw [decide_eq_true h, if_pos rfl, numL, if_pos h, hn]
      rfl
    · rw [decide_eq_false h, if_neg (by decide), numL, if_neg h, show k.toNat = n by omega]
  have hb : rnB (numL k) = decide (-1073741824 ≤ k ∧ k ≤ 1073741824) := by
    rw [rnB, hneg, hdig]
    by_cases h : n ≤ 1073741824
    · rw [decide_eq_true (show -1073741824 ≤ k ∧ k ≤ 1073741824 by omega)]
      rw [rnT_of _ _ true false false (by rw [h3]; simp) (decL_length n 10 (by omega) (by decide)) h1 (by rw [h2]; exact decide_eq_true h) ?_ ?_]
      · rfl
      · by_cases hl : 1 < (decL n).length
        · have h0 := h6 hl
          rw [head_is _ (hexC d) (by rw [h3]; rfl), decide_eq_false (hd.2.2 (h5 h0))]
          simp
        · rw [decide_eq_false hl]
          rfl
      · rw [h2]
        by_cases hk : k < 0
        · have : (n == 0) = false := by rw [beq_eq_false_iff_ne]; omega
          rw [this]
          simp
        · rw [decide_eq_false hk]
          rfl
    · rw [decide_eq_false (show ¬ (-1073741824 ≤ k ∧ k ≤ 1073741824) by omega), rnT, h2, decide_eq_false h]
      simp
  refine ⟨hb, ?_⟩
  rw [rnA, hb]
  by_cases h : -1073741824 ≤ k ∧ k ≤ 1073741824
  · rw [decide_eq_true h, if_pos rfl, if_pos h, hneg, hdig, h2]
    by_cases hk : k < 0
    · rw [decide_eq_true hk, if_pos rfl]
      omega
    · rw [decide_eq_false hk, if_neg (by decide)]
      omega
  · rw [decide_eq_false h, if_neg h]
    rfl
end Go.Proofs.YtgldelgeaajgpaaDoor
