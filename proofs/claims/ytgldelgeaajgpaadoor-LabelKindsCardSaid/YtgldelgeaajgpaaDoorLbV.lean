/- What strconv's Itoa and Atoi tell, in package label's words: numbers as digits, and back. It speaks of no program. -/
import Derived.Test.YtgldelgeaajgpaaDoorLbG
import Derived.Lib.AtoiAllCases
import Derived.Lib.ItoaNum
namespace Go.Proofs.YtgldelgeaajgpaaDoor

theorem hexC_num (d : Nat) (h : d < 10) : UInt8.ofNat (48 + d) = hexC d := by
  have : ∀ d : Fin 10, UInt8.ofNat (48 + d.val) = hexC d.val := by decide
  exact this ⟨d, h⟩
theorem decDigits_is (m : Nat) : ∀ n : Nat, n ≤ m → Lib.decDigits n = decL n := by
  induction m with
  | zero =>
    intro n hn
    obtain rfl : n = 0 := by omega
    rw [Lib.decDigits, dif_pos (by decide), decL_lt 0 (by decide), hexC_num 0 (by decide)]
  | succ m ih =>
    intro n hn
    by_cases h : n < 10
    · rw [Lib.decDigits, dif_pos h, decL_lt n h, hexC_num n h]
    · rw [Lib.decDigits, dif_neg h, decL_ge n h, hexC_num _ (Nat.mod_lt _ (by decide)), ih _ (by omega)]
theorem itoa_is (k : Int) : Lib.itoa k = numL k := by
  rw [Lib.itoa, numL, decDigits_is _ _ (Nat.le_refl _), decDigits_is _ _ (Nat.le_refl _)]

theorem dec_byte (c : UInt8) (h : digN c < 10) : 48 ≤ c.toNat ∧ c.toNat ≤ 57 ∧ c.toNat - 48 = digN c := by
  have e := hexC_digN c (by omega)
  have : ∀ d : Fin 10, 48 ≤ (hexC d.val).toNat ∧ (hexC d.val).toNat ≤ 57 ∧ (hexC d.val).toNat - 48 = d.val := by decide
  have := this ⟨digN c, h⟩
  simp only [e] at this
  exact this
theorem parse_dec (l : List UInt8) : ∀ (acc k : Nat), acc < 10 ^ k → l.length + k ≤ 18 → allDec l = true → Lib.parseUint10 acc l = .ok (l.foldl (fun n c => n * 10 + digN c) acc) := by
  induction l with
  | nil => intro acc k _ _ _; rfl
  | cons c r ih =>
    intro acc k ha hl hd
    have hl' : r.length + 1 + k ≤ 18 := by simpa using hl
    have hp : 10 ^ k ≤ 10 ^ 17 := Nat.pow_le_pow_right (by decide) (by omega)
    have e17 : (10 : Nat) ^ 17 = 100000000000000000 := by decide
    simp only [allDec, List.all_cons, Bool.and_eq_true, decide_eq_true_eq] at hd
    obtain ⟨h1, h2, h3⟩ := dec_byte c hd.1
    rw [Lib.parseUint10, if_pos ⟨h1, h2⟩, if_neg (by omega), if_neg (by omega), h3, List.foldl_cons]
    exact ih _ (k + 1) (by rw [Nat.pow_succ]; omega) (by omega) hd.2
theorem mag_dec (t : List UInt8) (h0 : 1 ≤ t.length) (h1 : t.length ≤ 10) (hd : allDec t = true) : Lib.parseMag t = .ok (decV t) := by
  rw [Lib.parseMag, if_neg (by intro e; rw [e] at h0; simp at h0), parse_dec t 0 0 (by decide) (by omega) hd]
  rfl
theorem snoc_cases {α : Type} (t : List α) (h : t ≠ []) : ∃ t' c, t = t' ++ [c] := ⟨t.dropLast, t.getLast h, (List.dropLast_concat_getLast h).symm⟩
/-- Digits without a needless 0 are their number's. -/
theorem dec_back (m : Nat) : ∀ t : List UInt8, t.length = m → t ≠ [] → allDec t = true → (1 < t.length → t.head? ≠ some 48) → decL (decV t) = t ∧ (t.head? ≠ some 48 → 0 < decV t) := by
  induction m with
  | zero => intro t hm h; exact absurd (List.eq_nil_of_length_eq_zero hm) h
  | succ m ih =>
    intro t hm h hd hz
    obtain ⟨t', c, rfl⟩ := snoc_cases t h
    rw [allDec_append, Bool.and_eq_true] at hd
    have hc : digN c < 10 := by simpa [allDec] using hd.2
    have hx := hexC_digN c (by omega)
    rw [decV_snoc]
    by_cases h0 : t' = []
    · subst h0
      have e : decV [] * 10 + digN c = digN c := by simp [decV]
      rw [e, decL_lt _ hc, hx]
      refine ⟨rfl, fun hh => ?_⟩
      rcases Nat.eq_zero_or_pos (digN c) with hz0 | hp
      · rw [hz0] at hx
        exact absurd (by rw [← hx]; rfl) hh
      · exact hp
    · have hl : t'.length = m := by simpa using hm
      have hpos : 0 < t'.length := List.length_pos_iff.2 h0
      have hh : (t' ++ [c]).head? = t'.head? := by
        cases t' with
        | nil => exact absurd rfl h0
        | cons a b => rfl
      have h48 : t'.head? ≠ some 48 := by rw [← hh]; exact hz (by simp; omega)
      obtain ⟨i1, i2⟩ := ih t' hl h0 hd.1 fun _ => h48
      have := i2 h48
      refine ⟨?_, fun _ => by omega⟩
      rw [decL_ge _ (by omega), show (decV t' * 10 + digN c) / 10 = decV t' by omega, show (decV t' * 10 + digN c) % 10 = digN c by omega, i1, hx]
/-- What ReadNumber reads, Atoi reads, and Itoa writes. -/
theorem rn_atoi (l : List UInt8) (h : rnB l = true) : Lib.atoiAll l = .ok (rnA l) ∧ -1073741824 ≤ rnA l ∧ rnA l ≤ 1073741824 ∧ l = numL (rnA l) := by
  have hA : rnA l = if isNeg l = true then -(decV (digitsL l) : Int) else (decV (digitsL l) : Int) := by rw [rnA, if_pos h]
  rw [hA]
  clear hA
  rw [rnB, rnT] at h
  simp only [Bool.and_eq_true, decide_eq_true_eq, Bool.not_eq_true'] at h
  obtain ⟨⟨⟨⟨⟨h1, h2⟩, h3⟩, h4⟩, h5⟩, h6⟩ := h
  have hne : digitsL l ≠ [] := by intro e; rw [e] at h1; simp at h1
  have hm := mag_dec _ h1 h2 h3
  obtain ⟨hb, -⟩ := dec_back _ (digitsL l) rfl hne h3 fun hl e => by
    rw [decide_eq_true hl, e] at h5
    exact absurd h5 (by decide)
  by_cases hn : isNeg l = true
  · rw [if_pos hn]
    rw [hn] at h6
    have hd : digitsL l = l.drop 1 := by rw [digitsL, if_pos hn]
    have hl : l = 45 :: digitsL l := by
      rw [hd]
      cases l with
      | nil => simp [isNeg] at hn
      | cons a b =>
        have : a = 45 := by simpa [isNeg] using hn
        rw [this]
        rfl
    have hv : decV (digitsL l) ≠ 0 := by
      intro e
      rw [e] at h6
      exact absurd h6 (by decide)
    generalize digitsL l = t at *
    refine ⟨?_, by omega, by omega, ?_⟩
    · rw [hl, Lib.atoiAll_minus, hm, Lib.signed, if_neg (by omega)]
    · rw [numL, if_pos (by omega), show (-(decV t : Int)).natAbs = decV t by omega, hb]
      exact hl
  · have hd : digitsL l = l := by rw [digitsL, if_neg hn]
    rw [if_neg hn]
    rw [hd] at h1 h3 h4 hm hb ⊢
    refine ⟨?_, by omega, by omega, ?_⟩
    · cases l with
      | nil => simp at h1
      | cons c r =>
        simp only [allDec, List.all_cons, Bool.and_eq_true, decide_eq_true_eq] at h3
        obtain ⟨g1, g2, g3⟩ := dec_byte c h3.1
        rw [Lib.atoiAll_plain c r (by omega) (by omega), hm, Lib.signless, if_neg (by omega)]
    · rw [numL, if_neg (by omega), show ((decV l : Int)).toNat = decV l by omega, hb]
/-- ReadNumber's answers, by Atoi's: it reads none. -/
theorem rn_none (l : List UInt8) (h : ∀ v, Lib.atoiAll l ≠ .ok v) : rnB l = false ∧ rnA l = 0 := by
  have hb : rnB l = false := by
    cases e : rnB l with
    | false => rfl
    | true => exact absurd (rn_atoi l e).1 (h _)
  exact ⟨hb, rn_not l hb⟩
/-- It reads one, but one that is not so written, or too great. -/
theorem rn_other (l : List UInt8) (v : Int) (h : Lib.atoiAll l = .ok v) (hv : v < -1073741824 ∨ 1073741824 < v ∨ l ≠ numL v) : rnB l = false ∧ rnA l = 0 := by
  have hb : rnB l = false := by
    cases e : rnB l with
    | false => rfl
    | true =>
      obtain ⟨g1, g2, g3, g4⟩ := rn_atoi l e
      rw [h] at g1
      injection g1 with g1
      subst g1
      rcases hv with hv | hv | hv
      · omega
      · omega
      · exact absurd g4 hv
  exact ⟨hb, rn_not l hb⟩
theorem rn_this (v : Int) (h1 : -1073741824 ≤ v) (h2 : v ≤ 1073741824) : rnB (numL v) = true ∧ rnA (numL v) = v := by
  obtain ⟨a, b⟩ := read_num v
  rw [decide_eq_true ⟨h1, h2⟩] at a
  rw [if_pos ⟨h1, h2⟩] at b
  exact ⟨a, b⟩
end Go.Proofs.YtgldelgeaajgpaaDoor
