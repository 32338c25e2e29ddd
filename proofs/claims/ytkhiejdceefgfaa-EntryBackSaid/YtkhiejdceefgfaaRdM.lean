/- Plain mathematics of readers: what was put is read, and what was read was put. -/
import Derived.Test.YtkhiejdceefgfaaRdS
import Derived.Test.YtkhiejdceefgfaaPkT
namespace Go.Proofs.Ytkhiejdceefgfaa
open Go.RowKit

theorem ofBe_from (l : List UInt8) : ∀ n : Nat, l.foldl (fun n c => n * 256 + c.toNat) n = n * 256 ^ l.length + ofBe l := by
  induction l with
  | nil => intro n; simp [ofBe]
  | cons c l ih =>
    intro n
    simp only [ofBe, List.foldl_cons, List.length_cons]
    rw [ih, ih (0 * 256 + c.toNat), Nat.pow_succ]
    have e1 : (n * 256 + c.toNat) * 256 ^ l.length = n * (256 ^ l.length * 256) + c.toNat * 256 ^ l.length := by
      rw [Nat.add_mul, Nat.mul_assoc, Nat.mul_comm 256]
    rw [e1]
    have e2 : (0 * 256 + c.toNat) * 256 ^ l.length = c.toNat * 256 ^ l.length := by rw [Nat.zero_mul, Nat.zero_add]
    rw [e2]
    omega
theorem ofBe_cons (c : UInt8) (l : List UInt8) : ofBe (c :: l) = c.toNat * 256 ^ l.length + ofBe l := by
  show (c :: l).foldl (fun n c => n * 256 + c.toNat) 0 = _
  rw [List.foldl_cons, ofBe_from, Nat.zero_mul, Nat.zero_add]
theorem ofBe_be (k x : Nat) : ofBe (be k x) = x % 256 ^ k := by
  induction k with
  | zero => simp [be, beTo, ofBe, Nat.mod_one]
  | succ k ih =>
    rw [be_succ, ofBe_cons, ih, be_length]
    have h : (UInt8.ofNat (x / 256 ^ k % 256)).toNat = x / 256 ^ k % 256 := by
      simp only [UInt8.toNat_ofNat']; omega
    rw [h, Nat.pow_succ, Nat.mod_mul, Nat.mul_comm (x / 256 ^ k % 256), Nat.add_comm]
theorem ofBe_inj (a b : List UInt8) (hl : a.length = b.length) (h : ofBe a = ofBe b) : a = b := by
  induction a generalizing b with
  | nil => exact (List.length_eq_zero_iff.1 hl.symm).symm
  | cons c a ih =>
    cases b with
    | nil => simp at hl
    | cons d b =>
      simp only [List.length_cons, Nat.add_right_cancel_iff] at hl
      rw [ofBe_cons, ofBe_cons, hl] at h
      have ha := ofBe_lt a
      rw [hl] at ha
      have hb := ofBe_lt b
      have hd : c.toNat = d.toNat := by
        have h1 : (c.toNat * 256 ^ b.length + ofBe a) / 256 ^ b.length = c.toNat := by
          rw [Nat.mul_comm, Nat.mul_add_div (Nat.pow_pos (by decide)), Nat.div_eq_of_lt ha, Nat.add_zero]
        have h2 : (d.toNat * 256 ^ b.length + ofBe b) / 256 ^ b.length = d.toNat := by
          rw [Nat.mul_comm, Nat.mul_add_div (Nat.pow_pos (by decide)), Nat.div_eq_of_lt hb, Nat.add_zero]
        rw [← h1, ← h2, h]
      have hcd : c = d := UInt8.toNat_inj.1 hd
      subst hcd
      rw [ih b hl (by omega)]
theorem be_ofBe (l : List UInt8) : be l.length (ofBe l) = l :=
  ofBe_inj _ _ (be_length _ _) (by rw [ofBe_be, Nat.mod_eq_of_lt (ofBe_lt l)])

/-- What was put is read. -/
theorem raw_put (t r : List UInt8) (n : Nat) (hn : n = t.length) : rawO ⟨t ++ r, 0⟩ n = t ∧ rawS ⟨t ++ r, 0⟩ n = ⟨r, 0⟩ := by
  subst hn
  rw [rawO_some rfl (by simp), rawS_some rfl (by simp)]
  simp
theorem num_put (k x : Nat) (r : List UInt8) (hx : x < 256 ^ k) : numO ⟨be k x ++ r, 0⟩ k = x ∧ rawS ⟨be k x ++ r, 0⟩ k = ⟨r, 0⟩ := by
  obtain ⟨h1, h2⟩ := raw_put (be k x) r k (be_length k x).symm
  exact ⟨by rw [numO, h1, ofBe_be, Nat.mod_eq_of_lt hx], h2⟩
theorem text_put (n r : List UInt8) (most : Nat) (hn : n.length ≤ most) (h16 : n.length ≤ 65535) : textO ⟨encS ⟨n.toArray⟩ ++ r, 0⟩ most = n ∧ textS ⟨encS ⟨n.toArray⟩ ++ r, 0⟩ most = ⟨r, 0⟩ := by
  have e : encS ⟨n.toArray⟩ ++ r = be 2 n.length ++ (n ++ r) := by
    show be 2 n.length ++ n.toArray.toList ++ r = _
    simp
  rw [e]
  obtain ⟨h1, h2⟩ := num_put 2 n.length (n ++ r) (by omega)
  obtain ⟨h3, h4⟩ := raw_put n r n.length rfl
  have hm : ¬ most < n.length := by omega
  constructor
  · rw [textO, h2, if_neg (by simp), h1, if_neg hm, h3]
  · rw [textS, h2, if_neg (by simp), h1, if_neg hm, h4]
/-- What was read was put. -/
theorem raw_back {s : RS} {n : Nat} (h : (rawS s n).e = 0) : s.e = 0 ∧ (rawO s n).length = n ∧ s.l = rawO s n ++ (rawS s n).l := by
  by_cases h0 : s.e = 0
  · by_cases hn : n ≤ s.l.length
    · rw [rawO_some h0 hn, rawS_some h0 hn]
      exact ⟨h0, by rw [List.length_take]; omega, (List.take_append_drop n s.l).symm⟩
    · rw [rawS_short h0 (by omega)] at h
      exact absurd h (by decide)
  · rw [rawS_met h0] at h
    exact absurd h h0
theorem num_back {s : RS} {n : Nat} (h : (rawS s n).e = 0) : s.e = 0 ∧ numO s n < 256 ^ n ∧ s.l = be n (numO s n) ++ (rawS s n).l := by
  obtain ⟨h1, h2, h3⟩ := raw_back h
  have e := be_ofBe (rawO s n)
  rw [h2] at e
  exact ⟨h1, numO_lt s n, by rw [numO, e]; exact h3⟩
theorem text_back {s : RS} {most : Nat} (h : (textS s most).e = 0) : s.e = 0 ∧ (textO s most).length ≤ most ∧ (textO s most).length ≤ 65535 ∧ s.l = encS ⟨(textO s most).toArray⟩ ++ (textS s most).l := by
  by_cases h0 : (rawS s 2).e = 0
  · obtain ⟨h1, h2, h3⟩ := num_back h0
    by_cases hm : most < numO s 2
    · rw [textS, if_neg (by simp [h0]), if_pos hm] at h
      exact absurd h (by decide)
    · have e1 : textO s most = rawO (rawS s 2) (numO s 2) := by rw [textO, if_neg (by simp [h0]), if_neg hm]
      have e2 : textS s most = rawS (rawS s 2) (numO s 2) := by rw [textS, if_neg (by simp [h0]), if_neg hm]
      rw [e2] at h
      obtain ⟨h4, h5, h6⟩ := raw_back h
      rw [e1, e2, h5]
      refine ⟨h1, by omega, numO_u16 s, ?_⟩
      rw [h3, h6]
      show _ = be 2 (rawO (rawS s 2) (numO s 2)).length ++ (rawO (rawS s 2) (numO s 2)).toArray.toList ++ _
      rw [h5]
      simp
  · rw [textS, if_pos h0] at h
    exact absurd h h0
theorem end_back {s : RS} (h : endE s = 0) : s.e = 0 ∧ s.l = [] := by
  by_cases h0 : s.e = 0
  · by_cases hl : s.l = []
    · exact ⟨h0, hl⟩
    · rw [endE, if_neg (by simp [h0]), if_neg hl] at h
      exact absurd h (by decide)
  · rw [endE, if_pos h0] at h
    exact absurd h h0
end Go.Proofs.Ytkhiejdceefgfaa
