/- Plain mathematics of package cipher, as the package goes about it: bytes laid into words, a block's bytes one by one, how far a message has been changed. -/
import Derived.Test.YthphneiecihkiaaCiM
import Derived.Test.YthphneiecihkiaaEqM
namespace Go.Proofs.Ythphneiecihkiaa

/-- So many bytes laid into words, from a place on. -/
def layTo (l : List UInt32) (p : Nat) (b : List UInt8) : Nat → List UInt32
  | 0 => l
  | k + 1 => (layTo l p b k).set (p + k / 4) ((layTo l p b k).getD (p + k / 4) 0 ||| (b.getD k 0).toUInt32 <<< UInt32.ofNat (8 * (k % 4)))
theorem layTo_length (l : List UInt32) (p : Nat) (b : List UInt8) (k : Nat) : (layTo l p b k).length = l.length := by
  induction k with
  | zero => rfl
  | succ k ih => rw [layTo, List.length_set, ih]
theorem getD_set_self (m : List UInt32) (i : Nat) (y : UInt32) (h : i < m.length) : (m.set i y).getD i 0 = y := by simp [List.getD, h]
theorem lword_get (b : List UInt8) (t : Nat) : lword ((b.drop t).take 4) = (b.getD t 0).toUInt32 ||| (b.getD (t + 1) 0).toUInt32 <<< 8 ||| (b.getD (t + 2) 0).toUInt32 <<< 16 ||| (b.getD (t + 3) 0).toUInt32 <<< 24 := by
  simp [lword, List.getD, List.getElem?_drop]
theorem layTo_four (l : List UInt32) (p : Nat) (b : List UInt8) (n : Nat) (hp : p + n < l.length) :
    layTo l p b (4 * n + 4) = (layTo l p b (4 * n)).set (p + n) ((layTo l p b (4 * n)).getD (p + n) 0 ||| lword ((b.drop (4 * n)).take 4)) := by
  have d0 : (4 * n) / 4 = n := by omega
  have d1 : (4 * n + 1) / 4 = n := by omega
  have d2 : (4 * n + 2) / 4 = n := by omega
  have d3 : (4 * n + 3) / 4 = n := by omega
  have m0 : (4 * n) % 4 = 0 := by omega
  have m1 : (4 * n + 1) % 4 = 1 := by omega
  have m2 : (4 * n + 2) % 4 = 2 := by omega
  have m3 : (4 * n + 3) % 4 = 3 := by omega
  have hm : p + n < (layTo l p b (4 * n)).length := by rw [layTo_length]; exact hp
  show layTo l p b (4 * n + 3 + 1) = _
  rw [layTo]
  show List.set (layTo l p b (4 * n + 2 + 1)) _ _ = _
  rw [layTo]
  show List.set (List.set (layTo l p b (4 * n + 1 + 1)) _ _) _ _ = _
  rw [layTo]
  show List.set (List.set (List.set (layTo l p b (4 * n + 0 + 1)) _ _) _ _) _ _ = _
  rw [layTo, lword_get]
  simp only [d0, d1, d2, d3, m0, m1, m2, m3]
  generalize layTo l p b (4 * n) = m at *
  rw [getD_set_self _ _ _ (by simpa using hm), getD_set_self _ _ _ (by simpa using hm), getD_set_self _ _ _ (by simpa using hm), List.set_set, List.set_set, List.set_set]
  congr 1
  simp [UInt32.or_assoc]
theorem layTo_words (l : List UInt32) (p : Nat) (b : List UInt8) (n : Nat) (hn : p + n ≤ l.length) (hz : ∀ i, i < n → l[p + i]? = some 0) : layTo l p b (4 * n) = l.take p ++ lwords b n ++ l.drop (p + n) := by
  induction n with
  | zero => simp [layTo, lwords]
  | succ n ih =>
    have h0 := hz n (by omega)
    have hd : l.drop (p + n) = 0 :: l.drop (p + n + 1) := drop_at h0
    have hl : (l.take p ++ lwords b n).length = p + n := by simp [lwords_length]; omega
    show layTo l p b (4 * n + 4) = _
    rw [layTo_four l p b n (by omega), ih (by omega) (fun i hi => hz i (by omega)), hd]
    have g0 : (l.take p ++ lwords b n ++ 0 :: l.drop (p + n + 1)).getD (p + n) 0 = 0 := by
      rw [List.getD, List.getElem?_append_right (by omega), hl]
      simp
    rw [g0, List.set_append_right _ _ (by omega), hl, Nat.sub_self, lwords_next, UInt32.zero_or]
    simp [Nat.add_assoc]
/-- The words before any byte is laid. -/
def words0 (c : UInt32) : List UInt32 := [1634760805, 857760878, 2036477234, 1797285236, 0, 0, 0, 0, 0, 0, 0, 0, c, 0, 0, 0]
theorem words0_length (c : UInt32) : (words0 c).length = 16 := rfl
theorem laid_words (key nonce : List UInt8) (c : UInt32) : layTo (layTo (words0 c) 4 key 32) 13 nonce 12 = words16C key nonce c := by
  have e1 : layTo (words0 c) 4 key 32 = sigma ++ lwords key 8 ++ [c, 0, 0, 0] := by
    rw [show 32 = 4 * 8 by rfl, layTo_words _ _ _ 8 (by simp [words0]) (by
      intro i hi
      match i, hi with
      | 0, _ => rfl
      | 1, _ => rfl
      | 2, _ => rfl
      | 3, _ => rfl
      | 4, _ => rfl
      | 5, _ => rfl
      | 6, _ => rfl
      | 7, _ => rfl)]
    rfl
  rw [e1, show 12 = 4 * 3 by rfl, layTo_words _ _ _ 3 (by simp [sigma, lwords_length]) (by
    intro i hi
    match i, hi with
    | 0, _ => rfl
    | 1, _ => rfl
    | 2, _ => rfl)]
  rfl
theorem words16C_set (key nonce : List UInt8) (c c' : UInt32) : (words16C key nonce c).set 12 c' = words16C key nonce c' := rfl

theorem lstream_at (l : List UInt32) : ∀ (i : Nat) (x : UInt32), l[i / 4]? = some x → (lstream l)[i]? = some (x >>> UInt32.ofNat (8 * (i % 4))).toUInt8 := by
  induction l with
  | nil => intro i x h; simp at h
  | cons y l ih =>
    intro i x h
    have e : lstream (y :: l) = lbytes y ++ lstream l := by simp [lstream]
    have hb : (lbytes y).length = 4 := rfl
    rcases Nat.lt_or_ge i 4 with hi | hi
    · have e0 : i / 4 = 0 := by omega
      rw [e0] at h
      simp at h
      subst h
      rw [e, List.getElem?_append_left (by omega)]
      match i, hi with
      | 0, _ => simp [lbytes]
      | 1, _ => rfl
      | 2, _ => rfl
      | 3, _ => rfl
    · have e0 : i / 4 = (i - 4) / 4 + 1 := by omega
      have e1 : i % 4 = (i - 4) % 4 := by omega
      rw [e0] at h
      rw [e, List.getElem?_append_right (by omega), hb, e1]
      exact ih (i - 4) x (by simpa using h)
theorem doneTo_put (f : List UInt8) (n k : Nat) (c : UInt8) (hf : f.length = n) (hk : f[k]? = some c) : (doneTo f n k).set k c = doneTo f n (k + 1) := by
  have hlt : k < f.length := (List.getElem?_eq_some_iff.1 hk).1
  rw [doneTo, doneTo, take_at hk]
  have e1 : n - k = (n - (k + 1)) + 1 := by omega
  have e2 : (f.take k).length = k := by simp; omega
  rw [e1, List.replicate_succ, List.set_append_right _ _ (by omega), e2, Nat.sub_self]
  simp
end Go.Proofs.Ythphneiecihkiaa
