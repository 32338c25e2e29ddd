/- Over XGenA's words: plain mathematics of package pack: a number's lowest bytes, the highest first, and the number that bytes are. It speaks of no program. -/
import Derived.Test.YtkhiejdceefgfaaGenA
import Derived.Laws.BitsAllLaws
namespace Go.Proofs.Ytkhiejdceefgfaa

/-- The j-th of the lowest size bytes of x, the highest first. -/
def beAt (size x j : Nat) : UInt8 := UInt8.ofNat (x / 2 ^ (8 * (size - 1 - j)) % 256)
/-- The first k of them. -/
def beTo (size x : Nat) : Nat → List UInt8
  | 0 => []
  | k + 1 => beTo size x k ++ [beAt size x k]
def be (size x : Nat) : List UInt8 := beTo size x size

theorem beTo_length (size x k : Nat) : (beTo size x k).length = k := by
  induction k with
  | zero => rfl
  | succ k ih => simp [beTo, ih]
theorem be_length (size x : Nat) : (be size x).length = size := beTo_length size x size

theorem beAt_cell (size x k : Nat) : bv [beAt size x k] = [Value.int .u8 ((x : Int) / 2 ^ (8 * (size - 1 - k)) % 256)] := by
  have h : ((beAt size x k).toNat : Int) = (x : Int) / 2 ^ (8 * (size - 1 - k)) % 256 := by
    simp [beAt]
  simp [bv, h]
/-- The number that bytes are, the highest first. -/
def ofBe (l : List UInt8) : Nat := l.foldl (fun n c => n * 256 + c.toNat) 0
theorem ofBe_snoc (l : List UInt8) (c : UInt8) : ofBe (l ++ [c]) = ofBe l * 256 + c.toNat := by simp [ofBe]
theorem foldBe_lt (l : List UInt8) : ∀ n : Nat, l.foldl (fun n c => n * 256 + c.toNat) n < (n + 1) * 256 ^ l.length := by
  induction l with
  | nil => intro n; simp
  | cons c l ih =>
    intro n
    have h := ih (n * 256 + c.toNat)
    have hc := c.toNat_lt
    simp only [List.foldl_cons, List.length_cons, Nat.pow_succ]
    have h2 : (n * 256 + c.toNat + 1) * 256 ^ l.length ≤ ((n + 1) * 256) * 256 ^ l.length := Nat.mul_le_mul_right _ (by omega)
    have h3 : ((n + 1) * 256) * 256 ^ l.length = (n + 1) * (256 ^ l.length * 256) := by rw [Nat.mul_assoc, Nat.mul_comm 256]
    omega
theorem ofBe_lt (l : List UInt8) : ofBe l < 256 ^ l.length := by
  have := foldBe_lt l 0
  simpa [ofBe] using this
theorem or_byte (a c : Nat) (hc : c < 256) (h : a * 256 + c < 18446744073709551616) :
    bits .or .u64 (IntKind.u64.wrap ((a : Int) * 256)) (IntKind.u64.wrap (c : Int)) = ((a * 256 + c : Nat) : Int) := by
  have k1 : a * 256 < 18446744073709551616 := Nat.lt_of_le_of_lt (Nat.le_add_right _ c) h
  have k2 : c < 18446744073709551616 := Nat.lt_of_le_of_lt (Nat.le_add_left c (a * 256)) h
  have e1 : IntKind.u64.wrap ((a : Int) * 256) = ((a * 256 : Nat) : Int) := by rw [IntKind.wrap_u64]; clear h; omega
  have e2 : IntKind.u64.wrap (c : Int) = (c : Int) := by rw [IntKind.wrap_u64]; clear h; omega
  rw [e1, e2, u64_or_nat (a * 256) c k1 k2]
  clear e1 e2
  have h2 : 2 ^ 8 * a + c = 2 ^ 8 * a ||| c := Nat.two_pow_add_eq_or_of_lt (i := 8) (by omega) a
  have e3 : 2 ^ 8 * a = a * 256 := by omega
  rw [e3] at h2
  rw [h2]
theorem take_one_more (s : ByteArray) (k : Nat) (h : k < s.size) : s.data.toList.take (k + 1) = s.data.toList.take k ++ [s[k]] := by
  rw [List.take_succ_eq_append_getElem (by simpa using h)]; rfl
theorem ofBe_take (s : ByteArray) (k : Nat) (h : k < s.size) (h8 : s.size ≤ 8) :
    bits .or .u64 (IntKind.u64.wrap ((ofBe (s.data.toList.take k) : Int) * 256)) (IntKind.u64.wrap (s[k].toNat : Int)) = (ofBe (s.data.toList.take (k + 1)) : Int) := by
  have hb := ofBe_lt (s.data.toList.take (k + 1))
  have hp : 256 ^ (s.data.toList.take (k + 1)).length ≤ 256 ^ 8 := Nat.pow_le_pow_right (by omega) (by simp; omega)
  rw [take_one_more s k h, ofBe_snoc] at *
  exact or_byte _ _ s[k].toNat_lt (Nat.lt_of_lt_of_le hb (Nat.le_trans hp (by decide)))
theorem add_take (s : ByteArray) (k : Nat) (h : k < s.size) (h8 : s.size ≤ 8) :
    IntKind.u64.wrap (IntKind.u64.wrap ((ofBe (s.data.toList.take k) : Int) * 256) + IntKind.u64.wrap (s[k].toNat : Int)) = (ofBe (s.data.toList.take (k + 1)) : Int) := by
  have hb := ofBe_lt (s.data.toList.take (k + 1))
  have hp : 256 ^ (s.data.toList.take (k + 1)).length ≤ 256 ^ 8 := Nat.pow_le_pow_right (by omega) (by simp; omega)
  have hlt : ofBe (s.data.toList.take (k + 1)) < 18446744073709551616 := Nat.lt_of_lt_of_le hb (Nat.le_trans hp (by decide))
  clear hb hp
  rw [take_one_more s k h, ofBe_snoc] at *
  generalize ofBe (s.data.toList.take k) = a at *
  generalize s[k].toNat = c at *
  simp only [IntKind.wrap_u64]
  have e : (((a : Int) * 256) % 18446744073709551616 + (c : Int) % 18446744073709551616) % 18446744073709551616 = ((a : Int) * 256 + c) % 18446744073709551616 := by rw [← Int.add_emod]
  rw [e]
  have e2 : ((a : Int) * 256 + c) = ((a * 256 + c : Nat) : Int) := by simp
  rw [e2]
  generalize a * 256 + c = m at *
  omega
/-- What a text is cut to. -/
def cutText (s : ByteArray) : ByteArray := s.extract 0 (min s.size 65535)
end Go.Proofs.Ytkhiejdceefgfaa
