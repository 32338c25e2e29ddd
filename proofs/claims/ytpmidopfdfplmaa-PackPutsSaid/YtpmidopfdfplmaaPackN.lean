/- Plain mathematics of PackBack: what numbers and texts, one behind the other, are as bytes, and how these are read again. It speaks of no program. -/
import Derived.Test.YtpmidopfdfplmaaPackM
namespace Go.Proofs.Ytpmidopfdfplmaa

theorem ofBe_beTo (size x : Nat) : ∀ k, k ≤ size → ofBe (beTo size x k) = x / 2 ^ (8 * (size - k)) % 256 ^ k := by
  intro k
  induction k with
  | zero => intro _; simp [beTo, ofBe, Nat.mod_one]
  | succ k ih =>
    intro hk
    rw [beTo, ofBe_snoc, ih (by omega)]
    have e1 : size - (k + 1) = size - 1 - k := by omega
    have e2 : 8 * (size - k) = 8 * (size - 1 - k) + 8 := by omega
    have e3 : (beAt size x k).toNat = x / 2 ^ (8 * (size - 1 - k)) % 256 := by simp [beAt]
    rw [e1, e2, e3, Nat.pow_add, ← Nat.div_div_eq_div_mul]
    generalize x / 2 ^ (8 * (size - 1 - k)) = y
    rw [show (2 : Nat) ^ 8 = 256 from rfl, Nat.pow_succ, Nat.mul_comm (256 ^ k) 256, Nat.mod_mul]
    omega
theorem ofBe_be (size x : Nat) : ofBe (be size x) = x % 256 ^ size := by
  rw [be, ofBe_beTo size x size (Nat.le_refl _)]
  simp

theorem wrap_pow (m : Nat) (h1 : 1 ≤ m) (h7 : m < 8) : IntKind.u64.wrap ((2 : Int) ^ (8 * m)) = ((256 ^ m : Nat) : Int) := by
  have h : m = 1 ∨ m = 2 ∨ m = 3 ∨ m = 4 ∨ m = 5 ∨ m = 6 ∨ m = 7 := by omega
  rcases h with rfl | rfl | rfl | rfl | rfl | rfl | rfl <;> decide
theorem pow_8 : 256 ^ 8 = 18446744073709551616 := by decide

/-- Numbers, of m bytes each. -/
def encN (m : Nat) (ns : List Nat) : List UInt8 := ns.flatMap (be m)
/-- A text, and texts. -/
def encS (s : ByteArray) : List UInt8 := be 2 s.size ++ s.data.toList
def encT (ts : List ByteArray) : List UInt8 := ts.flatMap encS

theorem encN_snoc (m : Nat) (ns : List Nat) (x : Nat) : encN m (ns ++ [x]) = encN m ns ++ be m x := by simp [encN]
theorem encN_cons (m : Nat) (ns : List Nat) (x : Nat) : encN m (x :: ns) = be m x ++ encN m ns := by simp [encN]
theorem encT_snoc (ts : List ByteArray) (s : ByteArray) : encT (ts ++ [s]) = encT ts ++ encS s := by simp [encT]
theorem encT_cons (ts : List ByteArray) (s : ByteArray) : encT (s :: ts) = encS s ++ encT ts := by simp [encT]

theorem encN_length (m : Nat) (ns : List Nat) : (encN m ns).length = m * ns.length := by
  induction ns with
  | nil => simp [encN]
  | cons x ns ih => rw [encN_cons, List.length_append, ih, be_length, List.length_cons]; simp [Nat.mul_add]; omega
theorem encS_length (s : ByteArray) : (encS s).length = 2 + s.size := by simp [encS, be_length]
theorem encT_le (ts : List ByteArray) (h : ∀ s ∈ ts, s.size ≤ 1000) : (encT ts).length ≤ 1002 * ts.length := by
  induction ts with
  | nil => simp [encT]
  | cons s ts ih =>
    have h1 := h s (by simp)
    have h2 := ih (fun t ht => h t (by simp [ht]))
    rw [encT_cons, List.length_append, encS_length, List.length_cons]
    omega

theorem take_at {α : Type} {l : List α} {k : Nat} {x : α} (h : l[k]? = some x) : l.take (k + 1) = l.take k ++ [x] := by
  obtain ⟨hk, rfl⟩ := List.getElem?_eq_some_iff.1 h
  exact List.take_succ_eq_append_getElem hk
theorem drop_at {α : Type} {l : List α} {k : Nat} {x : α} (h : l[k]? = some x) : l.drop k = x :: l.drop (k + 1) := by
  obtain ⟨hk, rfl⟩ := List.getElem?_eq_some_iff.1 h
  exact List.drop_eq_getElem_cons hk

/-- The bytes of a list, as a string. -/
def str (l : List UInt8) : ByteArray := ⟨l.toArray⟩
theorem str_size (l : List UInt8) : (str l).size = l.length := by simp [str, ByteArray.size]
theorem str_list (l : List UInt8) : (str l).data.toList = l := by simp [str]
theorem str_back (s : ByteArray) : str s.data.toList = s := by simp [str]
theorem str_take (a b : List UInt8) : (str (a ++ b)).extract 0 a.length = str a := by
  apply ByteArray.ext
  simp [str]
theorem str_drop (a b : List UInt8) : (str (a ++ b)).extract a.length (str (a ++ b)).size = str b := by
  apply ByteArray.ext
  rw [str_size]
  simp [str]
end Go.Proofs.Ytpmidopfdfplmaa
