/- Plain mathematics of package equal: all bits of bytes, exclusive-or of two rows of bytes. It speaks of no program. -/
import Derived.Test.YtmnhpkdldeifgaaGreatDoorGa
import Derived.Test.YtmnhpkdldeifgaaGreatDoorGb
import Derived.Laws.BitsAllLaws
namespace Go.Proofs.YtmnhpkdldeifgaaGreatDoor
set_option maxRecDepth 100000

/-- Every bit that one of them has. -/
def orAll (l : List UInt8) : UInt8 := l.foldl (· ||| ·) 0
theorem orAll_snoc (l : List UInt8) (c : UInt8) : orAll (l ++ [c]) = orAll l ||| c := by simp [orAll]
theorem or_zero (a b : UInt8) : a ||| b = 0 ↔ a = 0 ∧ b = 0 := by
  constructor
  · intro h
    have hb : a.toBitVec ||| b.toBitVec = 0#8 := by
      have := congrArg UInt8.toBitVec h
      simpa using this
    have h1 : a.toBitVec = 0#8 := by
      apply BitVec.eq_of_getLsbD_eq
      intro i hi
      have := congrArg (fun x => BitVec.getLsbD x i) hb
      simp at this ⊢
      exact this.1
    have h2 : b.toBitVec = 0#8 := by
      apply BitVec.eq_of_getLsbD_eq
      intro i hi
      have := congrArg (fun x => BitVec.getLsbD x i) hb
      simp at this ⊢
      exact this.2
    exact ⟨UInt8.toBitVec_inj.1 h1, UInt8.toBitVec_inj.1 h2⟩
  · rintro ⟨rfl, rfl⟩
    decide
theorem orAll_from (l : List UInt8) : ∀ a : UInt8, l.foldl (· ||| ·) a = 0 ↔ a = 0 ∧ ∀ c ∈ l, c = 0 := by
  induction l with
  | nil => intro a; simp
  | cons c l ih =>
    intro a
    rw [List.foldl_cons, ih, or_zero]
    simp [and_assoc]
theorem orAll_zero (l : List UInt8) : orAll l = 0 ↔ ∀ c ∈ l, c = 0 := by
  rw [orAll, orAll_from]
  simp
theorem or_cell (a b : UInt8) : bits .or .u8 (a.toNat : Int) (b.toNat : Int) = ((a ||| b).toNat : Int) := by
  rw [u8_or_nat _ _ a.toNat_lt b.toNat_lt, UInt8.toNat_or]
theorem xor_cell (a b : UInt8) : bits .xor .u8 (a.toNat : Int) (b.toNat : Int) = ((a ^^^ b).toNat : Int) := by
  rw [u8_xor_nat _ _ a.toNat_lt b.toNat_lt, UInt8.toNat_xor]

/-- Of each place that both have, the exclusive-or. -/
def xorL (a b : List UInt8) : List UInt8 := List.zipWith (· ^^^ ·) a b
theorem xorL_length (a b : List UInt8) : (xorL a b).length = min a.length b.length := by simp [xorL]
theorem xorL_at (a b : List UInt8) (j : Nat) (x y : UInt8) (hx : a[j]? = some x) (hy : b[j]? = some y) : (xorL a b)[j]? = some (x ^^^ y) := by simp [xorL, List.getElem?_zipWith, hx, hy]
theorem xor_self_left (x y : UInt8) : x ^^^ (x ^^^ y) = y := by simp [← UInt8.xor_assoc]
theorem xor_zero_iff (x y : UInt8) : x ^^^ y = 0 ↔ x = y := UInt8.xor_eq_zero_iff
/-- Alike just if none differs. -/
theorem xorL_zero (a : List UInt8) : ∀ b : List UInt8, a.length = b.length → ((∀ c ∈ xorL a b, c = 0) ↔ a = b) := by
  induction a with
  | nil => intro b h; cases b <;> simp_all [xorL]
  | cons x a ih =>
    intro b h
    cases b with
    | nil => simp at h
    | cons y b =>
      have := ih b (by simpa using h)
      simp only [xorL, List.zipWith_cons_cons, List.mem_cons, forall_eq_or_imp, xor_zero_iff, List.cons.injEq]
      rw [← this]
      rfl
/-- Twice is nothing. -/
theorem xorL_back_left (a : List UInt8) : ∀ b : List UInt8, xorL (xorL a b) (a.take (min a.length b.length)) = b.take (min a.length b.length) := by
  induction a with
  | nil => intro b; simp [xorL]
  | cons x a ih =>
    intro b
    cases b with
    | nil => simp [xorL]
    | cons y b =>
      have h := ih b
      simp only [xorL, List.length_cons, Nat.add_min_add_right, List.take_succ_cons, List.zipWith_cons_cons, List.cons.injEq] at h ⊢
      refine ⟨?_, h⟩
      rw [UInt8.xor_comm x y, UInt8.xor_assoc]
      simp
theorem xorL_back_right (a : List UInt8) : ∀ b : List UInt8, xorL (xorL a b) (b.take (min a.length b.length)) = a.take (min a.length b.length) := by
  induction a with
  | nil => intro b; simp [xorL]
  | cons x a ih =>
    intro b
    cases b with
    | nil => simp [xorL]
    | cons y b =>
      have h := ih b
      simp only [xorL, List.length_cons, Nat.add_min_add_right, List.take_succ_cons, List.zipWith_cons_cons, List.cons.injEq] at h ⊢
      refine ⟨?_, h⟩
      rw [UInt8.xor_assoc]
      simp

/-- The first k of f, and zeros behind: how far a row of n has been written. -/
def doneTo (f : List UInt8) (n k : Nat) : List UInt8 := f.take k ++ List.replicate (n - k) 0
theorem doneTo_length (f : List UInt8) (n k : Nat) (hf : f.length = n) (hk : k ≤ n) : (doneTo f n k).length = n := by simp [doneTo]; omega
theorem doneTo_zero (f : List UInt8) (n : Nat) : doneTo f n 0 = List.replicate n 0 := by simp [doneTo]
theorem doneTo_all (f : List UInt8) (n : Nat) (hf : f.length = n) : doneTo f n n = f := by simp [doneTo, ← hf]
theorem doneTo_set (f : List UInt8) (n k : Nat) (c : UInt8) (hf : f.length = n) (hk : f[k]? = some c) : (bv (doneTo f n k)).set k (.int .u8 (c.toNat : Int)) = bv (doneTo f n (k + 1)) := by
  have hlt : k < f.length := (List.getElem?_eq_some_iff.1 hk).1
  rw [doneTo, doneTo, take_at hk]
  have e1 : n - k = (n - (k + 1)) + 1 := by omega
  rw [e1, List.replicate_succ]
  simp only [bv, List.map_append, List.map_cons, List.append_assoc, List.cons_append, List.nil_append]
  rw [List.set_append_right _ _ (by simp; omega)]
  have e2 : k - (List.map (fun c : UInt8 => Value.int IntKind.u8 ↑c.toNat) (List.take k f)).length = 0 := by simp; omega
  rw [e2]
  rfl
theorem doneTo_put (f : List UInt8) (n k : Nat) (c : UInt8) (hf : f.length = n) (hk : f[k]? = some c) : (doneTo f n k).set k c = doneTo f n (k + 1) := by
  have hlt : k < f.length := (List.getElem?_eq_some_iff.1 hk).1
  rw [doneTo, doneTo, take_at hk]
  have e1 : n - k = (n - (k + 1)) + 1 := by omega
  have e2 : (f.take k).length = k := by simp; omega
  rw [e1, List.replicate_succ, List.set_append_right _ _ (by omega), e2, Nat.sub_self]
  simp
end Go.Proofs.YtmnhpkdldeifgaaGreatDoor
