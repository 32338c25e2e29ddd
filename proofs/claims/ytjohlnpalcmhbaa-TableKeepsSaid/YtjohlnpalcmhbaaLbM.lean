/- Plain mathematics of package label: digits, numbers and bytes as digits, names and keys. It speaks of no program. -/
import Derived.Test.YtjohlnpalcmhbaaGenA
namespace Go.Proofs.Ytjohlnpalcmhbaa
set_option maxRecDepth 100000

def hexD : List UInt8 := [48, 49, 50, 51, 52, 53, 54, 55, 56, 57, 97, 98, 99, 100, 101, 102]
def hexC (d : Nat) : UInt8 := hexD.getD d 0
/-- A digit's number; 16: none. -/
def digN (c : UInt8) : Nat := hexD.findIdx (· == c)
theorem digN_le (c : UInt8) : digN c ≤ 16 := List.findIdx_le_length
theorem digN_hexC (d : Nat) (h : d < 16) : digN (hexC d) = d := by
  have : ∀ d : Fin 16, digN (hexC d.val) = d.val := by decide
  exact this ⟨d, h⟩
theorem hexC_digN (c : UInt8) (h : digN c < 16) : hexC (digN c) = c := by
  have h1 := List.findIdx_getElem (w := (show hexD.findIdx (· == c) < hexD.length from h))
  have h2 : hexD[hexD.findIdx (· == c)]'(show hexD.findIdx (· == c) < hexD.length from h) = c := by simpa using h1
  rw [hexC, digN, List.getD, List.getElem?_eq_getElem (show hexD.findIdx (· == c) < hexD.length from h), h2]
  rfl

/-- The last k digits of a number. -/
def hexTo (n : Nat) : Nat → List UInt8
  | 0 => []
  | k + 1 => hexC (n / 16 ^ k % 16) :: hexTo n k
theorem hexTo_length (n k : Nat) : (hexTo n k).length = k := by
  induction k with
  | zero => rfl
  | succ k ih => rw [hexTo, List.length_cons, ih]
def hexL (n : Nat) : List UInt8 := hexTo n 16
theorem hexL_length (n : Nat) : (hexL n).length = 16 := hexTo_length n 16

/-- The number that digits are. -/
def ofHex (l : List UInt8) : Nat := l.foldl (fun n c => n * 16 + digN c) 0
theorem ofHex_snoc (l : List UInt8) (c : UInt8) : ofHex (l ++ [c]) = ofHex l * 16 + digN c := by simp [ofHex]
theorem ofHex_take (l : List UInt8) (k : Nat) (c : UInt8) (h : l[k]? = some c) : ofHex (l.take (k + 1)) = ofHex (l.take k) * 16 + digN c := by
  rw [take_at h, ofHex_snoc]
def allHex (l : List UInt8) : Bool := l.all fun c => decide (digN c < 16)
theorem allHex_take (l : List UInt8) (k : Nat) (c : UInt8) (h : l[k]? = some c) : allHex (l.take (k + 1)) = (allHex (l.take k) && decide (digN c < 16)) := by
  rw [take_at h]
  simp [allHex]
theorem allHex_not (l : List UInt8) (k : Nat) (c : UInt8) (h : l[k]? = some c) (hc : digN c = 16) : allHex l = false := by
  rw [allHex, List.all_eq_false]
  exact ⟨c, List.mem_of_getElem? h, by simp [hc]⟩
theorem ofHex_lt (l : List UInt8) (h : allHex l = true) : ofHex l < 16 ^ l.length := by
  have key : ∀ (l : List UInt8) (n : Nat), (∀ c ∈ l, digN c < 16) → l.foldl (fun n c => n * 16 + digN c) n < (n + 1) * 16 ^ l.length := by
    intro l
    induction l with
    | nil => intro n _; simp
    | cons c l ih =>
      intro n hl
      have h1 := ih (n * 16 + digN c) fun d hd => hl d (by simp [hd])
      have h2 := hl c (by simp)
      simp only [List.foldl_cons, List.length_cons, Nat.pow_succ]
      have h3 : (n * 16 + digN c + 1) * 16 ^ l.length ≤ ((n + 1) * 16) * 16 ^ l.length := Nat.mul_le_mul_right _ (by omega)
      have h4 : ((n + 1) * 16) * 16 ^ l.length = (n + 1) * (16 ^ l.length * 16) := by rw [Nat.mul_assoc, Nat.mul_comm 16]
      omega
  have := key l 0 (by simpa [allHex] using h)
  simpa [ofHex] using this
/-- ReadHex's answers. -/
def rhB (l : List UInt8) : Bool := decide (l.length = 16) && allHex l
def rhA (l : List UInt8) : Nat := if rhB l = true then ofHex l else 0
theorem hexTo_all (n k : Nat) : allHex (hexTo n k) = true := by
  induction k with
  | zero => rfl
  | succ k ih =>
    rw [hexTo]
    have h : digN (hexC (n / 16 ^ k % 16)) < 16 := by rw [digN_hexC _ (Nat.mod_lt _ (by decide))]; exact Nat.mod_lt _ (by decide)
    simp only [allHex, List.all_cons, decide_eq_true h, Bool.true_and] at ih ⊢
    exact ih
theorem foldHex_hexTo (n k a : Nat) : (hexTo n k).foldl (fun n c => n * 16 + digN c) a = a * 16 ^ k + n % 16 ^ k := by
  induction k generalizing a with
  | zero => simp [hexTo, Nat.mod_one]
  | succ k ih =>
    rw [hexTo, List.foldl_cons, ih, digN_hexC _ (Nat.mod_lt _ (by decide)), Nat.pow_succ, Nat.mod_mul]
    have e1 : (a * 16 + n / 16 ^ k % 16) * 16 ^ k = a * (16 ^ k * 16) + 16 ^ k * (n / 16 ^ k % 16) := by rw [Nat.add_mul, Nat.mul_assoc, Nat.mul_comm 16, Nat.mul_comm (n / 16 ^ k % 16)]
    rw [e1]
    omega
theorem read_hex (n : Nat) (h : n < 18446744073709551616) : rhB (hexL n) = true ∧ rhA (hexL n) = n := by
  have hb : rhB (hexL n) = true := by rw [rhB, hexL_length, hexL, hexTo_all]; rfl
  refine ⟨hb, ?_⟩
  rw [rhA, if_pos hb, ofHex, hexL, foldHex_hexTo, Nat.zero_mul, Nat.zero_add]
  exact Nat.mod_eq_of_lt h

/-- Bytes' digits. -/
def pairC (c : UInt8) : List UInt8 := [hexC (c.toNat / 16), hexC (c.toNat % 16)]
def pairsC (b : List UInt8) : List UInt8 := b.flatMap pairC
theorem pairsC_length (b : List UInt8) : (pairsC b).length = 2 * b.length := by
  induction b with
  | nil => rfl
  | cons c b ih =>
    have e : pairsC (c :: b) = pairC c ++ pairsC b := rfl
    rw [e, List.length_append, ih, List.length_cons]
    simp [pairC]
    omega
theorem pairsC_snoc (b : List UInt8) (c : UInt8) : pairsC (b ++ [c]) = pairsC b ++ pairC c := by simp [pairsC]
def bytesL (b : List UInt8) : List UInt8 := if b = [] then [45] else pairsC b
/-- The bytes that digits are. -/
def unpair : List UInt8 → Option (List UInt8)
  | [] => some []
  | [_] => none
  | a :: b :: l => if digN a = 16 ∨ digN b = 16 then none else (unpair l).map fun t => UInt8.ofNat (16 * digN a + digN b) :: t
theorem unpair_pairs (b : List UInt8) : unpair (pairsC b) = some b := by
  induction b with
  | nil => rfl
  | cons c b ih =>
    have e : pairsC (c :: b) = hexC (c.toNat / 16) :: hexC (c.toNat % 16) :: pairsC b := rfl
    have hc := c.toNat_lt
    rw [e, unpair, digN_hexC _ (by omega), digN_hexC _ (by omega), if_neg (by omega), ih]
    simp only [Option.map_some]
    congr 2
    rw [show 16 * (c.toNat / 16) + c.toNat % 16 = c.toNat by omega]
    simp
theorem unpair_snoc (p out : List UInt8) (a b : UInt8) (h : unpair p = some out) : unpair (p ++ [a, b]) = if digN a = 16 ∨ digN b = 16 then none else some (out ++ [UInt8.ofNat (16 * digN a + digN b)]) := by
  induction p using unpair.induct generalizing out with
  | case1 =>
    injection h with h
    subst h
    rw [List.nil_append, unpair]
    split
    · rfl
    · rfl
  | case2 x => simp [unpair] at h
  | case3 x y l hxy => simp [unpair, hxy] at h
  | case4 x y l hxy ih =>
    rw [unpair, if_neg hxy] at h
    cases hl : unpair l with
    | none => rw [hl] at h; simp at h
    | some t =>
      rw [hl] at h
      simp only [Option.map_some] at h
      injection h with h
      subst h
      have e : x :: y :: l ++ [a, b] = x :: y :: (l ++ [a, b]) := rfl
      rw [e, unpair, if_neg hxy, ih t hl]
      split
      · rfl
      · rfl
theorem unpair_none (p q out : List UInt8) (a b : UInt8) (h : unpair p = some out) (hab : digN a = 16 ∨ digN b = 16) : unpair (p ++ a :: b :: q) = none := by
  induction p using unpair.induct generalizing out with
  | case1 => rw [List.nil_append, unpair, if_pos hab]
  | case2 x => simp [unpair] at h
  | case3 x y l hxy => simp [unpair, hxy] at h
  | case4 x y l hxy ih =>
    rw [unpair, if_neg hxy] at h
    cases hl : unpair l with
    | none => rw [hl] at h; simp at h
    | some t =>
      have e : x :: y :: l ++ a :: b :: q = x :: y :: (l ++ a :: b :: q) := rfl
      rw [e, unpair, if_neg hxy, ih t hl]
      rfl
/-- ReadBytes' answer, if it is one. -/
def rbO (l : List UInt8) : Option (List UInt8) := if l = [45] then some [] else if l.length = 0 ∨ l.length % 2 = 1 ∨ 8192 < l.length then none else unpair l
def rbB (l : List UInt8) : Bool := (rbO l).isSome
def rbA (l : List UInt8) : List UInt8 := (rbO l).getD []
theorem read_bytes (b : List UInt8) (h : b.length ≤ 4096) : rbO (bytesL b) = some b := by
  rw [bytesL]
  by_cases hb : b = []
  · rw [if_pos hb, hb]
    rfl
  · have hl := pairsC_length b
    have h0 : 0 < b.length := List.length_pos_iff.2 hb
    rw [if_neg hb, rbO, if_neg (fun e => by rw [e] at hl; simp at hl; omega), if_neg (by omega), unpair_pairs]

/-- A number's digits, by ten. -/
def decL (n : Nat) : List UInt8 := if n < 10 then [hexC n] else decL (n / 10) ++ [hexC (n % 10)]
termination_by n
decreasing_by omega
theorem decL_lt (n : Nat) (h : n < 10) : decL n = [hexC n] := by rw [decL, if_pos h]
theorem decL_ge (n : Nat) (h : ¬ n < 10) : decL n = decL (n / 10) ++ [hexC (n % 10)] := by rw [decL, if_neg h]
/-- Number's answer. -/
def numL (i : Int) : List UInt8 := if i < 0 then 45 :: decL i.natAbs else decL i.toNat
theorem decL_length (n k : Nat) (h : n < 10 ^ k) (hk : 0 < k) : (decL n).length ≤ k := by
  induction k generalizing n with
  | zero => omega
  | succ k ih =>
    by_cases h1 : n < 10
    · rw [decL_lt n h1]
      simp
    · rw [decL_ge n h1, List.length_append, List.length_singleton]
      have : 0 < k := by
        rcases Nat.eq_zero_or_pos k with rfl | h
        · omega
        · exact h
      have h2 : n / 10 < 10 ^ k := by rw [Nat.pow_succ] at h; omega
      have := ih (n / 10) h2 this
      omega
/-- Is it one of them? -/
def inB (l : List UInt8) (c : UInt8) : Bool := l.contains c
theorem inB_true (l : List UInt8) (c : UInt8) (h : c ∈ l) : inB l c = true := List.contains_iff_mem.2 h
theorem inB_mem (l : List UInt8) (c : UInt8) (h : inB l c = true) : c ∈ l := List.contains_iff_mem.1 h

/-- Small letters; and digits, and the hyphen. -/
def lowL : List UInt8 := [97, 98, 99, 100, 101, 102, 103, 104, 105, 106, 107, 108, 109, 110, 111, 112, 113, 114, 115, 116, 117, 118, 119, 120, 121, 122]
def nameC : List UInt8 := [97, 98, 99, 100, 101, 102, 103, 104, 105, 106, 107, 108, 109, 110, 111, 112, 113, 114, 115, 116, 117, 118, 119, 120, 121, 122, 48, 49, 50, 51, 52, 53, 54, 55, 56, 57, 45]
/-- Name's answer. -/
def nameB (l : List UInt8) : Bool := decide (1 ≤ l.length) && decide (l.length ≤ 16) && l.head?.any (inB lowL) && l.all (inB nameC)
/-- Key's answer. -/
def keyC (c : UInt8) : Bool := decide (32 < c.toNat) && decide (c.toNat < 127)
def keyB (l : List UInt8) : Bool := decide (1 ≤ l.length) && decide (l.length ≤ 24) && l.all keyC

theorem all_take {α : Type} (p : α → Bool) (l : List α) (k : Nat) (c : α) (h : l[k]? = some c) : (l.take (k + 1)).all p = ((l.take k).all p && p c) := by
  rw [take_at h]
  simp
theorem all_not {α : Type} (p : α → Bool) (l : List α) (k : Nat) (c : α) (h : l[k]? = some c) (hc : p c = false) : l.all p = false := by
  rw [List.all_eq_false]
  exact ⟨c, List.mem_of_getElem? h, by simp [hc]⟩
end Go.Proofs.Ytjohlnpalcmhbaa
