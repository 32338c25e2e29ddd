/- Plain mathematics of package label: digits, numbers and bytes as digits, names and keys. It speaks of no program. An epoch's key (layer 18), as mathematics. Plain mathematics of package cipher: Quarter, the 16 words, their rounds, a block, a message changed; the chapter's example. It speaks of no program. -/
import Derived.Test.YtmnhpkdldeifgaaGreatDoorGa
import Derived.Test.YtmnhpkdldeifgaaGreatDoorGg
namespace Go.Proofs.YtmnhpkdldeifgaaGreatDoor
set_option maxRecDepth 100000

def hexD : List UInt8 := [48, 49, 50, 51, 52, 53, 54, 55, 56, 57, 97, 98, 99, 100, 101, 102]
def hexC (d : Nat) : UInt8 := hexD.getD d 0
/-- A digit's number; 16: none. -/
def digN (c : UInt8) : Nat := hexD.findIdx (· == c)
theorem digN_le (c : UInt8) : digN c ≤ 16 := List.findIdx_le_length
theorem digN_hexC (d : Nat) (h : d < 16) : digN (hexC d) = d := by
  have : ∀ d : Fin 16, digN (hexC d.val) = d.val := by decide
  exact this ⟨d, h⟩
theorem hexC_digN (c : UInt8) (h : digN c < 16) : hexC (digN c) = c := by
  have h1 := List.findIdx_getElem (w := (show hexD.findIdx (· == c) < hexD.length from h))
  have h2 : hexD[hexD.findIdx (· == c)]'(show hexD.findIdx (· == c) < hexD.length from h) = c := by simpa using h1
  rw [hexC, digN, List.getD, List.getElem?_eq_getElem (show hexD.findIdx (· == c) < hexD.length from h), h2]
  rfl

/-- The last k digits of a number. -/
def hexTo (n : Nat) : Nat → List UInt8
  | 0 => []
  | k + 1 => hexC (n / 16 ^ k % 16) :: hexTo n k
theorem hexTo_length (n k : Nat) : (hexTo n k).length = k := by
  induction k with
  | zero => rfl
  | succ k ih => rw [hexTo, List.length_cons, ih]
def hexL (n : Nat) : List UInt8 := hexTo n 16
theorem hexL_length (n : Nat) : (hexL n).length = 16 := hexTo_length n 16

/-- The number that digits are. -/
def ofHex (l : List UInt8) : Nat := l.foldl (fun n c => n * 16 + digN c) 0
theorem ofHex_snoc (l : List UInt8) (c : UInt8) : ofHex (l ++ [c]) = ofHex l * 16 + digN c := by simp [ofHex]
theorem ofHex_take (l : List UInt8) (k : Nat) (c : UInt8) (h : l[k]? = some c) : ofHex (l.take (k + 1)) = ofHex (l.take k) * 16 + digN c := by
  rw [take_at h, ofHex_snoc]
def allHex (l : List UInt8) : Bool := l.all fun c => decide (digN c < 16)
theorem allHex_take (l : List UInt8) (k : Nat) (c : UInt8) (h : l[k]? = some c) : allHex (l.take (k + 1)) = (allHex (l.take k) && decide (digN c < 16)) := by
  rw [take_at h]
  simp [allHex]
theorem allHex_not (l : List UInt8) (k : Nat) (c : UInt8) (h : l[k]? = some c) (hc : digN c = 16) : allHex l = false := by
  rw [allHex, List.all_eq_false]
  exact ⟨c, List.mem_of_getElem? h, by simp [hc]⟩
theorem ofHex_lt (l : List UInt8) (h : allHex l = true) : ofHex l < 16 ^ l.length := by
  have key : ∀ (l : List UInt8) (n : Nat), (∀ c ∈ l, digN c < 16) → l.foldl (fun n c => n * 16 + digN c) n < (n + 1) * 16 ^ l.length := by
    intro l
    induction l with
    | nil => intro n _; simp
    | cons c l ih =>
      intro n hl
      have h1 := ih (n * 16 + digN c) fun d hd => hl d (by simp [hd])
      have h2 := hl c (by simp)
      simp only [List.foldl_cons, List.length_cons, Nat.pow_succ]
      have h3 : (n * 16 + digN c + 1) * 16 ^ l.length ≤ ((n + 1) * 16) * 16 ^ l.length := Nat.mul_le_mul_right _ (by omega)
      have h4 : ((n + 1) * 16) * 16 ^ l.length = (n + 1) * (16 ^ l.length * 16) := by rw [Nat.mul_assoc, Nat.mul_comm 16]
      omega
  have := key l 0 (by simpa [allHex] using h)
  simpa [ofHex] using this
/-- ReadHex's answers. -/
def rhB (l : List UInt8) : Bool := decide (l.length = 16) && allHex l
def rhA (l : List UInt8) : Nat := if rhB l = true then ofHex l else 0
theorem hexTo_all (n k : Nat) : allHex (hexTo n k) = true := by
  induction k with
  | zero => rfl
  | succ k ih =>
    rw [hexTo]
    have h : digN (hexC (n / 16 ^ k % 16)) < 16 := by rw [digN_hexC _ (Nat.mod_lt _ (by decide))]; exact Nat.mod_lt _ (by decide)
    simp only [allHex, List.all_cons, decide_eq_true h, Bool.true_and] at ih ⊢
    exact ih
theorem foldHex_hexTo (n k a : Nat) : (hexTo n k).foldl (fun n c => n * 16 + digN c) a = a * 16 ^ k + n % 16 ^ k := by
  induction k generalizing a with
  | zero => simp [hexTo, Nat.mod_one]
  | succ k ih =>
    rw [hexTo, List.foldl_cons, ih, digN_hexC _ (Nat.mod_lt _ (by decide)), Nat.pow_succ, Nat.mod_mul]
    have e1 : (a * 16 + n / 16 ^ k % 16) * 16 ^ k = a * (16 ^ k * 16) + 16 ^ k * (n / 16 ^ k % 16) := by rw [Nat.add_mul, Nat.mul_assoc, Nat.mul_comm 16, Nat.mul_comm (n / 16 ^ k % 16)]
    rw [e1]
    omega
theorem read_hex (n : Nat) (h : n < 18446744073709551616) : rhB (hexL n) = true ∧ rhA (hexL n) = n := by
  have hb : rhB (hexL n) = true := by rw [rhB, hexL_length, hexL, hexTo_all]; rfl
  refine ⟨hb, ?_⟩
  rw [rhA, if_pos hb, ofHex, hexL, foldHex_hexTo, Nat.zero_mul, Nat.zero_add]
  exact Nat.mod_eq_of_lt h

/-- Bytes' digits. -/
def pairC (c : UInt8) : List UInt8 := [hexC (c.toNat / 16), hexC (c.toNat % 16)]
def pairsC (b : List UInt8) : List UInt8 := b.flatMap pairC
theorem pairsC_length (b : List UInt8) : (pairsC b).length = 2 * b.length := by
  induction b with
  | nil => rfl
  | cons c b ih =>
    have e : pairsC (c :: b) = pairC c ++ pairsC b := rfl
    rw [e, List.length_append, ih, List.length_cons]
    simp [pairC]
    omega
theorem pairsC_snoc (b : List UInt8) (c : UInt8) : pairsC (b ++ [c]) = pairsC b ++ pairC c := by simp [pairsC]
def bytesL (b : List UInt8) : List UInt8 := if b = [] then [45] else pairsC b
/-- The bytes that digits are. -/
def unpair : List UInt8 → Option (List UInt8)
  | [] => some []
  | [_] => none
  | a :: b :: l => if digN a = 16 ∨ digN b = 16 then none else (unpair l).map fun t => UInt8.ofNat (16 * digN a + digN b) :: t
theorem unpair_pairs (b : List UInt8) : unpair (pairsC b) = some b := by
  induction b with
  | nil => rfl
  | cons c b ih =>
    have e : pairsC (c :: b) = hexC (c.toNat / 16) :: hexC (c.toNat % 16) :: pairsC b := rfl
    have hc := c.toNat_lt
    rw [e, unpair, digN_hexC _ (by omega), digN_hexC _ (by omega), if_neg (by omega), ih]
    simp only [Option.map_some]
    congr 2
    rw [show 16 * (c.toNat / 16) + c.toNat % 16 = c.toNat by omega]
    simp
theorem unpair_snoc (p out : List UInt8) (a b : UInt8) (h : unpair p = some out) : unpair (p ++ [a, b]) = if digN a = 16 ∨ digN b = 16 then none else some (out ++ [UInt8.ofNat (16 * digN a + digN b)]) := by
  induction p using unpair.induct generalizing out with
  | case1 =>
    injection h with h
    subst h
    rw [List.nil_append, unpair]
    split
    · rfl
    · rfl
  | case2 x => simp [unpair] at h
  | case3 x y l hxy => simp [unpair, hxy] at h
  | case4 x y l hxy ih =>
    rw [unpair, if_neg hxy] at h
    cases hl : unpair l with
    | none => rw [hl] at h; simp at h
    | some t =>
      rw [hl] at h
      simp only [Option.map_some] at h
      injection h with h
      subst h
      have e : x :: y :: l ++ [a, b] = x :: y :: (l ++ [a, b]) := rfl
      rw [e, unpair, if_neg hxy, ih t hl]
      split
      · rfl
      · rfl
theorem unpair_none (p q out : List UInt8) (a b : UInt8) (h : unpair p = some out) (hab : digN a = 16 ∨ digN b = 16) : unpair (p ++ a :: b :: q) = none := by
  induction p using unpair.induct generalizing out with
  | case1 => rw [List.nil_append, unpair, if_pos hab]
  | case2 x => simp [unpair] at h
  | case3 x y l hxy => simp [unpair, hxy] at h
  | case4 x y l hxy ih =>
    rw [unpair, if_neg hxy] at h
    cases hl : unpair l with
    | none => rw [hl] at h; simp at h
    | some t =>
      have e : x :: y :: l ++ a :: b :: q = x :: y :: (l ++ a :: b :: q) := rfl
      rw [e, unpair, if_neg hxy, ih t hl]
      rfl
/-- ReadBytes' answer, if it is one. -/
def rbO (l : List UInt8) : Option (List UInt8) := if l = [45] then some [] else if l.length = 0 ∨ l.length % 2 = 1 ∨ 8192 < l.length then none else unpair l
def rbB (l : List UInt8) : Bool := (rbO l).isSome
def rbA (l : List UInt8) : List UInt8 := (rbO l).getD []
theorem read_bytes (b : List UInt8) (h : b.length ≤ 4096) : rbO (bytesL b) = some b := by
  rw [bytesL]
  by_cases hb : b = []
  · rw [if_pos hb, hb]
    rfl
  · have hl := pairsC_length b
    have h0 : 0 < b.length := List.length_pos_iff.2 hb
    rw [if_neg hb, rbO, if_neg (fun e => by rw [e] at hl; simp at hl; omega), if_neg (by omega), unpair_pairs]

/-- A number's digits, by ten. -/
def decL (n : Nat) : List UInt8 := if n < 10 then [hexC n] else decL (n / 10) ++ [hexC (n % 10)]
termination_by n
decreasing_by omega
theorem decL_lt (n : Nat) (h : n < 10) : decL n = [hexC n] := by rw [decL, if_pos h]
theorem decL_ge (n : Nat) (h : ¬ n < 10) : decL n = decL (n / 10) ++ [hexC (n % 10)] := by rw [decL, if_neg h]
/-- Number's answer. -/
def numL (i : Int) : List UInt8 := if i < 0 then 45 :: decL i.natAbs else decL i.toNat
theorem decL_length (n k : Nat) (h : n < 10 ^ k) (hk : 0 < k) : (decL n).length ≤ k := by
  induction k generalizing n with
  | zero => omega
  | succ k ih =>
    by_cases h1 : n < 10
    · rw [decL_lt n h1]
      simp
    · rw [decL_ge n h1, List.length_append, List.length_singleton]
      have : 0 < k := by
        rcases Nat.eq_zero_or_pos k with rfl | h
        · omega
        · exact h
      have h2 : n / 10 < 10 ^ k := by rw [Nat.pow_succ] at h; omega
      have := ih (n / 10) h2 this
      omega
/-- Is it one of them? -/
def inB (l : List UInt8) (c : UInt8) : Bool := l.contains c
theorem inB_true (l : List UInt8) (c : UInt8) (h : c ∈ l) : inB l c = true := List.contains_iff_mem.2 h
theorem inB_mem (l : List UInt8) (c : UInt8) (h : inB l c = true) : c ∈ l := List.contains_iff_mem.1 h

/-- Small letters; and digits, and the hyphen. -/
def lowL : List UInt8 := [97, 98, 99, 100, 101, 102, 103, 104, 105, 106, 107, 108, 109, 110, 111, 112, 113, 114, 115, 116, 117, 118, 119, 120, 121, 122]
def nameC : List UInt8 := [97, 98, 99, 100, 101, 102, 103, 104, 105, 106, 107, 108, 109, 110, 111, 112, 113, 114, 115, 116, 117, 118, 119, 120, 121, 122, 48, 49, 50, 51, 52, 53, 54, 55, 56, 57, 45]
/-- Name's answer. -/
def nameB (l : List UInt8) : Bool := decide (1 ≤ l.length) && decide (l.length ≤ 16) && l.head?.any (inB lowL) && l.all (inB nameC)
/-- Key's answer. -/
def keyC (c : UInt8) : Bool := decide (32 < c.toNat) && decide (c.toNat < 127)
def keyB (l : List UInt8) : Bool := decide (1 ≤ l.length) && decide (l.length ≤ 24) && l.all keyC

theorem all_take {α : Type} (p : α → Bool) (l : List α) (k : Nat) (c : α) (h : l[k]? = some c) : (l.take (k + 1)).all p = ((l.take k).all p && p c) := by
  rw [take_at h]
  simp
theorem all_not {α : Type} (p : α → Bool) (l : List α) (k : Nat) (c : α) (h : l[k]? = some c) (hc : p c = false) : l.all p = false := by
  rw [List.all_eq_false]
  exact ⟨c, List.mem_of_getElem? h, by simp [hc]⟩
end Go.Proofs.YtmnhpkdldeifgaaGreatDoor

namespace Go.Proofs.YtmnhpkdldeifgaaGreatDoor
set_option maxRecDepth 100000

def epochHead : List UInt8 := [101, 112, 111, 99, 104, 32]
theorem numL_most (i : Int) (h : -9223372036854775808 ≤ i) (h2 : i < 9223372036854775808) : (numL i).length ≤ 20 := by
  have e : (10 : Nat) ^ 19 = 10000000000000000000 := by decide
  rw [numL]
  split
  · have := decL_length i.natAbs 19 (by omega) (by decide)
    rw [List.length_cons]
    omega
  · have := decL_length i.toNat 19 (by omega) (by decide)
    omega
def epochK (r : List UInt8) (e : Int) : List UInt8 := namedL r (epochHead ++ numL e)
theorem epochK_length (r : List UInt8) (e : Int) : (epochK r e).length = 32 := namedL_length _ _
theorem epoch_str (e : Int) : ((⟨#[101, 112, 111, 99, 104, 32]⟩ : ByteArray) ++ ⟨(numL e).toArray⟩).data.toList = epochHead ++ numL e := by
  simp [epochHead]
end Go.Proofs.YtmnhpkdldeifgaaGreatDoor

namespace Go.Proofs.YtmnhpkdldeifgaaGreatDoor
set_option maxRecDepth 100000

/-- A word turned round to the left. -/
def rotl (x : UInt32) (k : Nat) : UInt32 := (x <<< UInt32.ofNat k) ||| (x >>> UInt32.ofNat (32 - k))
/-- Half of a Quarter: the first, then the second time. -/
def qHalf (j k : Nat) (p : UInt32 × UInt32 × UInt32 × UInt32) : UInt32 × UInt32 × UInt32 × UInt32 :=
  match p with
  | (a, b, c, d) =>
    let a' := a + b
    let d' := rotl (d ^^^ a') j
    let c' := c + d'
    (a', rotl (b ^^^ c') k, c', d')
def quarter (a b c d : UInt32) : UInt32 × UInt32 × UInt32 × UInt32 := qHalf 8 7 (qHalf 16 12 (a, b, c, d))
/-- Quarter of the words at four places. -/
def qAt (l : List UInt32) (p : Nat × Nat × Nat × Nat) : List UInt32 :=
  match p with
  | (i, j, k, m) => (((l.set i (quarter (l.getD i 0) (l.getD j 0) (l.getD k 0) (l.getD m 0)).1).set j (quarter (l.getD i 0) (l.getD j 0) (l.getD k 0) (l.getD m 0)).2.1).set k (quarter (l.getD i 0) (l.getD j 0) (l.getD k 0) (l.getD m 0)).2.2.1).set m (quarter (l.getD i 0) (l.getD j 0) (l.getD k 0) (l.getD m 0)).2.2.2
theorem qAt_length (l : List UInt32) (p : Nat × Nat × Nat × Nat) : (qAt l p).length = l.length := by
  obtain ⟨i, j, k, m⟩ := p
  simp [qAt]
def qPlaces : List (Nat × Nat × Nat × Nat) := [(0, 4, 8, 12), (1, 5, 9, 13), (2, 6, 10, 14), (3, 7, 11, 15), (0, 5, 10, 15), (1, 6, 11, 12), (2, 7, 8, 13), (3, 4, 9, 14)]
def dround (l : List UInt32) : List UInt32 := qPlaces.foldl qAt l
/-- So many of the eight. -/
def dpart (l : List UInt32) (n : Nat) : List UInt32 := (qPlaces.take n).foldl qAt l
theorem dpart_next (l : List UInt32) (n : Nat) (p : Nat × Nat × Nat × Nat) (h : qPlaces[n]? = some p) : dpart l (n + 1) = qAt (dpart l n) p := by
  rw [dpart, take_at h, List.foldl_append]
  rfl
theorem dpart_all (l : List UInt32) : dpart l 8 = dround l := rfl
theorem foldl_qAt_length (ps : List (Nat × Nat × Nat × Nat)) (l : List UInt32) : (ps.foldl qAt l).length = l.length := by
  induction ps generalizing l with
  | nil => rfl
  | cons p ps ih => rw [List.foldl_cons, ih, qAt_length]
theorem dpart_length (l : List UInt32) (n : Nat) : (dpart l n).length = l.length := foldl_qAt_length _ _
theorem dround_length (l : List UInt32) : (dround l).length = l.length := foldl_qAt_length _ _
def drounds (l : List UInt32) : Nat → List UInt32
  | 0 => l
  | n + 1 => dround (drounds l n)
theorem drounds_length (l : List UInt32) (n : Nat) : (drounds l n).length = l.length := by
  induction n with
  | zero => rfl
  | succ n ih => rw [drounds, dround_length, ih]
/-- A word of four bytes, the lowest first. -/
def lword (l : List UInt8) : UInt32 := (l.getD 0 0).toUInt32 ||| (l.getD 1 0).toUInt32 <<< 8 ||| (l.getD 2 0).toUInt32 <<< 16 ||| (l.getD 3 0).toUInt32 <<< 24
/-- So many words of four bytes each. -/
def lwords (l : List UInt8) (n : Nat) : List UInt32 := (List.range n).map fun i => lword ((l.drop (4 * i)).take 4)
theorem lwords_length (l : List UInt8) (n : Nat) : (lwords l n).length = n := by simp [lwords]
theorem lwords_next (l : List UInt8) (n : Nat) : lwords l (n + 1) = lwords l n ++ [lword ((l.drop (4 * n)).take 4)] := by simp [lwords, List.range_succ]
def sigma : List UInt32 := [1634760805, 857760878, 2036477234, 1797285236]
def words16C (key nonce : List UInt8) (ctr : UInt32) : List UInt32 := sigma ++ lwords key 8 ++ ctr :: lwords nonce 3
theorem words16C_length (key nonce : List UInt8) (ctr : UInt32) : (words16C key nonce ctr).length = 16 := by simp [words16C, sigma, lwords_length]
/-- A word's four bytes, the lowest first. -/
def lbytes (x : UInt32) : List UInt8 := [x.toUInt8, (x >>> 8).toUInt8, (x >>> 16).toUInt8, (x >>> 24).toUInt8]
def sumW (a b : List UInt32) : List UInt32 := List.zipWith (· + ·) a b
/-- The bytes of words, one behind the other. -/
def lstream (l : List UInt32) : List UInt8 := (l.map lbytes).flatten
theorem lstream_length (l : List UInt32) : (lstream l).length = 4 * l.length := by
  induction l with
  | nil => rfl
  | cons x l ih =>
    have e : lstream (x :: l) = lbytes x ++ lstream l := by simp [lstream]
    rw [e, List.length_append, ih]
    simp [lbytes]
    omega
theorem lstream_next (l : List UInt32) (k : Nat) (x : UInt32) (h : l[k]? = some x) : lstream (l.take (k + 1)) = lstream (l.take k) ++ lbytes x := by
  rw [take_at h]
  simp [lstream]
def blockC (key nonce : List UInt8) (ctr : UInt32) : List UInt8 := lstream (sumW (drounds (words16C key nonce ctr) 10) (words16C key nonce ctr))
theorem sumW_length (a b : List UInt32) (n : Nat) (ha : a.length = n) (hb : b.length = n) : (sumW a b).length = n := by simp [sumW, ha, hb]
theorem blockC_length (key nonce : List UInt8) (ctr : UInt32) : (blockC key nonce ctr).length = 64 := by
  rw [blockC, lstream_length, sumW_length _ _ 16 (by rw [drounds_length, words16C_length]) (words16C_length _ _ _)]
/-- The byte that the message's byte at i is blended with. -/
def keyByte (key nonce : List UInt8) (ctr : UInt32) (i : Nat) : UInt8 := (blockC key nonce (ctr + UInt32.ofNat (i / 64))).getD (i % 64) 0
def xorC (key nonce : List UInt8) (ctr : UInt32) (msg : List UInt8) : List UInt8 := msg.mapIdx fun i c => c ^^^ keyByte key nonce ctr i
theorem xorC_length (key nonce : List UInt8) (ctr : UInt32) (msg : List UInt8) : (xorC key nonce ctr msg).length = msg.length := by simp [xorC]
theorem xorC_xorC (key nonce : List UInt8) (ctr : UInt32) (msg : List UInt8) : xorC key nonce ctr (xorC key nonce ctr msg) = msg := by
  apply List.ext_getElem?
  intro i
  simp only [xorC, List.getElem?_mapIdx, Option.map_map]
  cases msg[i]? with
  | none => rfl
  | some c => simp [UInt8.xor_assoc]
theorem xorC_take (key nonce : List UInt8) (ctr : UInt32) (msg : List UInt8) (n : Nat) : xorC key nonce ctr (msg.take n) = (xorC key nonce ctr msg).take n := by
  apply List.ext_getElem?
  intro i
  simp only [xorC, List.getElem?_mapIdx, List.getElem?_take]
  split <;> rfl
theorem xorC_next (key nonce : List UInt8) (ctr : UInt32) (msg : List UInt8) (k : Nat) (c : UInt8) (h : msg[k]? = some c) : (xorC key nonce ctr msg).take (k + 1) = (xorC key nonce ctr msg).take k ++ [c ^^^ keyByte key nonce ctr k] := by
  apply take_at
  simp [xorC, h]

theorem ex_quarter : quarter 0x11111111 0x01020304 0x9b8d6f43 0x01234567 = (0xea2a92f4, 0xcb1cf8ce, 0x4581472e, 0x5881c4bb) := by kernel_rfl
def chaS : List (List UInt32) := [[1634760805, 857760878, 2036477234, 1797285236, 0, 0, 0, 0, 0, 0, 0, 0, 0, 0, 0, 0], [3831485001, 465051814, 3810167018, 3865553406, 708572787, 2260680856, 1175146506, 4195784838, 1401801230, 205755969, 16389820, 2315813162, 1807715081, 3274707926, 3147798601, 2277908837], [2987265446, 555851331, 2043056534, 2394542343, 683648334, 243939487, 2031723700, 842999353, 1769110809, 317167340, 3515309448, 1613476332, 1612483213, 416233319, 1624313532, 397031114], [42443425, 3537648111, 4075615518, 3280431870, 2457253921, 936163239, 535217241, 3858322967, 3618735395, 2694131698, 320827381, 1865984460, 1547860575, 496143739, 4107449562, 442763396], [3464398809, 2736782107, 1867918925, 914662315, 3272508460, 998218446, 2296453912, 505049583, 1927367832, 1097802169, 1733510303, 425094469, 2739030577, 28346074, 3103619896, 1123945486], [1308838156, 2549006073, 4135762692, 793240496, 1354003995, 3934035184, 3013862787, 3854227624, 1335860601, 1156916115, 2881466214, 1593652346, 2985647285, 85002989, 1444698375, 3558679988], [153779254, 551088281, 2573988431, 1784856811, 3150129412, 343203913, 2777219198, 1595256366, 2046321669, 3236133586, 875096108, 2039282348, 748642874, 426368672, 803736417, 3190166337], [1843350424, 1608384784, 3655185970, 1947739403, 3718507033, 1188705781, 838547146, 1894081315, 1188398960, 3234391270, 3125483095, 3295685470, 2940917475, 3868489986, 646047163, 674516562], [4142613381, 256929999, 2185938132, 4278346116, 1910216669, 1624086861, 2910867510, 2312475086, 2656191475, 382791205, 2196319126, 3503982164, 1805033478, 1199192055, 3527735948, 2991348835], [172609723, 4252221419, 3259208404, 3775952493, 2081980761, 957320013, 170075935, 235214466, 1531487041, 140632055, 1563676091, 399783725, 3319306763, 2649833516, 2961880544, 2236122496], [1282424849, 1562217778, 1812475918, 3181191391, 3088700093, 451775904, 3438229160, 3339548555, 2086224346, 2370328401, 1071654007, 927652024, 4105716586, 480319509, 1773569987, 2254827186]]
theorem chaS_0 : dround (chaS.getD 0 []) = chaS.getD 1 [] := by kernel_rfl
theorem chaS_1 : dround (chaS.getD 1 []) = chaS.getD 2 [] := by kernel_rfl
theorem chaS_2 : dround (chaS.getD 2 []) = chaS.getD 3 [] := by kernel_rfl
theorem chaS_3 : dround (chaS.getD 3 []) = chaS.getD 4 [] := by kernel_rfl
theorem chaS_4 : dround (chaS.getD 4 []) = chaS.getD 5 [] := by kernel_rfl
theorem chaS_5 : dround (chaS.getD 5 []) = chaS.getD 6 [] := by kernel_rfl
theorem chaS_6 : dround (chaS.getD 6 []) = chaS.getD 7 [] := by kernel_rfl
theorem chaS_7 : dround (chaS.getD 7 []) = chaS.getD 8 [] := by kernel_rfl
theorem chaS_8 : dround (chaS.getD 8 []) = chaS.getD 9 [] := by kernel_rfl
theorem chaS_9 : dround (chaS.getD 9 []) = chaS.getD 10 [] := by kernel_rfl
theorem chaS_words : words16C (List.replicate 32 0) (List.replicate 12 0) 0 = chaS.getD 0 [] := by kernel_rfl
theorem chaS_all : drounds (chaS.getD 0 []) 10 = chaS.getD 10 [] := by
  simp only [drounds, chaS_0, chaS_1, chaS_2, chaS_3, chaS_4, chaS_5, chaS_6, chaS_7, chaS_8, chaS_9]
theorem chaS_byte : (lstream (sumW (chaS.getD 10 []) (chaS.getD 0 []))).getD 0 0 = 118 := by kernel_rfl
theorem ex_xor : xorC (List.replicate 32 0) (List.replicate 12 0) 0 [0] = [118] := by
  have h : (blockC (List.replicate 32 0) (List.replicate 12 0) 0).getD 0 0 = 118 := by rw [blockC, chaS_words, chaS_all, chaS_byte]
  have h2 : keyByte (List.replicate 32 0) (List.replicate 12 0) 0 0 = 118 := by
    rw [keyByte]
    exact h
  simp only [xorC, List.mapIdx_cons, List.mapIdx_nil, h2]
  rfl
end Go.Proofs.YtmnhpkdldeifgaaGreatDoor
