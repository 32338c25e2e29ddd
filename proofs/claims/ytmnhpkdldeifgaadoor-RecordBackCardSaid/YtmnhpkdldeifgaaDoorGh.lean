/- Plain mathematics of package digest: the block, what stands behind a text, the sum. It speaks of no program. Plain mathematics of package mac: a key made long, the tag; the chapter's example. It speaks of no program. Plain mathematics of package derive: Extract, Expand; the chapter's example. It speaks of no program. Plain mathematics of package label: digits, numbers and bytes as digits, names and keys. It speaks of no program. An epoch's key (layer 18), as mathematics. -/
import Derived.Test.YtmnhpkdldeifgaaDoorGg
import Derived.Test.YtmnhpkdldeifgaaDoorGa
namespace Go.Proofs.YtmnhpkdldeifgaaDoor
set_option maxRecDepth 100000

/-- k0 to k63. -/
def kt : List UInt32 := [1116352408, 1899447441, 3049323471, 3921009573, 961987163, 1508970993, 2453635748, 2870763221, 3624381080, 310598401, 607225278, 1426881987, 1925078388, 2162078206, 2614888103, 3248222580, 3835390401, 4022224774, 264347078, 604807628, 770255983, 1249150122, 1555081692, 1996064986, 2554220882, 2821834349, 2952996808, 3210313671, 3336571891, 3584528711, 113926993, 338241895, 666307205, 773529912, 1294757372, 1396182291, 1695183700, 1986661051, 2177026350, 2456956037, 2730485921, 2820302411, 3259730800, 3345764771, 3516065817, 3600352804, 4094571909, 275423344, 430227734, 506948616, 659060556, 883997877, 958139571, 1322822218, 1537002063, 1747873779, 1955562222, 2024104815, 2227730452, 2361852424, 2428436474, 2756734187, 3204031479, 3329325298]
def start : List UInt32 := [1779033703, 3144134277, 1013904242, 2773480762, 1359893119, 2600822924, 528734635, 1541459225]

/-- The next word of w. -/
def nextW (l : List UInt32) : UInt32 :=
  l.getD (l.length - 16) 0 + l.getD (l.length - 7) 0 + (rotr (l.getD (l.length - 15) 0) 7 ^^^ rotr (l.getD (l.length - 15) 0) 18 ^^^ (l.getD (l.length - 15) 0) >>> 3) + (rotr (l.getD (l.length - 2) 0) 17 ^^^ rotr (l.getD (l.length - 2) 0) 19 ^^^ (l.getD (l.length - 2) 0) >>> 10)
def schedN (b : List UInt32) : Nat → List UInt32
  | 0 => b
  | n + 1 => schedN b n ++ [nextW (schedN b n)]
theorem schedN_length (b : List UInt32) (n : Nat) : (schedN b n).length = b.length + n := by
  induction n with
  | zero => rfl
  | succ n ih => simp [schedN, ih]; omega

def tX (k w e f g h : UInt32) : UInt32 := h + (rotr e 6 ^^^ rotr e 11 ^^^ rotr e 25) + (e &&& f ^^^ ~~~e &&& g) + k + w
def tY (a b c : UInt32) : UInt32 := (rotr a 2 ^^^ rotr a 13 ^^^ rotr a 22) + (a &&& b ^^^ a &&& c ^^^ b &&& c)
/-- Once round. -/
def rnd (k w : UInt32) : List UInt32 → List UInt32
  | [a, b, c, d, e, f, g, h] => [tX k w e f g h + tY a b c, a, b, c, d + tX k w e f g h, e, f, g]
  | s => s
def rounds (W s : List UInt32) : Nat → List UInt32
  | 0 => s
  | t + 1 => rnd (kt.getD t 0) (W.getD t 0) (rounds W s t)
theorem rnd_length (k w : UInt32) (s : List UInt32) : (rnd k w s).length = s.length := by
  unfold rnd
  split <;> simp
theorem rounds_length (W s : List UInt32) (t : Nat) : (rounds W s t).length = s.length := by
  induction t with
  | zero => rfl
  | succ t ih => simp [rounds, rnd_length, ih]

/-- Bytes, the highest first, as a word. -/
def word4 (l : List UInt8) : UInt32 := l.foldl (fun a c => a <<< 8 ||| c.toUInt32) 0
def words16 (l : List UInt8) : List UInt32 := (List.range 16).map fun j => word4 ((l.drop (4 * j)).take 4)
theorem words16_length (l : List UInt8) : (words16 l).length = 16 := by simp [words16]
def wordsOf (l : List UInt8) : List UInt32 := schedN (words16 l) 48
theorem wordsOf_length (l : List UInt8) : (wordsOf l).length = 64 := by rw [wordsOf, schedN_length, words16_length]
def addW (s t : List UInt32) : List UInt32 := List.zipWith (· + ·) s t
/-- What the state becomes by a block. -/
def blockS (s : List UInt32) (l : List UInt8) : List UInt32 := addW s (rounds (wordsOf l) s 64)
theorem blockS_length (s : List UInt32) (l : List UInt8) (h : s.length = 8) : (blockS s l).length = 8 := by simp [blockS, addW, rounds_length, h]
/-- By n blocks, one behind the other. -/
def blocks (s : List UInt32) (l : List UInt8) : Nat → List UInt32
  | 0 => s
  | n + 1 => blockS (blocks s l n) ((l.drop (64 * n)).take 64)
theorem blocks_length (s : List UInt32) (l : List UInt8) (n : Nat) (h : s.length = 8) : (blocks s l n).length = 8 := by
  induction n with
  | zero => exact h
  | succ n ih => exact blockS_length _ _ ih
theorem blocks_left (s : List UInt32) (a b : List UInt8) (m n : Nat) (ha : a.length = 64 * m) (hn : n ≤ m) : blocks s (a ++ b) n = blocks s a n := by
  induction n with
  | zero => rfl
  | succ n ih =>
    rw [blocks, blocks, ih (by omega), List.drop_append_of_le_length (by omega), List.take_append_of_le_length (by simp; omega)]
theorem blocks_add (s : List UInt32) (a b : List UInt8) (m n : Nat) (ha : a.length = 64 * m) : blocks s (a ++ b) (m + n) = blocks (blocks s a m) b n := by
  induction n with
  | zero => exact blocks_left s a b m m ha (Nat.le_refl _)
  | succ n ih =>
    rw [← Nat.add_assoc, blocks, blocks, ih]
    have e : 64 * (m + n) = a.length + 64 * n := by omega
    rw [e, List.drop_append, List.drop_eq_nil_of_le (by omega), List.nil_append, Nat.add_sub_cancel_left]

/-- Eight bytes, the highest first. -/
def be8 (x : Nat) : List UInt8 := (List.range 8).map fun i => UInt8.ofNat (x / 256 ^ (7 - i))
theorem be8_length (x : Nat) : (be8 x).length = 8 := by simp [be8]
def zerosFor (n : Nat) : Nat := (128 - (n % 64 + 9)) % 64
/-- What stands behind n bytes. -/
def padL (n : Nat) : List UInt8 := 128 :: (List.replicate (zerosFor n) 0 ++ be8 (n * 8))
theorem padL_length (n : Nat) : (padL n).length = 9 + zerosFor n := by simp [padL, be8_length]; omega
theorem padL_whole (n : Nat) : (n + (padL n).length) % 64 = 0 := by rw [padL_length, zerosFor]; omega
theorem padL_most (n : Nat) : 9 ≤ (padL n).length ∧ (padL n).length ≤ 72 := by rw [padL_length, zerosFor]; omega
/-- A word's four bytes, the highest first. -/
def bytes4 (x : UInt32) : List UInt8 := [(x >>> 24).toUInt8, (x >>> 16).toUInt8, (x >>> 8).toUInt8, x.toUInt8]
def stBytes (s : List UInt32) : List UInt8 := s.flatMap bytes4
theorem stBytes_length (s : List UInt32) : (stBytes s).length = 4 * s.length := by
  induction s with
  | nil => rfl
  | cons x s ih =>
    have e : stBytes (x :: s) = bytes4 x ++ stBytes s := rfl
    rw [e, List.length_append, ih]
    simp [bytes4]
    omega
def allOf (l : List UInt8) : List UInt8 := l ++ padL l.length
theorem allOf_length (l : List UInt8) : (allOf l).length = l.length + (padL l.length).length := by simp [allOf]
def sumS (l : List UInt8) : List UInt32 := blocks start (allOf l) ((allOf l).length / 64)
theorem sumS_length (l : List UInt8) : (sumS l).length = 8 := blocks_length _ _ _ rfl
/-- The sum. -/
def sumL (l : List UInt8) : List UInt8 := stBytes (sumS l)
theorem sumL_length (l : List UInt8) : (sumL l).length = 32 := by rw [sumL, stBytes_length, sumS_length]
/-- Bytes, the highest first, as a number of 64 bits. -/
def word8 (l : List UInt8) : UInt64 := l.foldl (fun a c => a <<< 8 ||| c.toUInt64) 0
def idL (l : List UInt8) : UInt64 := word8 ((sumL l).take 8)
end Go.Proofs.YtmnhpkdldeifgaaDoor

namespace Go.Proofs.YtmnhpkdldeifgaaDoor
set_option maxRecDepth 100000

/-- A key made 64 bytes. -/
def baseL (k : List UInt8) : List UInt8 := if k.length ≤ 64 then k else sumL k
def keyL (k : List UInt8) : List UInt8 := baseL k ++ List.replicate (64 - (baseL k).length) 0
theorem baseL_length (k : List UInt8) : (baseL k).length ≤ 64 := by
  unfold baseL
  split
  · assumption
  · rw [sumL_length]; decide
theorem keyL_length (k : List UInt8) : (keyL k).length = 64 := by
  have := baseL_length k
  simp [keyL]
  omega
def xorB (c : UInt8) (l : List UInt8) : List UInt8 := l.map (· ^^^ c)
theorem xorB_length (c : UInt8) (l : List UInt8) : (xorB c l).length = l.length := by simp [xorB]
/-- The tag. -/
def macL (k m : List UInt8) : List UInt8 := sumL (xorB 92 (keyL k) ++ sumL (xorB 54 (keyL k) ++ m))
theorem macL_length (k m : List UInt8) : (macL k m).length = 32 := sumL_length _
theorem macL_key (k k' m : List UInt8) (h : keyL k = keyL k') : macL k m = macL k' m := by rw [macL, macL, h]
theorem keyL_keyL (k : List UInt8) : keyL (keyL k) = keyL k := by
  have h : baseL (keyL k) = keyL k := by
    rw [baseL, if_pos (by rw [keyL_length]; exact Nat.le_refl _)]
  rw [keyL, h, keyL_length]
  simp
theorem keyL_zero (k : List UInt8) (h : k.length ≤ 63) : keyL (k ++ [0]) = keyL k := by
  have h1 : baseL (k ++ [0]) = k ++ [0] := by rw [baseL, if_pos (by simp; omega)]
  have h2 : baseL k = k := by rw [baseL, if_pos (by omega)]
  have e : 64 - k.length = (64 - (k ++ [0]).length) + 1 := by simp; omega
  rw [keyL, keyL, h1, h2, e, List.replicate_succ]
  simp
end Go.Proofs.YtmnhpkdldeifgaaDoor

namespace Go.Proofs.YtmnhpkdldeifgaaDoor
set_option maxRecDepth 100000

def extractL (salt secret : List UInt8) : List UInt8 := macL (if salt.length = 0 then List.replicate 32 0 else salt) secret
theorem extractL_length (a b : List UInt8) : (extractL a b).length = 32 := macL_length _ _
/-- t(i). -/
def exT (key info : List UInt8) : Nat → List UInt8
  | 0 => []
  | i + 1 => macL key (exT key info i ++ info ++ [UInt8.ofNat (i + 1)])
/-- t(1) to t(i), one behind the other. -/
def exOut (key info : List UInt8) : Nat → List UInt8
  | 0 => []
  | i + 1 => exOut key info i ++ exT key info (i + 1)
theorem exT_length (key info : List UInt8) (i : Nat) : (exT key info (i + 1)).length = 32 := macL_length _ _
theorem exT_most (key info : List UInt8) (i : Nat) : (exT key info i).length ≤ 32 := by
  cases i with
  | zero => simp [exT]
  | succ i => rw [exT_length]; exact Nat.le_refl _
theorem exOut_length (key info : List UInt8) (i : Nat) : (exOut key info i).length = 32 * i := by
  induction i with
  | zero => rfl
  | succ i ih => rw [exOut, List.length_append, ih, exT_length]; omega
/-- More parts go on where fewer end. -/
theorem exOut_take (key info : List UInt8) (i j n : Nat) (hij : i ≤ j) (hn : n ≤ 32 * i) : (exOut key info j).take n = (exOut key info i).take n := by
  induction j with
  | zero => obtain rfl : i = 0 := by omega
            rfl
  | succ j ih =>
    by_cases h : i = j + 1
    · rw [h]
    · rw [exOut, List.take_append_of_le_length (by rw [exOut_length]; omega)]
      exact ih (by omega)
/-- How many parts. -/
def partsFor (n : Nat) : Nat := (n + 31) / 32
def expandL (key info : List UInt8) (n : Nat) : List UInt8 := (exOut key info (partsFor n)).take n
theorem expandL_length (key info : List UInt8) (n : Nat) : (expandL key info n).length = n := by
  rw [expandL, List.length_take, exOut_length, partsFor]
  omega
theorem expandL_take (key info : List UInt8) (n m : Nat) (h : n ≤ m) : (expandL key info m).take n = expandL key info n := by
  rw [expandL, expandL, List.take_take, Nat.min_eq_left h]
  exact exOut_take key info (partsFor n) (partsFor m) n (by simp only [partsFor]; omega) (by simp only [partsFor]; omega)
theorem expandL_at (key info : List UInt8) (n i : Nat) (h : n ≤ 32 * i) (h' : 32 * i < n + 32) : (exOut key info i).take n = expandL key info n := by
  have : i = partsFor n := by simp only [partsFor]; omega
  rw [this]
  rfl
def carc : List UInt8 := [99, 97, 114, 99, 97, 110, 101, 116, 32]
def namedL (key name : List UInt8) : List UInt8 := expandL key (carc ++ name) 32
theorem namedL_length (k n : List UInt8) : (namedL k n).length = 32 := expandL_length _ _ _
end Go.Proofs.YtmnhpkdldeifgaaDoor

namespace Go.Proofs.YtmnhpkdldeifgaaDoor
set_option maxRecDepth 100000

def hexD : List UInt8 := [48, 49, 50, 51, 52, 53, 54, 55, 56, 57, 97, 98, 99, 100, 101, 102]
def hexC (d : Nat) : UInt8 := hexD.getD d 0
/-- A digit's number; 16: none. -/
def digN (c : UInt8) : Nat := hexD.findIdx (· == c)
theorem digN_le (c : UInt8) : digN c ≤ 16 := List.findIdx_le_length
theorem digN_hexC (d : Nat) (h : d < 16) : digN (hexC d) = d := by
  have : ∀ d : Fin 16, digN (hexC d.val) = d.val := by decide
  exact this ⟨d, h⟩
theorem hexC_digN (c : UInt8) (h : digN c < 16) : hexC (digN c) = c := by
  have h1 := List.findIdx_getElem (w := (show hexD.findIdx (· == c) < hexD.length from h))
  have h2 : hexD[hexD.findIdx (· == c)]'(show hexD.findIdx (· == c) < hexD.length from h) = c := by simpa using h1
  rw [hexC, digN, List.getD, List.getElem?_eq_getElem (show hexD.findIdx (· == c) < hexD.length from h), h2]
  rfl

/-- The last k digits of a number. -/
def hexTo (n : Nat) : Nat → List UInt8
  | 0 => []
  | k + 1 => hexC (n / 16 ^ k % 16) :: hexTo n k
theorem hexTo_length (n k : Nat) : (hexTo n k).length = k := by
  induction k with
  | zero => rfl
  | succ k ih => rw [hexTo, List.length_cons, ih]
def hexL (n : Nat) : List UInt8 := hexTo n 16
theorem hexL_length (n : Nat) : (hexL n).length = 16 := hexTo_length n 16

/-- The number that digits are. -/
def ofHex (l : List UInt8) : Nat := l.foldl (fun n c => n * 16 + digN c) 0
theorem ofHex_snoc (l : List UInt8) (c : UInt8) : ofHex (l ++ [c]) = ofHex l * 16 + digN c := by simp [ofHex]
theorem ofHex_take (l : List UInt8) (k : Nat) (c : UInt8) (h : l[k]? = some c) : ofHex (l.take (k + 1)) = ofHex (l.take k) * 16 + digN c := by
  rw [take_at h, ofHex_snoc]
def allHex (l : List UInt8) : Bool := l.all fun c => decide (digN c < 16)
theorem allHex_take (l : List UInt8) (k : Nat) (c : UInt8) (h : l[k]? = some c) : allHex (l.take (k + 1)) = (allHex (l.take k) && decide (digN c < 16)) := by
  rw [take_at h]
  simp [allHex]
theorem allHex_not (l : List UInt8) (k : Nat) (c : UInt8) (h : l[k]? = some c) (hc : digN c = 16) : allHex l = false := by
  rw [allHex, List.all_eq_false]
  exact ⟨c, List.mem_of_getElem? h, by simp [hc]⟩
theorem ofHex_lt (l : List UInt8) (h : allHex l = true) : ofHex l < 16 ^ l.length := by
  have key : ∀ (l : List UInt8) (n : Nat), (∀ c ∈ l, digN c < 16) → l.foldl (fun n c => n * 16 + digN c) n < (n + 1) * 16 ^ l.length := by
    intro l
    induction l with
    | nil => intro n _; simp
    | cons c l ih =>
      intro n hl
      have h1 := ih (n * 16 + digN c) fun d hd => hl d (by simp [hd])
      have h2 := hl c (by simp)
      simp only [List.foldl_cons, List.length_cons, Nat.pow_succ]
      have h3 : (n * 16 + digN c + 1) * 16 ^ l.length ≤ ((n + 1) * 16) * 16 ^ l.length := Nat.mul_le_mul_right _ (by omega)
      have h4 : ((n + 1) * 16) * 16 ^ l.length = (n + 1) * (16 ^ l.length * 16) := by rw [Nat.mul_assoc, Nat.mul_comm 16]
      omega
  have := key l 0 (by simpa [allHex] using h)
  simpa [ofHex] using this
/-- ReadHex's answers. -/
def rhB (l : List UInt8) : Bool := decide (l.length = 16) && allHex l
def rhA (l : List UInt8) : Nat := if rhB l = true then ofHex l else 0
theorem hexTo_all (n k : Nat) : allHex (hexTo n k) = true := by
  induction k with
  | zero => rfl
  | succ k ih =>
    rw [hexTo]
    have h : digN (hexC (n / 16 ^ k % 16)) < 16 := by rw [digN_hexC _ (Nat.mod_lt _ (by decide))]; exact Nat.mod_lt _ (by decide)
    simp only [allHex, List.all_cons, decide_eq_true h, Bool.true_and] at ih ⊢
    exact ih
theorem foldHex_hexTo (n k a : Nat) : (hexTo n k).foldl (fun n c => n * 16 + digN c) a = a * 16 ^ k + n % 16 ^ k := by
  induction k generalizing a with
  | zero => simp [hexTo, Nat.mod_one]
  | succ k ih =>
    rw [hexTo, List.foldl_cons, ih, digN_hexC _ (Nat.mod_lt _ (by decide)), Nat.pow_succ, Nat.mod_mul]
    have e1 : (a * 16 + n / 16 ^ k % 16) * 16 ^ k = a * (16 ^ k * 16) + 16 ^ k * (n / 16 ^ k % 16) := by rw [Nat.add_mul, Nat.mul_assoc, Nat.mul_comm 16, Nat.mul_comm (n / 16 ^ k % 16)]
    rw [e1]
    omega
theorem read_hex (n : Nat) (h : n < 18446744073709551616) : rhB (hexL n) = true ∧ rhA (hexL n) = n := by
  have hb : rhB (hexL n) = true := by rw [rhB, hexL_length, hexL, hexTo_all]; rfl
  refine ⟨hb, ?_⟩
  rw [rhA, if_pos hb, ofHex, hexL, foldHex_hexTo, Nat.zero_mul, Nat.zero_add]
  exact Nat.mod_eq_of_lt h

/-- Bytes' digits. -/
def pairC (c : UInt8) : List UInt8 := [hexC (c.toNat / 16), hexC (c.toNat % 16)]
def pairsC (b : List UInt8) : List UInt8 := b.flatMap pairC
theorem pairsC_length (b : List UInt8) : (pairsC b).length = 2 * b.length := by
  induction b with
  | nil => rfl
  | cons c b ih =>
    have e : pairsC (c :: b) = pairC c ++ pairsC b := rfl
    rw [e, List.length_append, ih, List.length_cons]
    simp [pairC]
    omega
theorem pairsC_snoc (b : List UInt8) (c : UInt8) : pairsC (b ++ [c]) = pairsC b ++ pairC c := by simp [pairsC]
def bytesL (b : List UInt8) : List UInt8 := if b = [] then [45] else pairsC b
/-- The bytes that digits are. -/
def unpair : List UInt8 → Option (List UInt8)
  | [] => some []
  | [_] => none
  | a :: b :: l => if digN a = 16 ∨ digN b = 16 then none else (unpair l).map fun t => UInt8.ofNat (16 * digN a + digN b) :: t
theorem unpair_pairs (b : List UInt8) : unpair (pairsC b) = some b := by
  induction b with
  | nil => rfl
  | cons c b ih =>
    have e : pairsC (c :: b) = hexC (c.toNat / 16) :: hexC (c.toNat % 16) :: pairsC b := rfl
    have hc := c.toNat_lt
    rw [e, unpair, digN_hexC _ (by omega), digN_hexC _ (by omega), if_neg (by omega), ih]
    simp only [Option.map_some]
    congr 2
    rw [show 16 * (c.toNat / 16) + c.toNat % 16 = c.toNat by omega]
    simp
theorem unpair_snoc (p out : List UInt8) (a b : UInt8) (h : unpair p = some out) : unpair (p ++ [a, b]) = if digN a = 16 ∨ digN b = 16 then none else some (out ++ [UInt8.ofNat (16 * digN a + digN b)]) := by
  induction p using unpair.induct generalizing out with
  | case1 =>
    injection h with h
    subst h
    rw [List.nil_append, unpair]
    split
    · rfl
    · rfl
  | case2 x => simp [unpair] at h
  | case3 x y l hxy => simp [unpair, hxy] at h
  | case4 x y l hxy ih =>
    rw [unpair, if_neg hxy] at h
    cases hl : unpair l with
    | none => rw [hl] at h; simp at h
    | some t =>
      rw [hl] at h
      simp only [Option.map_some] at h
      injection h with h
      subst h
      have e : x :: y :: l ++ [a, b] = x :: y :: (l ++ [a, b]) := rfl
      rw [e, unpair, if_neg hxy, ih t hl]
      split
      · rfl
      · rfl
theorem unpair_none (p q out : List UInt8) (a b : UInt8) (h : unpair p = some out) (hab : digN a = 16 ∨ digN b = 16) : unpair (p ++ a :: b :: q) = none := by
  induction p using unpair.induct generalizing out with
  | case1 => rw [List.nil_append, unpair, if_pos hab]
  | case2 x => simp [unpair] at h
  | case3 x y l hxy => simp [unpair, hxy] at h
  | case4 x y l hxy ih =>
    rw [unpair, if_neg hxy] at h
    cases hl : unpair l with
    | none => rw [hl] at h; simp at h
    | some t =>
      have e : x :: y :: l ++ a :: b :: q = x :: y :: (l ++ a :: b :: q) := rfl
      rw [e, unpair, if_neg hxy, ih t hl]
      rfl
/-- ReadBytes' answer, if it is one. -/
def rbO (l : List UInt8) : Option (List UInt8) := if l = [45] then some [] else if l.length = 0 ∨ l.length % 2 = 1 ∨ 8192 < l.length then none else unpair l
def rbB (l : List UInt8) : Bool := (rbO l).isSome
def rbA (l : List UInt8) : List UInt8 := (rbO l).getD []
theorem read_bytes (b : List UInt8) (h : b.length ≤ 4096) : rbO (bytesL b) = some b := by
  rw [bytesL]
  by_cases hb : b = []
  · rw [if_pos hb, hb]
    rfl
  · have hl := pairsC_length b
    have h0 : 0 < b.length := List.length_pos_iff.2 hb
    rw [if_neg hb, rbO, if_neg (fun e => by rw [e] at hl; simp at hl; omega), if_neg (by omega), unpair_pairs]

/-- A number's digits, by ten. -/
def decL (n : Nat) : List UInt8 := if n < 10 then [hexC n] else decL (n / 10) ++ [hexC (n % 10)]
termination_by n
decreasing_by omega
theorem decL_lt (n : Nat) (h : n < 10) : decL n = [hexC n] := by rw [decL, if_pos h]
theorem decL_ge (n : Nat) (h : ¬ n < 10) : decL n = decL (n / 10) ++ [hexC (n % 10)] := by rw [decL, if_neg h]
/-- Number's answer. -/
def numL (i : Int) : List UInt8 := if i < 0 then 45 :: decL i.natAbs else decL i.toNat
theorem decL_length (n k : Nat) (h : n < 10 ^ k) (hk : 0 < k) : (decL n).length ≤ k := by
  induction k generalizing n with
  | zero => omega
  | succ k ih =>
    by_cases h1 : n < 10
    · rw [decL_lt n h1]
      simp
    · rw [decL_ge n h1, List.length_append, List.length_singleton]
      have : 0 < k := by
        rcases Nat.eq_zero_or_pos k with rfl | h
        · omega
        · exact h
      have h2 : n / 10 < 10 ^ k := by rw [Nat.pow_succ] at h; omega
      have := ih (n / 10) h2 this
      omega
/-- Is it one of them? -/
def inB (l : List UInt8) (c : UInt8) : Bool := l.contains c
theorem inB_true (l : List UInt8) (c : UInt8) (h : c ∈ l) : inB l c = true := List.contains_iff_mem.2 h
theorem inB_mem (l : List UInt8) (c : UInt8) (h : inB l c = true) : c ∈ l := List.contains_iff_mem.1 h

/-- Small letters; and digits, and the hyphen. -/
def lowL : List UInt8 := [97, 98, 99, 100, 101, 102, 103, 104, 105, 106, 107, 108, 109, 110, 111, 112, 113, 114, 115, 116, 117, 118, 119, 120, 121, 122]
def nameC : List UInt8 := [97, 98, 99, 100, 101, 102, 103, 104, 105, 106, 107, 108, 109, 110, 111, 112, 113, 114, 115, 116, 117, 118, 119, 120, 121, 122, 48, 49, 50, 51, 52, 53, 54, 55, 56, 57, 45]
/-- Name's answer. -/
def nameB (l : List UInt8) : Bool := decide (1 ≤ l.length) && decide (l.length ≤ 16) && l.head?.any (inB lowL) && l.all (inB nameC)
/-- Key's answer. -/
def keyC (c : UInt8) : Bool := decide (32 < c.toNat) && decide (c.toNat < 127)
def keyB (l : List UInt8) : Bool := decide (1 ≤ l.length) && decide (l.length ≤ 24) && l.all keyC

theorem all_take {α : Type} (p : α → Bool) (l : List α) (k : Nat) (c : α) (h : l[k]? = some c) : (l.take (k + 1)).all p = ((l.take k).all p && p c) := by
  rw [take_at h]
  simp
theorem all_not {α : Type} (p : α → Bool) (l : List α) (k : Nat) (c : α) (h : l[k]? = some c) (hc : p c = false) : l.all p = false := by
  rw [List.all_eq_false]
  exact ⟨c, List.mem_of_getElem? h, by simp [hc]⟩
end Go.Proofs.YtmnhpkdldeifgaaDoor

namespace Go.Proofs.YtmnhpkdldeifgaaDoor
set_option maxRecDepth 100000

def epochHead : List UInt8 := [101, 112, 111, 99, 104, 32]
theorem numL_most (i : Int) (h : -9223372036854775808 ≤ i) (h2 : i < 9223372036854775808) : (numL i).length ≤ 20 := by
  have e : (10 : Nat) ^ 19 = 10000000000000000000 := by decide
  rw [numL]
  split
  · have := decL_length i.natAbs 19 (by omega) (by decide)
    rw [List.length_cons]
    omega
  · have := decL_length i.toNat 19 (by omega) (by decide)
    omega
def epochK (r : List UInt8) (e : Int) : List UInt8 := namedL r (epochHead ++ numL e)
theorem epochK_length (r : List UInt8) (e : Int) : (epochK r e).length = 32 := namedL_length _ _
theorem epoch_str (e : Int) : ((⟨#[101, 112, 111, 99, 104, 32]⟩ : ByteArray) ++ ⟨(numL e).toArray⟩).data.toList = epochHead ++ numL e := by
  simp [epochHead]
end Go.Proofs.YtmnhpkdldeifgaaDoor
