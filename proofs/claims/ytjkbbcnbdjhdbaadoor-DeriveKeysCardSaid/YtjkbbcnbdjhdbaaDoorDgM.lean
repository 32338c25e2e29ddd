/- Plain mathematics of package digest: the block, what stands behind a text, the sum. It speaks of no program. -/
import Derived.Test.YtjkbbcnbdjhdbaaDoorDgW
namespace Go.Proofs.YtjkbbcnbdjhdbaaDoor

/-- k0 to k63. -/
def kt : List UInt32 := [1116352408, 1899447441, 3049323471, 3921009573, 961987163, 1508970993, 2453635748, 2870763221, 3624381080, 310598401, 607225278, 1426881987, 1925078388, 2162078206, 2614888103, 3248222580, 3835390401, 4022224774, 264347078, 604807628, 770255983, 1249150122, 1555081692, 1996064986, 2554220882, 2821834349, 2952996808, 3210313671, 3336571891, 3584528711, 113926993, 338241895, 666307205, 773529912, 1294757372, 1396182291, 1695183700, 1986661051, 2177026350, 2456956037, 2730485921, 2820302411, 3259730800, 3345764771, 3516065817, 3600352804, 4094571909, 275423344, 430227734, 506948616, 659060556, 883997877, 958139571, 1322822218, 1537002063, 1747873779, 1955562222, 2024104815, 2227730452, 2361852424, 2428436474, 2756734187, 3204031479, 3329325298]
def start : List UInt32 := [1779033703, 3144134277, 1013904242, 2773480762, 1359893119, 2600822924, 528734635, 1541459225]

/-- The next word of w. -/
def nextW (l : List UInt32) : UInt32 :=
  l.getD (l.length - 16) 0 + l.getD (l.length - 7) 0 + (rotr (l.getD (l.length - 15) 0) 7 ^^^ rotr (l.getD (l.length - 15) 0) 18 ^^^ (l.getD (l.length - 15) 0) >>> 3) + (rotr (l.getD (l.length - 2) 0) 17 ^^^ rotr (l.getD (l.length - 2) 0) 19 ^^^ (l.getD (l.length - 2) 0) >>> 10)
def schedN (b : List UInt32) : Nat → List UInt32
  | 0 => b
  | n + 1 => schedN b n ++ [nextW (schedN b n)]
theorem schedN_length (b : List UInt32) (n : Nat) : (schedN b n).length = b.length + n := by
  induction n with
  | zero => rfl
  | succ n ih => simp [schedN, ih]; omega

def tX (k w e f g h : UInt32) : UInt32 := h + (rotr e 6 ^^^ rotr e 11 ^^^ rotr e 25) + (e &&& f ^^^ ~~~e &&& g) + k + w
def tY (a b c : UInt32) : UInt32 := (rotr a 2 ^^^ rotr a 13 ^^^ rotr a 22) + (a &&& b ^^^ a &&& c ^^^ b &&& c)
/-- Once round. -/
def rnd (k w : UInt32) : List UInt32 → List UInt32
  | [a, b, c, d, e, f, g, h] => [tX k w e f g h + tY a b c, a, b, c, d + tX k w e f g h, e, f, g]
  | s => s
def rounds (W s : List UInt32) : Nat → List UInt32
  | 0 => s
  | t + 1 => rnd (kt.getD t 0) (W.getD t 0) (rounds W s t)
theorem rnd_length (k w : UInt32) (s : List UInt32) : (rnd k w s).length = s.length := by
  unfold rnd
  split <;> simp
theorem rounds_length (W s : List UInt32) (t : Nat) : (rounds W s t).length = s.length := by
  induction t with
  | zero => rfl
  | succ t ih => simp [rounds, rnd_length, ih]

/-- Bytes, the highest first, as a word. -/
def word4 (l : List UInt8) : UInt32 := l.foldl (fun a c => a <<< 8 ||| c.toUInt32) 0
def words16 (l : List UInt8) : List UInt32 := (List.range 16).map fun j => word4 ((l.drop (4 * j)).take 4)
theorem words16_length (l : List UInt8) : (words16 l).length = 16 := by simp [words16]
def wordsOf (l : List UInt8) : List UInt32 := schedN (words16 l) 48
theorem wordsOf_length (l : List UInt8) : (wordsOf l).length = 64 := by rw [wordsOf, schedN_length, words16_length]
def addW (s t : List UInt32) : List UInt32 := List.zipWith (· + ·) s t
/-- What the state becomes by a block. -/
def blockS (s : List UInt32) (l : List UInt8) : List UInt32 := addW s (rounds (wordsOf l) s 64)
theorem blockS_length (s : List UInt32) (l : List UInt8) (h : s.length = 8) : (blockS s l).length = 8 := by simp [blockS, addW, rounds_length, h]
/-- By n blocks, one behind the other. -/
def blocks (s : List UInt32) (l : List UInt8) : Nat → List UInt32
  | 0 => s
  | n + 1 => blockS (blocks s l n) ((l.drop (64 * n)).take 64)
theorem blocks_length (s : List UInt32) (l : List UInt8) (n : Nat) (h : s.length = 8) : (blocks s l n).length = 8 := by
  induction n with
  | zero => exact h
  | succ n ih => exact blockS_length _ _ ih
theorem blocks_left (s : List UInt32) (a b : List UInt8) (m n : Nat) (ha : a.length = 64 * m) (hn : n ≤ m) : blocks s (a ++ b) n = blocks s a n := by
  induction n with
  | zero => rfl
  | succ n ih =>
    rw [blocks, blocks, ih (by omega), List.drop_append_of_le_length (by omega), List.take_append_of_le_length (by simp; omega)]
theorem blocks_add (s : List UInt32) (a b : List UInt8) (m n : Nat) (ha : a.length = 64 * m) : blocks s (a ++ b) (m + n) = blocks (blocks s a m) b n := by
  induction n with
  | zero => exact blocks_left s a b m m ha (Nat.le_refl _)
  | succ n ih =>
    rw [← Nat.add_assoc, blocks, blocks, ih]
    have e : 64 * (m + n) = a.length + 64 * n := by omega
    rw [e, List.drop_append, List.drop_eq_nil_of_le (by omega), List.nil_append, Nat.add_sub_cancel_left]

/-- Eight bytes, the highest first. -/
def be8 (x : Nat) : List UInt8 := (List.range 8).map fun i => UInt8.ofNat (x / 256 ^ (7 - i))
theorem be8_length (x : Nat) : (be8 x).length = 8 := by simp [be8]
def zerosFor (n : Nat) : Nat := (128 - (n % 64 + 9)) % 64
/-- What stands behind n bytes. -/
def padL (n : Nat) : List UInt8 := 128 :: (List.replicate (zerosFor n) 0 ++ be8 (n * 8))
theorem padL_length (n : Nat) : (padL n).length = 9 + zerosFor n := by simp [padL, be8_length]; omega
theorem padL_whole (n : Nat) : (n + (padL n).length) % 64 = 0 := by rw [padL_length, zerosFor]; omega
theorem padL_most (n : Nat) : 9 ≤ (padL n).length ∧ (padL n).length ≤ 72 := by rw [padL_length, zerosFor]; omega
/-- A word's four bytes, the highest first. -/
def bytes4 (x : UInt32) : List UInt8 := [(x >>> 24).toUInt8, (x >>> 16).toUInt8, (x >>> 8).toUInt8, x.toUInt8]
def stBytes (s : List UInt32) : List UInt8 := s.flatMap bytes4
theorem stBytes_length (s : List UInt32) : (stBytes s).length = 4 * s.length := by
  induction s with
  | nil => rfl
  | cons x s ih =>
    have e : stBytes (x :: s) = bytes4 x ++ stBytes s := rfl
    rw [e, List.length_append, ih]
    simp [bytes4]
    omega
def allOf (l : List UInt8) : List UInt8 := l ++ padL l.length
theorem allOf_length (l : List UInt8) : (allOf l).length = l.length + (padL l.length).length := by simp [allOf]
def sumS (l : List UInt8) : List UInt32 := blocks start (allOf l) ((allOf l).length / 64)
theorem sumS_length (l : List UInt8) : (sumS l).length = 8 := blocks_length _ _ _ rfl
/-- The sum. -/
def sumL (l : List UInt8) : List UInt8 := stBytes (sumS l)
theorem sumL_length (l : List UInt8) : (sumL l).length = 32 := by rw [sumL, stBytes_length, sumS_length]
/-- Bytes, the highest first, as a number of 64 bits. -/
def word8 (l : List UInt8) : UInt64 := l.foldl (fun a c => a <<< 8 ||| c.toUInt64) 0
def idL (l : List UInt8) : UInt64 := word8 ((sumL l).take 8)

/-! The chapter's example, step by step. -/
def exW : List UInt32 := [1633837952, 0, 0, 0, 0, 0, 0, 0, 0, 0, 0, 0, 0, 0, 0, 24, 1633837952, 983040, 2108187653, 1610613702, 1050508152, 25426944, 316456923, 3806512014, 3357629466, 3073800610, 3854317833, 845560923, 2636160359, 3968280267, 1881225380, 3552024379, 2482346367, 996719219, 2952069057, 4043988066, 176896406, 1924104970, 2483675966, 610538786, 2672279444, 4037431130, 1042573945, 657669027, 206005234, 2215296807, 2049510749, 106709978, 4215179723, 3430291419, 3118885940, 2845390439, 2226839261, 3256115900, 344409900, 2987358873, 4015503821, 3957764664, 2682456414, 2025622859, 2755645205, 1720397816, 4004225740, 313650667]
def exS : List (List UInt32) := [[1779033703, 3144134277, 1013904242, 2773480762, 1359893119, 2600822924, 528734635, 1541459225], [1567288269, 1779033703, 3144134277, 1013904242, 4197074466, 1359893119, 2600822924, 528734635], [1516951981, 1567288269, 1779033703, 3144134277, 2026797449, 4197074466, 1359893119, 2600822924], [3368241063, 1516951981, 1567288269, 1779033703, 4180228587, 2026797449, 4197074466, 1359893119], [3578852966, 3368241063, 1516951981, 1567288269, 618661968, 4180228587, 2026797449, 4197074466], [71342698, 3578852966, 3368241063, 1516951981, 1135452741, 618661968, 4180228587, 2026797449], [725748213, 71342698, 3578852966, 3368241063, 1900175533, 1135452741, 618661968, 4180228587], [3842179968, 725748213, 71342698, 3578852966, 2603066369, 1900175533, 1135452741, 618661968], [2241887071, 3842179968, 725748213, 71342698, 207977081, 2603066369, 1900175533, 1135452741], [2382687417, 2241887071, 3842179968, 725748213, 852110732, 207977081, 2603066369, 1900175533], [2357671019, 2382687417, 2241887071, 3842179968, 482944406, 852110732, 207977081, 2603066369], [1201185780, 2357671019, 2382687417, 2241887071, 1131095016, 482944406, 852110732, 207977081], [4146054569, 1201185780, 2357671019, 2382687417, 2171590377, 1131095016, 482944406, 852110732], [2274437520, 4146054569, 1201185780, 2357671019, 509051416, 2171590377, 1131095016, 482944406], [3643992854, 2274437520, 4146054569, 1201185780, 1952073950, 509051416, 2171590377, 1131095016], [3227803614, 3643992854, 2274437520, 4146054569, 194179596, 1952073950, 509051416, 2171590377], [2969183118, 3227803614, 3643992854, 2274437520, 123276749, 194179596, 1952073950, 509051416], [567974555, 2969183118, 3227803614, 3643992854, 2150900380, 123276749, 194179596, 1952073950], [3271285201, 567974555, 2969183118, 3227803614, 2221859924, 2150900380, 123276749, 194179596], [4269243327, 3271285201, 567974555, 2969183118, 3431569761, 2221859924, 2150900380, 123276749], [3790736435, 4269243327, 3271285201, 567974555, 2959311225, 3431569761, 2221859924, 2150900380], [2647034723, 3790736435, 4269243327, 3271285201, 2329577776, 2959311225, 3431569761, 2221859924], [3261099373, 2647034723, 3790736435, 4269243327, 3777329520, 2329577776, 2959311225, 3431569761], [2812502591, 3261099373, 2647034723, 3790736435, 1240797514, 3777329520, 2329577776, 2959311225], [3319086477, 2812502591, 3261099373, 2647034723, 2856829767, 1240797514, 3777329520, 2329577776], [472655928, 3319086477, 2812502591, 3261099373, 673443729, 2856829767, 1240797514, 3777329520], [3454534525, 472655928, 3319086477, 2812502591, 339230094, 673443729, 2856829767, 1240797514], [3056518332, 3454534525, 472655928, 3319086477, 3343672598, 339230094, 673443729, 2856829767], [2010346792, 3056518332, 3454534525, 472655928, 3992961016, 3343672598, 339230094, 673443729], [909411017, 2010346792, 3056518332, 3454534525, 1628611511, 3992961016, 3343672598, 339230094], [2684750640, 909411017, 2010346792, 3056518332, 2917635127, 1628611511, 3992961016, 3343672598], [3935906338, 2684750640, 909411017, 2010346792, 17410874, 2917635127, 1628611511, 3992961016], [1941126133, 3935906338, 2684750640, 909411017, 3126399250, 17410874, 2917635127, 1628611511], [2564891911, 1941126133, 3935906338, 2684750640, 2631529974, 3126399250, 17410874, 2917635127], [4267724277, 2564891911, 1941126133, 3935906338, 1495571923, 2631529974, 3126399250, 17410874], [2846323596, 4267724277, 2564891911, 1941126133, 140458035, 1495571923, 2631529974, 3126399250], [1705037796, 2846323596, 4267724277, 2564891911, 4105175766, 140458035, 1495571923, 2631529974], [1101421745, 1705037796, 2846323596, 4267724277, 124953195, 4105175766, 140458035, 1495571923], [887035396, 1101421745, 1705037796, 2846323596, 2768741693, 124953195, 4105175766, 140458035], [1841658506, 887035396, 1101421745, 1705037796, 4034403272, 2768741693, 124953195, 4105175766], [2045405306, 1841658506, 887035396, 1101421745, 519815328, 4034403272, 2768741693, 124953195], [3597076326, 2045405306, 1841658506, 887035396, 641019235, 519815328, 4034403272, 2768741693], [3745932591, 3597076326, 2045405306, 1841658506, 2206934801, 641019235, 519815328, 4034403272], [397020670, 3745932591, 3597076326, 2045405306, 3737995029, 2206934801, 641019235, 519815328], [2638983059, 397020670, 3745932591, 3597076326, 4255271982, 3737995029, 2206934801, 641019235], [643991573, 2638983059, 397020670, 3745932591, 2819559920, 4255271982, 3737995029, 2206934801], [1923828625, 643991573, 2638983059, 397020670, 3077922209, 2819559920, 4255271982, 3737995029], [2706117808, 1923828625, 643991573, 2638983059, 3581645993, 3077922209, 2819559920, 4255271982], [1098003085, 2706117808, 1923828625, 643991573, 4274981830, 3581645993, 3077922209, 2819559920], [91585771, 1098003085, 2706117808, 1923828625, 3178315832, 4274981830, 3581645993, 3077922209], [4045142696, 91585771, 1098003085, 2706117808, 1851537676, 3178315832, 4274981830, 3581645993], [2047150241, 4045142696, 91585771, 1098003085, 1391578359, 1851537676, 3178315832, 4274981830], [2288941602, 2047150241, 4045142696, 91585771, 1227037726, 1391578359, 1851537676, 3178315832], [270520975, 2288941602, 2047150241, 4045142696, 1386118400, 1227037726, 1391578359, 1851537676], [4117770203, 270520975, 2288941602, 2047150241, 2672265155, 1386118400, 1227037726, 1391578359], [1053056219, 4117770203, 270520975, 2288941602, 3842906959, 2672265155, 1386118400, 1227037726], [952932627, 1053056219, 4117770203, 270520975, 1422599787, 3842906959, 2672265155, 1386118400], [4241590395, 952932627, 1053056219, 4117770203, 2606665836, 1422599787, 3842906959, 2672265155], [3227702383, 4241590395, 952932627, 1053056219, 2118385806, 2606665836, 1422599787, 3842906959], [4290184306, 3227702383, 4241590395, 952932627, 1837350854, 2118385806, 2606665836, 1422599787], [3064893439, 4290184306, 3227702383, 4241590395, 2988158269, 1837350854, 2118385806, 2606665836], [3093179625, 3064893439, 4290184306, 3227702383, 2518632596, 2988158269, 1837350854, 2118385806], [80891244, 3093179625, 3064893439, 4290184306, 2492278198, 2518632596, 2988158269, 1837350854], [3550093669, 80891244, 3093179625, 3064893439, 4212265488, 2492278198, 2518632596, 2988158269], [1349398616, 3550093669, 80891244, 3093179625, 1593118500, 4212265488, 2492278198, 2518632596]]
theorem exW_next : (List.range 48).all (fun n => nextW (exW.take (16 + n)) == exW.getD (16 + n) 0) = true := by kernel_rfl
theorem exS_next : (List.range 64).all (fun t => rnd (kt.getD t 0) (exW.getD t 0) (exS.getD t []) == exS.getD (t + 1) []) = true := by kernel_rfl
theorem exW_first : words16 (allOf [97, 98, 99]) = exW.take 16 := by kernel_rfl
theorem exW_all : ∀ n, n ≤ 48 → schedN (words16 (allOf [97, 98, 99])) n = exW.take (16 + n) := by
  intro n
  induction n with
  | zero => intro _; exact exW_first
  | succ n ih =>
    intro h
    have hn := List.all_eq_true.1 exW_next n (by simp; omega)
    simp only [beq_iff_eq] at hn
    rw [schedN, ih (by omega), hn]
    have hl : 16 + n < exW.length := by have : exW.length = 64 := rfl; omega
    rw [← Nat.add_assoc, List.take_succ_eq_append_getElem hl]
    simp [List.getD, List.getElem?_eq_getElem hl]
theorem exS_all : ∀ t, t ≤ 64 → rounds exW start t = exS.getD t [] := by
  intro t
  induction t with
  | zero => intro _; rfl
  | succ t ih =>
    intro h
    have hn := List.all_eq_true.1 exS_next t (by simp; omega)
    simp only [beq_iff_eq] at hn
    rw [rounds, ih (by omega), hn]
theorem ex_words : wordsOf (allOf [97, 98, 99]) = exW := (exW_all 48 (by decide)).trans rfl
def exSum : List UInt8 := [186, 120, 22, 191, 143, 1, 207, 234, 65, 65, 64, 222, 93, 174, 34, 35, 176, 3, 97, 163, 150, 23, 122, 156, 180, 16, 255, 97, 242, 0, 21, 173]
theorem ex_end : addW start (exS.getD 64 []) = [3128432319, 2399260650, 1094795486, 1571693091, 2953011619, 2518121116, 3021012833, 4060091821] := by kernel_rfl
theorem ex_state : sumS [97, 98, 99] = [3128432319, 2399260650, 1094795486, 1571693091, 2953011619, 2518121116, 3021012833, 4060091821] := by
  have e : (allOf [97, 98, 99]).length / 64 = 1 := by decide
  have e' : (allOf [97, 98, 99]).drop (64 * 0) = allOf [97, 98, 99] := rfl
  have e2 : (allOf [97, 98, 99]).take 64 = allOf [97, 98, 99] := List.take_of_length_le (by decide)
  rw [sumS, e, blocks, blocks, e', e2, blockS, ex_words, exS_all 64 (by decide)]
  exact ex_end
theorem ex_sum : sumL [97, 98, 99] = exSum := by
  rw [sumL, ex_state]
  kernel_rfl
theorem ex_id : idL [97, 98, 99] = 13436514500253700074 := by
  rw [idL, ex_sum]
  kernel_rfl
end Go.Proofs.YtjkbbcnbdjhdbaaDoor
