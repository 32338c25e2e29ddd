/- Plain mathematics of package digest: the block, what stands behind a text, the sum. It speaks of no program. Plain mathematics of package mac: a key made long, the tag; the chapter's example. It speaks of no program. Gates as values, and in memory. Plain mathematics of tokens: an entry signed, checked, held at a time. -/
import Derived.Test.YtehalcopkjfdkaaDoorGh
import Derived.Test.YtehalcopkjfdkaaDoorGb
import Derived.StillTailTactics
import Derived.Test.YtehalcopkjfdkaaDoorGf
import Derived.Test.YtehalcopkjfdkaaDoorGg
namespace Go.Proofs.YtehalcopkjfdkaaDoor
set_option maxRecDepth 100000

/-- k0 to k63. -/
def kt : List UInt32 := [1116352408, 1899447441, 3049323471, 3921009573, 961987163, 1508970993, 2453635748, 2870763221, 3624381080, 310598401, 607225278, 1426881987, 1925078388, 2162078206, 2614888103, 3248222580, 3835390401, 4022224774, 264347078, 604807628, 770255983, 1249150122, 1555081692, 1996064986, 2554220882, 2821834349, 2952996808, 3210313671, 3336571891, 3584528711, 113926993, 338241895, 666307205, 773529912, 1294757372, 1396182291, 1695183700, 1986661051, 2177026350, 2456956037, 2730485921, 2820302411, 3259730800, 3345764771, 3516065817, 3600352804, 4094571909, 275423344, 430227734, 506948616, 659060556, 883997877, 958139571, 1322822218, 1537002063, 1747873779, 1955562222, 2024104815, 2227730452, 2361852424, 2428436474, 2756734187, 3204031479, 3329325298]
def start : List UInt32 := [1779033703, 3144134277, 1013904242, 2773480762, 1359893119, 2600822924, 528734635, 1541459225]

/-- The next word of w. -/
def nextW (l : List UInt32) : UInt32 :=
  l.getD (l.length - 16) 0 + l.getD (l.length - 7) 0 + (rotr (l.getD (l.length - 15) 0) 7 ^^^ rotr (l.getD (l.length - 15) 0) 18 ^^^ (l.getD (l.length - 15) 0) >>> 3) + (rotr (l.getD (l.length - 2) 0) 17 ^^^ rotr (l.getD (l.length - 2) 0) 19 ^^^ (l.getD (l.length - 2) 0) >>> 10)
def schedN (b : List UInt32) : Nat → List UInt32
  | 0 => b
  | n + 1 => schedN b n ++ [nextW (schedN b n)]
theorem schedN_length (b : List UInt32) (n : Nat) : (schedN b n).length = b.length + n := by
  induction n with
  | zero => rfl
  | succ n ih => simp [schedN, ih]; omega

def tX (k w e f g h : UInt32) : UInt32 := h + (rotr e 6 ^^^ rotr e 11 ^^^ rotr e 25) + (e &&& f ^^^ ~~~e &&& g) + k + w
def tY (a b c : UInt32) : UInt32 := (rotr a 2 ^^^ rotr a 13 ^^^ rotr a 22) + (a &&& b ^^^ a &&& c ^^^ b &&& c)
/-- Once round. -/
def rnd (k w : UInt32) : List UInt32 → List UInt32
  | [a, b, c, d, e, f, g, h] => [tX k w e f g h + tY a b c, a, b, c, d + tX k w e f g h, e, f, g]
  | s => s
def rounds (W s : List UInt32) : Nat → List UInt32
  | 0 => s
  | t + 1 => rnd (kt.getD t 0) (W.getD t 0) (rounds W s t)
theorem rnd_length (k w : UInt32) (s : List UInt32) : (rnd k w s).length = s.length := by
  unfold rnd
  split <;> simp
theorem rounds_length (W s : List UInt32) (t : Nat) : (rounds W s t).length = s.length := by
  induction t with
  | zero => rfl
  | succ t ih => simp [rounds, rnd_length, ih]

/-- Bytes, the highest first, as a word. -/
def word4 (l : List UInt8) : UInt32 := l.foldl (fun a c => a <<< 8 ||| c.toUInt32) 0
def words16 (l : List UInt8) : List UInt32 := (List.range 16).map fun j => word4 ((l.drop (4 * j)).take 4)
theorem words16_length (l : List UInt8) : (words16 l).length = 16 := by simp [words16]
def wordsOf (l : List UInt8) : List UInt32 := schedN (words16 l) 48
theorem wordsOf_length (l : List UInt8) : (wordsOf l).length = 64 := by rw [wordsOf, schedN_length, words16_length]
def addW (s t : List UInt32) : List UInt32 := List.zipWith (· + ·) s t
/-- What the state becomes by a block. -/
def blockS (s : List UInt32) (l : List UInt8) : List UInt32 := addW s (rounds (wordsOf l) s 64)
theorem blockS_length (s : List UInt32) (l : List UInt8) (h : s.length = 8) : (blockS s l).length = 8 := by simp [blockS, addW, rounds_length, h]
/-- By n blocks, one behind the other. -/
def blocks (s : List UInt32) (l : List UInt8) : Nat → List UInt32
  | 0 => s
  | n + 1 => blockS (blocks s l n) ((l.drop (64 * n)).take 64)
theorem blocks_length (s : List UInt32) (l : List UInt8) (n : Nat) (h : s.length = 8) : (blocks s l n).length = 8 := by
  induction n with
  | zero => exact h
  | succ n ih => exact blockS_length _ _ ih
theorem blocks_left (s : List UInt32) (a b : List UInt8) (m n : Nat) (ha : a.length = 64 * m) (hn : n ≤ m) : blocks s (a ++ b) n = blocks s a n := by
  induction n with
  | zero => rfl
  | succ n ih =>
    rw [blocks, blocks, ih (by omega), List.drop_append_of_le_length (by omega), List.take_append_of_le_length (by simp; omega)]
theorem blocks_add (s : List UInt32) (a b : List UInt8) (m n : Nat) (ha : a.length = 64 * m) : blocks s (a ++ b) (m + n) = blocks (blocks s a m) b n := by
  induction n with
  | zero => exact blocks_left s a b m m ha (Nat.le_refl _)
  | succ n ih =>
    rw [← Nat.add_assoc, blocks, blocks, ih]
    have e : 64 * (m + n) = a.length + 64 * n := by omega
    rw [e, List.drop_append, List.drop_eq_nil_of_le (by omega), List.nil_append, Nat.add_sub_cancel_left]

/-- Eight bytes, the highest first. -/
def be8 (x : Nat) : List UInt8 := (List.range 8).map fun i => UInt8.ofNat (x / 256 ^ (7 - i))
theorem be8_length (x : Nat) : (be8 x).length = 8 := by simp [be8]
def zerosFor (n : Nat) : Nat := (128 - (n % 64 + 9)) % 64
/-- What stands behind n bytes. -/
def padL (n : Nat) : List UInt8 := 128 :: (List.replicate (zerosFor n) 0 ++ be8 (n * 8))
theorem padL_length (n : Nat) : (padL n).length = 9 + zerosFor n := by simp [padL, be8_length]; omega
theorem padL_whole (n : Nat) : (n + (padL n).length) % 64 = 0 := by rw [padL_length, zerosFor]; omega
theorem padL_most (n : Nat) : 9 ≤ (padL n).length ∧ (padL n).length ≤ 72 := by rw [padL_length, zerosFor]; omega
/-- A word's four bytes, the highest first. -/
def bytes4 (x : UInt32) : List UInt8 := [(x >>> 24).toUInt8, (x >>> 16).toUInt8, (x >>> 8).toUInt8, x.toUInt8]
def stBytes (s : List UInt32) : List UInt8 := s.flatMap bytes4
theorem stBytes_length (s : List UInt32) : (stBytes s).length = 4 * s.length := by
  induction s with
  | nil => rfl
  | cons x s ih =>
    have e : stBytes (x :: s) = bytes4 x ++ stBytes s := rfl
    rw [e, List.length_append, ih]
    simp [bytes4]
    omega
def allOf (l : List UInt8) : List UInt8 := l ++ padL l.length
theorem allOf_length (l : List UInt8) : (allOf l).length = l.length + (padL l.length).length := by simp [allOf]
def sumS (l : List UInt8) : List UInt32 := blocks start (allOf l) ((allOf l).length / 64)
theorem sumS_length (l : List UInt8) : (sumS l).length = 8 := blocks_length _ _ _ rfl
/-- The sum. -/
def sumL (l : List UInt8) : List UInt8 := stBytes (sumS l)
theorem sumL_length (l : List UInt8) : (sumL l).length = 32 := by rw [sumL, stBytes_length, sumS_length]
/-- Bytes, the highest first, as a number of 64 bits. -/
def word8 (l : List UInt8) : UInt64 := l.foldl (fun a c => a <<< 8 ||| c.toUInt64) 0
def idL (l : List UInt8) : UInt64 := word8 ((sumL l).take 8)
end Go.Proofs.YtehalcopkjfdkaaDoor

namespace Go.Proofs.YtehalcopkjfdkaaDoor
set_option maxRecDepth 100000

/-- A key made 64 bytes. -/
def baseL (k : List UInt8) : List UInt8 := if k.length ≤ 64 then k else sumL k
def keyL (k : List UInt8) : List UInt8 := baseL k ++ List.replicate (64 - (baseL k).length) 0
theorem baseL_length (k : List UInt8) : (baseL k).length ≤ 64 := by
  unfold baseL
  split
  · assumption
  · rw [sumL_length]; decide
theorem keyL_length (k : List UInt8) : (keyL k).length = 64 := by
  have := baseL_length k
  simp [keyL]
  omega
def xorB (c : UInt8) (l : List UInt8) : List UInt8 := l.map (· ^^^ c)
theorem xorB_length (c : UInt8) (l : List UInt8) : (xorB c l).length = l.length := by simp [xorB]
/-- The tag. -/
def macL (k m : List UInt8) : List UInt8 := sumL (xorB 92 (keyL k) ++ sumL (xorB 54 (keyL k) ++ m))
theorem macL_length (k m : List UInt8) : (macL k m).length = 32 := sumL_length _
theorem macL_key (k k' m : List UInt8) (h : keyL k = keyL k') : macL k m = macL k' m := by rw [macL, macL, h]
theorem keyL_keyL (k : List UInt8) : keyL (keyL k) = keyL k := by
  have h : baseL (keyL k) = keyL k := by
    rw [baseL, if_pos (by rw [keyL_length]; exact Nat.le_refl _)]
  rw [keyL, h, keyL_length]
  simp
theorem keyL_zero (k : List UInt8) (h : k.length ≤ 63) : keyL (k ++ [0]) = keyL k := by
  have h1 : baseL (k ++ [0]) = k ++ [0] := by rw [baseL, if_pos (by simp; omega)]
  have h2 : baseL k = k := by rw [baseL, if_pos (by omega)]
  have e : 64 - k.length = (64 - (k ++ [0]).length) + 1 := by simp; omega
  rw [keyL, keyL, h1, h2, e, List.replicate_succ]
  simp
end Go.Proofs.YtehalcopkjfdkaaDoor

namespace Go.Proofs.YtehalcopkjfdkaaDoor
set_option maxRecDepth 100000
open Go.RowKit

/-- A gate. -/
def gateV (i : Int) (k : List UInt8) : Value := .agg #[.int .i64 i, .string ⟨k.toArray⟩]

def gateC (i : Int) (k : List UInt8) : Array Value := #[.int .i64 i, .string ⟨k.toArray⟩]
/-- A gate in a block. -/
def GateAt (w : World) (g : Nat) (i : Int) (k : List UInt8) : Prop := Whole w g 23 (gateC i k)
theorem GateAt.two {w : World} {g : Nat} {i : Int} {k : List UInt8} (h : GateAt w g i k) : w.cell? ⟨g, 0, none⟩ = some (.int .i64 i) ∧ w.cell? ⟨g, 1, none⟩ = some (.string ⟨k.toArray⟩) := ⟨h.at_ 0, h.at_ 1⟩

theorem gate_size (i : Int) (k : List UInt8) : (Tryd.prog.info? 23).map (·.size) = some (gateC i k).size := by
  have h : (Tryd.prog.info? 23).map (·.size) = some 2 := by kernel_rfl
  exact h
theorem gate_one (i : Int) (k : List UInt8) : (gateC i k).all (·.oneCell') = true := by simp [gateC, Value.oneCell']
theorem gate_zero : (Tryd.prog.info? 23).map (·.zero) = some (some (.agg (gateC 0 []))) := by kernel_rfl
theorem load_gate {w : World} {g : Nat} {i : Int} {k : List UInt8} (h : GateAt w g i k) : (loadVar 23 ⟨g, 0, none⟩).run Tryd.prog w = .ok (gateV i k) w := by
  obtain ⟨c0, c1⟩ := h.two
  simp only [gateV]
  go_simp
theorem exec_load_gate {ev : Operand → Value} {o : Oper} (x : Operand) (ho : o.op = .load 23 x) (g : Nat) (hx : ev x = .pointer (some ⟨g, 0, none⟩)) (i : Int) (k : List UInt8) (w : World) (hg : GateAt w g i k) :
    (execOp ev o).run Tryd.prog w = .ok (.value (gateV i k)) w := by
  have h := load_gate hg
  unfold execOp
  simp [ho, hx, Instr.loadAt, Instr.sureAddr, h]

end Go.Proofs.YtehalcopkjfdkaaDoor

namespace Go.Proofs.YtehalcopkjfdkaaDoor
set_option maxRecDepth 100000
open Go.RowKit

def signE (k : List UInt8) (e : Ent) : Ent := { e with tag := macL k (bodyL e) }
theorem sign_body (k : List UInt8) (e : Ent) : bodyL (signE k e) = bodyL e := rfl
theorem sign_tag (k : List UInt8) (e : Ent) : (signE k e).tag.length = 32 := macL_length _ _
theorem sign_again (k : List UInt8) (e : Ent) : signE k (signE k e) = signE k e := rfl
def checkT (k : List UInt8) (e : Ent) : Bool := decide (macL k (bodyL e) = e.tag)
theorem sign_checks (k : List UInt8) (e : Ent) : checkT k (signE k e) = true := decide_eq_true rfl
def validX (gi : Int) (gk : List UInt8) (e : Ent) (now : Int) : Int :=
  if entR e = false then 11 else if e.index < gi then 33 else if gi < e.index then 34 else if checkT gk e = false then 20 else if now < e.since ∨ e.till < now then 32 else 0
theorem valid_parts {gi : Int} {gk : List UInt8} {e : Ent} {now : Int} (h : validX gi gk e now = 0) : entR e = true ∧ e.index = gi ∧ checkT gk e = true ∧ e.since ≤ now ∧ now ≤ e.till := by
  rw [validX] at h
  split at h
  · exact absurd h (by decide)
  · split at h
    · exact absurd h (by decide)
    · split at h
      · exact absurd h (by decide)
      · split at h
        · exact absurd h (by decide)
        · split at h
          · exact absurd h (by decide)
          · rename_i h1 h2 h3 h4 h5
            simp only [Bool.not_eq_false] at h1 h4
            exact ⟨h1, by omega, h4, by omega, by omega⟩
theorem valid_of {gi : Int} {gk : List UInt8} {e : Ent} {now : Int} (h1 : entR e = true) (h2 : e.index = gi) (h3 : checkT gk e = true) (h4 : e.since ≤ now) (h5 : now ≤ e.till) : validX gi gk e now = 0 := by
  rw [validX, if_neg (by simp [h1]), if_neg (by omega), if_neg (by omega), if_neg (by simp [h3]), if_neg (by omega)]
/-- With one byte of its tag changed it is not signed. -/
theorem sign_changed (k : List UInt8) (e : Ent) (i : Nat) (x : UInt8) (hi : i < 32) : checkT k { signE k e with tag := (signE k e).tag.set i x } = decide ((signE k e).tag[i]? = some x) := by
  have hl := sign_tag k e
  show decide (macL k (bodyL e) = (macL k (bodyL e)).set i x) = decide ((macL k (bodyL e))[i]? = some x)
  have hl' : (macL k (bodyL e)).length = 32 := hl
  generalize macL k (bodyL e) = t at *
  congr 1
  apply propext
  constructor
  · intro h
    rw [h, List.getElem?_set_self (by omega)]
  · intro h
    apply List.ext_getElem?
    intro j
    rw [List.getElem?_set]
    by_cases hj : i = j
    · subst hj
      rw [if_pos rfl, if_pos (by omega), h]
    · rw [if_neg hj]
/-- The chapter's example. -/
def tkK : List UInt8 := [107, 101, 121]
def tkT : Ent := ⟨[97], 0, 1, 3, 0, []⟩
theorem tkT_right : entR (signE tkK tkT) = true := by
  have h := sign_tag tkK tkT
  have h0 : (signE tkK tkT).name = [97] := rfl
  have h1 : (signE tkK tkT).since = 1 := rfl
  have h2 : (signE tkK tkT).till = 3 := rfl
  have h3 : (signE tkK tkT).index = 0 := rfl
  rw [entR, h, h0, h1, h2, h3]
  decide +kernel
theorem tkT_valid : validX 0 tkK (signE tkK tkT) 2 = 0 := valid_of tkT_right rfl (sign_checks _ _) (by decide) (by decide)
theorem tkT_late : validX 0 tkK (signE tkK tkT) 4 = 32 := by
  have h2 : (signE tkK tkT).till = 3 := rfl
  have h3 : (signE tkK tkT).index = 0 := rfl
  rw [validX, if_neg (by simp [tkT_right]), h3, if_neg (by decide), if_neg (by decide), if_neg (by simp [sign_checks]), h2, if_pos (by decide)]
theorem tkT_old : validX 1 tkK (signE tkK tkT) 2 = 33 := by
  have h3 : (signE tkK tkT).index = 0 := rfl
  rw [validX, if_neg (by simp [tkT_right]), h3, if_pos (by decide)]
end Go.Proofs.YtehalcopkjfdkaaDoor
