/- Plain mathematics of tokens: an entry signed, checked, held at a time. Plain mathematics of package derive: Extract, Expand; the chapter's example. It speaks of no program. Plain mathematics of chains: a key's Step, so many of them, a chain's keys, which leads to which. -/
import Derived.Test.YtfcjemedheccgaaDoorGh
import Derived.Test.YtfcjemedheccgaaDoorGj
import Derived.Test.YtfcjemedheccgaaDoorGk
import Derived.Test.YtfcjemedheccgaaDoorGl
import Derived.Test.YtfcjemedheccgaaDoorGg
import Derived.Test.YtfcjemedheccgaaDoorGc
namespace Go.Proofs.YtfcjemedheccgaaDoor
set_option maxRecDepth 100000
open Go.RowKit

def signE (k : List UInt8) (e : Ent) : Ent := { e with tag := macL k (bodyL e) }
theorem sign_body (k : List UInt8) (e : Ent) : bodyL (signE k e) = bodyL e := rfl
theorem sign_tag (k : List UInt8) (e : Ent) : (signE k e).tag.length = 32 := macL_length _ _
theorem sign_again (k : List UInt8) (e : Ent) : signE k (signE k e) = signE k e := rfl
def checkT (k : List UInt8) (e : Ent) : Bool := decide (macL k (bodyL e) = e.tag)
theorem sign_checks (k : List UInt8) (e : Ent) : checkT k (signE k e) = true := decide_eq_true rfl
def validX (gi : Int) (gk : List UInt8) (e : Ent) (now : Int) : Int :=
  if entR e = false then 11 else if e.index < gi then 33 else if gi < e.index then 34 else if checkT gk e = false then 20 else if now < e.since ∨ e.till < now then 32 else 0
theorem valid_parts {gi : Int} {gk : List UInt8} {e : Ent} {now : Int} (h : validX gi gk e now = 0) : entR e = true ∧ e.index = gi ∧ checkT gk e = true ∧ e.since ≤ now ∧ now ≤ e.till := by
  rw [validX] at h
  split at h
  · exact absurd h (by decide)
  · split at h
    · exact absurd h (by decide)
    · split at h
      · exact absurd h (by decide)
      · split at h
        · exact absurd h (by decide)
        · split at h
          · exact absurd h (by decide)
          · rename_i h1 h2 h3 h4 h5
            simp only [Bool.not_eq_false] at h1 h4
            exact ⟨h1, by omega, h4, by omega, by omega⟩
theorem valid_of {gi : Int} {gk : List UInt8} {e : Ent} {now : Int} (h1 : entR e = true) (h2 : e.index = gi) (h3 : checkT gk e = true) (h4 : e.since ≤ now) (h5 : now ≤ e.till) : validX gi gk e now = 0 := by
  rw [validX, if_neg (by simp [h1]), if_neg (by omega), if_neg (by omega), if_neg (by simp [h3]), if_neg (by omega)]
/-- With one byte of its tag changed it is not signed. -/
theorem sign_changed (k : List UInt8) (e : Ent) (i : Nat) (x : UInt8) (hi : i < 32) : checkT k { signE k e with tag := (signE k e).tag.set i x } = decide ((signE k e).tag[i]? = some x) := by
  have hl := sign_tag k e
  show decide (macL k (bodyL e) = (macL k (bodyL e)).set i x) = decide ((macL k (bodyL e))[i]? = some x)
  have hl' : (macL k (bodyL e)).length = 32 := hl
  generalize macL k (bodyL e) = t at *
  congr 1
  apply propext
  constructor
  · intro h
    rw [h, List.getElem?_set_self (by omega)]
  · intro h
    apply List.ext_getElem?
    intro j
    rw [List.getElem?_set]
    by_cases hj : i = j
    · subst hj
      rw [if_pos rfl, if_pos (by omega), h]
    · rw [if_neg hj]
/-- The chapter's example. -/
def tkK : List UInt8 := [107, 101, 121]
def tkT : Ent := ⟨[97], 0, 1, 3, 0, []⟩
theorem tkT_right : entR (signE tkK tkT) = true := by
  have h := sign_tag tkK tkT
  have h0 : (signE tkK tkT).name = [97] := rfl
  have h1 : (signE tkK tkT).since = 1 := rfl
  have h2 : (signE tkK tkT).till = 3 := rfl
  have h3 : (signE tkK tkT).index = 0 := rfl
  rw [entR, h, h0, h1, h2, h3]
  decide +kernel
theorem tkT_valid : validX 0 tkK (signE tkK tkT) 2 = 0 := valid_of tkT_right rfl (sign_checks _ _) (by decide) (by decide)
theorem tkT_late : validX 0 tkK (signE tkK tkT) 4 = 32 := by
  have h2 : (signE tkK tkT).till = 3 := rfl
  have h3 : (signE tkK tkT).index = 0 := rfl
  rw [validX, if_neg (by simp [tkT_right]), h3, if_neg (by decide), if_neg (by decide), if_neg (by simp [sign_checks]), h2, if_pos (by decide)]
theorem tkT_old : validX 1 tkK (signE tkK tkT) 2 = 33 := by
  have h3 : (signE tkK tkT).index = 0 := rfl
  rw [validX, if_neg (by simp [tkT_right]), h3, if_pos (by decide)]
end Go.Proofs.YtfcjemedheccgaaDoor

namespace Go.Proofs.YtfcjemedheccgaaDoor
set_option maxRecDepth 100000

def extractL (salt secret : List UInt8) : List UInt8 := macL (if salt.length = 0 then List.replicate 32 0 else salt) secret
theorem extractL_length (a b : List UInt8) : (extractL a b).length = 32 := macL_length _ _
/-- t(i). -/
def exT (key info : List UInt8) : Nat → List UInt8
  | 0 => []
  | i + 1 => macL key (exT key info i ++ info ++ [UInt8.ofNat (i + 1)])
/-- t(1) to t(i), one behind the other. -/
def exOut (key info : List UInt8) : Nat → List UInt8
  | 0 => []
  | i + 1 => exOut key info i ++ exT key info (i + 1)
theorem exT_length (key info : List UInt8) (i : Nat) : (exT key info (i + 1)).length = 32 := macL_length _ _
theorem exT_most (key info : List UInt8) (i : Nat) : (exT key info i).length ≤ 32 := by
  cases i with
  | zero => simp [exT]
  | succ i => rw [exT_length]; exact Nat.le_refl _
theorem exOut_length (key info : List UInt8) (i : Nat) : (exOut key info i).length = 32 * i := by
  induction i with
  | zero => rfl
  | succ i ih => rw [exOut, List.length_append, ih, exT_length]; omega
/-- More parts go on where fewer end. -/
theorem exOut_take (key info : List UInt8) (i j n : Nat) (hij : i ≤ j) (hn : n ≤ 32 * i) : (exOut key info j).take n = (exOut key info i).take n := by
  induction j with
  | zero => obtain rfl : i = 0 := by omega
            rfl
  | succ j ih =>
    by_cases h : i = j + 1
    · rw [h]
    · rw [exOut, List.take_append_of_le_length (by rw [exOut_length]; omega)]
      exact ih (by omega)
/-- How many parts. -/
def partsFor (n : Nat) : Nat := (n + 31) / 32
def expandL (key info : List UInt8) (n : Nat) : List UInt8 := (exOut key info (partsFor n)).take n
theorem expandL_length (key info : List UInt8) (n : Nat) : (expandL key info n).length = n := by
  rw [expandL, List.length_take, exOut_length, partsFor]
  omega
theorem expandL_take (key info : List UInt8) (n m : Nat) (h : n ≤ m) : (expandL key info m).take n = expandL key info n := by
  rw [expandL, expandL, List.take_take, Nat.min_eq_left h]
  exact exOut_take key info (partsFor n) (partsFor m) n (by simp only [partsFor]; omega) (by simp only [partsFor]; omega)
theorem expandL_at (key info : List UInt8) (n i : Nat) (h : n ≤ 32 * i) (h' : 32 * i < n + 32) : (exOut key info i).take n = expandL key info n := by
  have : i = partsFor n := by simp only [partsFor]; omega
  rw [this]
  rfl
def carc : List UInt8 := [99, 97, 114, 99, 97, 110, 101, 116, 32]
def namedL (key name : List UInt8) : List UInt8 := expandL key (carc ++ name) 32
theorem namedL_length (k n : List UInt8) : (namedL k n).length = 32 := expandL_length _ _ _
end Go.Proofs.YtfcjemedheccgaaDoor

namespace Go.Proofs.YtfcjemedheccgaaDoor
set_option maxRecDepth 100000
open Go.RowKit

def linkL : List UInt8 := [99, 97, 114, 99, 97, 110, 101, 116, 32, 108, 105, 110, 107]
def chainN : List UInt8 := [99, 104, 97, 105, 110]
def stepL (k : List UInt8) : List UInt8 := sumL (linkL ++ k)
theorem stepL_length (k : List UInt8) : (stepL k).length = 32 := sumL_length _
def backL (k : List UInt8) : Nat → List UInt8
  | 0 => k
  | n + 1 => backL (stepL k) n
theorem backL_succ (k : List UInt8) (n : Nat) : backL k (n + 1) = stepL (backL k n) := by
  induction n generalizing k with
  | zero => rfl
  | succ n ih => rw [backL, ih, backL]
theorem backL_add (k : List UInt8) (m n : Nat) : backL (backL k m) n = backL k (m + n) := by
  induction n with
  | zero => rfl
  | succ n ih => rw [backL_succ, ih, ← backL_succ]; rfl
theorem backL_length (k : List UInt8) (n : Nat) (h : k.length ≤ 4000) : (backL k n).length ≤ 4000 := by
  cases n with
  | zero => exact h
  | succ n => rw [backL_succ, stepL_length]; omega
theorem backL_32 (k : List UInt8) (n : Nat) (h : k.length = 32) : (backL k n).length = 32 := by
  cases n with
  | zero => exact h
  | succ n => rw [backL_succ, stepL_length]
def backA (k : List UInt8) (z : Int) : List UInt8 := if z < 0 ∨ 64 < z then [] else backL k z.toNat
def backC (z : Int) : Int := if z < 0 ∨ 64 < z then 2 else 0
def keyBad (len idx : Int) : Prop := len < 1 ∨ 64 < len ∨ idx < 0 ∨ len < idx
instance (len idx : Int) : Decidable (keyBad len idx) := inferInstanceAs (Decidable (_ ∨ _))
def keyA (seed : List UInt8) (len idx : Int) : List UInt8 := if keyBad len idx then [] else backL (namedL seed chainN) (len - idx).toNat
def chKeyC (len idx : Int) : Int := if keyBad len idx then 2 else 0
def leadsB (yi : Int) (yk : List UInt8) (oi : Int) (ok : List UInt8) : Bool := decide (0 ≤ oi ∧ oi ≤ yi ∧ yk.length = 32 ∧ yi - oi ≤ 64 ∧ backL yk (yi - oi).toNat = ok)

theorem key_len (seed : List UInt8) (len idx : Int) (h : ¬ keyBad len idx) : (keyA seed len idx).length = 32 := by
  rw [keyA, if_neg h]
  exact backL_32 _ _ (namedL_length _ _)
/-- Each key of a chain leads to those of lesser indexes. -/
theorem keys_lead (seed : List UInt8) (len i j : Int) (h : ¬ keyBad len i) (hj : 0 ≤ j) (hi : j ≤ i) : leadsB i (keyA seed len i) j (keyA seed len j) = true := by
  have hb : ¬ keyBad len j := by simp only [keyBad, not_or, Int.not_lt] at h ⊢; omega
  simp only [keyBad, not_or, Int.not_lt] at h
  obtain ⟨h1, h2, h3, h4⟩ := h
  rw [leadsB, decide_eq_true_eq]
  refine ⟨hj, hi, key_len seed len i (by simp only [keyBad, not_or, Int.not_lt]; omega), by omega, ?_⟩
  rw [keyA, keyA, if_neg (by simp only [keyBad, not_or, Int.not_lt]; omega), if_neg hb, backL_add]
  congr 1
  omega
/-- A key is the Step of the next one. -/
theorem key_step (seed : List UInt8) (len i : Int) (h : ¬ keyBad len i) (hi : 1 ≤ i) : stepL (keyA seed len i) = keyA seed len (i - 1) := by
  have hb : ¬ keyBad len (i - 1) := by simp only [keyBad, not_or, Int.not_lt] at h ⊢; omega
  have h' := h
  simp only [keyBad, not_or, Int.not_lt] at h'
  rw [keyA, keyA, if_neg h, if_neg hb, ← backL_succ]
  congr 1
  omega
end Go.Proofs.YtfcjemedheccgaaDoor
