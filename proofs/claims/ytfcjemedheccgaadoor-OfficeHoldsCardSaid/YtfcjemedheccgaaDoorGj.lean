/- Gates as values, and in memory. Plain mathematics of tokens: an entry signed, checked, held at a time. Plain mathematics of package derive: Extract, Expand; the chapter's example. It speaks of no program. Plain mathematics of chains: a key's Step, so many of them, a chain's keys, which leads to which. Plain mathematics of an office: what it issues, goes on to, revokes; the last entry of each name, found in two ways. -/
import Derived.Test.YtfcjemedheccgaaDoorGb
import Derived.StillTailTactics
import Derived.Test.YtfcjemedheccgaaDoorGg
import Derived.Test.YtfcjemedheccgaaDoorGh
import Derived.Test.YtfcjemedheccgaaDoorGi
import Derived.Test.YtfcjemedheccgaaDoorGf
namespace Go.Proofs.YtfcjemedheccgaaDoor
set_option maxRecDepth 100000
open Go.RowKit

/-- A gate. -/
def gateV (i : Int) (k : List UInt8) : Value := .agg #[.int .i64 i, .string ⟨k.toArray⟩]

def gateC (i : Int) (k : List UInt8) : Array Value := #[.int .i64 i, .string ⟨k.toArray⟩]
/-- A gate in a block. -/
def GateAt (w : World) (g : Nat) (i : Int) (k : List UInt8) : Prop := Whole w g 37 (gateC i k)
theorem GateAt.two {w : World} {g : Nat} {i : Int} {k : List UInt8} (h : GateAt w g i k) : w.cell? ⟨g, 0, none⟩ = some (.int .i64 i) ∧ w.cell? ⟨g, 1, none⟩ = some (.string ⟨k.toArray⟩) := ⟨h.at_ 0, h.at_ 1⟩

theorem gate_size (i : Int) (k : List UInt8) : (Tryd.prog.info? 37).map (·.size) = some (gateC i k).size := by
  have h : (Tryd.prog.info? 37).map (·.size) = some 2 := by kernel_rfl
  exact h
theorem gate_one (i : Int) (k : List UInt8) : (gateC i k).all (·.oneCell') = true := by simp [gateC, Value.oneCell']
theorem gate_zero : (Tryd.prog.info? 37).map (·.zero) = some (some (.agg (gateC 0 []))) := by kernel_rfl
theorem load_gate {w : World} {g : Nat} {i : Int} {k : List UInt8} (h : GateAt w g i k) : (loadVar 37 ⟨g, 0, none⟩).run Tryd.prog w = .ok (gateV i k) w := by
  obtain ⟨c0, c1⟩ := h.two
  simp only [gateV]
  go_simp
theorem exec_load_gate {ev : Operand → Value} {o : Oper} (x : Operand) (ho : o.op = .load 37 x) (g : Nat) (hx : ev x = .pointer (some ⟨g, 0, none⟩)) (i : Int) (k : List UInt8) (w : World) (hg : GateAt w g i k) :
    (execOp ev o).run Tryd.prog w = .ok (.value (gateV i k)) w := by
  have h := load_gate hg
  unfold execOp
  simp [ho, hx, Instr.loadAt, Instr.sureAddr, h]

end Go.Proofs.YtfcjemedheccgaaDoor

namespace Go.Proofs.YtfcjemedheccgaaDoor
set_option maxRecDepth 100000
open Go.RowKit

def signE (k : List UInt8) (e : Ent) : Ent := { e with tag := macL k (bodyL e) }
theorem sign_body (k : List UInt8) (e : Ent) : bodyL (signE k e) = bodyL e := rfl
theorem sign_tag (k : List UInt8) (e : Ent) : (signE k e).tag.length = 32 := macL_length _ _
theorem sign_again (k : List UInt8) (e : Ent) : signE k (signE k e) = signE k e := rfl
def checkT (k : List UInt8) (e : Ent) : Bool := decide (macL k (bodyL e) = e.tag)
theorem sign_checks (k : List UInt8) (e : Ent) : checkT k (signE k e) = true := decide_eq_true rfl
def validX (gi : Int) (gk : List UInt8) (e : Ent) (now : Int) : Int :=
  if entR e = false then 11 else if e.index < gi then 33 else if gi < e.index then 34 else if checkT gk e = false then 20 else if now < e.since ∨ e.till < now then 32 else 0
theorem valid_parts {gi : Int} {gk : List UInt8} {e : Ent} {now : Int} (h : validX gi gk e now = 0) : entR e = true ∧ e.index = gi ∧ checkT gk e = true ∧ e.since ≤ now ∧ now ≤ e.till := by
  rw [validX] at h
  split at h
  · exact absurd h (by decide)
  · split at h
    · exact absurd h (by decide)
    · split at h
      · exact absurd h (by decide)
      · split at h
        · exact absurd h (by decide)
        · split at h
          · exact absurd h (by decide)
          · rename_i h1 h2 h3 h4 h5
            simp only [Bool.not_eq_false] at h1 h4
            exact ⟨h1, by omega, h4, by omega, by omega⟩
theorem valid_of {gi : Int} {gk : List UInt8} {e : Ent} {now : Int} (h1 : entR e = true) (h2 : e.index = gi) (h3 : checkT gk e = true) (h4 : e.since ≤ now) (h5 : now ≤ e.till) : validX gi gk e now = 0 := by
  rw [validX, if_neg (by simp [h1]), if_neg (by omega), if_neg (by omega), if_neg (by simp [h3]), if_neg (by omega)]
/-- With one byte of its tag changed it is not signed. -/
theorem sign_changed (k : List UInt8) (e : Ent) (i : Nat) (x : UInt8) (hi : i < 32) : checkT k { signE k e with tag := (signE k e).tag.set i x } = decide ((signE k e).tag[i]? = some x) := by
  have hl := sign_tag k e
  show decide (macL k (bodyL e) = (macL k (bodyL e)).set i x) = decide ((macL k (bodyL e))[i]? = some x)
  have hl' : (macL k (bodyL e)).length = 32 := hl
  generalize macL k (bodyL e) = t at *
  congr 1
  apply propext
  constructor
  · intro h
    rw [h, List.getElem?_set_self (by omega)]
  · intro h
    apply List.ext_getElem?
    intro j
    rw [List.getElem?_set]
    by_cases hj : i = j
    · subst hj
      rw [if_pos rfl, if_pos (by omega), h]
    · rw [if_neg hj]
/-- The chapter's example. -/
def tkK : List UInt8 := [107, 101, 121]
def tkT : Ent := ⟨[97], 0, 1, 3, 0, []⟩
theorem tkT_right : entR (signE tkK tkT) = true := by
  have h := sign_tag tkK tkT
  have h0 : (signE tkK tkT).name = [97] := rfl
  have h1 : (signE tkK tkT).since = 1 := rfl
  have h2 : (signE tkK tkT).till = 3 := rfl
  have h3 : (signE tkK tkT).index = 0 := rfl
  rw [entR, h, h0, h1, h2, h3]
  decide +kernel
theorem tkT_valid : validX 0 tkK (signE tkK tkT) 2 = 0 := valid_of tkT_right rfl (sign_checks _ _) (by decide) (by decide)
theorem tkT_late : validX 0 tkK (signE tkK tkT) 4 = 32 := by
  have h2 : (signE tkK tkT).till = 3 := rfl
  have h3 : (signE tkK tkT).index = 0 := rfl
  rw [validX, if_neg (by simp [tkT_right]), h3, if_neg (by decide), if_neg (by decide), if_neg (by simp [sign_checks]), h2, if_pos (by decide)]
theorem tkT_old : validX 1 tkK (signE tkK tkT) 2 = 33 := by
  have h3 : (signE tkK tkT).index = 0 := rfl
  rw [validX, if_neg (by simp [tkT_right]), h3, if_pos (by decide)]
end Go.Proofs.YtfcjemedheccgaaDoor

namespace Go.Proofs.YtfcjemedheccgaaDoor
set_option maxRecDepth 100000

def extractL (salt secret : List UInt8) : List UInt8 := macL (if salt.length = 0 then List.replicate 32 0 else salt) secret
theorem extractL_length (a b : List UInt8) : (extractL a b).length = 32 := macL_length _ _
/-- t(i). -/
def exT (key info : List UInt8) : Nat → List UInt8
  | 0 => []
  | i + 1 => macL key (exT key info i ++ info ++ [UInt8.ofNat (i + 1)])
/-- t(1) to t(i), one behind the other. -/
def exOut (key info : List UInt8) : Nat → List UInt8
  | 0 => []
  | i + 1 => exOut key info i ++ exT key info (i + 1)
theorem exT_length (key info : List UInt8) (i : Nat) : (exT key info (i + 1)).length = 32 := macL_length _ _
theorem exT_most (key info : List UInt8) (i : Nat) : (exT key info i).length ≤ 32 := by
  cases i with
  | zero => simp [exT]
  | succ i => rw [exT_length]; exact Nat.le_refl _
theorem exOut_length (key info : List UInt8) (i : Nat) : (exOut key info i).length = 32 * i := by
  induction i with
  | zero => rfl
  | succ i ih => rw [exOut, List.length_append, ih, exT_length]; omega
/-- More parts go on where fewer end. -/
theorem exOut_take (key info : List UInt8) (i j n : Nat) (hij : i ≤ j) (hn : n ≤ 32 * i) : (exOut key info j).take n = (exOut key info i).take n := by
  induction j with
  | zero => obtain rfl : i = 0 := by omega
            rfl
  | succ j ih =>
    by_cases h : i = j + 1
    · rw [h]
    · rw [exOut, List.take_append_of_le_length (by rw [exOut_length]; omega)]
      exact ih (by omega)
/-- How many parts. -/
def partsFor (n : Nat) : Nat := (n + 31) / 32
def expandL (key info : List UInt8) (n : Nat) : List UInt8 := (exOut key info (partsFor n)).take n
theorem expandL_length (key info : List UInt8) (n : Nat) : (expandL key info n).length = n := by
  rw [expandL, List.length_take, exOut_length, partsFor]
  omega
theorem expandL_take (key info : List UInt8) (n m : Nat) (h : n ≤ m) : (expandL key info m).take n = expandL key info n := by
  rw [expandL, expandL, List.take_take, Nat.min_eq_left h]
  exact exOut_take key info (partsFor n) (partsFor m) n (by simp only [partsFor]; omega) (by simp only [partsFor]; omega)
theorem expandL_at (key info : List UInt8) (n i : Nat) (h : n ≤ 32 * i) (h' : 32 * i < n + 32) : (exOut key info i).take n = expandL key info n := by
  have : i = partsFor n := by simp only [partsFor]; omega
  rw [this]
  rfl
def carc : List UInt8 := [99, 97, 114, 99, 97, 110, 101, 116, 32]
def namedL (key name : List UInt8) : List UInt8 := expandL key (carc ++ name) 32
theorem namedL_length (k n : List UInt8) : (namedL k n).length = 32 := expandL_length _ _ _
end Go.Proofs.YtfcjemedheccgaaDoor

namespace Go.Proofs.YtfcjemedheccgaaDoor
set_option maxRecDepth 100000
open Go.RowKit

def linkL : List UInt8 := [99, 97, 114, 99, 97, 110, 101, 116, 32, 108, 105, 110, 107]
def chainN : List UInt8 := [99, 104, 97, 105, 110]
def stepL (k : List UInt8) : List UInt8 := sumL (linkL ++ k)
theorem stepL_length (k : List UInt8) : (stepL k).length = 32 := sumL_length _
def backL (k : List UInt8) : Nat → List UInt8
  | 0 => k
  | n + 1 => backL (stepL k) n
theorem backL_succ (k : List UInt8) (n : Nat) : backL k (n + 1) = stepL (backL k n) := by
  induction n generalizing k with
  | zero => rfl
  | succ n ih => rw [backL, ih, backL]
theorem backL_add (k : List UInt8) (m n : Nat) : backL (backL k m) n = backL k (m + n) := by
  induction n with
  | zero => rfl
  | succ n ih => rw [backL_succ, ih, ← backL_succ]; rfl
theorem backL_length (k : List UInt8) (n : Nat) (h : k.length ≤ 4000) : (backL k n).length ≤ 4000 := by
  cases n with
  | zero => exact h
  | succ n => rw [backL_succ, stepL_length]; omega
theorem backL_32 (k : List UInt8) (n : Nat) (h : k.length = 32) : (backL k n).length = 32 := by
  cases n with
  | zero => exact h
  | succ n => rw [backL_succ, stepL_length]
def backA (k : List UInt8) (z : Int) : List UInt8 := if z < 0 ∨ 64 < z then [] else backL k z.toNat
def backC (z : Int) : Int := if z < 0 ∨ 64 < z then 2 else 0
def keyBad (len idx : Int) : Prop := len < 1 ∨ 64 < len ∨ idx < 0 ∨ len < idx
instance (len idx : Int) : Decidable (keyBad len idx) := inferInstanceAs (Decidable (_ ∨ _))
def keyA (seed : List UInt8) (len idx : Int) : List UInt8 := if keyBad len idx then [] else backL (namedL seed chainN) (len - idx).toNat
def chKeyC (len idx : Int) : Int := if keyBad len idx then 2 else 0
def leadsB (yi : Int) (yk : List UInt8) (oi : Int) (ok : List UInt8) : Bool := decide (0 ≤ oi ∧ oi ≤ yi ∧ yk.length = 32 ∧ yi - oi ≤ 64 ∧ backL yk (yi - oi).toNat = ok)

theorem key_len (seed : List UInt8) (len idx : Int) (h : ¬ keyBad len idx) : (keyA seed len idx).length = 32 := by
  rw [keyA, if_neg h]
  exact backL_32 _ _ (namedL_length _ _)
/-- Each key of a chain leads to those of lesser indexes. -/
theorem keys_lead (seed : List UInt8) (len i j : Int) (h : ¬ keyBad len i) (hj : 0 ≤ j) (hi : j ≤ i) : leadsB i (keyA seed len i) j (keyA seed len j) = true := by
  have hb : ¬ keyBad len j := by simp only [keyBad, not_or, Int.not_lt] at h ⊢; omega
  simp only [keyBad, not_or, Int.not_lt] at h
  obtain ⟨h1, h2, h3, h4⟩ := h
  rw [leadsB, decide_eq_true_eq]
  refine ⟨hj, hi, key_len seed len i (by simp only [keyBad, not_or, Int.not_lt]; omega), by omega, ?_⟩
  rw [keyA, keyA, if_neg (by simp only [keyBad, not_or, Int.not_lt]; omega), if_neg hb, backL_add]
  congr 1
  omega
/-- A key is the Step of the next one. -/
theorem key_step (seed : List UInt8) (len i : Int) (h : ¬ keyBad len i) (hi : 1 ≤ i) : stepL (keyA seed len i) = keyA seed len (i - 1) := by
  have hb : ¬ keyBad len (i - 1) := by simp only [keyBad, not_or, Int.not_lt] at h ⊢; omega
  have h' := h
  simp only [keyBad, not_or, Int.not_lt] at h'
  rw [keyA, keyA, if_neg h, if_neg hb, ← backL_succ]
  congr 1
  omega
end Go.Proofs.YtfcjemedheccgaaDoor

namespace Go.Proofs.YtfcjemedheccgaaDoor
set_option maxRecDepth 100000
open Go.RowKit

/-- An office: its seed, length and index, what it issued, the names that it revoked. -/
structure OS where
  seed : List UInt8
  len : Int
  idx : Int
  issued : List Ent
  gone : List (List UInt8)

def OS.key (s : OS) : List UInt8 := keyA s.seed s.len s.idx
def OS.sign (s : OS) (e : Ent) : Ent := signE s.key { e with index := s.idx }
def OS.more (s : OS) (l : List Ent) : OS := { s with issued := s.issued ++ l }
def OS.next (s : OS) : OS := { s with idx := s.idx + 1 }
def OS.mark (s : OS) (n : List UInt8) : OS := { s with gone := s.gone ++ [n] }
def OS.knows (s : OS) (n : List UInt8) : Bool := decide (n ∈ s.issued.map (·.name))
def OS.marked (s : OS) (n : List UInt8) : Bool := decide (n ∈ s.gone)

def argBad (f u : Int) : Prop := f < 0 ∨ u < f ∨ 1073741824 < u
instance (f u : Int) : Decidable (argBad f u) := inferInstanceAs (Decidable (_ ∨ _))
def issC (s : OS) (n : List UInt8) (f u : Int) : Int := if nameB n = false then 30 else if s.marked n = true then 33 else if argBad f u then 2 else 0
def issE (s : OS) (n : List UInt8) (id : Nat) (f u : Int) : Ent := if issC s n f u = 0 then s.sign ⟨n, id, f, u, 0, []⟩ else ent0
def issS (s : OS) (n : List UInt8) (id : Nat) (f u : Int) : OS := if issC s n f u = 0 then s.more [s.sign ⟨n, id, f, u, 0, []⟩] else s

/-- The last entry of each name that was not revoked, in the order in which the names were issued first. -/
def latStep (g : List (List UInt8)) (acc : List Ent) (e : Ent) : List Ent :=
  if e.name ∈ g then acc else if e.name ∈ acc.map (·.name) then acc.set ((acc.map (·.name)).idxOf e.name) e else acc ++ [e]
def latest (g : List (List UInt8)) (l : List Ent) : List Ent := l.foldl (latStep g) []
theorem latest_snoc (g : List (List UInt8)) (l : List Ent) (e : Ent) : latest g (l ++ [e]) = latStep g (latest g l) e := by simp [latest]
def OS.out (s : OS) : List Ent := (latest s.gone s.issued).map s.next.sign
def advC (s : OS) : Int := if s.idx = s.len then 36 else 0
def advL (s : OS) : List Ent := if s.idx = s.len then [] else s.out
def advS (s : OS) : OS := if s.idx = s.len then s else s.next.more s.out
def revC (s : OS) (n : List UInt8) : Int := if s.knows n = false then 30 else if s.marked n = true then 33 else advC s
def revL (s : OS) (n : List UInt8) : List Ent := if revC s n = 0 then advL (s.mark n) else []
def revS (s : OS) (n : List UInt8) : OS := if revC s n = 0 then advS (s.mark n) else s

/-! ### how the last ones are found, the other way -/
def firstStep (g acc : List (List UInt8)) (e : Ent) : List (List UInt8) := if e.name ∈ g then acc else if e.name ∈ acc then acc else acc ++ [e.name]
def firsts (g : List (List UInt8)) (l : List Ent) : List (List UInt8) := l.foldl (firstStep g) []
theorem firsts_snoc (g : List (List UInt8)) (l : List Ent) (e : Ent) : firsts g (l ++ [e]) = firstStep g (firsts g l) e := by simp [firsts]
def lastD (l : List Ent) (n : List UInt8) : Ent := l.foldl (fun a x => if x.name = n then x else a) ent0
theorem lastD_snoc (l : List Ent) (e : Ent) (n : List UInt8) : lastD (l ++ [e]) n = if e.name = n then e else lastD l n := by simp [lastD]
theorem snocInd {α : Type} {p : List α → Prop} (h0 : p []) (h1 : ∀ l x, p l → p (l ++ [x])) (l : List α) : p l := by
  have h : ∀ r : List α, p r.reverse := by
    intro r
    induction r with
    | nil => exact h0
    | cons x r ih => rw [List.reverse_cons]; exact h1 _ _ ih
  have := h l.reverse
  rwa [List.reverse_reverse] at this
theorem latest_names (g : List (List UInt8)) (l : List Ent) : (latest g l).map (·.name) = firsts g l := by
  refine snocInd (p := fun l => (latest g l).map (·.name) = firsts g l) rfl (fun l e ih => ?_) l
  rw [latest_snoc, firsts_snoc, latStep, firstStep, ← ih]
  split
  · rfl
  · split
    · next h =>
      apply List.ext_getElem?
      intro i
      rw [List.getElem?_map, List.getElem?_set, List.getElem?_map]
      split
      · next hi =>
        subst hi
        have hlt := List.idxOf_lt_length_of_mem h
        rw [if_pos (by simpa using hlt)]
        have h2 := List.getElem_idxOf hlt
        rw [List.getElem_map] at h2
        rw [List.getElem?_eq_getElem (by simpa using hlt)]
        simp only [Option.map_some]
        rw [h2]
      · rfl
    · simp
theorem firsts_mem (g : List (List UInt8)) (l : List Ent) (n : List UInt8) : n ∈ firsts g l ↔ n ∉ g ∧ n ∈ l.map (·.name) := by
  refine snocInd (p := fun l => n ∈ firsts g l ↔ n ∉ g ∧ n ∈ l.map (·.name)) (by simp [firsts]) (fun l e ih => ?_) l
  rw [firsts_snoc, firstStep, List.map_append, List.map_cons, List.map_nil]
  split
  · next h =>
    rw [ih]
    constructor
    · rintro ⟨h1, h2⟩
      exact ⟨h1, List.mem_append_left _ h2⟩
    · rintro ⟨h1, h2⟩
      refine ⟨h1, ?_⟩
      rcases List.mem_append.1 h2 with h3 | h3
      · exact h3
      · rw [List.mem_singleton] at h3; subst h3; exact absurd h h1
  · next h =>
    split
    · next h' =>
      rw [ih]
      constructor
      · rintro ⟨h1, h2⟩
        exact ⟨h1, List.mem_append_left _ h2⟩
      · rintro ⟨h1, h2⟩
        refine ⟨h1, ?_⟩
        rcases List.mem_append.1 h2 with h3 | h3
        · exact h3
        · rw [List.mem_singleton] at h3
          subst h3
          exact (ih.1 h').2
    · rw [List.mem_append, ih, List.mem_singleton, List.mem_append, List.mem_singleton]
      constructor
      · rintro (⟨h1, h2⟩ | rfl)
        · exact ⟨h1, .inl h2⟩
        · exact ⟨h, .inr rfl⟩
      · rintro ⟨h1, h2 | h2⟩
        · exact .inl ⟨h1, h2⟩
        · exact .inr h2
theorem firsts_nodup (g : List (List UInt8)) (l : List Ent) : (firsts g l).Nodup := by
  refine snocInd (p := fun l => (firsts g l).Nodup) List.nodup_nil (fun l e ih => ?_) l
  rw [firsts_snoc, firstStep]
  split
  · exact ih
  · split
    · exact ih
    · next h =>
      rw [List.nodup_append]
      refine ⟨ih, by simp, fun a ha b hb => ?_⟩
      rw [List.mem_singleton] at hb
      subst hb
      rintro rfl
      exact h ha
theorem latest_is (g : List (List UInt8)) (l : List Ent) : latest g l = (firsts g l).map (lastD l) := by
  refine snocInd (p := fun l => latest g l = (firsts g l).map (lastD l)) rfl (fun l e ih => ?_) l
  have hn := latest_names g l
  rw [latest_snoc, firsts_snoc, latStep, firstStep, hn]
  by_cases h : e.name ∈ g
  · rw [if_pos h, if_pos h, ih]
    apply List.map_congr_left
    intro n hn
    rw [lastD_snoc, if_neg]
    rintro rfl
    exact ((firsts_mem g l _).1 hn).1 h
  · rw [if_neg h, if_neg h]
    by_cases h' : e.name ∈ firsts g l
    · rw [if_pos h', if_pos h']
      have hlt := List.idxOf_lt_length_of_mem h'
      have hat := List.getElem_idxOf hlt
      apply List.ext_getElem?
      intro i
      rw [List.getElem?_set, List.getElem?_map]
      have hll : (latest g l).length = (firsts g l).length := by rw [← hn, List.length_map]
      by_cases hi : List.idxOf e.name (firsts g l) = i
      · subst hi
        rw [if_pos rfl, if_pos (by omega), List.getElem?_eq_getElem hlt, Option.map_some, hat, lastD_snoc, if_pos rfl]
      · rw [if_neg hi, ih, List.getElem?_map]
        cases hx : (firsts g l)[i]? with
        | none => rfl
        | some n =>
          rw [Option.map_some, Option.map_some, lastD_snoc, if_neg]
          rintro rfl
          obtain ⟨hil, hie⟩ := List.getElem?_eq_some_iff.1 hx
          apply hi
          rw [← hie]
          exact (firsts_nodup g l).idxOf_getElem i hil
    · rw [if_neg h', if_neg h', List.map_append, List.map_cons, List.map_nil, lastD_snoc, if_pos rfl, ih]
      congr 1
      apply List.map_congr_left
      intro n hn
      rw [lastD_snoc, if_neg]
      rintro rfl
      exact h' hn
/-- As the document finds them: out of the first so many. -/
def refLat (g : List (List UInt8)) (l : List Ent) (i : Nat) : List Ent := (firsts g (l.take i)).map (lastD l)
theorem refLat_all (g : List (List UInt8)) (l : List Ent) : refLat g l l.length = latest g l := by rw [refLat, List.take_length, latest_is]
theorem firsts_at {g : List (List UInt8)} {l : List Ent} {i : Nat} {e : Ent} (h : l[i]? = some e) : firsts g (l.take (i + 1)) = firstStep g (firsts g (l.take i)) e := by
  rw [List.take_add_one, h]
  exact firsts_snoc g _ e
theorem refLat_skip {g : List (List UInt8)} {l : List Ent} {i : Nat} {e : Ent} (h : l[i]? = some e) (hs : e.name ∈ (l.take i).map (·.name) ∨ e.name ∈ g) : refLat g l (i + 1) = refLat g l i := by
  rw [refLat, refLat, firsts_at h, firstStep]
  by_cases hg : e.name ∈ g
  · rw [if_pos hg]
  · rw [if_neg hg, if_pos]
    rw [firsts_mem]
    exact ⟨hg, hs.resolve_right hg⟩
theorem refLat_take {g : List (List UInt8)} {l : List Ent} {i : Nat} {e : Ent} (h : l[i]? = some e) (h1 : e.name ∉ (l.take i).map (·.name)) (h2 : e.name ∉ g) : refLat g l (i + 1) = refLat g l i ++ [lastD l e.name] := by
  rw [refLat, refLat, firsts_at h, firstStep, if_neg h2, if_neg]
  · simp
  · rw [firsts_mem]
    exact fun q => h1 q.2
/-- The last one, from a place on. -/
def lastR (l : List Ent) (a : Ent) : Ent := l.foldl (fun a x => if x.name = a.name then x else a) a
theorem lastR_snoc (l : List Ent) (a e : Ent) : lastR (l ++ [e]) a = if e.name = (lastR l a).name then e else lastR l a := by
  rw [lastR, List.foldl_append]
  rfl
theorem lastR_name (l : List Ent) (a : Ent) : (lastR l a).name = a.name := by
  refine snocInd (p := fun l => (lastR l a).name = a.name) rfl (fun l e ih => ?_) l
  rw [lastR_snoc]
  split
  · next h => rw [h, ih]
  · exact ih
theorem lastR_is (l : List Ent) (a : Ent) : lastR l a = l.foldl (fun b x => if x.name = a.name then x else b) a := by
  refine snocInd (p := fun l => lastR l a = l.foldl (fun b x => if x.name = a.name then x else b) a) rfl (fun l e ih => ?_) l
  rw [lastR_snoc, lastR_name, ih]
  simp
theorem lastR_last {l : List Ent} {i : Nat} {e : Ent} (h : l[i]? = some e) : lastR (l.drop i) e = lastD l e.name := by
  obtain ⟨hi, he⟩ := List.getElem?_eq_some_iff.1 h
  have hd : l.drop i = e :: l.drop (i + 1) := by rw [← he]; exact List.drop_eq_getElem_cons hi
  have hs : lastD l e.name = lastD (l.take i ++ l.drop i) e.name := by rw [List.take_append_drop]
  rw [lastR_is, hs, lastD, List.foldl_append, hd]
  simp

/-! ### what is issued holds -/
theorem latest_from (g : List (List UInt8)) (l : List Ent) : ∀ x ∈ latest g l, x ∈ l := by
  refine snocInd (p := fun l => ∀ x ∈ latest g l, x ∈ l) (fun x h => by simp [latest] at h) (fun l e ih => ?_) l
  intro x hx
  rw [latest_snoc, latStep] at hx
  split at hx
  · exact List.mem_append_left _ (ih x hx)
  · split at hx
    · rcases List.mem_or_eq_of_mem_set hx with h | h
      · exact List.mem_append_left _ (ih x h)
      · subst h; simp
    · rcases List.mem_append.1 hx with h | h
      · exact List.mem_append_left _ (ih x h)
      · exact List.mem_append_right _ h
theorem latest_has (g : List (List UInt8)) (l : List Ent) (n : List UInt8) (hg : n ∉ g) (h : n ∈ l.map (·.name)) : ∃ x ∈ latest g l, x.name = n := by
  have h1 : n ∈ firsts g l := (firsts_mem g l n).2 ⟨hg, h⟩
  rw [← latest_names, List.mem_map] at h1
  exact h1
theorem latest_length (g : List (List UInt8)) (l : List Ent) : (latest g l).length ≤ l.length := by
  refine snocInd (p := fun l => (latest g l).length ≤ l.length) (Nat.le_refl _) (fun l e ih => ?_) l
  rw [latest_snoc, latStep, List.length_append, List.length_singleton]
  split
  · omega
  · split
    · rw [List.length_set]; omega
    · rw [List.length_append, List.length_singleton]; omega
end Go.Proofs.YtfcjemedheccgaaDoor
