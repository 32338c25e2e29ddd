/- Plain mathematics of an office: what it issues, goes on to, revokes; the last entry of each name, found in two ways. -/
import Derived.Test.YtfcjemedheccgaaDoorGm
namespace Go.Proofs.YtfcjemedheccgaaDoor
set_option maxRecDepth 100000
open Go.RowKit

/-- An office: its seed, length and index, what it issued, the names that it revoked. -/
structure OS where
  seed : List UInt8
  len : Int
  idx : Int
  issued : List Ent
  gone : List (List UInt8)

def OS.key (s : OS) : List UInt8 := keyA s.seed s.len s.idx
def OS.sign (s : OS) (e : Ent) : Ent := signE s.key { e with index := s.idx }
def OS.more (s : OS) (l : List Ent) : OS := { s with issued := s.issued ++ l }
def OS.next (s : OS) : OS := { s with idx := s.idx + 1 }
def OS.mark (s : OS) (n : List UInt8) : OS := { s with gone := s.gone ++ [n] }
def OS.knows (s : OS) (n : List UInt8) : Bool := decide (n ∈ s.issued.map (·.name))
def OS.marked (s : OS) (n : List UInt8) : Bool := decide (n ∈ s.gone)

def argBad (f u : Int) : Prop := f < 0 ∨ u < f ∨ 1073741824 < u
instance (f u : Int) : Decidable (argBad f u) := inferInstanceAs (Decidable (_ ∨ _))
def issC (s : OS) (n : List UInt8) (f u : Int) : Int := if nameB n = false then 30 else if s.marked n = true then 33 else if argBad f u then 2 else 0
def issE (s : OS) (n : List UInt8) (id : Nat) (f u : Int) : Ent := if issC s n f u = 0 then s.sign ⟨n, id, f, u, 0, []⟩ else ent0
def issS (s : OS) (n : List UInt8) (id : Nat) (f u : Int) : OS := if issC s n f u = 0 then s.more [s.sign ⟨n, id, f, u, 0, []⟩] else s

/-- The last entry of each name that was not revoked, in the order in which the names were issued first. -/
def latStep (g : List (List UInt8)) (acc : List Ent) (e : Ent) : List Ent :=
  if e.name ∈ g then acc else if e.name ∈ acc.map (·.name) then acc.set ((acc.map (·.name)).idxOf e.name) e else acc ++ [e]
def latest (g : List (List UInt8)) (l : List Ent) : List Ent := l.foldl (latStep g) []
theorem latest_snoc (g : List (List UInt8)) (l : List Ent) (e : Ent) : latest g (l ++ [e]) = latStep g (latest g l) e := by simp [latest]
def OS.out (s : OS) : List Ent := (latest s.gone s.issued).map s.next.sign
def advC (s : OS) : Int := if s.idx = s.len then 36 else 0
def advL (s : OS) : List Ent := if s.idx = s.len then [] else s.out
def advS (s : OS) : OS := if s.idx = s.len then s else s.next.more s.out
def revC (s : OS) (n : List UInt8) : Int := if s.knows n = false then 30 else if s.marked n = true then 33 else advC s
def revL (s : OS) (n : List UInt8) : List Ent := if revC s n = 0 then advL (s.mark n) else []
def revS (s : OS) (n : List UInt8) : OS := if revC s n = 0 then advS (s.mark n) else s

/-! ### how the last ones are found, the other way -/
def firstStep (g acc : List (List UInt8)) (e : Ent) : List (List UInt8) := if e.name ∈ g then acc else if e.name ∈ acc then acc else acc ++ [e.name]
def firsts (g : List (List UInt8)) (l : List Ent) : List (List UInt8) := l.foldl (firstStep g) []
theorem firsts_snoc (g : List (List UInt8)) (l : List Ent) (e : Ent) : firsts g (l ++ [e]) = firstStep g (firsts g l) e := by simp [firsts]
def lastD (l : List Ent) (n : List UInt8) : Ent := l.foldl (fun a x => if x.name = n then x else a) ent0
theorem lastD_snoc (l : List Ent) (e : Ent) (n : List UInt8) : lastD (l ++ [e]) n = if e.name = n then e else lastD l n := by simp [lastD]
theorem snocInd {α : Type} {p : List α → Prop} (h0 : p []) (h1 : ∀ l x, p l → p (l ++ [x])) (l : List α) : p l := by
  have h : ∀ r : List α, p r.reverse := by
    intro r
    induction r with
    | nil => exact h0
    | cons x r ih => rw [List.reverse_cons]; exact h1 _ _ ih
  have := h l.reverse
  rwa [List.reverse_reverse] at this
theorem latest_names (g : List (List UInt8)) (l : List Ent) : (latest g l).map (·.name) = firsts g l := by
  refine snocInd (p := fun l => (latest g l).map (·.name) = firsts g l) rfl (fun l e ih => ?_) l
  rw [latest_snoc, firsts_snoc, latStep, firstStep, ← ih]
  split
  · rfl
  · split
    · next h =>
      apply List.ext_getElem?
      intro i
      rw [List.getElem?_map, List.getElem?_set, List.getElem?_map]
      split
      · next hi =>
        subst hi
        have hlt := List.idxOf_lt_length_of_mem h
        rw [if_pos (by simpa using hlt)]
        have h2 := List.getElem_idxOf hlt
        rw [List.getElem_map] at h2
        rw [List.getElem?_eq_getElem (by simpa using hlt)]
        simp only [Option.map_some]
        rw [h2]
      · rfl
    · simp
theorem firsts_mem (g : List (List UInt8)) (l : List Ent) (n : List UInt8) : n ∈ firsts g l ↔ n ∉ g ∧ n ∈ l.map (·.name) := by
  refine snocInd (p := fun l => n ∈ firsts g l ↔ n ∉ g ∧ n ∈ l.map (·.name)) (by simp [firsts]) (fun l e ih => ?_) l
  rw [firsts_snoc, firstStep, List.map_append, List.map_cons, List.map_nil]
  split
  · next h =>
    rw [ih]
    constructor
    · rintro ⟨h1, h2⟩
      exact ⟨h1, List.mem_append_left _ h2⟩
    · rintro ⟨h1, h2⟩
      refine ⟨h1, ?_⟩
      rcases List.mem_append.1 h2 with h3 | h3
      · exact h3
      · rw [List.mem_singleton] at h3; subst h3; exact absurd h h1
  · next h =>
    split
    · next h' =>
      rw [ih]
      constructor
      · rintro ⟨h1, h2⟩
        exact ⟨h1, List.mem_append_left _ h2⟩
      · rintro ⟨h1, h2⟩
        refine ⟨h1, ?_⟩
        rcases List.mem_append.1 h2 with h3 | h3
        · exact h3
        · rw [List.mem_singleton] at h3
          subst h3
          exact (ih.1 h').2
    · rw [List.mem_append, ih, List.mem_singleton, List.mem_append, List.mem_singleton]
      constructor
      · rintro (⟨h1, h2⟩ | rfl)
        · exact ⟨h1, .inl h2⟩
        · exact ⟨h, .inr rfl⟩
      · rintro ⟨h1, h2 | h2⟩
        · exact .inl ⟨h1, h2⟩
        · exact .inr h2
theorem firsts_nodup (g : List (List UInt8)) (l : List Ent) : (firsts g l).Nodup := by
  refine snocInd (p := fun l => (firsts g l).Nodup) List.nodup_nil (fun l e ih => ?_) l
  rw [firsts_snoc, firstStep]
  split
  · exact ih
  · split
    · exact ih
    · next h =>
      rw [List.nodup_append]
      refine ⟨ih, by simp, fun a ha b hb => ?_⟩
      rw [List.mem_singleton] at hb
      subst hb
      rintro rfl
      exact h ha
theorem latest_is (g : List (List UInt8)) (l : List Ent) : latest g l = (firsts g l).map (lastD l) := by
  refine snocInd (p := fun l => latest g l = (firsts g l).map (lastD l)) rfl (fun l e ih => ?_) l
  have hn := latest_names g l
  rw [latest_snoc, firsts_snoc, latStep, firstStep, hn]
  by_cases h : e.name ∈ g
  · rw [if_pos h, if_pos h, ih]
    apply List.map_congr_left
    intro n hn
    rw [lastD_snoc, if_neg]
    rintro rfl
    exact ((firsts_mem g l _).1 hn).1 h
  · rw [if_neg h, if_neg h]
    by_cases h' : e.name ∈ firsts g l
    · rw [if_pos h', if_pos h']
      have hlt := List.idxOf_lt_length_of_mem h'
      have hat := List.getElem_idxOf hlt
      apply List.ext_getElem?
      intro i
      rw [List.getElem?_set, List.getElem?_map]
      have hll : (latest g l).length = (firsts g l).length := by rw [← hn, List.length_map]
      by_cases hi : List.idxOf e.name (firsts g l) = i
      · subst hi
        rw [if_pos rfl, if_pos (by omega), List.getElem?_eq_getElem hlt, Option.map_some, hat, lastD_snoc, if_pos rfl]
      · rw [if_neg hi, ih, List.getElem?_map]
        cases hx : (firsts g l)[i]? with
        | none => rfl
        | some n =>
          rw [Option.map_some, Option.map_some, lastD_snoc, if_neg]
          rintro rfl
          obtain ⟨hil, hie⟩ := List.getElem?_eq_some_iff.1 hx
          apply hi
          rw [← hie]
          exact (firsts_nodup g l).idxOf_getElem i hil
    · rw [if_neg h', if_neg h', List.map_append, List.map_cons, List.map_nil, lastD_snoc, if_pos rfl, ih]
      congr 1
      apply List.map_congr_left
      intro n hn
      rw [lastD_snoc, if_neg]
      rintro rfl
      exact h' hn
/-- As the document finds them: out of the first so many. -/
def refLat (g : List (List UInt8)) (l : List Ent) (i : Nat) : List Ent := (firsts g (l.take i)).map (lastD l)
theorem refLat_all (g : List (List UInt8)) (l : List Ent) : refLat g l l.length = latest g l := by rw [refLat, List.take_length, latest_is]
theorem firsts_at {g : List (List UInt8)} {l : List Ent} {i : Nat} {e : Ent} (h : l[i]? = some e) : firsts g (l.take (i + 1)) = firstStep g (firsts g (l.take i)) e := by
  rw [List.take_add_one, h]
  exact firsts_snoc g _ e
theorem refLat_skip {g : List (List UInt8)} {l : List Ent} {i : Nat} {e : Ent} (h : l[i]? = some e) (hs : e.name ∈ (l.take i).map (·.name) ∨ e.name ∈ g) : refLat g l (i + 1) = refLat g l i := by
  rw [refLat, refLat, firsts_at h, firstStep]
  by_cases hg : e.name ∈ g
  · rw [if_pos hg]
  · rw [if_neg hg, if_pos]
    rw [firsts_mem]
    exact ⟨hg, hs.resolve_right hg⟩
theorem refLat_take {g : List (List UInt8)} {l : List Ent} {i : Nat} {e : Ent} (h : l[i]? = some e) (h1 : e.name ∉ (l.take i).map (·.name)) (h2 : e.name ∉ g) : refLat g l (i + 1) = refLat g l i ++ [lastD l e.name] := by
  rw [refLat, refLat, firsts_at h, firstStep, if_neg h2, if_neg]
  · simp
  · rw [firsts_mem]
    exact fun q => h1 q.2
/-- The last one, from a place on. -/
def lastR (l : List Ent) (a : Ent) : Ent := l.foldl (fun a x => if x.name = a.name then x else a) a
theorem lastR_snoc (l : List Ent) (a e : Ent) : lastR (l ++ [e]) a = if e.name = (lastR l a).name then e else lastR l a := by
  rw [lastR, List.foldl_append]
  rfl
theorem lastR_name (l : List Ent) (a : Ent) : (lastR l a).name = a.name := by
  refine snocInd (p := fun l => (lastR l a).name = a.name) rfl (fun l e ih => ?_) l
  rw [lastR_snoc]
  split
  · next h => rw [h, ih]
  · exact ih
theorem lastR_is (l : List Ent) (a : Ent) : lastR l a = l.foldl (fun b x => if x.name = a.name then x else b) a := by
  refine snocInd (p := fun l => lastR l a = l.foldl (fun b x => if x.name = a.name then x else b) a) rfl (fun l e ih => ?_) l
  rw [lastR_snoc, lastR_name, ih]
  simp
theorem lastR_last {l : List Ent} {i : Nat} {e : Ent} (h : l[i]? = some e) : lastR (l.drop i) e = lastD l e.name := by
  obtain ⟨hi, he⟩ := List.getElem?_eq_some_iff.1 h
  have hd : l.drop i = e :: l.drop (i + 1) := by rw [← he]; exact List.drop_eq_getElem_cons hi
  have hs : lastD l e.name = lastD (l.take i ++ l.drop i) e.name := by rw [List.take_append_drop]
  rw [lastR_is, hs, lastD, List.foldl_append, hd]
  simp

/-! ### what is issued holds -/
theorem latest_from (g : List (List UInt8)) (l : List Ent) : ∀ x ∈ latest g l, x ∈ l := by
  refine snocInd (p := fun l => ∀ x ∈ latest g l, x ∈ l) (fun x h => by simp [latest] at h) (fun l e ih => ?_) l
  intro x hx
  rw [latest_snoc, latStep] at hx
  split at hx
  · exact List.mem_append_left _ (ih x hx)
  · split at hx
    · rcases List.mem_or_eq_of_mem_set hx with h | h
      · exact List.mem_append_left _ (ih x h)
      · subst h; simp
    · rcases List.mem_append.1 hx with h | h
      · exact List.mem_append_left _ (ih x h)
      · exact List.mem_append_right _ h
theorem latest_has (g : List (List UInt8)) (l : List Ent) (n : List UInt8) (hg : n ∉ g) (h : n ∈ l.map (·.name)) : ∃ x ∈ latest g l, x.name = n := by
  have h1 : n ∈ firsts g l := (firsts_mem g l n).2 ⟨hg, h⟩
  rw [← latest_names, List.mem_map] at h1
  exact h1
theorem latest_length (g : List (List UInt8)) (l : List Ent) : (latest g l).length ≤ l.length := by
  refine snocInd (p := fun l => (latest g l).length ≤ l.length) (Nat.le_refl _) (fun l e ih => ?_) l
  rw [latest_snoc, latStep, List.length_append, List.length_singleton]
  split
  · omega
  · split
    · rw [List.length_set]; omega
    · rw [List.length_append, List.length_singleton]; omega
end Go.Proofs.YtfcjemedheccgaaDoor
