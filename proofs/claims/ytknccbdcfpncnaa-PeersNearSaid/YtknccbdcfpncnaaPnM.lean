/- Layer 24: whom a node knows on the ring: plain functions. -/
import Derived.Test.YtknccbdcfpncnaaSlPeA
import Derived.Test.YtknccbdcfpncnaaAcM
import Derived.Test.YtknccbdcfpncnaaEnV
namespace Go.Proofs.Ytknccbdcfpncnaa
set_option maxRecDepth 100000
open Go.RowKit

/-! ### texts in order -/
theorem bl_irrefl (a : List UInt8) : Go.Op.bytesLess a a = false := by
  induction a with
  | nil => rfl
  | cons x a ih => simp [Go.Op.bytesLess, ih]
theorem bl_trans {a b c : List UInt8} (h : Go.Op.bytesLess a b = true) (k : Go.Op.bytesLess b c = true) : Go.Op.bytesLess a c = true := by
  induction a generalizing b c with
  | nil =>
    cases c with
    | nil => cases b <;> simp [Go.Op.bytesLess] at k
    | cons z c => rfl
  | cons x a ih =>
    cases b with
    | nil => simp [Go.Op.bytesLess] at h
    | cons y b =>
      cases c with
      | nil => simp [Go.Op.bytesLess] at k
      | cons z c =>
        simp only [Go.Op.bytesLess, Bool.or_eq_true, Bool.and_eq_true, decide_eq_true_eq, beq_iff_eq] at h k ⊢
        rcases h with h | ⟨rfl, h⟩
        · rcases k with k | ⟨rfl, k⟩
          · exact .inl (UInt8.lt_trans h k)
          · exact .inl h
        · rcases k with k | ⟨rfl, k⟩
          · exact .inl k
          · exact .inr ⟨rfl, ih h k⟩
theorem bl_total {a b : List UInt8} (h : a ≠ b) (k : Go.Op.bytesLess a b = false) : Go.Op.bytesLess b a = true := by
  induction a generalizing b with
  | nil =>
    cases b with
    | nil => exact absurd rfl h
    | cons y b => simp [Go.Op.bytesLess] at k
  | cons x a ih =>
    cases b with
    | nil => rfl
    | cons y b =>
      simp only [Go.Op.bytesLess, Bool.or_eq_false_iff, decide_eq_false_iff_not] at k
      simp only [Go.Op.bytesLess, Bool.or_eq_true, Bool.and_eq_true, decide_eq_true_eq, beq_iff_eq]
      by_cases e : x = y
      · subst e
        have k2 := k.2
        rw [beq_self_eq_true, Bool.true_and] at k2
        exact .inr ⟨rfl, ih (fun q => h (by rw [q])) k2⟩
      · refine .inl ?_
        have h1 : ¬ x.toNat < y.toNat := k.1
        have h2 : x.toNat ≠ y.toNat := fun q => e (UInt8.toNat_inj.1 q)
        show y.toNat < x.toNat
        omega

/-! ### what is asked -/
def nameQ (n : List UInt8) (p : Peer) : Bool := decide (p.entry.name = n)
def aheadE (a : Nat) (x y : Ent) : Bool := if distN a x.id = distN a y.id then Go.Op.bytesLess x.name y.name else decide (distN a x.id < distN a y.id)
def placeQ (l : List Peer) (n : List UInt8) : Int := firstPe (nameQ n) l 0
def dropQ (l : List Peer) (n : List UInt8) : List Peer := l.filter fun p => !nameQ n p
def hasQ (l : List Peer) (e : Ent) : Bool := l.any fun p => decide (p.entry = e)
/-- A place of a list. -/
def nthQ (l : List Peer) (i : Nat) : Peer := l.getD i Peer.zero
def okQ (a : Nat) (l : List Peer) (i : Nat) : Bool := !decide (placeQ l (nthQ l i).entry.name < (i : Int)) && (decide (i = 0) || aheadE a (nthQ l (i - 1)).entry (nthQ l i).entry)
def rightQ (me : Ent) (l : List Peer) : Bool := decide (l.length ≤ 7) && decide (placeQ l me.name < 0) && (List.range l.length).all (okQ me.id l)
/-- It makes no gap: of the name, or ahead. -/
def passQ (a : Nat) (e : Ent) (p : Peer) : Bool := nameQ e.name p || aheadE a p.entry e
def roomQ (a : Nat) (l : List Peer) (e : Ent) : Nat := (l.takeWhile (passQ a e)).length
def addQ (me : Ent) (l : List Peer) (p : Peer) : List Peer :=
  if p.entry.name = me.name then l else if hasQ l p.entry then l else
  (dropQ (l.take (roomQ me.id l p.entry)) p.entry.name ++ [p] ++ dropQ (l.drop (roomQ me.id l p.entry)) p.entry.name).take 7
def idsQ (me : Ent) (l : List Peer) : List Nat := me.id :: l.map fun p => p.entry.id
def allQ (me : Ent) (l : List Peer) : List Ent := me :: l.map Peer.entry
def ownerQ (me : Ent) (l : List Peer) (key : Nat) : Ent := (allQ me l).getD (nearI key (idsQ me l)).toNat me
def firstsQ (l : List Peer) (n : Int) : List Ent := (l.take n.toNat).map Peer.entry
def beforeQ (me : Ent) (l : List Peer) : Nat := (l.getLast?.map fun p => p.entry.id).getD me.id
/-- Their identifiers are words. -/
def Words (l : List Peer) : Prop := ∀ p ∈ l, p.entry.id < 18446744073709551616

theorem nthQ_is {l : List Peer} {i : Nat} {x : Peer} (h : l[i]? = some x) : nthQ l i = x := by rw [nthQ, List.getD, h]; rfl
theorem allQ_ids (me : Ent) (l : List Peer) : (allQ me l).map Ent.id = idsQ me l := by simp [allQ, idsQ, Function.comp_def]
theorem allQ_length (me : Ent) (l : List Peer) : (allQ me l).length = l.length + 1 := by simp [allQ]
theorem idsQ_length (me : Ent) (l : List Peer) : (idsQ me l).length = l.length + 1 := by simp [idsQ]
theorem take_while {α : Type} (p : α → Bool) (l : List α) : l.take (l.takeWhile p).length = l.takeWhile p := by
  conv => lhs; arg 2; rw [← List.takeWhile_append_dropWhile (p := p) (l := l)]
  exact List.take_left
theorem drop_while {α : Type} (p : α → Bool) (l : List α) : l.drop (l.takeWhile p).length = l.dropWhile p := by
  conv => lhs; arg 2; rw [← List.takeWhile_append_dropWhile (p := p) (l := l)]
  exact List.drop_left
theorem addQ_length (me : Ent) (l : List Peer) (p : Peer) : (addQ me l p).length ≤ l.length + 7 := by
  rw [addQ]
  split
  · omega
  · split
    · omega
    · rw [List.length_take]; omega
/-- By what is left of the list, as the document has it. -/
theorem rest_while (n a : Peer → Bool) (l : List Peer) :
    (l.takeWhile fun p => n p || a p).filter (fun p => !n p) = (l.filter fun p => !n p).takeWhile a ∧ (l.dropWhile fun p => n p || a p).filter (fun p => !n p) = (l.filter fun p => !n p).dropWhile a := by
  induction l with
  | nil => exact ⟨rfl, rfl⟩
  | cons x r ih =>
    cases hn : n x with
    | true => simp [hn, ih.1, ih.2]
    | false =>
      cases ha : a x with
      | true => simp [hn, ha, ih.1, ih.2]
      | false => simp [hn, ha]
theorem addQ_rest (me : Ent) (l : List Peer) (p : Peer) :
    dropQ (l.take (roomQ me.id l p.entry)) p.entry.name = (dropQ l p.entry.name).takeWhile (fun q => aheadE me.id q.entry p.entry) ∧
    dropQ (l.drop (roomQ me.id l p.entry)) p.entry.name = (dropQ l p.entry.name).dropWhile (fun q => aheadE me.id q.entry p.entry) := by
  have h := rest_while (nameQ p.entry.name) (fun q => aheadE me.id q.entry p.entry) l
  rw [roomQ, take_while, drop_while]
  exact h
/-- The cells of a peer's entry are its first ones. -/
theorem entry_cells (y : Peer) {j : Nat} {u : Value} (h : y.entry.enc[j]? = some u) : y.enc[j]? = some u := by
  have e : y.enc = y.entry.enc ++ [.int .i64 y.since, .int .i64 y.under] := rfl
  rw [e, List.getElem?_append_left (List.getElem?_eq_some_iff.1 h).1]
  exact h
theorem rightQ_big {me : Ent} {l : List Peer} (h : ¬ l.length ≤ 7) : rightQ me l = false := by rw [rightQ, decide_eq_false h, Bool.false_and, Bool.false_and]
theorem rightQ_mine {me : Ent} {l : List Peer} (h : ¬ placeQ l me.name < 0) : rightQ me l = false := by rw [rightQ, decide_eq_false h, Bool.and_false, Bool.false_and]
theorem rightQ_no {me : Ent} {l : List Peer} {k : Nat} (hk : k < l.length) (h : okQ me.id l k = false) : rightQ me l = false := by
  have e : (List.range l.length).all (okQ me.id l) = false := by rw [List.all_eq_false]; exact ⟨k, List.mem_range.2 hk, by rw [h]; decide⟩
  rw [rightQ, e, Bool.and_false]
theorem rightQ_yes {me : Ent} {l : List Peer} (h1 : l.length ≤ 7) (h2 : placeQ l me.name < 0) (h : ∀ j, j < l.length → okQ me.id l j = true) : rightQ me l = true := by
  have e : (List.range l.length).all (okQ me.id l) = true := by rw [List.all_eq_true]; exact fun k hk => h k (List.mem_range.1 hk)
  rw [rightQ, e, decide_eq_true h1, decide_eq_true h2]; rfl
end Go.Proofs.Ytknccbdcfpncnaa
