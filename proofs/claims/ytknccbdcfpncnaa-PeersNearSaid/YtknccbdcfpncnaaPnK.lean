/- Layer 24: mathematics: a list that may be a node's stays so; who owns what in it. -/
import Derived.Test.YtknccbdcfpncnaaPnL
import Derived.Test.YtknccbdcfpncnaaAcE
namespace Go.Proofs.Ytknccbdcfpncnaa
set_option maxRecDepth 100000
open Go.RowKit

theorem aheadE_trans {a : Nat} {x y z : Ent} (h : aheadE a x y = true) (k : aheadE a y z = true) : aheadE a x z = true := by
  unfold aheadE at *
  split at h
  · next e1 =>
    split at k
    · next e2 => rw [if_pos (e1.trans e2)]; exact bl_trans h k
    · next e2 =>
      rw [decide_eq_true_eq] at k
      rw [if_neg (by omega), decide_eq_true_eq]; omega
  · next e1 =>
    rw [decide_eq_true_eq] at h
    split at k
    · next e2 => rw [if_neg (by omega), decide_eq_true_eq]; omega
    · next e2 =>
      rw [decide_eq_true_eq] at k
      rw [if_neg (by omega), decide_eq_true_eq]; omega
theorem aheadE_total {a : Nat} {x y : Ent} (hn : x.name ≠ y.name) (h : aheadE a x y = false) : aheadE a y x = true := by
  unfold aheadE at *
  split at h
  · next e1 => rw [if_pos e1.symm]; exact bl_total hn h
  · next e1 =>
    rw [decide_eq_false_iff_not] at h
    rw [if_neg (fun q => e1 q.symm), decide_eq_true_eq]; omega
theorem aheadE_dist {a : Nat} {x y : Ent} (h : aheadE a x y = true) : distN a x.id ≤ distN a y.id := by
  unfold aheadE at h
  split at h
  · next e => omega
  · rw [decide_eq_true_eq] at h; omega
/-- A list that may be a node's. -/
structure RightL (me : Ent) (l : List Peer) : Prop where
  len : l.length ≤ 7
  mine : ∀ p ∈ l, p.entry.name ≠ me.name
  order : l.Pairwise fun p q => aheadE me.id p.entry q.entry = true
  names : l.Pairwise fun p q => p.entry.name ≠ q.entry.name
theorem chain_pairs {α : Type} {R : α → α → Prop} (ht : ∀ x y z, R x y → R y z → R x z) {l : List α} (h : ∀ (i : Nat) (x y : α), l[i]? = some x → l[i + 1]? = some y → R x y) : l.Pairwise R := by
  induction l with
  | nil => exact List.Pairwise.nil
  | cons x r ih =>
    have hr := ih fun i y z hy hz => h (i + 1) y z hy hz
    refine List.Pairwise.cons (fun y hy => ?_) hr
    cases r with
    | nil => cases hy
    | cons z r =>
      have h1 : R x z := h 0 x z rfl rfl
      rcases List.mem_cons.1 hy with rfl | hy
      · exact h1
      · exact ht _ _ _ h1 ((List.pairwise_cons.1 hr).1 y hy)
theorem mem_while {α : Type} {p : α → Bool} {l : List α} {x : α} (h : x ∈ l.takeWhile p) : p x = true := by
  induction l with
  | nil => cases h
  | cons y r ih =>
    rw [List.takeWhile_cons] at h
    cases hp : p y with
    | true =>
      rw [hp, if_pos rfl] at h
      rcases List.mem_cons.1 h with rfl | h
      · exact hp
      · exact ih h
    | false => rw [hp] at h; cases h
theorem okQ_true {a : Nat} {l : List Peer} {i : Nat} {x : Peer} (hx : l[i]? = some x) (h : okQ a l i = true) :
    (∀ (j : Nat) (y : Peer), j < i → l[j]? = some y → y.entry.name ≠ x.entry.name) ∧ ∀ (j : Nat) (y : Peer), i = j + 1 → l[j]? = some y → aheadE a y.entry x.entry = true := by
  rw [okQ, nthQ_is hx, Bool.and_eq_true, Bool.not_eq_true', decide_eq_false_iff_not, Bool.or_eq_true, decide_eq_true_eq] at h
  refine ⟨fun j y hj hy e => h.1 ?_, fun j y hj hy => ?_⟩
  · have := (placeQ_low hy e).2; omega
  · rcases h.2 with q | q
    · omega
    · rwa [show i - 1 = j by omega, nthQ_is hy] at q
theorem rightQ_iff (me : Ent) (l : List Peer) : rightQ me l = true ↔ RightL me l := by
  constructor
  · intro h
    rw [rightQ, Bool.and_eq_true, Bool.and_eq_true, decide_eq_true_eq, decide_eq_true_eq, List.all_eq_true] at h
    obtain ⟨⟨h1, h2⟩, h3⟩ := h
    have hok : ∀ i x, l[i]? = some x → okQ me.id l i = true := fun i x hx => h3 i (List.mem_range.2 (List.getElem?_eq_some_iff.1 hx).1)
    refine ⟨h1, placeQ_neg h2, chain_pairs (R := fun p q : Peer => aheadE me.id p.entry q.entry = true) (fun x y z a b => aheadE_trans a b) fun i x y hx hy => (okQ_true hy (hok _ _ hy)).2 i x rfl hx, ?_⟩
    rw [List.pairwise_iff_getElem]
    intro i j hi hj hij
    exact (okQ_true (List.getElem?_eq_getElem hj) (hok _ _ (List.getElem?_eq_getElem hj))).1 i _ hij (List.getElem?_eq_getElem hi)
  · intro h
    refine rightQ_yes h.len (by rw [placeQ_none h.mine]; decide) fun i hi => ?_
    have hx : l[i]? = some l[i] := List.getElem?_eq_getElem hi
    have hn := List.pairwise_iff_getElem.1 h.names
    have ho := List.pairwise_iff_getElem.1 h.order
    have hp : placeQ l l[i].entry.name = (i : Int) := placeQ_high hx rfl fun j y hj hy => by
      obtain ⟨hj2, rfl⟩ := List.getElem?_eq_some_iff.1 hy
      exact hn j i hj2 hi hj
    rw [okQ, nthQ_is hx, hp, Bool.and_eq_true, Bool.not_eq_true', decide_eq_false_iff_not, Bool.or_eq_true, decide_eq_true_eq]
    refine ⟨by omega, ?_⟩
    by_cases e : i = 0
    · exact .inl e
    · refine .inr ?_
      have hj : i - 1 < l.length := by omega
      rw [nthQ_is (List.getElem?_eq_getElem hj)]
      exact ho (i - 1) i hj hi (by omega)
theorem RightL.sub {me : Ent} {l k : List Peer} (h : RightL me l) (s : k.Sublist l) : RightL me k :=
  ⟨Nat.le_trans s.length_le h.len, fun p hp => h.mine p (s.subset hp), h.order.sublist s, h.names.sublist s⟩
theorem RightL.drop {me : Ent} {l : List Peer} (h : RightL me l) (n : List UInt8) : RightL me (dropQ l n) := h.sub List.filter_sublist
theorem dropQ_none (l : List Peer) (n : List UInt8) : placeQ (dropQ l n) n = -1 := placeQ_none fun x hx e => by
  have := (List.mem_filter.1 hx).2
  rw [(nameQ_is n x).2 e] at this
  cases this
/-- One more. -/
theorem add_right {me : Ent} {l : List Peer} (h : RightL me l) (p : Peer) : RightL me (addQ me l p) := by
  rw [addQ]
  split
  · exact h
  · next hm =>
    split
    · exact h
    · rw [(addQ_rest me l p).1, (addQ_rest me l p).2]
      have hr := h.drop p.entry.name
      have hno : ∀ q ∈ dropQ l p.entry.name, q.entry.name ≠ p.entry.name := fun q hq e => by
        have := (List.mem_filter.1 hq).2
        rw [(nameQ_is _ q).2 e] at this
        cases this
      generalize dropQ l p.entry.name = rest at hr hno
      obtain ⟨A, hA⟩ : ∃ A, A = rest.takeWhile fun q => aheadE me.id q.entry p.entry := ⟨_, rfl⟩
      obtain ⟨B, hB⟩ : ∃ B, B = rest.dropWhile fun q => aheadE me.id q.entry p.entry := ⟨_, rfl⟩
      have hAB : rest = A ++ B := by rw [hA, hB]; exact (List.takeWhile_append_dropWhile ..).symm
      have h1 : ∀ q ∈ A, aheadE me.id q.entry p.entry = true := fun q hq => by rw [hA] at hq; exact mem_while (p := fun q : Peer => aheadE me.id q.entry p.entry) hq
      rw [← hA, ← hB]
      have ho := hr.order
      have hn := hr.names
      have hmi := hr.mine
      rw [hAB] at ho hn hmi hno
      rw [List.pairwise_append] at ho hn
      have h2 : ∀ q ∈ B, aheadE me.id p.entry q.entry = true := by
        cases hBc : B with
        | nil => intro q hq; cases hq
        | cons b r =>
          have hb : aheadE me.id b.entry p.entry = false := by
            have := List.head?_dropWhile_not (fun q : Peer => aheadE me.id q.entry p.entry) rest
            rw [← hB, hBc] at this
            simpa using this
          have hpb := aheadE_total (hno b (by rw [hBc]; simp)) hb
          intro q hq
          rcases List.mem_cons.1 hq with rfl | hq
          · exact hpb
          · rw [hBc] at ho
            exact aheadE_trans hpb ((List.pairwise_cons.1 ho.2.1).1 q hq)
      have hfull : (A ++ [p] ++ B).Pairwise (fun p q => aheadE me.id p.entry q.entry = true) ∧ (A ++ [p] ++ B).Pairwise (fun p q => p.entry.name ≠ q.entry.name) ∧ ∀ q ∈ A ++ [p] ++ B, q.entry.name ≠ me.name := by
        refine ⟨?_, ?_, ?_⟩
        · rw [List.append_assoc, List.pairwise_append, List.pairwise_append]
          refine ⟨ho.1, ⟨List.pairwise_singleton _ _, ho.2.1, fun x hx y hy => by rw [List.mem_singleton] at hx; subst hx; exact h2 y hy⟩, fun x hx y hy => ?_⟩
          rcases List.mem_append.1 hy with hy | hy
          · rw [List.mem_singleton] at hy; subst hy; exact h1 x hx
          · exact ho.2.2 x hx y hy
        · rw [List.append_assoc, List.pairwise_append, List.pairwise_append]
          refine ⟨hn.1, ⟨List.pairwise_singleton _ _, hn.2.1, fun x hx y hy => by rw [List.mem_singleton] at hx; subst hx; exact fun e => hno y (List.mem_append_right _ hy) e.symm⟩, fun x hx y hy => ?_⟩
          rcases List.mem_append.1 hy with hy | hy
          · rw [List.mem_singleton] at hy; subst hy; exact hno x (List.mem_append_left _ hx)
          · exact hn.2.2 x hx y hy
        · intro q hq
          rcases List.mem_append.1 hq with hq | hq
          · rcases List.mem_append.1 hq with hq | hq
            · exact hmi q (List.mem_append_left _ hq)
            · rw [List.mem_singleton] at hq; subst hq; exact hm
          · exact hmi q (List.mem_append_right _ hq)
      refine ⟨by rw [List.length_take]; omega, fun q hq => hfull.2.2 q (List.mem_of_mem_take hq), hfull.1.sublist (List.take_sublist _ _), hfull.2.1.sublist (List.take_sublist _ _)⟩
/-- What was added is known by its entry. -/
theorem add_place {me : Ent} {l : List Peer} (h : RightL me l) (p : Peer) (hm : p.entry.name ≠ me.name) :
    (placeQ (addQ me l p) p.entry.name < 0 ∧ l.length = 7) ∨ ∃ (k : Nat) (x : Peer), placeQ (addQ me l p) p.entry.name = (k : Int) ∧ (addQ me l p)[k]? = some x ∧ x.entry = p.entry := by
  rw [addQ, if_neg hm]
  split
  · next hh =>
    rw [hasQ, List.any_eq_true] at hh
    obtain ⟨x, hx, he⟩ := hh
    rw [decide_eq_true_eq] at he
    obtain ⟨i, hi⟩ := List.mem_iff_getElem?.1 hx
    obtain ⟨hi2, rfl⟩ := List.getElem?_eq_some_iff.1 hi
    refine .inr ⟨i, l[i], ?_, hi, he⟩
    refine placeQ_high hi (by rw [he]) fun j y hj hy => ?_
    obtain ⟨hj2, rfl⟩ := List.getElem?_eq_some_iff.1 hy
    rw [← he]
    exact List.pairwise_iff_getElem.1 h.names j i hj2 hi2 hj
  · rw [(addQ_rest me l p).1, (addQ_rest me l p).2]
    have hrl : (dropQ l p.entry.name).length ≤ l.length := List.length_filter_le _ _
    have hno : ∀ q ∈ dropQ l p.entry.name, q.entry.name ≠ p.entry.name := fun q hq e => by
      have := (List.mem_filter.1 hq).2
      rw [(nameQ_is _ q).2 e] at this
      cases this
    generalize dropQ l p.entry.name = rest at hrl hno
    obtain ⟨A, hA⟩ : ∃ A, A = rest.takeWhile fun q => aheadE me.id q.entry p.entry := ⟨_, rfl⟩
    obtain ⟨B, hB⟩ : ∃ B, B = rest.dropWhile fun q => aheadE me.id q.entry p.entry := ⟨_, rfl⟩
    have hAB : rest = A ++ B := by rw [hA, hB]; exact (List.takeWhile_append_dropWhile ..).symm
    rw [← hA, ← hB]
    have hAl : A.length ≤ l.length := by
      have : rest.length = A.length + B.length := by rw [hAB, List.length_append]
      omega
    have hlen := h.len
    rcases Nat.lt_or_ge A.length 7 with q | q
    · refine .inr ⟨A.length, p, ?_, ?_, rfl⟩
      · refine placeQ_high (x := p) ?_ rfl fun j y hj hy => ?_
        · rw [List.getElem?_take_of_lt q, List.append_assoc, List.getElem?_append_right (Nat.le_refl _), Nat.sub_self]; rfl
        · rw [List.getElem?_take_of_lt (by omega), List.append_assoc, List.getElem?_append_left hj] at hy
          exact hno y (by rw [hAB]; exact List.mem_append_left _ (List.mem_of_getElem? hy))
      · rw [List.getElem?_take_of_lt q, List.append_assoc, List.getElem?_append_right (Nat.le_refl _), Nat.sub_self]; rfl
    · refine .inl ⟨?_, by omega⟩
      rw [placeQ_none ?_]
      · decide
      · intro x hx
        rw [List.append_assoc, List.take_append_of_le_length (by omega)] at hx
        exact hno x (by rw [hAB]; exact List.mem_append_left _ (List.mem_of_mem_take hx))
theorem addQ_mine {me : Ent} {l : List Peer} {p : Peer} (hm : p.entry.name = me.name) : addQ me l p = l := by rw [addQ, if_pos hm]
end Go.Proofs.Ytknccbdcfpncnaa
