/- Layer 24: mathematics: who owns what lies behind a node, and what lies at a peer. -/
import Derived.Test.YtknccbdcfpncnaaPnK
namespace Go.Proofs.Ytknccbdcfpncnaa
set_option maxRecDepth 100000
open Go.RowKit

theorem idsQ_zero (me : Ent) (l : List Peer) : (idsQ me l).getD 0 0 = me.id := rfl
theorem idsQ_succ {me : Ent} {l : List Peer} {i : Nat} {x : Peer} (hx : l[i]? = some x) : (idsQ me l).getD (i + 1) 0 = x.entry.id := by
  rw [idsQ, List.getD, List.getElem?_cons_succ, List.getElem?_map, hx]; rfl
theorem owner_me {me : Ent} {l : List Peer} {key : Nat} (h : ∀ p ∈ l, distN key me.id ≤ distN key p.entry.id) : ownerQ me l key = me := by
  have e : nearL key (idsQ me l) = some 0 := nearL_of key _ 0 (by rw [idsQ_length]; omega) (fun i hi => by
    rw [idsQ_zero]
    cases i with
    | zero => exact Nat.le_refl _
    | succ i =>
      rw [idsQ_length] at hi
      have hx : l[i]? = some l[i] := List.getElem?_eq_getElem (by omega)
      rw [idsQ_succ hx]
      exact h _ (List.getElem_mem _)) (fun i hi => by omega)
  rw [ownerQ, nearI, e]; rfl
theorem distN_self (a : Nat) : distN a a = 0 := by rw [distN, if_pos (Nat.le_refl _), Nat.sub_self]
theorem owner_self (me : Ent) (l : List Peer) : ownerQ me l me.id = me := owner_me fun p _ => by rw [distN_self]; exact Nat.zero_le _
/-- From behind the last one on, up to the node, the node is nearest. -/
theorem behind_near {b key a x : Nat} (hb : b < 18446744073709551616) (hk : key < 18446744073709551616) (ha : a < 18446744073709551616) (hx : x < 18446744073709551616) (hne : b ≠ a) (hw : withinB b key a = true) (hd : distN a x ≤ distN a b) : distN key a ≤ distN key x := by
  unfold withinB at hw
  rw [if_neg hne] at hw
  unfold distN at *
  (repeat' split at hw) <;> simp only [Bool.and_eq_true, Bool.or_eq_true, decide_eq_true_eq] at hw <;> (repeat' split at hd) <;> (repeat' split) <;> omega
theorem last_far {me : Ent} {l : List Peer} (h : RightL me l) : ∀ p ∈ l, distN me.id p.entry.id ≤ distN me.id (beforeQ me l) := by
  intro p hp
  obtain ⟨i, hi⟩ := List.mem_iff_getElem?.1 hp
  obtain ⟨hi2, rfl⟩ := List.getElem?_eq_some_iff.1 hi
  have hl : l[l.length - 1]? = some l[l.length - 1] := List.getElem?_eq_getElem (by omega)
  have e : beforeQ me l = l[l.length - 1].entry.id := by rw [beforeQ, List.getLast?_eq_getElem?, hl]; rfl
  rw [e]
  by_cases hil : i = l.length - 1
  · subst hil; exact Nat.le_refl _
  · exact aheadE_dist (List.pairwise_iff_getElem.1 h.order i (l.length - 1) hi2 (by omega) (by omega))
theorem beforeQ_word {me : Ent} {l : List Peer} (hw : Words l) (hi : me.id < 18446744073709551616) : beforeQ me l < 18446744073709551616 := by
  rw [beforeQ]
  cases hl : l.getLast? with
  | none => exact hi
  | some p => exact hw p (List.mem_of_getLast? hl)
theorem owner_behind {me : Ent} {l : List Peer} {key : Nat} (h : RightL me l) (hw : Words l) (hi : me.id < 18446744073709551616) (hk : key < 18446744073709551616) (hne : beforeQ me l ≠ me.id) (hin : withinB (beforeQ me l) key me.id = true) : ownerQ me l key = me :=
  owner_me fun p hp => behind_near (beforeQ_word hw hi) hk hi (hw p hp) hne hin (last_far h p hp)
theorem distN_zero {a b : Nat} (ha : a < 18446744073709551616) (hb : b < 18446744073709551616) (h : distN a b = 0) : a = b := by
  unfold distN at h
  split at h <;> omega
/-- Each peer owns its own place, if it is the first one there, and the node isn't there. -/
theorem owner_peer {me : Ent} {l : List Peer} (h : RightL me l) (hw : Words l) (hi : me.id < 18446744073709551616) {i : Nat} {x : Peer} (hx : l[i]? = some x) (hne : x.entry.id ≠ me.id) (hal : ∀ (j : Nat) (y : Peer), i = j + 1 → l[j]? = some y → y.entry.id ≠ x.entry.id) : ownerQ me l x.entry.id = x.entry := by
  have hxw := hw x (List.mem_of_getElem? hx)
  obtain ⟨hil, hxe⟩ := List.getElem?_eq_some_iff.1 hx
  have e : nearL x.entry.id (idsQ me l) = some (i + 1) := nearL_of _ _ (i + 1) (by rw [idsQ_length]; omega) (fun j hj => by rw [idsQ_succ hx, distN_self]; exact Nat.zero_le _) (fun j hj => by
    rw [idsQ_succ hx, distN_self]
    cases j with
    | zero =>
      rw [idsQ_zero]
      rcases Nat.eq_zero_or_pos (distN x.entry.id me.id) with q | q
      · exact absurd (distN_zero hxw hi q) hne
      · exact q
    | succ j =>
      have hjl : j < l.length := by omega
      have hy : l[j]? = some l[j] := List.getElem?_eq_getElem hjl
      rw [idsQ_succ hy]
      have hyw := hw _ (List.getElem_mem hjl)
      rcases Nat.eq_zero_or_pos (distN x.entry.id l[j].entry.id) with q | q
      · have hid := distN_zero hxw hyw q
        obtain ⟨t, ht⟩ : ∃ t, i = t + 1 := ⟨i - 1, by omega⟩
        have htl : t < l.length := by omega
        have hz : l[t]? = some l[t] := List.getElem?_eq_getElem htl
        have hp := List.pairwise_iff_getElem.1 h.order
        have d2 := aheadE_dist (hp t i htl hil (by omega))
        have d1 : distN me.id l[j].entry.id ≤ distN me.id l[t].entry.id := by
          by_cases ejt : j = t
          · subst ejt; exact Nat.le_refl _
          · exact aheadE_dist (hp j t hjl htl (by omega))
        rw [hxe] at d2
        rw [← hid] at d1
        have hzw := hw _ (List.getElem_mem htl)
        exact absurd (distN_inj me.id _ _ hi hzw hxw (Nat.le_antisymm d2 d1)) (hal t _ ht hz)
      · exact q)
  rw [ownerQ, nearI, e]
  show (allQ me l).getD (i + 1) me = x.entry
  rw [allQ, List.getD, List.getElem?_cons_succ, List.getElem?_map, hx]; rfl
end Go.Proofs.Ytknccbdcfpncnaa
