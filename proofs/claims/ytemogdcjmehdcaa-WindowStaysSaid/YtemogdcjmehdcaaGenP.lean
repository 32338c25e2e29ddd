/- A statement that leaves its order open, in which all stores wait for all reads: two conditions on the world, S0 until the first store, S1 from the beginning to the end. -/
import Derived.Test.YtemogdcjmehdcaaGenS
namespace Go.Proofs.Ytemogdcjmehdcaa
set_option maxRecDepth 100000
open Go.RowKit

/-- One of these has come up. -/
def AnyDone (st : List Nat) (L : Array Bool) : Prop := ∃ k, k ∈ st ∧ L.getD k false = true
/-- The condition at hand. -/
def HoldG (st : List Nat) (S0 S1 : World → Prop) (L : Array Bool) (w : World) : Prop := S1 w ∧ (S0 w ∨ AnyDone st L)
/-- Whatever has come up came up behind all that it waits for. -/
def ClosedG (md : Region.Mode) (ops : Array Oper) (L : Array Bool) : Prop :=
  ∀ k o, ops[k]? = some o → L.getD k false = true → ∀ e ∈ o.after, Region.binds md e = true → L.getD e.on false = true
def closedGB (md : Region.Mode) (ops : Array Oper) (L : Array Bool) : Bool :=
  (List.range ops.size).all fun k => !L.getD k false || (match ops[k]? with | none => true | some o => o.after.all fun e => !Region.binds md e || L.getD e.on false)
/-- Each of these waits for number i by itself. -/
def waitGB (md : Region.Mode) (ops : Array Oper) (st : List Nat) (i : Nat) : Bool :=
  st.all fun k => match ops[k]? with | none => false | some o => o.after.any fun e => Region.binds md e && e.on == i

theorem closedG_of {md : Region.Mode} {ops : Array Oper} {L : Array Bool} (h : closedGB md ops L = true) : ClosedG md ops L := by
  intro k o hk hL e he hb
  simp only [closedGB, List.all_eq_true, List.mem_range] at h
  have h1 := h k (Array.getElem?_eq_some_iff.1 hk).1
  rw [hL, hk] at h1
  simp only [Bool.not_true, Bool.false_or] at h1
  have h2 := Array.all_eq_true_iff_forall_mem.1 h1 e he
  rw [hb] at h2
  simpa using h2

/-- Whatever order is picked from here on. -/
def wpAnyG (P : Program) (md : Region.Mode) (ops : Array Oper) (Q : Exit → Act → World → Prop) (st : List Nat) (S0 S1 : World → Prop) : Nat → Array Bool → Act → World → Prop
  | 0, L, a, w => Region.ready md ops L = [] ∧ Q .normal a w
  | fuel + 1, L, a, w => (Region.ready md ops L = [] → Q .normal a w) ∧
      ∀ i ∈ Region.ready md ops L, wpOp P ops Q i (fun a' w' => HoldG st S0 S1 (L.setIfInBounds i true) w' ∧ wpAnyG P md ops Q st S0 S1 fuel (L.setIfInBounds i true) a' w') a w

section
variable {P : Program} {md : Region.Mode} {ops : Array Oper} {Q : Exit → Act → World → Prop} {st : List Nat} {S0 S1 : World → Prop}

theorem any_of_G : ∀ (fuel : Nat) (L : Array Bool) (a : Act) (w : World), wpAnyG P md ops Q st S0 S1 fuel L a w → wpAny P md ops Q fuel L a w
  | 0, _, _, _, h => h
  | fuel + 1, _, _, _, h => ⟨h.1, fun i hi => wpOp_mono (fun a' w' h' => any_of_G fuel _ a' w' h'.2) (h.2 i hi)⟩

theorem done_of_set {L : Array Bool} {i : Nat} (hi : i ∉ st) (h : AnyDone st (L.setIfInBounds i true)) : AnyDone st L := by
  obtain ⟨k, hk, h1⟩ := h
  refine ⟨k, hk, ?_⟩
  rw [getD_set_ne false (fun e => hi (by rw [e]; exact hk))] at h1
  exact h1
theorem done_set {L : Array Bool} (i : Nat) (h : AnyDone st L) : AnyDone st (L.setIfInBounds i true) := by
  obtain ⟨k, hk, h1⟩ := h
  exact ⟨k, hk, getD_set_true h1⟩
theorem not_both {L : Array Bool} {i : Nat} (h : L.getD i true = false) : L.getD i false = false := by
  rcases Nat.lt_or_ge i L.size with k | k
  · simp [k] at h ⊢
    exact h
  · simp [Array.getElem?_eq_none k]
theorem closed_set {L : Array Bool} {j : Nat} (hc : ClosedG md ops L) (hj : j ∈ Region.ready md ops L) : ClosedG md ops (L.setIfInBounds j true) := by
  intro k o hk hL e he hb
  by_cases hkj : j = k
  · subst hkj
    obtain ⟨_, o', ho', hall⟩ := mem_ready.1 hj
    rw [hk] at ho'
    cases ho'
    exact getD_set_true (hall e he hb)
  · rw [getD_set_ne false hkj] at hL
    exact getD_set_true (hc k o hk hL e he hb)

/-- Whoever has not come up, and does not wait for number i, lies apart from it. -/
def ApartG (md : Region.Mode) (ops : Array Oper) (i : Nat) (oi : Oper) (L : Array Bool) : Prop :=
  ∀ j oj, ops[j]? = some oj → j ≠ i → L.getD j true = false → (∀ e ∈ oj.after, Region.binds md e = true → e.on ≠ i) → oi.apart ops oj = true
theorem unlisted_set {L : Array Bool} {j k : Nat} (h : (L.setIfInBounds j true).getD k true = false) : L.getD k true = false := by
  by_cases e : j = k
  · subst e
    rcases Nat.lt_or_ge j L.size with q | q
    · simp [q] at h
    · simp at h
  · rwa [getD_set_ne true e] at h
theorem ApartG.set {i : Nat} {oi : Oper} {L : Array Bool} (h : ApartG md ops i oi L) (j : Nat) : ApartG md ops i oi (L.setIfInBounds j true) :=
  fun k ok h1 h2 h3 h4 => h k ok h1 h2 (unlisted_set h3) h4
/-- Who may come up together with number i does not wait for it. -/
theorem no_wait {i j : Nat} {oj : Oper} {L : Array Bool} (hi : i ∈ Region.ready md ops L) (hoj : ops[j]? = some oj) (hj : j ∈ Region.ready md ops L) : ∀ e ∈ oj.after, Region.binds md e = true → e.on ≠ i := by
  obtain ⟨-, o, ho, hall⟩ := mem_ready.1 hj
  rw [hoj] at ho
  cases ho
  intro e he hb h
  have q := hall e he hb
  rw [h, not_both (mem_ready.1 hi).1] at q
  cases q

/-- What number i yields wherever it may still come. -/
abbrev YieldG (P : Program) (md : Region.Mode) (ops : Array Oper) (st : List Nat) (S0 S1 : World → Prop) (i : Nat) (oi : Oper) (v : Value) (a : Act) : Prop :=
  YieldsIf P ops (fun w' => ∃ L', ClosedG md ops L' ∧ L'.getD i true = false ∧ HoldG st S0 S1 L' w') oi v a

theorem anyG_first {i : Nat} {oi : Oper} {v : Value} (hi : ops[i]? = some oi) (hsel : ∀ (j : Nat) (o : Oper) cs b, ops[j]? = some o → o.op ≠ .select cs b)
    (hQ : ∀ c a w, Q (.panic c) (a.put oi.dst v) w → Q (.panic c) a w) (hst : i ∉ st) (fuel : Nat) : ∀ (L : Array Bool) (a : Act) (w : World),
      ApartG md ops i oi L → i ∈ Region.ready md ops L → ClosedG md ops L → YieldG P md ops st S0 S1 i oi v a → HoldG st S0 S1 L w →
      wpAnyG P md ops Q st S0 S1 fuel (L.setIfInBounds i true) (a.put oi.dst v) w → wpAnyG P md ops Q st S0 S1 (fuel + 1) L a w := by
  induction fuel with
  | zero =>
    intro L a w hap hr hc hy hS H
    have only : ∀ j ∈ Region.ready md ops L, j = i := fun j hj => Classical.byContradiction fun e => by
      have q := ready_mono hj e
      rw [H.1] at q
      cases q
    exact ⟨fun h => (by rw [h] at hr; cases hr), fun j hj => by
      cases only j hj
      exact hy.wpOp hi ⟨L, hc, (mem_ready.1 hr).1, hS⟩ ⟨⟨hS.1, hS.2.imp id (done_set _)⟩, H⟩⟩
  | succ fuel ih =>
    intro L a w hap hr hc hy hS H
    refine ⟨fun h => (by rw [h] at hr; cases hr), fun j hj => ?_⟩
    rcases Decidable.em (j = i) with rfl | hji
    · exact hy.wpOp hi ⟨L, hc, (mem_ready.1 hr).1, hS⟩ ⟨⟨hS.1, hS.2.imp id (done_set _)⟩, H⟩
    · obtain ⟨un, oj, hoj, -⟩ := mem_ready.1 hj
      refine wpOp_mono (fun a' w' h3 => ?_) (wpOp_putIf hoj (hap j oj hoj hji un (no_wait hr hoj hj)) (fun cs b => hsel i oi cs b hi) (fun cs b => hsel j oj cs b hoj) hQ hy (H.2 j (ready_mono hj hji)))
      obtain ⟨hy3, hS3, hG3⟩ := h3
      rw [Array.setIfInBounds_comm _ _ (Ne.symm hji)] at hS3 hG3
      have hS4 : HoldG st S0 S1 (L.setIfInBounds j true) w' := ⟨hS3.1, hS3.2.imp id (done_of_set hst)⟩
      exact ⟨hS4, ih (L.setIfInBounds j true) a' w' (hap.set j) (ready_mono hr (Ne.symm hji)) (closed_set hc hj) hy3 hS4 hG3⟩
end

section
variable {P : Program} {md : Region.Mode} {l : List Oper} {Q : Exit → Act → World → Prop} {st : List Nat} {S0 S1 : World → Prop} {fuel : Nat} {L : Array Bool} {a : Act} {w : World} {i : Nat} {o : Oper} {rest : List Oper}

/-- It begins. -/
theorem regG_begin (st : List Nat) (S0 S1 : World → Prop) {id : Nat} (hm : P.follows .mixedOrders = true) (h : wpAnyG P .any l.toArray Q st S0 S1 l.length (Array.replicate l.length false) a w.drew) : (Code.region id l.toArray true).wp P Q a w :=
  wp_region_any hm (by simpa using any_of_G _ _ _ _ h)
/-- An operation that reads no memory, or none that a store changes, is taken first. -/
theorem regG_take {v : Value} (hi : l.drop i = o :: rest) (hs : Region.noSelect l.toArray = true) (hf : Region.free md l.toArray L i = true) (hr : (Region.ready md l.toArray L).contains i = true) (hc : closedGB md l.toArray L = true) (hst : st.contains i = false)
    (hQ : ∀ c a w, Q (.panic c) (a.put o.dst v) w → Q (.panic c) a w) (hw : Region.wanted o (yielded l.toArray a.tmps) = true) (hS : HoldG st S0 S1 L w) (hy : ∀ w', S1 w' → (execOp a.eval o).run P w' = .ok (.value v) w')
    (h : wpAnyG P md l.toArray Q st S0 S1 fuel (L.setIfInBounds i true) (a.put o.dst v) w) : wpAnyG P md l.toArray Q st S0 S1 (fuel + 1) L a w :=
  anyG_first (drop_nth hi) (Region.noSelect_spec hs) hQ (by simpa using hst) fuel L a w (Region.free_spec (drop_nth hi) hf) (by simpa using hr) (closedG_of hc) (Or.inl ⟨hw, fun w' h' => by
    obtain ⟨_, _, _, h1, _⟩ := h'
    exact hy w' h1⟩) hS h
/-- One that reads memory that a store changes: each store waits for it. -/
theorem regG_read {v : Value} (hi : l.drop i = o :: rest) (hs : Region.noSelect l.toArray = true) (hf : Region.free md l.toArray L i = true) (hr : (Region.ready md l.toArray L).contains i = true) (hc : closedGB md l.toArray L = true) (hst : st.contains i = false) (hb : waitGB md l.toArray st i = true)
    (hQ : ∀ c a w, Q (.panic c) (a.put o.dst v) w → Q (.panic c) a w) (hw : Region.wanted o (yielded l.toArray a.tmps) = true) (hS : HoldG st S0 S1 L w) (hy : ∀ w', S0 w' → (execOp a.eval o).run P w' = .ok (.value v) w')
    (h : wpAnyG P md l.toArray Q st S0 S1 fuel (L.setIfInBounds i true) (a.put o.dst v) w) : wpAnyG P md l.toArray Q st S0 S1 (fuel + 1) L a w :=
  anyG_first (drop_nth hi) (Region.noSelect_spec hs) hQ (by simpa using hst) fuel L a w (Region.free_spec (drop_nth hi) hf) (by simpa using hr) (closedG_of hc) (Or.inl ⟨hw, fun w' h' => by
    obtain ⟨L', c', u', _, h0 | ⟨k, hk, hd⟩⟩ := h'
    · exact hy w' h0
    · exfalso
      have q := List.all_eq_true.1 hb k hk
      cases hok : l.toArray[k]? with
      | none => rw [hok] at q; cases q
      | some ok =>
        rw [hok] at q
        simp only [Array.any_eq_true', Bool.and_eq_true, beq_iff_eq] at q
        obtain ⟨e, he, hbe, hon⟩ := q
        have z := c' k ok hok hd e he hbe
        rw [hon, not_both u'] at z
        cases z⟩) hS h
/-- One that alone may come up is carried out. -/
theorem regG_do (hi : l.drop i = o :: rest) (hr : Region.ready md l.toArray L = [i])
    (h : ∀ K' : Act → World → Prop, Shut (∀ a w', S1 w' → (S0 w' ∨ AnyDone st (L.setIfInBounds i true)) → wpAnyG P md l.toArray Q st S0 S1 fuel (L.setIfInBounds i true) a w' → K' a w') → if Region.wanted o (yielded l.toArray a.tmps) = true then Oper.wp P o a w K' Q else K' (a.put o.dst undef) w) :
    wpAnyG P md l.toArray Q st S0 S1 (fuel + 1) L a w := by
  refine ⟨fun e => (by rw [hr] at e; cases e), fun j hj => ?_⟩
  rw [hr] at hj
  obtain rfl : j = i := by simpa using hj
  unfold wpOp
  rw [drop_nth hi]
  have q := h (fun a' w' => HoldG st S0 S1 (L.setIfInBounds j true) w' ∧ wpAnyG P md l.toArray Q st S0 S1 fuel (L.setIfInBounds j true) a' w') (fun a' w' h1 h2 h3 => ⟨⟨h1, h2⟩, h3⟩)
  by_cases hw : Region.wanted o (yielded l.toArray a.tmps) = true
  · simp only [hw, if_true] at q ⊢
    exact .inl q
  · simp only [hw] at q ⊢
    exact q
theorem regG_end {n : Nat} (hr : Region.ready md l.toArray L = []) (h : Q .normal a w) : wpAnyG P md l.toArray Q st S0 S1 n L a w := by
  cases n with
  | zero => exact ⟨hr, h⟩
  | succ n => exact ⟨fun _ => h, fun i hi => by rw [hr] at hi; cases hi⟩
end

/-- One of three that may come up is (XGenS's regions). -/
theorem regS_three {P : Program} {md : Region.Mode} {l : List Oper} {Q : Exit → Act → World → Prop} {S : World → Prop} {fuel : Nat} {listed : Array Bool} {a : Act} {w : World} {i j k : Nat} {o o' o'' : Oper} {rest rest' rest'' : List Oper}
    (hi : l.drop i = o :: rest) (hj : l.drop j = o' :: rest') (hk : l.drop k = o'' :: rest'') (hr : Region.ready md l.toArray listed = [i, j, k])
    (h : ∀ K' : Act → World → Prop, Shut (∀ a w', S w' → wpAnyH P md l.toArray Q S fuel (listed.setIfInBounds i true) a w' → K' a w') → if Region.wanted o (yielded l.toArray a.tmps) = true then Oper.wp P o a w K' Q else K' (a.put o.dst undef) w)
    (h' : ∀ K' : Act → World → Prop, Shut (∀ a w', S w' → wpAnyH P md l.toArray Q S fuel (listed.setIfInBounds j true) a w' → K' a w') → if Region.wanted o' (yielded l.toArray a.tmps) = true then Oper.wp P o' a w K' Q else K' (a.put o'.dst undef) w)
    (h'' : ∀ K' : Act → World → Prop, Shut (∀ a w', S w' → wpAnyH P md l.toArray Q S fuel (listed.setIfInBounds k true) a w' → K' a w') → if Region.wanted o'' (yielded l.toArray a.tmps) = true then Oper.wp P o'' a w K' Q else K' (a.put o''.dst undef) w) :
    wpAnyH P md l.toArray Q S (fuel + 1) listed a w :=
  wpAnyH_ready hr (by simp) (AllReadyH.cons (drop_nth hi) (fun K' hK => h K' (fun a w' hS hn => hK.out a w' hS fun _ => hn))
    (AllReadyH.cons (drop_nth hj) (fun K' hK => h' K' (fun a w' hS hn => hK.out a w' hS fun _ => hn)) (AllReadyH.cons (drop_nth hk) (fun K' hK => h'' K' (fun a w' hS hn => hK.out a w' hS fun _ => hn)) AllReadyH.nil)))
end Go.Proofs.Ytemogdcjmehdcaa
