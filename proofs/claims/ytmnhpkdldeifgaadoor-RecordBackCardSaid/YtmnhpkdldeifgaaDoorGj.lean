/- A statement that leaves its order open, in which all stores wait for all reads: two conditions on the world, S0 until the first store, S1 from the beginning to the end. What the document's Block of layer 6 answers. Plain mathematics of package equal: all bits of bytes, exclusive-or of two rows of bytes. It speaks of no program. What the document's Xor of layer 6 answers. -/
import Derived.Test.YtmnhpkdldeifgaaDoorGb
import Derived.Test.YtmnhpkdldeifgaaDoorGi
import Derived.Deep.DeepCutAuto
import Derived.Deep.LoopGhost
import Derived.Test.YtmnhpkdldeifgaaDoorGa
import Derived.Laws.BitsAllLaws
namespace Go.Proofs.YtmnhpkdldeifgaaDoor
set_option maxRecDepth 100000
open Go.RowKit

/-- One of these has come up. -/
def AnyDone (st : List Nat) (L : Array Bool) : Prop := ∃ k, k ∈ st ∧ L.getD k false = true
/-- The condition at hand. -/
def HoldG (st : List Nat) (S0 S1 : World → Prop) (L : Array Bool) (w : World) : Prop := S1 w ∧ (S0 w ∨ AnyDone st L)
/-- Whatever has come up came up behind all that it waits for. -/
def ClosedG (md : Region.Mode) (ops : Array Oper) (L : Array Bool) : Prop :=
  ∀ k o, ops[k]? = some o → L.getD k false = true → ∀ e ∈ o.after, Region.binds md e = true → L.getD e.on false = true
def closedGB (md : Region.Mode) (ops : Array Oper) (L : Array Bool) : Bool :=
  (List.range ops.size).all fun k => !L.getD k false || (match ops[k]? with | none => true | some o => o.after.all fun e => !Region.binds md e || L.getD e.on false)
/-- Each of these waits for number i by itself. -/
def waitGB (md : Region.Mode) (ops : Array Oper) (st : List Nat) (i : Nat) : Bool :=
  st.all fun k => match ops[k]? with | none => false | some o => o.after.any fun e => Region.binds md e && e.on == i

theorem closedG_of {md : Region.Mode} {ops : Array Oper} {L : Array Bool} (h : closedGB md ops L = true) : ClosedG md ops L := by
  intro k o hk hL e he hb
  simp only [closedGB, List.all_eq_true, List.mem_range] at h
  have h1 := h k (Array.getElem?_eq_some_iff.1 hk).1
  rw [hL, hk] at h1
  simp only [Bool.not_true, Bool.false_or] at h1
  have h2 := Array.all_eq_true_iff_forall_mem.1 h1 e he
  rw [hb] at h2
  simpa using h2

/-- Whatever order is picked from here on. -/
def wpAnyG (P : Program) (md : Region.Mode) (ops : Array Oper) (Q : Exit → Act → World → Prop) (st : List Nat) (S0 S1 : World → Prop) : Nat → Array Bool → Act → World → Prop
  | 0, L, a, w => Region.ready md ops L = [] ∧ Q .normal a w
  | fuel + 1, L, a, w => (Region.ready md ops L = [] → Q .normal a w) ∧
      ∀ i ∈ Region.ready md ops L, wpOp P ops Q i (fun a' w' => HoldG st S0 S1 (L.setIfInBounds i true) w' ∧ wpAnyG P md ops Q st S0 S1 fuel (L.setIfInBounds i true) a' w') a w

section
variable {P : Program} {md : Region.Mode} {ops : Array Oper} {Q : Exit → Act → World → Prop} {st : List Nat} {S0 S1 : World → Prop}

theorem any_of_G : ∀ (fuel : Nat) (L : Array Bool) (a : Act) (w : World), wpAnyG P md ops Q st S0 S1 fuel L a w → wpAny P md ops Q fuel L a w
  | 0, _, _, _, h => h
  | fuel + 1, _, _, _, h => ⟨h.1, fun i hi => wpOp_mono (fun a' w' h' => any_of_G fuel _ a' w' h'.2) (h.2 i hi)⟩

theorem done_of_set {L : Array Bool} {i : Nat} (hi : i ∉ st) (h : AnyDone st (L.setIfInBounds i true)) : AnyDone st L := by
  obtain ⟨k, hk, h1⟩ := h
  refine ⟨k, hk, ?_⟩
  rw [getD_set_ne false (fun e => hi (by rw [e]; exact hk))] at h1
  exact h1
theorem done_set {L : Array Bool} (i : Nat) (h : AnyDone st L) : AnyDone st (L.setIfInBounds i true) := by
  obtain ⟨k, hk, h1⟩ := h
  exact ⟨k, hk, getD_set_true h1⟩
theorem not_both {L : Array Bool} {i : Nat} (h : L.getD i true = false) : L.getD i false = false := by
  rcases Nat.lt_or_ge i L.size with k | k
  · simp [k] at h ⊢
    exact h
  · simp [Array.getElem?_eq_none k]
theorem closed_set {L : Array Bool} {j : Nat} (hc : ClosedG md ops L) (hj : j ∈ Region.ready md ops L) : ClosedG md ops (L.setIfInBounds j true) := by
  intro k o hk hL e he hb
  by_cases hkj : j = k
  · subst hkj
    obtain ⟨_, o', ho', hall⟩ := mem_ready.1 hj
    rw [hk] at ho'
    cases ho'
    exact getD_set_true (hall e he hb)
  · rw [getD_set_ne false hkj] at hL
    exact getD_set_true (hc k o hk hL e he hb)

/-- Whoever has not come up, and does not wait for number i, lies apart from it. -/
def ApartG (md : Region.Mode) (ops : Array Oper) (i : Nat) (oi : Oper) (L : Array Bool) : Prop :=
  ∀ j oj, ops[j]? = some oj → j ≠ i → L.getD j true = false → (∀ e ∈ oj.after, Region.binds md e = true → e.on ≠ i) → oi.apart ops oj = true
theorem unlisted_set {L : Array Bool} {j k : Nat} (h : (L.setIfInBounds j true).getD k true = false) : L.getD k true = false := by
  by_cases e : j = k
  · subst e
    rcases Nat.lt_or_ge j L.size with q | q
    · simp [q] at h
    · simp at h
  · rwa [getD_set_ne true e] at h
theorem ApartG.set {i : Nat} {oi : Oper} {L : Array Bool} (h : ApartG md ops i oi L) (j : Nat) : ApartG md ops i oi (L.setIfInBounds j true) :=
  fun k ok h1 h2 h3 h4 => h k ok h1 h2 (unlisted_set h3) h4
/-- Who may come up together with number i does not wait for it. -/
theorem no_wait {i j : Nat} {oj : Oper} {L : Array Bool} (hi : i ∈ Region.ready md ops L) (hoj : ops[j]? = some oj) (hj : j ∈ Region.ready md ops L) : ∀ e ∈ oj.after, Region.binds md e = true → e.on ≠ i := by
  obtain ⟨-, o, ho, hall⟩ := mem_ready.1 hj
  rw [hoj] at ho
  cases ho
  intro e he hb h
  have q := hall e he hb
  rw [h, not_both (mem_ready.1 hi).1] at q
  cases q

/-- What number i yields wherever it may still come. -/
abbrev YieldG (P : Program) (md : Region.Mode) (ops : Array Oper) (st : List Nat) (S0 S1 : World → Prop) (i : Nat) (oi : Oper) (v : Value) (a : Act) : Prop :=
  YieldsIf P ops (fun w' => ∃ L', ClosedG md ops L' ∧ L'.getD i true = false ∧ HoldG st S0 S1 L' w') oi v a

theorem anyG_first {i : Nat} {oi : Oper} {v : Value} (hi : ops[i]? = some oi) (hsel : ∀ (j : Nat) (o : Oper) cs b, ops[j]? = some o → o.op ≠ .select cs b)
    (hQ : ∀ c a w, Q (.panic c) (a.put oi.dst v) w → Q (.panic c) a w) (hst : i ∉ st) (fuel : Nat) : ∀ (L : Array Bool) (a : Act) (w : World),
      ApartG md ops i oi L → i ∈ Region.ready md ops L → ClosedG md ops L → YieldG P md ops st S0 S1 i oi v a → HoldG st S0 S1 L w →
      wpAnyG P md ops Q st S0 S1 fuel (L.setIfInBounds i true) (a.put oi.dst v) w → wpAnyG P md ops Q st S0 S1 (fuel + 1) L a w := by
  induction fuel with
  | zero =>
    intro L a w hap hr hc hy hS H
    have only : ∀ j ∈ Region.ready md ops L, j = i := fun j hj => Classical.byContradiction fun e => by
      have q := ready_mono hj e
      rw [H.1] at q
      cases q
    exact ⟨fun h => (by rw [h] at hr; cases hr), fun j hj => by
      cases only j hj
      exact hy.wpOp hi ⟨L, hc, (mem_ready.1 hr).1, hS⟩ ⟨⟨hS.1, hS.2.imp id (done_set _)⟩, H⟩⟩
  | succ fuel ih =>
    intro L a w hap hr hc hy hS H
    refine ⟨fun h => (by rw [h] at hr; cases hr), fun j hj => ?_⟩
    rcases Decidable.em (j = i) with rfl | hji
    · exact hy.wpOp hi ⟨L, hc, (mem_ready.1 hr).1, hS⟩ ⟨⟨hS.1, hS.2.imp id (done_set _)⟩, H⟩
    · obtain ⟨un, oj, hoj, -⟩ := mem_ready.1 hj
      refine wpOp_mono (fun a' w' h3 => ?_) (wpOp_putIf hoj (hap j oj hoj hji un (no_wait hr hoj hj)) (fun cs b => hsel i oi cs b hi) (fun cs b => hsel j oj cs b hoj) hQ hy (H.2 j (ready_mono hj hji)))
      obtain ⟨hy3, hS3, hG3⟩ := h3
      rw [Array.setIfInBounds_comm _ _ (Ne.symm hji)] at hS3 hG3
      have hS4 : HoldG st S0 S1 (L.setIfInBounds j true) w' := ⟨hS3.1, hS3.2.imp id (done_of_set hst)⟩
      exact ⟨hS4, ih (L.setIfInBounds j true) a' w' (hap.set j) (ready_mono hr (Ne.symm hji)) (closed_set hc hj) hy3 hS4 hG3⟩
end

section
variable {P : Program} {md : Region.Mode} {l : List Oper} {Q : Exit → Act → World → Prop} {st : List Nat} {S0 S1 : World → Prop} {fuel : Nat} {L : Array Bool} {a : Act} {w : World} {i : Nat} {o : Oper} {rest : List Oper}

/-- It begins. -/
theorem regG_begin (st : List Nat) (S0 S1 : World → Prop) {id : Nat} (hm : P.follows .mixedOrders = true) (h : wpAnyG P .any l.toArray Q st S0 S1 l.length (Array.replicate l.length false) a w.drew) : (Code.region id l.toArray true).wp P Q a w :=
  wp_region_any hm (by simpa using any_of_G _ _ _ _ h)
/-- An operation that reads no memory, or none that a store changes, is taken first. -/
theorem regG_take {v : Value} (hi : l.drop i = o :: rest) (hs : Region.noSelect l.toArray = true) (hf : Region.free md l.toArray L i = true) (hr : (Region.ready md l.toArray L).contains i = true) (hc : closedGB md l.toArray L = true) (hst : st.contains i = false)
    (hQ : ∀ c a w, Q (.panic c) (a.put o.dst v) w → Q (.panic c) a w) (hw : Region.wanted o (yielded l.toArray a.tmps) = true) (hS : HoldG st S0 S1 L w) (hy : ∀ w', S1 w' → (execOp a.eval o).run P w' = .ok (.value v) w')
    (h : wpAnyG P md l.toArray Q st S0 S1 fuel (L.setIfInBounds i true) (a.put o.dst v) w) : wpAnyG P md l.toArray Q st S0 S1 (fuel + 1) L a w :=
  anyG_first (drop_nth hi) (Region.noSelect_spec hs) hQ (by simpa using hst) fuel L a w (Region.free_spec (drop_nth hi) hf) (by simpa using hr) (closedG_of hc) (Or.inl ⟨hw, fun w' h' => by
    obtain ⟨_, _, _, h1, _⟩ := h'
    exact hy w' h1⟩) hS h
/-- One that reads memory that a store changes: each store waits for it. -/
theorem regG_read {v : Value} (hi : l.drop i = o :: rest) (hs : Region.noSelect l.toArray = true) (hf : Region.free md l.toArray L i = true) (hr : (Region.ready md l.toArray L).contains i = true) (hc : closedGB md l.toArray L = true) (hst : st.contains i = false) (hb : waitGB md l.toArray st i = true)
    (hQ : ∀ c a w, Q (.panic c) (a.put o.dst v) w → Q (.panic c) a w) (hw : Region.wanted o (yielded l.toArray a.tmps) = true) (hS : HoldG st S0 S1 L w) (hy : ∀ w', S0 w' → (execOp a.eval o).run P w' = .ok (.value v) w')
    (h : wpAnyG P md l.toArray Q st S0 S1 fuel (L.setIfInBounds i true) (a.put o.dst v) w) : wpAnyG P md l.toArray Q st S0 S1 (fuel + 1) L a w :=
  anyG_first (drop_nth hi) (Region.noSelect_spec hs) hQ (by simpa using hst) fuel L a w (Region.free_spec (drop_nth hi) hf) (by simpa using hr) (closedG_of hc) (Or.inl ⟨hw, fun w' h' => by
    obtain ⟨L', c', u', _, h0 | ⟨k, hk, hd⟩⟩ := h'
    · exact hy w' h0
    · exfalso
      have q := List.all_eq_true.1 hb k hk
      cases hok : l.toArray[k]? with
      | none => rw [hok] at q; cases q
      | some ok =>
        rw [hok] at q
        simp only [Array.any_eq_true', Bool.and_eq_true, beq_iff_eq] at q
        obtain ⟨e, he, hbe, hon⟩ := q
        have z := c' k ok hok hd e he hbe
        rw [hon, not_both u'] at z
        cases z⟩) hS h
/-- One that alone may come up is carried out. -/
theorem regG_do (hi : l.drop i = o :: rest) (hr : Region.ready md l.toArray L = [i])
    (h : ∀ K' : Act → World → Prop, Shut (∀ a w', S1 w' → (S0 w' ∨ AnyDone st (L.setIfInBounds i true)) → wpAnyG P md l.toArray Q st S0 S1 fuel (L.setIfInBounds i true) a w' → K' a w') → if Region.wanted o (yielded l.toArray a.tmps) = true then Oper.wp P o a w K' Q else K' (a.put o.dst undef) w) :
    wpAnyG P md l.toArray Q st S0 S1 (fuel + 1) L a w := by
  refine ⟨fun e => (by rw [hr] at e; cases e), fun j hj => ?_⟩
  rw [hr] at hj
  obtain rfl : j = i := by simpa using hj
  unfold wpOp
  rw [drop_nth hi]
  have q := h (fun a' w' => HoldG st S0 S1 (L.setIfInBounds j true) w' ∧ wpAnyG P md l.toArray Q st S0 S1 fuel (L.setIfInBounds j true) a' w') (fun a' w' h1 h2 h3 => ⟨⟨h1, h2⟩, h3⟩)
  by_cases hw : Region.wanted o (yielded l.toArray a.tmps) = true
  · simp only [hw, if_true] at q ⊢
    exact .inl q
  · simp only [hw] at q ⊢
    exact q
theorem regG_end {n : Nat} (hr : Region.ready md l.toArray L = []) (h : Q .normal a w) : wpAnyG P md l.toArray Q st S0 S1 n L a w := by
  cases n with
  | zero => exact ⟨hr, h⟩
  | succ n => exact ⟨fun _ => h, fun i hi => by rw [hr] at hi; cases hi⟩
end

/-- One of three that may come up is (XGenS's regions). -/
theorem regS_three {P : Program} {md : Region.Mode} {l : List Oper} {Q : Exit → Act → World → Prop} {S : World → Prop} {fuel : Nat} {listed : Array Bool} {a : Act} {w : World} {i j k : Nat} {o o' o'' : Oper} {rest rest' rest'' : List Oper}
    (hi : l.drop i = o :: rest) (hj : l.drop j = o' :: rest') (hk : l.drop k = o'' :: rest'') (hr : Region.ready md l.toArray listed = [i, j, k])
    (h : ∀ K' : Act → World → Prop, Shut (∀ a w', S w' → wpAnyH P md l.toArray Q S fuel (listed.setIfInBounds i true) a w' → K' a w') → if Region.wanted o (yielded l.toArray a.tmps) = true then Oper.wp P o a w K' Q else K' (a.put o.dst undef) w)
    (h' : ∀ K' : Act → World → Prop, Shut (∀ a w', S w' → wpAnyH P md l.toArray Q S fuel (listed.setIfInBounds j true) a w' → K' a w') → if Region.wanted o' (yielded l.toArray a.tmps) = true then Oper.wp P o' a w K' Q else K' (a.put o'.dst undef) w)
    (h'' : ∀ K' : Act → World → Prop, Shut (∀ a w', S w' → wpAnyH P md l.toArray Q S fuel (listed.setIfInBounds k true) a w' → K' a w') → if Region.wanted o'' (yielded l.toArray a.tmps) = true then Oper.wp P o'' a w K' Q else K' (a.put o''.dst undef) w) :
    wpAnyH P md l.toArray Q S (fuel + 1) listed a w :=
  wpAnyH_ready hr (by simp) (AllReadyH.cons (drop_nth hi) (fun K' hK => h K' (fun a w' hS hn => hK.out a w' hS fun _ => hn))
    (AllReadyH.cons (drop_nth hj) (fun K' hK => h' K' (fun a w' hS hn => hK.out a w' hS fun _ => hn)) (AllReadyH.cons (drop_nth hk) (fun K' hK => h'' K' (fun a w' hS hn => hK.out a w' hS fun _ => hn)) AllReadyH.nil)))
end Go.Proofs.YtmnhpkdldeifgaaDoor

namespace Go.Proofs.YtmnhpkdldeifgaaDoor
set_option maxRecDepth 100000
open Go.RowKit

def placesN : List Nat := [0, 4, 8, 12, 1, 5, 9, 13, 2, 6, 10, 14, 3, 7, 11, 15, 0, 5, 10, 15, 1, 6, 11, 12, 2, 7, 8, 13, 3, 4, 9, 14]
def placesV : Array Value := (placesN.map fun (n : Nat) => Value.int .i64 (n : Int)).toArray
theorem placesV_is : placesV = #[.int .i64 0, .int .i64 4, .int .i64 8, .int .i64 12, .int .i64 1, .int .i64 5, .int .i64 9, .int .i64 13, .int .i64 2, .int .i64 6, .int .i64 10, .int .i64 14, .int .i64 3, .int .i64 7, .int .i64 11, .int .i64 15, .int .i64 0, .int .i64 5, .int .i64 10, .int .i64 15, .int .i64 1, .int .i64 6, .int .i64 11, .int .i64 12, .int .i64 2, .int .i64 7, .int .i64 8, .int .i64 13, .int .i64 3, .int .i64 4, .int .i64 9, .int .i64 14] := rfl
theorem placesV_at (j : Nat) (p q r s : Nat) (h : qPlaces[j]? = some (p, q, r, s)) : placesV[4 * j]? = some (.int .i64 (p : Int)) ∧ placesV[4 * j + 1]? = some (.int .i64 (q : Int)) ∧ placesV[4 * j + 2]? = some (.int .i64 (r : Int)) ∧ placesV[4 * j + 3]? = some (.int .i64 (s : Int)) := by
  have hj : j < 8 := (List.getElem?_eq_some_iff.1 h).1
  match j, hj with
  | 0, _ =>
    cases (show some ((0, 4, 8, 12) : Nat × Nat × Nat × Nat) = some (p, q, r, s) from h)
    exact ⟨rfl, rfl, rfl, rfl⟩
  | 1, _ =>
    cases (show some ((1, 5, 9, 13) : Nat × Nat × Nat × Nat) = some (p, q, r, s) from h)
    exact ⟨rfl, rfl, rfl, rfl⟩
  | 2, _ =>
    cases (show some ((2, 6, 10, 14) : Nat × Nat × Nat × Nat) = some (p, q, r, s) from h)
    exact ⟨rfl, rfl, rfl, rfl⟩
  | 3, _ =>
    cases (show some ((3, 7, 11, 15) : Nat × Nat × Nat × Nat) = some (p, q, r, s) from h)
    exact ⟨rfl, rfl, rfl, rfl⟩
  | 4, _ =>
    cases (show some ((0, 5, 10, 15) : Nat × Nat × Nat × Nat) = some (p, q, r, s) from h)
    exact ⟨rfl, rfl, rfl, rfl⟩
  | 5, _ =>
    cases (show some ((1, 6, 11, 12) : Nat × Nat × Nat × Nat) = some (p, q, r, s) from h)
    exact ⟨rfl, rfl, rfl, rfl⟩
  | 6, _ =>
    cases (show some ((2, 7, 8, 13) : Nat × Nat × Nat × Nat) = some (p, q, r, s) from h)
    exact ⟨rfl, rfl, rfl, rfl⟩
  | 7, _ =>
    cases (show some ((3, 4, 9, 14) : Nat × Nat × Nat × Nat) = some (p, q, r, s) from h)
    exact ⟨rfl, rfl, rfl, rfl⟩
theorem qPlaces_at (j : Nat) (hj : j < 8) : ∃ p q r s, qPlaces[j]? = some (p, q, r, s) ∧ p < 16 ∧ q < 16 ∧ r < 16 ∧ s < 16 := by
  have : ∀ j : Fin 8, ∃ p q r s, qPlaces[j.val]? = some (p, q, r, s) ∧ p < 16 ∧ q < 16 ∧ r < 16 ∧ s < 16 := by
    intro j
    match j with
    | ⟨0, _⟩ => exact ⟨_, _, _, _, rfl, by decide, by decide, by decide, by decide⟩
    | ⟨1, _⟩ => exact ⟨_, _, _, _, rfl, by decide, by decide, by decide, by decide⟩
    | ⟨2, _⟩ => exact ⟨_, _, _, _, rfl, by decide, by decide, by decide, by decide⟩
    | ⟨3, _⟩ => exact ⟨_, _, _, _, rfl, by decide, by decide, by decide, by decide⟩
    | ⟨4, _⟩ => exact ⟨_, _, _, _, rfl, by decide, by decide, by decide, by decide⟩
    | ⟨5, _⟩ => exact ⟨_, _, _, _, rfl, by decide, by decide, by decide, by decide⟩
    | ⟨6, _⟩ => exact ⟨_, _, _, _, rfl, by decide, by decide, by decide, by decide⟩
    | ⟨7, _⟩ => exact ⟨_, _, _, _, rfl, by decide, by decide, by decide, by decide⟩
  exact this ⟨j, hj⟩

theorem four_of (l : List UInt8) (t : Nat) (h : t + 4 ≤ l.length) : ∃ a b c d, l[t]? = some a ∧ l[t + 1]? = some b ∧ l[t + 2]? = some c ∧ l[t + 3]? = some d ∧ (l.drop t).take 4 = [a, b, c, d] := by
  refine ⟨l[t]'(by omega), l[t + 1]'(by omega), l[t + 2]'(by omega), l[t + 3]'(by omega), List.getElem?_eq_getElem _, List.getElem?_eq_getElem _, List.getElem?_eq_getElem _, List.getElem?_eq_getElem _, ?_⟩
  rw [List.drop_eq_getElem_cons (by omega), List.drop_eq_getElem_cons (by omega), List.drop_eq_getElem_cons (by omega), List.drop_eq_getElem_cons (by omega)]
  rfl

end Go.Proofs.YtmnhpkdldeifgaaDoor

namespace Go.Proofs.YtmnhpkdldeifgaaDoor
set_option maxRecDepth 100000

/-- Every bit that one of them has. -/
def orAll (l : List UInt8) : UInt8 := l.foldl (· ||| ·) 0
theorem orAll_snoc (l : List UInt8) (c : UInt8) : orAll (l ++ [c]) = orAll l ||| c := by simp [orAll]
theorem or_zero (a b : UInt8) : a ||| b = 0 ↔ a = 0 ∧ b = 0 := by
  constructor
  · intro h
    have hb : a.toBitVec ||| b.toBitVec = 0#8 := by
      have := congrArg UInt8.toBitVec h
      simpa using this
    have h1 : a.toBitVec = 0#8 := by
      apply BitVec.eq_of_getLsbD_eq
      intro i hi
      have := congrArg (fun x => BitVec.getLsbD x i) hb
      simp at this ⊢
      exact this.1
    have h2 : b.toBitVec = 0#8 := by
      apply BitVec.eq_of_getLsbD_eq
      intro i hi
      have := congrArg (fun x => BitVec.getLsbD x i) hb
      simp at this ⊢
      exact this.2
    exact ⟨UInt8.toBitVec_inj.1 h1, UInt8.toBitVec_inj.1 h2⟩
  · rintro ⟨rfl, rfl⟩
    decide
theorem orAll_from (l : List UInt8) : ∀ a : UInt8, l.foldl (· ||| ·) a = 0 ↔ a = 0 ∧ ∀ c ∈ l, c = 0 := by
  induction l with
  | nil => intro a; simp
  | cons c l ih =>
    intro a
    rw [List.foldl_cons, ih, or_zero]
    simp [and_assoc]
theorem orAll_zero (l : List UInt8) : orAll l = 0 ↔ ∀ c ∈ l, c = 0 := by
  rw [orAll, orAll_from]
  simp
theorem or_cell (a b : UInt8) : bits .or .u8 (a.toNat : Int) (b.toNat : Int) = ((a ||| b).toNat : Int) := by
  rw [u8_or_nat _ _ a.toNat_lt b.toNat_lt, UInt8.toNat_or]
theorem xor_cell (a b : UInt8) : bits .xor .u8 (a.toNat : Int) (b.toNat : Int) = ((a ^^^ b).toNat : Int) := by
  rw [u8_xor_nat _ _ a.toNat_lt b.toNat_lt, UInt8.toNat_xor]

/-- Of each place that both have, the exclusive-or. -/
def xorL (a b : List UInt8) : List UInt8 := List.zipWith (· ^^^ ·) a b
theorem xorL_length (a b : List UInt8) : (xorL a b).length = min a.length b.length := by simp [xorL]
theorem xorL_at (a b : List UInt8) (j : Nat) (x y : UInt8) (hx : a[j]? = some x) (hy : b[j]? = some y) : (xorL a b)[j]? = some (x ^^^ y) := by simp [xorL, List.getElem?_zipWith, hx, hy]
theorem xor_self_left (x y : UInt8) : x ^^^ (x ^^^ y) = y := by simp [← UInt8.xor_assoc]
theorem xor_zero_iff (x y : UInt8) : x ^^^ y = 0 ↔ x = y := UInt8.xor_eq_zero_iff
/-- Alike just if none differs. -/
theorem xorL_zero (a : List UInt8) : ∀ b : List UInt8, a.length = b.length → ((∀ c ∈ xorL a b, c = 0) ↔ a = b) := by
  induction a with
  | nil => intro b h; cases b <;> simp_all [xorL]
  | cons x a ih =>
    intro b h
    cases b with
    | nil => simp at h
    | cons y b =>
      have := ih b (by simpa using h)
      simp only [xorL, List.zipWith_cons_cons, List.mem_cons, forall_eq_or_imp, xor_zero_iff, List.cons.injEq]
      rw [← this]
      rfl
/-- Twice is nothing. -/
theorem xorL_back_left (a : List UInt8) : ∀ b : List UInt8, xorL (xorL a b) (a.take (min a.length b.length)) = b.take (min a.length b.length) := by
  induction a with
  | nil => intro b; simp [xorL]
  | cons x a ih =>
    intro b
    cases b with
    | nil => simp [xorL]
    | cons y b =>
      have h := ih b
      simp only [xorL, List.length_cons, Nat.add_min_add_right, List.take_succ_cons, List.zipWith_cons_cons, List.cons.injEq] at h ⊢
      refine ⟨?_, h⟩
      rw [UInt8.xor_comm x y, UInt8.xor_assoc]
      simp
theorem xorL_back_right (a : List UInt8) : ∀ b : List UInt8, xorL (xorL a b) (b.take (min a.length b.length)) = a.take (min a.length b.length) := by
  induction a with
  | nil => intro b; simp [xorL]
  | cons x a ih =>
    intro b
    cases b with
    | nil => simp [xorL]
    | cons y b =>
      have h := ih b
      simp only [xorL, List.length_cons, Nat.add_min_add_right, List.take_succ_cons, List.zipWith_cons_cons, List.cons.injEq] at h ⊢
      refine ⟨?_, h⟩
      rw [UInt8.xor_assoc]
      simp

/-- The first k of f, and zeros behind: how far a row of n has been written. -/
def doneTo (f : List UInt8) (n k : Nat) : List UInt8 := f.take k ++ List.replicate (n - k) 0
theorem doneTo_length (f : List UInt8) (n k : Nat) (hf : f.length = n) (hk : k ≤ n) : (doneTo f n k).length = n := by simp [doneTo]; omega
theorem doneTo_zero (f : List UInt8) (n : Nat) : doneTo f n 0 = List.replicate n 0 := by simp [doneTo]
theorem doneTo_all (f : List UInt8) (n : Nat) (hf : f.length = n) : doneTo f n n = f := by simp [doneTo, ← hf]
theorem doneTo_set (f : List UInt8) (n k : Nat) (c : UInt8) (hf : f.length = n) (hk : f[k]? = some c) : (bv (doneTo f n k)).set k (.int .u8 (c.toNat : Int)) = bv (doneTo f n (k + 1)) := by
  have hlt : k < f.length := (List.getElem?_eq_some_iff.1 hk).1
  rw [doneTo, doneTo, take_at hk]
  have e1 : n - k = (n - (k + 1)) + 1 := by omega
  rw [e1, List.replicate_succ]
  simp only [bv, List.map_append, List.map_cons, List.append_assoc, List.cons_append, List.nil_append]
  rw [List.set_append_right _ _ (by simp; omega)]
  have e2 : k - (List.map (fun c : UInt8 => Value.int IntKind.u8 ↑c.toNat) (List.take k f)).length = 0 := by simp; omega
  rw [e2]
  rfl
theorem doneTo_put (f : List UInt8) (n k : Nat) (c : UInt8) (hf : f.length = n) (hk : f[k]? = some c) : (doneTo f n k).set k c = doneTo f n (k + 1) := by
  have hlt : k < f.length := (List.getElem?_eq_some_iff.1 hk).1
  rw [doneTo, doneTo, take_at hk]
  have e1 : n - k = (n - (k + 1)) + 1 := by omega
  have e2 : (f.take k).length = k := by simp; omega
  rw [e1, List.replicate_succ, List.set_append_right _ _ (by omega), e2, Nat.sub_self]
  simp
end Go.Proofs.YtmnhpkdldeifgaaDoor

namespace Go.Proofs.YtmnhpkdldeifgaaDoor
set_option maxRecDepth 100000
open Go.RowKit

end Go.Proofs.YtmnhpkdldeifgaaDoor
