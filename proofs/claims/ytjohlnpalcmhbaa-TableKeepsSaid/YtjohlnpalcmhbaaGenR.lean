/- A statement that leaves its order open, gone through in one order: an operation that answers the same in every world in which all that lies here stays as it is may be taken first; a call that lies alone may be made. -/
import Derived.Test.YtjohlnpalcmhbaaGenA
import Derived.Deep.RegionHeld3
namespace Go.Proofs.Ytjohlnpalcmhbaa
set_option maxRecDepth 100000
open Go.RowKit

/-- All that lies in w is as it was. -/
abbrev From (w : World) : World → Prop := fun w' => Below w.heap.size w w'

theorem anyH_mono {P : Program} {md : Region.Mode} {ops : Array Oper} {Q : Exit → Act → World → Prop} {S S' : World → Prop} (hs : ∀ w, S' w → S w) :
    ∀ (fuel : Nat) (listed : Array Bool) (a : Act) (w : World), wpAnyH P md ops Q S' fuel listed a w → wpAnyH P md ops Q S fuel listed a w
  | 0, _, _, _, h => h
  | fuel + 1, _, _, _, h => ⟨h.1, fun i hi => wpOp_mono (fun a' w' h' => ⟨hs _ h'.1, anyH_mono hs fuel _ a' w' h'.2⟩) (h.2 i hi)⟩

theorem drop_nth {l : List Oper} {i : Nat} {o : Oper} {rest : List Oper} (h : l.drop i = o :: rest) : l.toArray[i]? = some o := by
  have : (l.drop i)[0]? = some o := by rw [h]; rfl
  simpa using this

section
variable {P : Program} {md : Region.Mode} {l : List Oper} {Q : Exit → Act → World → Prop} {fuel : Nat} {listed : Array Bool} {a : Act} {w : World} {i : Nat} {o : Oper} {rest : List Oper}

/-- It begins. -/
theorem reg_begin {id : Nat} (hm : P.follows .mixedOrders = true) (h : ∀ w', Below w.heap.size w w' → w'.heap.size = w.heap.size → wpAnyH P .any l.toArray Q (From w') l.length (Array.replicate l.length false) a w') : (Code.region id l.toArray true).wp P Q a w :=
  wp_region_held_drew (S := From w.drew) hm (Below.refl _ _) fun _ => by
    have := h w.drew ((Below.refl _ _).drew) rfl
    simpa using this

/-- An operation that only reads is taken first. -/
theorem reg_take {v : Value} (hi : l.drop i = o :: rest) (hs : Region.noSelect l.toArray = true) (hf : Region.free md l.toArray listed i = true) (hr : (Region.ready md l.toArray listed).contains i = true)
    (hQ : ∀ c a w, Q (.panic c) (a.put o.dst v) w → Q (.panic c) a w) (hw : Region.wanted o (yielded l.toArray a.tmps) = true) (hy : ∀ w', Below w.heap.size w w' → (execOp a.eval o).run P w' = .ok (.value v) w')
    (h : wpAnyH P md l.toArray Q (From w) fuel (listed.setIfInBounds i true) (a.put o.dst v) w) : wpAnyH P md l.toArray Q (From w) (fuel + 1) listed a w :=
  wpAnyH_take (drop_nth hi) hs hf hr hQ (Or.inl ⟨hw, hy⟩) (Below.refl _ _) h

/-- An operation that is not wanted is passed over. -/
theorem reg_skip (hi : l.drop i = o :: rest) (hs : Region.noSelect l.toArray = true) (hf : Region.free md l.toArray listed i = true) (hr : (Region.ready md l.toArray listed).contains i = true)
    (hQ : ∀ c a w, Q (.panic c) (a.put o.dst undef) w → Q (.panic c) a w) (hw : Region.wanted o (yielded l.toArray a.tmps) = false)
    (h : wpAnyH P md l.toArray Q (From w) fuel (listed.setIfInBounds i true) (a.put o.dst undef) w) : wpAnyH P md l.toArray Q (From w) (fuel + 1) listed a w :=
  wpAnyH_take (drop_nth hi) hs hf hr hQ (Or.inr ⟨hw, rfl⟩) (Below.refl _ _) h

/-- A call that alone may come up is made. -/
theorem reg_call (hi : l.drop i = o :: rest) (hr : Region.ready md l.toArray listed = [i])
    (h : ∀ K' : Act → World → Prop, Shut (∀ a w', Below w.heap.size w w' → wpAnyH P md l.toArray Q (From w') fuel (listed.setIfInBounds i true) a w' → K' a w') → if Region.wanted o (yielded l.toArray a.tmps) = true then Oper.wp P o a w K' Q else K' (a.put o.dst undef) w) :
    wpAnyH P md l.toArray Q (From w) (fuel + 1) listed a w :=
  wpAnyH_ready hr (by simp) (AllReadyH.cons (drop_nth hi) (fun K' hK => h K' (fun a w' hb hn => hK.out a w' hb fun _ => anyH_mono (fun w'' (h'' : Below w'.heap.size w' w'') => hb.trans (h''.mono hb.size)) _ _ _ _ hn)) AllReadyH.nil)

/-- It ends. -/
theorem reg_end {n : Nat} (hr : Region.ready md l.toArray listed = []) (h : Q .normal a w) : wpAnyH P md l.toArray Q (From w) n listed a w := wpAnyH_done hr h n
end
end Go.Proofs.Ytjohlnpalcmhbaa
