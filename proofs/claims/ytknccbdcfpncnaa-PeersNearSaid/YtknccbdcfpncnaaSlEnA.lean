/- Slices of api.Entry: a row of one, the first place that fits; the library's IndexFunc and ContainsFunc over whatever closure tells of one. (Written by tools/mkslice.py.) -/
import Derived.Test.YtknccbdcfpncnaaRecEn
import Derived.Test.YtknccbdcfpncnaaSlG
import Derived.Test.YtknccbdcfpncnaaUs
import Derived.Test.YtknccbdcfpncnaaGenR
import Derived.Deep.LoopGhost
import Derived.BigQuiet
namespace Go.Proofs.Ytknccbdcfpncnaa
set_option maxRecDepth 100000
open Go.RowKit

/-- The cells of one element of a slice, for as long as nothing that was there is changed. -/
theorem row_ofEn {A : Option Addr} {m cap k : Nat} {l : List Ent} {w : World} {x : Ent} (h : RowsAt w (.slice A m cap) 6 (l.map Ent.enc)) (hx : l[k]? = some x) :
    ∃ b off, A = some ⟨b, off, none⟩ ∧ ∀ w', Below w.heap.size w w' → ∀ j u, x.enc[j]? = some u → w'.cell? ⟨b, off + k * 6 + j, none⟩ = some u := by
  obtain ⟨b, off, rfl, hbl, hc⟩ := h.row (fun c hc => by obtain ⟨y, _, rfl⟩ := List.mem_map.1 hc; exact y.len) (by decide) (by rw [List.getElem?_map, hx]; rfl : (l.map Ent.enc)[k]? = some x.enc)
  exact ⟨b, off, rfl, fun w' hb j u hj => (hb.cell (p := ⟨b, off + k * 6 + j, none⟩) hbl).trans (hc j u hj)⟩

/-- The first place that fits. -/
def firstEn (p : Ent → Bool) : List Ent → Nat → Int
  | [], _ => -1
  | s :: r, k => if p s then (k : Int) else firstEn p r (k + 1)
/-- A closure that tells of each one what p tells. -/
def TellsEn (W : World) (F : FuncId) (caps : Array Value) (p : Ent → Bool) : Prop :=
  (∀ args w, (callFunc F args).run Try.prog w = .ok (.enter F args) w) ∧ ∀ (s : Ent) (w : World), Below W.heap.size W w → Calls Try.prog F (#[s.val] ++ caps) w fun e w' => e = .returned (.bool (p s)) ∧ Below w.heap.size w w'
theorem TellsEn.below {W w : World} {F : FuncId} {caps : Array Value} {p : Ent → Bool} (h : TellsEn W F caps p) (b : Below W.heap.size W w) : TellsEn w F caps p := ⟨h.1, fun s w' hb => h.2 s w' (b.trans (hb.mono b.size))⟩
theorem firstEn_none {p : Ent → Bool} {l : List Ent} (k : Nat) (h : ∀ x ∈ l, p x = false) : firstEn p l k = -1 := by
  induction l generalizing k with
  | nil => rfl
  | cons x r ih => rw [firstEn, h x (List.mem_cons_self ..)]; exact ih _ fun y hy => h y (List.mem_cons_of_mem _ hy)

theorem firstEn_le (p : Ent → Bool) (l : List Ent) (k : Nat) : firstEn p l k < (k + l.length : Nat) ∧ -1 ≤ firstEn p l k := by
  induction l generalizing k with
  | nil => rw [firstEn]; constructor <;> simp <;> omega
  | cons x r ih =>
    rw [firstEn]
    have := ih (k + 1)
    split
    · constructor <;> simp <;> omega
    · constructor <;> simp at * <;> omega
theorem firstEn_any (p : Ent → Bool) (l : List Ent) (k : Nat) : decide (0 ≤ firstEn p l k) = l.any p := by
  induction l generalizing k with
  | nil => simp [firstEn]
  | cons x r ih =>
    rw [firstEn, List.any_cons]
    cases hp : p x with
    | true => rw [if_pos rfl, Bool.true_or, decide_eq_true_eq]; omega
    | false => rw [if_neg (by simp), Bool.false_or, ih]
theorem firstEn_spec (p : Ent → Bool) (l : List Ent) (j : Nat) :
    (firstEn p l j = -1 ∧ ∀ x ∈ l, p x = false) ∨ ∃ k x, firstEn p l j = ((j + k : Nat) : Int) ∧ l[k]? = some x ∧ p x = true ∧ ∀ y ∈ l.take k, p y = false := by
  induction l generalizing j with
  | nil => exact .inl ⟨rfl, fun x hx => by cases hx⟩
  | cons x r ih =>
    rw [firstEn]
    cases hp : p x with
    | true => exact .inr ⟨0, x, by simp, rfl, hp, fun y hy => by simp at hy⟩
    | false =>
      rcases ih (j + 1) with ⟨h, h'⟩ | ⟨k, y, h, h1, h2, h3⟩
      · refine .inl ⟨by rw [if_neg (by simp)]; exact h, fun y hy => ?_⟩
        rcases List.mem_cons.1 hy with rfl | hy
        · exact hp
        · exact h' y hy
      · refine .inr ⟨k + 1, y, by rw [if_neg (by simp), h]; omega, by rw [List.getElem?_cons_succ]; exact h1, h2, fun z hz => ?_⟩
        rw [List.take_succ_cons] at hz
        rcases List.mem_cons.1 hz with rfl | hz
        · exact hp
        · exact h3 z hz

set_option maxRecDepth 100000

end Go.Proofs.Ytknccbdcfpncnaa
