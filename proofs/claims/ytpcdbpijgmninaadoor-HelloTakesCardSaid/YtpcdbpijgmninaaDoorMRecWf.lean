/- api.Welcome as a structure: its cells, opened, in a block. (Written by tools/mkrec.py.) -/
import Derived.Test.YtpcdbpijgmninaaDoorGm
import Derived.Test.YtpcdbpijgmninaaDoorGj
namespace Go.Proofs.YtpcdbpijgmninaaDoor
set_option maxRecDepth 100000
open Go.RowKit Go.ChangeShapes Go.WideShapes Go.ChangeAt

abbrev Wer := Wel
namespace Wer
abbrev enc (x : Wer) : List Value := Wel.enc x
abbrev ks : List CK := Wel.ks
abbrev val (x : Wer) : Value := .agg (enc x).toArray
theorem len (x : Wer) : (enc x).length = 9 := rfl
theorem fits (x : Wer) : Fits ks (enc x) := Wel.fits x
theorem one (x : Wer) : (enc x).toArray.all (·.oneCell') = true := Wel.one x
theorem isRec : Rec Tryd.prog 36 ks := ⟨by kernel_rfl, by kernel_rfl, by kernel_rfl⟩
theorem size (x : Wer) : (Tryd.prog.info? 36).map (·.size) = some (enc x).toArray.size := by
  have h : (Tryd.prog.info? 36).map (·.size) = some 9 := by kernel_rfl
  exact h
abbrev zero : Wer := Wel.zero
theorem zero_is : (Tryd.prog.info? 36).map (·.zero) = some (some (.agg (enc zero).toArray)) := by kernel_rfl
theorem same (x y : Wer) : eqCells (enc x) (enc y) = decide (x = y) := Wel.same x y
theorem eq_run (x y : Wer) (w : World) : (binOp .eql 36 (val x) (val y)).run Tryd.prog w = .ok (.bool (decide (x = y))) w := by
  rw [← same]
  exact run_eq_rec isRec _ _ (fits x) (fits y) w
/-- In a block. -/
abbrev At (w : World) (g : Nat) (x : Wer) : Prop := Whole w g 36 (enc x).toArray
theorem At.cells {w : World} {g : Nat} {x : Wer} (h : At w g x) : w.cell? ⟨g, 0, none⟩ = some (.int .u64 (x.fst : Int)) ∧ w.cell? ⟨g, 1, none⟩ = some (.int .u64 (x.snd : Int)) ∧ w.cell? ⟨g, 2, none⟩ = some (.string ⟨x.entry.name.toArray⟩) ∧ w.cell? ⟨g, 3, none⟩ = some (.int .u64 (x.entry.id : Int)) ∧ w.cell? ⟨g, 4, none⟩ = some (.int .i64 x.entry.since) ∧ w.cell? ⟨g, 5, none⟩ = some (.int .i64 x.entry.till) ∧ w.cell? ⟨g, 6, none⟩ = some (.int .i64 x.entry.index) ∧ w.cell? ⟨g, 7, none⟩ = some (.string ⟨x.entry.tag.toArray⟩) ∧ w.cell? ⟨g, 8, none⟩ = some (.string ⟨x.tag.toArray⟩) :=
  ⟨h.at_ 0, h.at_ 1, h.at_ 2, h.at_ 3, h.at_ 4, h.at_ 5, h.at_ 6, h.at_ 7, h.at_ 8⟩
theorem At.at_fst {w : World} {g : Nat} {x : Wer} (h : At w g x) : w.cell? ⟨g, 0, none⟩ = some (.int .u64 (x.fst : Int)) := h.at_ 0
theorem At.at_snd {w : World} {g : Nat} {x : Wer} (h : At w g x) : w.cell? ⟨g, 1, none⟩ = some (.int .u64 (x.snd : Int)) := h.at_ 1
theorem At.at_entry_name {w : World} {g : Nat} {x : Wer} (h : At w g x) : w.cell? ⟨g, 2, none⟩ = some (.string ⟨x.entry.name.toArray⟩) := h.at_ 2
theorem At.at_entry_id {w : World} {g : Nat} {x : Wer} (h : At w g x) : w.cell? ⟨g, 3, none⟩ = some (.int .u64 (x.entry.id : Int)) := h.at_ 3
theorem At.at_entry_since {w : World} {g : Nat} {x : Wer} (h : At w g x) : w.cell? ⟨g, 4, none⟩ = some (.int .i64 x.entry.since) := h.at_ 4
theorem At.at_entry_till {w : World} {g : Nat} {x : Wer} (h : At w g x) : w.cell? ⟨g, 5, none⟩ = some (.int .i64 x.entry.till) := h.at_ 5
theorem At.at_entry_index {w : World} {g : Nat} {x : Wer} (h : At w g x) : w.cell? ⟨g, 6, none⟩ = some (.int .i64 x.entry.index) := h.at_ 6
theorem At.at_entry_tag {w : World} {g : Nat} {x : Wer} (h : At w g x) : w.cell? ⟨g, 7, none⟩ = some (.string ⟨x.entry.tag.toArray⟩) := h.at_ 7
theorem At.at_tag {w : World} {g : Nat} {x : Wer} (h : At w g x) : w.cell? ⟨g, 8, none⟩ = some (.string ⟨x.tag.toArray⟩) := h.at_ 8
theorem At.part_entry {w : World} {g : Nat} {x : Wer} (h : At w g x) : ∀ j v, x.entry.enc[j]? = some v → w.cell? ⟨g, 2 + j, none⟩ = some v := Whole.part (a := [.int .u64 (x.fst : Int), .int .u64 (x.snd : Int)]) (b := x.entry.enc) (c := [.string ⟨x.tag.toArray⟩]) h
theorem At.set_fst {w : World} {g : Nat} {x : Wer} (h : At w g x) (v : Nat) : At (w.setCell ⟨g, 0, none⟩ (.int .u64 (v : Int))) g { x with fst := v } := h.stored 0 _
theorem At.set_snd {w : World} {g : Nat} {x : Wer} (h : At w g x) (v : Nat) : At (w.setCell ⟨g, 1, none⟩ (.int .u64 (v : Int))) g { x with snd := v } := h.stored 1 _
theorem At.set_entry_name {w : World} {g : Nat} {x : Wer} (h : At w g x) (v : List UInt8) : At (w.setCell ⟨g, 2, none⟩ (.string ⟨v.toArray⟩)) g { x with entry := { x.entry with name := v } } := h.stored 2 _
theorem At.set_entry_id {w : World} {g : Nat} {x : Wer} (h : At w g x) (v : Nat) : At (w.setCell ⟨g, 3, none⟩ (.int .u64 (v : Int))) g { x with entry := { x.entry with id := v } } := h.stored 3 _
theorem At.set_entry_since {w : World} {g : Nat} {x : Wer} (h : At w g x) (v : Int) : At (w.setCell ⟨g, 4, none⟩ (.int .i64 v)) g { x with entry := { x.entry with since := v } } := h.stored 4 _
theorem At.set_entry_till {w : World} {g : Nat} {x : Wer} (h : At w g x) (v : Int) : At (w.setCell ⟨g, 5, none⟩ (.int .i64 v)) g { x with entry := { x.entry with till := v } } := h.stored 5 _
theorem At.set_entry_index {w : World} {g : Nat} {x : Wer} (h : At w g x) (v : Int) : At (w.setCell ⟨g, 6, none⟩ (.int .i64 v)) g { x with entry := { x.entry with index := v } } := h.stored 6 _
theorem At.set_entry_tag {w : World} {g : Nat} {x : Wer} (h : At w g x) (v : List UInt8) : At (w.setCell ⟨g, 7, none⟩ (.string ⟨v.toArray⟩)) g { x with entry := { x.entry with tag := v } } := h.stored 7 _
theorem At.set_tag {w : World} {g : Nat} {x : Wer} (h : At w g x) (v : List UInt8) : At (w.setCell ⟨g, 8, none⟩ (.string ⟨v.toArray⟩)) g { x with tag := v } := h.stored 8 _
end Wer
end Go.Proofs.YtpcdbpijgmninaaDoor
