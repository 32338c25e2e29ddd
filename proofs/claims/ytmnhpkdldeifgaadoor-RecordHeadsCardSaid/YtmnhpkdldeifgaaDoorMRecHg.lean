/- api.Head as a structure: its cells, opened, in a block. (Written by tools/mkrec.py.) -/
import Derived.Test.YtmnhpkdldeifgaaDoorGd
namespace Go.Proofs.YtmnhpkdldeifgaaDoor
set_option maxRecDepth 100000
open Go.RowKit Go.ChangeShapes Go.WideShapes Go.ChangeAt

abbrev Heaf := Head
namespace Heaf
abbrev enc (x : Heaf) : List Value := Head.enc x
abbrev ks : List CK := Head.ks
abbrev val (x : Heaf) : Value := .agg (enc x).toArray
theorem len (x : Heaf) : (enc x).length = 4 := rfl
theorem fits (x : Heaf) : Fits ks (enc x) := Head.fits x
theorem one (x : Heaf) : (enc x).toArray.all (·.oneCell') = true := Head.one x
theorem isRec : Rec Tryd.prog 30 ks := ⟨by kernel_rfl, by kernel_rfl, by kernel_rfl⟩
theorem size (x : Heaf) : (Tryd.prog.info? 30).map (·.size) = some (enc x).toArray.size := by
  have h : (Tryd.prog.info? 30).map (·.size) = some 4 := by kernel_rfl
  exact h
abbrev zero : Heaf := Head.zero
theorem zero_is : (Tryd.prog.info? 30).map (·.zero) = some (some (.agg (enc zero).toArray)) := by kernel_rfl
theorem same (x y : Heaf) : eqCells (enc x) (enc y) = decide (x = y) := Head.same x y
theorem eq_run (x y : Heaf) (w : World) : (binOp .eql 30 (val x) (val y)).run Tryd.prog w = .ok (.bool (decide (x = y))) w := by
  rw [← same]
  exact run_eq_rec isRec _ _ (fits x) (fits y) w
/-- In a block. -/
abbrev At (w : World) (g : Nat) (x : Heaf) : Prop := Whole w g 30 (enc x).toArray
theorem At.cells {w : World} {g : Nat} {x : Heaf} (h : At w g x) : w.cell? ⟨g, 0, none⟩ = some (.int .u64 (x.id : Int)) ∧ w.cell? ⟨g, 1, none⟩ = some (.int .i64 x.role) ∧ w.cell? ⟨g, 2, none⟩ = some (.int .i64 x.epoch) ∧ w.cell? ⟨g, 3, none⟩ = some (.int .i64 x.seq) :=
  ⟨h.at_ 0, h.at_ 1, h.at_ 2, h.at_ 3⟩
theorem At.at_id {w : World} {g : Nat} {x : Heaf} (h : At w g x) : w.cell? ⟨g, 0, none⟩ = some (.int .u64 (x.id : Int)) := h.at_ 0
theorem At.at_role {w : World} {g : Nat} {x : Heaf} (h : At w g x) : w.cell? ⟨g, 1, none⟩ = some (.int .i64 x.role) := h.at_ 1
theorem At.at_epoch {w : World} {g : Nat} {x : Heaf} (h : At w g x) : w.cell? ⟨g, 2, none⟩ = some (.int .i64 x.epoch) := h.at_ 2
theorem At.at_seq {w : World} {g : Nat} {x : Heaf} (h : At w g x) : w.cell? ⟨g, 3, none⟩ = some (.int .i64 x.seq) := h.at_ 3
theorem At.set_id {w : World} {g : Nat} {x : Heaf} (h : At w g x) (v : Nat) : At (w.setCell ⟨g, 0, none⟩ (.int .u64 (v : Int))) g { x with id := v } := h.stored 0 _
theorem At.set_role {w : World} {g : Nat} {x : Heaf} (h : At w g x) (v : Int) : At (w.setCell ⟨g, 1, none⟩ (.int .i64 v)) g { x with role := v } := h.stored 1 _
theorem At.set_epoch {w : World} {g : Nat} {x : Heaf} (h : At w g x) (v : Int) : At (w.setCell ⟨g, 2, none⟩ (.int .i64 v)) g { x with epoch := v } := h.stored 2 _
theorem At.set_seq {w : World} {g : Nat} {x : Heaf} (h : At w g x) (v : Int) : At (w.setCell ⟨g, 3, none⟩ (.int .i64 v)) g { x with seq := v } := h.stored 3 _
end Heaf
end Go.Proofs.YtmnhpkdldeifgaaDoor
