/- carcanetref16.T as a structure whose cells are not all flat: its cells, in a block. (Written by tools/mkrec.py.) -/
import Derived.Test.YtnjeopgcpffkcaaGl
namespace Go.Proofs.Ytnjeopgcpffkcaa
set_option maxRecDepth 100000
open Go.RowKit

structure Tt where
  r : Nat
  m : Mr
  bad : Bool
  big : Bool
namespace Tt
def enc (x : Tt) : List Value := [.pointer (some ⟨x.r, 0, none⟩), .int .i64 x.m.kind, .int .i64 x.m.rid, .int .i64 x.m.ver, .int .i64 x.m.error, .int .u64 (x.m.id : Int), .bool x.m.has, .bool x.m.gone, .string ⟨x.m.key.toArray⟩, .string ⟨x.m.text.toArray⟩, x.m.es.v, x.m.its.v, .bool x.bad, .bool x.big]
abbrev val (x : Tt) : Value := .agg x.enc.toArray
theorem len (x : Tt) : x.enc.length = 14 := rfl
theorem one (x : Tt) : x.enc.toArray.all (·.oneCell') = true := by simp [enc, Row.v, Value.oneCell']
theorem isRec : St Try.prog 79 14 := ⟨by kernel_rfl, by kernel_rfl, by kernel_rfl⟩
theorem size (x : Tt) : (Try.prog.info? 79).map (·.size) = some x.enc.toArray.size := by
  have h : (Try.prog.info? 79).map (·.size) = some 14 := by kernel_rfl
  exact h
/-- In a block. -/
abbrev At (w : World) (g : Nat) (x : Tt) : Prop := Whole w g 79 x.enc.toArray
theorem At.at_r {w : World} {g : Nat} {x : Tt} (h : At w g x) : w.cell? ⟨g, 0, none⟩ = some (.pointer (some ⟨x.r, 0, none⟩)) := h.at_ 0
theorem At.at_m_kind {w : World} {g : Nat} {x : Tt} (h : At w g x) : w.cell? ⟨g, 1, none⟩ = some (.int .i64 x.m.kind) := h.at_ 1
theorem At.at_m_rid {w : World} {g : Nat} {x : Tt} (h : At w g x) : w.cell? ⟨g, 2, none⟩ = some (.int .i64 x.m.rid) := h.at_ 2
theorem At.at_m_ver {w : World} {g : Nat} {x : Tt} (h : At w g x) : w.cell? ⟨g, 3, none⟩ = some (.int .i64 x.m.ver) := h.at_ 3
theorem At.at_m_error {w : World} {g : Nat} {x : Tt} (h : At w g x) : w.cell? ⟨g, 4, none⟩ = some (.int .i64 x.m.error) := h.at_ 4
theorem At.at_m_id {w : World} {g : Nat} {x : Tt} (h : At w g x) : w.cell? ⟨g, 5, none⟩ = some (.int .u64 (x.m.id : Int)) := h.at_ 5
theorem At.at_m_has {w : World} {g : Nat} {x : Tt} (h : At w g x) : w.cell? ⟨g, 6, none⟩ = some (.bool x.m.has) := h.at_ 6
theorem At.at_m_gone {w : World} {g : Nat} {x : Tt} (h : At w g x) : w.cell? ⟨g, 7, none⟩ = some (.bool x.m.gone) := h.at_ 7
theorem At.at_m_key {w : World} {g : Nat} {x : Tt} (h : At w g x) : w.cell? ⟨g, 8, none⟩ = some (.string ⟨x.m.key.toArray⟩) := h.at_ 8
theorem At.at_m_text {w : World} {g : Nat} {x : Tt} (h : At w g x) : w.cell? ⟨g, 9, none⟩ = some (.string ⟨x.m.text.toArray⟩) := h.at_ 9
theorem At.at_m_es {w : World} {g : Nat} {x : Tt} (h : At w g x) : w.cell? ⟨g, 10, none⟩ = some (x.m.es.v) := h.at_ 10
theorem At.at_m_its {w : World} {g : Nat} {x : Tt} (h : At w g x) : w.cell? ⟨g, 11, none⟩ = some (x.m.its.v) := h.at_ 11
theorem At.at_bad {w : World} {g : Nat} {x : Tt} (h : At w g x) : w.cell? ⟨g, 12, none⟩ = some (.bool x.bad) := h.at_ 12
theorem At.at_big {w : World} {g : Nat} {x : Tt} (h : At w g x) : w.cell? ⟨g, 13, none⟩ = some (.bool x.big) := h.at_ 13
theorem At.part_m {w : World} {g : Nat} {x : Tt} (h : At w g x) : ∀ j v, x.m.enc[j]? = some v → w.cell? ⟨g, 1 + j, none⟩ = some v := Whole.part (a := [.pointer (some ⟨x.r, 0, none⟩)]) (b := x.m.enc) (c := [.bool x.bad, .bool x.big]) h
theorem At.set_r {w : World} {g : Nat} {x : Tt} (h : At w g x) (v : Nat) : At (w.setCell ⟨g, 0, none⟩ (.pointer (some ⟨v, 0, none⟩))) g { x with r := v } := h.stored 0 _
theorem At.set_m_kind {w : World} {g : Nat} {x : Tt} (h : At w g x) (v : Int) : At (w.setCell ⟨g, 1, none⟩ (.int .i64 v)) g { x with m := { x.m with kind := v } } := h.stored 1 _
theorem At.set_m_rid {w : World} {g : Nat} {x : Tt} (h : At w g x) (v : Int) : At (w.setCell ⟨g, 2, none⟩ (.int .i64 v)) g { x with m := { x.m with rid := v } } := h.stored 2 _
theorem At.set_m_ver {w : World} {g : Nat} {x : Tt} (h : At w g x) (v : Int) : At (w.setCell ⟨g, 3, none⟩ (.int .i64 v)) g { x with m := { x.m with ver := v } } := h.stored 3 _
theorem At.set_m_error {w : World} {g : Nat} {x : Tt} (h : At w g x) (v : Int) : At (w.setCell ⟨g, 4, none⟩ (.int .i64 v)) g { x with m := { x.m with error := v } } := h.stored 4 _
theorem At.set_m_id {w : World} {g : Nat} {x : Tt} (h : At w g x) (v : Nat) : At (w.setCell ⟨g, 5, none⟩ (.int .u64 (v : Int))) g { x with m := { x.m with id := v } } := h.stored 5 _
theorem At.set_m_has {w : World} {g : Nat} {x : Tt} (h : At w g x) (v : Bool) : At (w.setCell ⟨g, 6, none⟩ (.bool v)) g { x with m := { x.m with has := v } } := h.stored 6 _
theorem At.set_m_gone {w : World} {g : Nat} {x : Tt} (h : At w g x) (v : Bool) : At (w.setCell ⟨g, 7, none⟩ (.bool v)) g { x with m := { x.m with gone := v } } := h.stored 7 _
theorem At.set_m_key {w : World} {g : Nat} {x : Tt} (h : At w g x) (v : List UInt8) : At (w.setCell ⟨g, 8, none⟩ (.string ⟨v.toArray⟩)) g { x with m := { x.m with key := v } } := h.stored 8 _
theorem At.set_m_text {w : World} {g : Nat} {x : Tt} (h : At w g x) (v : List UInt8) : At (w.setCell ⟨g, 9, none⟩ (.string ⟨v.toArray⟩)) g { x with m := { x.m with text := v } } := h.stored 9 _
theorem At.set_m_es {w : World} {g : Nat} {x : Tt} (h : At w g x) (v : Row) : At (w.setCell ⟨g, 10, none⟩ (v.v)) g { x with m := { x.m with es := v } } := h.stored 10 _
theorem At.set_m_its {w : World} {g : Nat} {x : Tt} (h : At w g x) (v : Row) : At (w.setCell ⟨g, 11, none⟩ (v.v)) g { x with m := { x.m with its := v } } := h.stored 11 _
theorem At.set_bad {w : World} {g : Nat} {x : Tt} (h : At w g x) (v : Bool) : At (w.setCell ⟨g, 12, none⟩ (.bool v)) g { x with bad := v } := h.stored 12 _
theorem At.set_big {w : World} {g : Nat} {x : Tt} (h : At w g x) (v : Bool) : At (w.setCell ⟨g, 13, none⟩ (.bool v)) g { x with big := v } := h.stored 13 _
end Tt
end Go.Proofs.Ytnjeopgcpffkcaa
