/- What the texts of LabelReads and LabelBack lean on besides. -/
import Derived.Test.YtgldelgeaajgpaaDoorLbA
import Derived.Test.YtgldelgeaajgpaaDoorLbG
import Derived.Test.YtgldelgeaajgpaaDoorLbB
import Derived.Test.YtgldelgeaajgpaaDoorLbR
import Derived.Lib.AtoiErrMem
namespace Go.Proofs.YtgldelgeaajgpaaDoor
open Go.RowKit

/-- The library's two errors lie somewhere. -/
def IsIf (ev : Value) : Prop := ev = .nilIface ∨ ∃ te pe, ev = .iface te pe
structure ErrT (w : World) : Prop where
  syn : ∃ ev, w.cell? ⟨0, 0, none⟩ = some ev ∧ IsIf ev
  ran : ∃ ev, w.cell? ⟨1, 0, none⟩ = some ev ∧ IsIf ev
theorem cell_below {w w' : World} {g : Nat} {ev : Value} (h : w.cell? ⟨g, 0, none⟩ = some ev) (hb : Below w.heap.size w w') : w'.cell? ⟨g, 0, none⟩ = some ev :=
  (hb.cell (show (⟨g, 0, none⟩ : Addr).block < w.heap.size from Lib.lt_of_cell h)).trans h
theorem ErrT.below {w w' : World} (h : ErrT w) (hb : Below w.heap.size w w') : ErrT w' := by
  obtain ⟨⟨a, h1, h2⟩, b, h3, h4⟩ := h
  exact ⟨⟨a, cell_below h1 hb, h2⟩, b, cell_below h3 hb, h4⟩

structure LabelReadIs : Prop where
  readBytes : ∀ (l : List UInt8) (w : World) (_ : l.length ≤ 100000),
    Calls Tryd.prog 23 #[.string ⟨l.toArray⟩] w fun e w' => ∃ v', e = .returned (.tuple #[v', .bool (rbB l)]) ∧ BytesAt w' v' (rbA l) ∧ Below w.heap.size w w'
  readNumber : ∀ (l : List UInt8) (w : World) (_ : l.length ≤ 100000) (_ : PowT w) (_ : ErrT w),
    Calls Tryd.prog 25 #[.string ⟨l.toArray⟩] w fun e w' => e = .returned (.tuple #[.int .i64 (rnA l), .bool (rnB l)]) ∧ Below w.heap.size w w'
end Go.Proofs.YtgldelgeaajgpaaDoor
