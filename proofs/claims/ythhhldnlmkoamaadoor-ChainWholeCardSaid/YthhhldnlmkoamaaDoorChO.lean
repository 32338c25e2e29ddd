/- A gate that came in by value, opened. -/
import Derived.Test.YthhhldnlmkoamaaDoorGat
import Derived.Lib.SmallJoins
import Derived.ChangeArms
namespace Go.Proofs.YthhhldnlmkoamaaDoor
open Go.RowKit Go.ChangeShapes Go.WideShapes Go.ChangeAt

theorem open_gate {H : Type} {enc : TypeId × Value → H} {W : World} {b base : Nat} {sp : Nat → Bool} {hd : Bool} {v : Value} {d : DataW H} {p : List MemPlace}
    (hv : Value.okWide Tryd.prog W .any base 33 v) (h : DataW.Trod enc Tryd.prog W b sp hd 33 v d p) :
    ∃ (i : Int) (k : List UInt8), v = gateV i k ∧ -9223372036854775808 ≤ i ∧ i ≤ 9223372036854775807 := by
  obtain ⟨v0, v1, y0, y1, n, rfl, -, -, h0, h1⟩ := Go.Joins.open_agg2 Tryd.underlying33 (by kernel_rfl) (by kernel_rfl) hv h
  obtain ⟨z, e0, _, w0⟩ := DataW.trod_int Tryd.underlying3 h0
  obtain ⟨s, e1, _, _⟩ := DataW.trod_string Tryd.underlying9 h1
  simp only [List.cons.injEq, and_true] at e0 e1
  subst e0 e1
  refine ⟨z, s.data.toList, ?_, bounds_i64 w0⟩
  rw [gateV, Array.toArray_toList]
end Go.Proofs.YthhhldnlmkoamaaDoor
