/- Entries that came in: a struct by value, a slice of them, opened. -/
import Derived.Test.YtjohlnpalcmhbaaEnC
import Derived.Deep.Slices
import Derived.ChangeArms
namespace Go.Proofs.Ytjohlnpalcmhbaa
set_option maxRecDepth 100000
open Go.RowKit Go.ChangeShapes Go.WideShapes Go.ChangeAt Go.Deep

section
variable {H : Type} {enc : TypeId × Value → H} {W : World} {b base : Nat} {sp : Nat → Bool} {hd : Bool}
theorem str_cell (s : ByteArray) : Value.string s = .string ⟨s.data.toList.toArray⟩ := by
  rw [Array.toArray_toList]

theorem ent_cells {fuel : Nat} {cs : List Value} {x : DataW H × List MemPlace} (h : DataW.trod enc Try.prog W b sp hd fuel 25 cs = some x) : ∃ e : Ent, cs = e.cells.toList ∧ e.id < 18446744073709551616 := by
  obtain ⟨xs, n, _, hx, hl, hxl, hf⟩ := DataW.trod_struct Try.underlying25 h
  have hc : Try.prog.cellsOf 25 = 6 := by kernel_rfl
  rw [hc] at hl
  have c1 : Try.prog.cellsOf 9 = 1 := by kernel_rfl
  have c2 : Try.prog.cellsOf 23 = 1 := by kernel_rfl
  have c3 : Try.prog.cellsOf 3 = 1 := by kernel_rfl
  have h0 := hf 0 _ rfl
  have h1 := hf 1 _ rfl
  have h2 := hf 2 _ rfl
  have h3 := hf 3 _ rfl
  have h4 := hf 4 _ rfl
  have h5 := hf 5 _ rfl
  have hxl6 : xs.length = 6 := hxl
  match cs, hl with
  | [v0, v1, v2, v3, v4, v5], _ =>
    match xs, hxl6 with
    | [y0, y1, y2, y3, y4, y5], _ =>
      simp [c1, c2, c3] at h0 h1 h2 h3 h4 h5
      obtain ⟨s0, e0, _, _⟩ := DataW.trod_string Try.underlying9 h0
      obtain ⟨z1, e1, _, w1⟩ := DataW.trod_int Try.underlying23 h1
      obtain ⟨z2, e2, _, _⟩ := DataW.trod_int Try.underlying3 h2
      obtain ⟨z3, e3, _, _⟩ := DataW.trod_int Try.underlying3 h3
      obtain ⟨z4, e4, _, _⟩ := DataW.trod_int Try.underlying3 h4
      obtain ⟨s5, e5, _, _⟩ := DataW.trod_string Try.underlying9 h5
      simp only [List.cons.injEq, and_true] at e0 e1 e2 e3 e4 e5
      subst e0 e1 e2 e3 e4 e5
      have hb := bounds_u64 w1
      obtain ⟨k, rfl⟩ := Int.eq_ofNat_of_zero_le hb.1
      refine ⟨⟨s0.data.toList, k, z2, z3, z4, s5.data.toList⟩, ?_, by show k < 18446744073709551616; omega⟩
      rw [str_cell s0, str_cell s5]
      rfl
theorem open_ent {v : Value} {d : DataW H} {p : List MemPlace} (hv : Value.okWide Try.prog W .any base 25 v) (h : DataW.Trod enc Try.prog W b sp hd 25 v d p) : ∃ e : Ent, v = e.val ∧ e.id < 18446744073709551616 := by
  obtain ⟨cs, rfl, hsz⟩ := okWide_struct Try.underlying25 hv
  obtain ⟨fuel, hf⟩ := h
  obtain ⟨e, he, hi⟩ := ent_cells hf
  refine ⟨e, ?_, hi⟩
  rw [Ent.val_cells]
  congr 1
  apply Array.ext'
  simpa [Value.cells] using he
end
end Go.Proofs.Ytjohlnpalcmhbaa
