/- Entries that came in: a struct by value, a slice of them, opened. The table of constants out of the row's condition; what each card of layer 3 has in common. -/
import Derived.Test.YtpcdbpijgmninaaDoorGk
import Derived.Deep.Slices
import Derived.ChangeArms
import Derived.Test.YtpcdbpijgmninaaDoorGt
import Derived.Test.YtpcdbpijgmninaaDoorTie
import Derived.Test.YtpcdbpijgmninaaDoorCards
import Derived.Lib.LaidTab
import Derived.LaidMore
import Derived.Stop.Joined
import Derived.SevenTiedAt
namespace Go.Proofs.YtpcdbpijgmninaaDoor
set_option maxRecDepth 100000
open Go.RowKit Go.ChangeShapes Go.WideShapes Go.ChangeAt Go.Deep

section
variable {H : Type} {enc : TypeId × Value → H} {W : World} {b base : Nat} {sp : Nat → Bool} {hd : Bool}
theorem str_cell (s : ByteArray) : Value.string s = .string ⟨s.data.toList.toArray⟩ := by
  rw [Array.toArray_toList]

theorem ent_cells {fuel : Nat} {cs : List Value} {x : DataW H × List MemPlace} (h : DataW.trod enc Tryd.prog W b sp hd fuel 24 cs = some x) : ∃ e : Ent, cs = e.cells.toList ∧ e.id < 18446744073709551616 := by
  obtain ⟨xs, n, _, hx, hl, hxl, hf⟩ := DataW.trod_struct Tryd.underlying24 h
  have hc : Tryd.prog.cellsOf 24 = 6 := by kernel_rfl
  rw [hc] at hl
  have c1 : Tryd.prog.cellsOf 9 = 1 := by kernel_rfl
  have c2 : Tryd.prog.cellsOf 22 = 1 := by kernel_rfl
  have c3 : Tryd.prog.cellsOf 3 = 1 := by kernel_rfl
  have h0 := hf 0 _ rfl
  have h1 := hf 1 _ rfl
  have h2 := hf 2 _ rfl
  have h3 := hf 3 _ rfl
  have h4 := hf 4 _ rfl
  have h5 := hf 5 _ rfl
  have hxl6 : xs.length = 6 := hxl
  match cs, hl with
  | [v0, v1, v2, v3, v4, v5], _ =>
    match xs, hxl6 with
    | [y0, y1, y2, y3, y4, y5], _ =>
      simp [c1, c2, c3] at h0 h1 h2 h3 h4 h5
      obtain ⟨s0, e0, _, _⟩ := DataW.trod_string Tryd.underlying9 h0
      obtain ⟨z1, e1, _, w1⟩ := DataW.trod_int Tryd.underlying22 h1
      obtain ⟨z2, e2, _, _⟩ := DataW.trod_int Tryd.underlying3 h2
      obtain ⟨z3, e3, _, _⟩ := DataW.trod_int Tryd.underlying3 h3
      obtain ⟨z4, e4, _, _⟩ := DataW.trod_int Tryd.underlying3 h4
      obtain ⟨s5, e5, _, _⟩ := DataW.trod_string Tryd.underlying9 h5
      simp only [List.cons.injEq, and_true] at e0 e1 e2 e3 e4 e5
      subst e0 e1 e2 e3 e4 e5
      have hb := bounds_u64 w1
      obtain ⟨k, rfl⟩ := Int.eq_ofNat_of_zero_le hb.1
      refine ⟨⟨s0.data.toList, k, z2, z3, z4, s5.data.toList⟩, ?_, by show k < 18446744073709551616; omega⟩
      rw [str_cell s0, str_cell s5]
      rfl
theorem open_ent {v : Value} {d : DataW H} {p : List MemPlace} (hv : Value.okWide Tryd.prog W .any base 24 v) (h : DataW.Trod enc Tryd.prog W b sp hd 24 v d p) : ∃ e : Ent, v = e.val ∧ e.id < 18446744073709551616 := by
  obtain ⟨cs, rfl, hsz⟩ := okWide_struct Tryd.underlying24 hv
  obtain ⟨fuel, hf⟩ := h
  obtain ⟨e, he, hi⟩ := ent_cells hf
  refine ⟨e, ?_, hi⟩
  rw [Ent.val_cells]
  congr 1
  apply Array.ext'
  simpa [Value.cells] using he
end
end Go.Proofs.YtpcdbpijgmninaaDoor

namespace Go.Proofs.YtpcdbpijgmninaaDoor
set_option maxRecDepth 100000
open Go.RowKit Go.ChangeShapes Go.WideShapes Go.ChangeAt

def laidC : List (String × DataW Unit) := [("carcanet/digest.constants", Rows.laid_carcanet_digest_constants)]
theorem gC : Tryd.prog.globalNamed "carcanet/digest.constants" = some 0 := by kernel_rfl
theorem tC : (Tryd.prog.globals[0]?).map (·.type) = some 127 := by kernel_rfl
def ktI : List Int := kt.map fun x => (x.toNat : Int)
theorem ktI_length : ktI.length = 64 := by kernel_rfl
theorem laid_tab : laidC = ("carcanet/digest.constants", Lib.tabData .u32 ktI) :: [] := by kernel_rfl

/-- The door's own heap meets the condition. -/
theorem door_met (os : Os) (args : Array Value) : laidMetH Tryd.prog laidC ((World.doorLaid Tryd.prog 400 os).forCall (fun _ _ => 0) ⟨#[], args, []⟩).memory :=
  laidMetH_of_parts3 (fuel := 8) (laidMet_of_run' 8 (by kernel_rfl) (by kernel_rfl)) (by kernel_rfl) (by kernel_rfl)

theorem tab_of_laid {W : World} (h : laidMetH Tryd.prog laidC W) : Tab W := by
  rw [MakeChecks.laidMetH_plain _ _ _ (by kernel_rfl), laid_tab] at h
  have q := Lib.tabIs_of_head gC tC Tryd.underlying127 Tryd.underlying115 (by kernel_rfl) (by kernel_rfl) h
  intro k hk
  have hk64 : kt.length = 64 := by kernel_rfl
  have hl : k < kt.length := by omega
  have c := q.cell gC k (by rw [ktI_length]; exact hk)
  rw [c]
  simp [ktI, wd, List.getD, List.getElem?_eq_getElem hl]
end Go.Proofs.YtpcdbpijgmninaaDoor
