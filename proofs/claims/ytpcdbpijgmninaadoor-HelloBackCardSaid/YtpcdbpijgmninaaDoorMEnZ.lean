/- An entry that came in: how long its texts may be. -/
import Derived.Test.YtpcdbpijgmninaaDoorGj
import Derived.ChangeArms
import Derived.SizedLaws
namespace Go.Proofs.YtpcdbpijgmninaaDoor
set_option maxRecDepth 100000
open Go.RowKit Go.ChangeShapes Go.WideShapes Go.ChangeAt

section
variable {H : Type} {enc : TypeId × Value → H} {W : World} {b : Nat} {sp : Nat → Bool} {hd : Bool}
set_option maxRecDepth 100000 in
theorem ent_weights {e : Ent} {d : DataW H} {p : List MemPlace} (h : DataW.Trod enc Tryd.prog W b sp hd 24 e.val d p) : e.name.length ∈ d.weights Tryd.prog 24 ∧ e.tag.length ∈ d.weights Tryd.prog 24 := by
  obtain ⟨fuel, hf⟩ := h
  obtain ⟨xs, n, _, hx, hl, hxl, hg⟩ := DataW.trod_struct Tryd.underlying24 hf
  have c1 : Tryd.prog.cellsOf 9 = 1 := by kernel_rfl
  have h0 := hg 0 _ rfl
  have h5 := hg 5 _ rfl
  have hxl6 : xs.length = 6 := hxl
  match xs, hxl6 with
  | [y0, y1, y2, y3, y4, y5], _ =>
    simp [Value.cells, Ent.enc, c1] at h0 h5
    obtain ⟨s0, e0, d0, _⟩ := DataW.trod_string Tryd.underlying9 h0
    obtain ⟨s5, e5, d5, _⟩ := DataW.trod_string Tryd.underlying9 h5
    simp only [List.cons.injEq, and_true, Value.string.injEq] at e0 e5
    subst e0 e5 d0 d5
    injection hx with hx1 hx2
    subst hx1
    simp [DataW.weights, Tryd.underlying24, DataW.weightsEach]
theorem ent_sized {e : Ent} {d : DataW H} {p : List MemPlace} {ts : List TypeId} {ds : List (DataW H)} (hz : (DataW.weightsEach Tryd.prog ts ds).all (· ≤ reachBytes) = true) {j : Nat} (ht : ts[j]? = some 24) (hd' : ds[j]? = some d)
    (h : DataW.Trod enc Tryd.prog W b sp hd 24 e.val d p) : e.name.length ≤ 140737488355328 ∧ e.tag.length ≤ 140737488355328 := by
  obtain ⟨h1, h2⟩ := ent_weights h
  have q1 := List.all_eq_true.1 hz _ (DataW.weights_mem_each ht hd' _ h1)
  have q2 := List.all_eq_true.1 hz _ (DataW.weights_mem_each ht hd' _ h2)
  have z1 : e.name.length ≤ reachBytes := by simpa using q1
  have z2 : e.tag.length ≤ reachBytes := by simpa using q2
  have z3 : reachBytes ≤ 140737488355328 := by decide
  exact ⟨Nat.le_trans z1 z3, Nat.le_trans z2 z3⟩
end
end Go.Proofs.YtpcdbpijgmninaaDoor
