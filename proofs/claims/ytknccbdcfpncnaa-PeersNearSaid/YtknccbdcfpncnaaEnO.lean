/- Entries that came in: a struct by value, a slice of them, opened. -/
import Derived.Test.YtknccbdcfpncnaaEnC
import Derived.Deep.Slices
import Derived.ChangeArms
namespace Go.Proofs.Ytknccbdcfpncnaa
set_option maxRecDepth 100000
open Go.RowKit Go.ChangeShapes Go.WideShapes Go.ChangeAt Go.Deep

section
variable {H : Type} {enc : TypeId × Value → H} {W : World} {b base : Nat} {sp : Nat → Bool} {hd : Bool}
theorem str_cell (s : ByteArray) : Value.string s = .string ⟨s.data.toList.toArray⟩ := by
  rw [Array.toArray_toList]

theorem ent_cells {fuel : Nat} {cs : List Value} {x : DataW H × List MemPlace} (h : DataW.trod enc Try.prog W b sp hd fuel 24 cs = some x) : ∃ e : Ent, cs = e.cells.toList ∧ e.id < 18446744073709551616 := by
  obtain ⟨xs, n, _, hx, hl, hxl, hf⟩ := DataW.trod_struct Try.underlying24 h
  have hc : Try.prog.cellsOf 24 = 6 := by kernel_rfl
  rw [hc] at hl
  have c1 : Try.prog.cellsOf 9 = 1 := by kernel_rfl
  have c2 : Try.prog.cellsOf 22 = 1 := by kernel_rfl
  have c3 : Try.prog.cellsOf 3 = 1 := by kernel_rfl
  have h0 := hf 0 _ rfl
  have h1 := hf 1 _ rfl
  have h2 := hf 2 _ rfl
  have h3 := hf 3 _ rfl
  have h4 := hf 4 _ rfl
  have h5 := hf 5 _ rfl
  have hxl6 : xs.length = 6 := hxl
  match cs, hl with
  | [v0, v1, v2, v3, v4, v5], _ =>
    match xs, hxl6 with
    | [y0, y1, y2, y3, y4, y5], _ =>
      simp [c1, c2, c3] at h0 h1 h2 h3 h4 h5
      obtain ⟨s0, e0, _, _⟩ := DataW.trod_string Try.underlying9 h0
      obtain ⟨z1, e1, _, w1⟩ := DataW.trod_int Try.underlying22 h1
      obtain ⟨z2, e2, _, _⟩ := DataW.trod_int Try.underlying3 h2
      obtain ⟨z3, e3, _, _⟩ := DataW.trod_int Try.underlying3 h3
      obtain ⟨z4, e4, _, _⟩ := DataW.trod_int Try.underlying3 h4
      obtain ⟨s5, e5, _, _⟩ := DataW.trod_string Try.underlying9 h5
      simp only [List.cons.injEq, and_true] at e0 e1 e2 e3 e4 e5
      subst e0 e1 e2 e3 e4 e5
      have hb := bounds_u64 w1
      obtain ⟨k, rfl⟩ := Int.eq_ofNat_of_zero_le hb.1
      refine ⟨⟨s0.data.toList, k, z2, z3, z4, s5.data.toList⟩, ?_, by show k < 18446744073709551616; omega⟩
      rw [str_cell s0, str_cell s5]
      rfl
theorem open_ent {v : Value} {d : DataW H} {p : List MemPlace} (hv : Value.okWide Try.prog W .any base 24 v) (h : DataW.Trod enc Try.prog W b sp hd 24 v d p) : ∃ e : Ent, v = e.val ∧ e.id < 18446744073709551616 := by
  obtain ⟨cs, rfl, hsz⟩ := okWide_struct Try.underlying24 hv
  obtain ⟨fuel, hf⟩ := h
  obtain ⟨e, he, hi⟩ := ent_cells hf
  refine ⟨e, ?_, hi⟩
  rw [Ent.val_cells]
  congr 1
  apply Array.ext'
  simpa [Value.cells] using he
end
/-- A slice of entries. -/
def EntsAt (w : World) (v : Value) (l : List Ent) : Prop :=
  ∃ A cap, v = .slice A l.length cap ∧ l.length ≤ cap ∧ (l ≠ [] → ∃ ad : Addr, A = some ad ∧ ∀ k e, l[k]? = some e → ∀ j u, e.cells[j]? = some u → w.cell? (ad.add (k * 6 + j)) = some u)
theorem EntsAt.keep {w w' : World} {v : Value} {l : List Ent} (h : EntsAt w v l) (hk : l ≠ [] → ∀ g, g < w.heap.size → v.ownBlock = some g → w'.heap[g]? = w.heap[g]?) : EntsAt w' v l := by
  obtain ⟨A, cap, rfl, hcap, hc⟩ := h
  refine ⟨A, cap, rfl, hcap, fun hl => ?_⟩
  obtain ⟨ad, rfl, hcell⟩ := hc hl
  refine ⟨ad, rfl, fun k e he j u hj => ?_⟩
  have h1 := hcell k e he j u hj
  have hlt := World.block_lt_of_cell? w _ h1
  rw [add_block] at hlt
  rw [← h1]
  exact World.cell?_of_block (by rw [add_block]; exact hk hl ad.block hlt rfl)
theorem EntsAt.below {w w' : World} {v : Value} {l : List Ent} (h : EntsAt w v l) (hb : Below w.heap.size w w') : EntsAt w' v l := h.keep fun _ g hg _ => hb.block g hg
theorem EntsAt.size {w : World} {A : Option Addr} {n cap : Nat} {l : List Ent} (h : EntsAt w (.slice A n cap) l) : n = l.length ∧ n ≤ cap := by
  obtain ⟨A', cap', e, hc, -⟩ := h
  injection e with e1 e2 e3
  subst e2 e3
  exact ⟨rfl, hc⟩
theorem EntsAt.spots {w : World} {A : Option Addr} {n cap : Nat} {l : List Ent} (h : EntsAt w (.slice A n cap) l) (hl : l ≠ []) :
    ∃ g off, A = some ⟨g, off, none⟩ ∧ g < w.heap.size ∧ ∀ k e, l[k]? = some e → ∀ j u, e.cells[j]? = some u → w.cell? ⟨g, off + k * 6 + j, none⟩ = some u := by
  obtain ⟨A', cap', e, -, hc⟩ := h
  injection e with e1 e2 e3
  subst e1
  obtain ⟨ad, rfl, hcell⟩ := hc hl
  have h0 : l[0]? = some (l.head hl) := by rw [← List.head?_eq_getElem?]; exact List.head?_eq_some_head hl
  have hz := hcell 0 _ h0 0 _ rfl
  have hlt := World.block_lt_of_cell? w _ hz
  rw [add_block] at hlt
  obtain ⟨g, off, spot⟩ := ad
  have hspot : spot = none := by simpa [Addr.add] using World.cell?_spot hz
  subst hspot
  refine ⟨g, off, rfl, hlt, fun k e hk j u hj => ?_⟩
  have ha : ∀ m, (⟨g, off, none⟩ : Addr).add m = ⟨g, off + m, none⟩ := by intro m; unfold Addr.add; split <;> simp_all
  rw [Nat.add_assoc, ← ha]
  exact hcell k e hk j u hj
theorem open_ents {H : Type} {enc : TypeId × Value → H} {W : World} {b : Nat} {sp : Nat → Bool} {hd : Bool} {a : Option Addr} {len cap : Nat} {d : DataW H} {p : List MemPlace}
    (h : DataW.Trod enc Try.prog W b sp hd 39 (.slice a len cap) d p) : ∃ l, EntsAt W (.slice a len cap) l ∧ ∀ e ∈ l, e.id < 18446744073709551616 := by
  obtain ⟨fuel, hf⟩ := h
  rcases open_slice Try.underlying39 hf with ⟨hcs, _⟩ | ⟨x, n, c, m, k, D, Pl, hcs, _, hl, _, hm, _, hel⟩
  · simp [Value.cells] at hcs
    obtain ⟨rfl, rfl, rfl⟩ := hcs
    exact ⟨[], ⟨none, 0, rfl, Nat.le_refl _, fun h => absurd rfl h⟩, fun x hx => by cases hx⟩
  · simp [Value.cells] at hcs
    obtain ⟨rfl, rfl, rfl⟩ := hcs
    have hc6 : Try.prog.cellsOf 24 = 6 := by kernel_rfl
    have hlm : len ≤ m := by rw [hm]; split <;> omega
    have hex : ∀ i, ∃ e : Ent, e.id < 18446744073709551616 ∧ (i < len → ∀ j u, e.cells[j]? = some u → W.cell? (x.add (i * 6 + j)) = some u) := fun i => by
      by_cases hi : i < len
      · obtain ⟨cs', hcs, ht⟩ := hel i (by omega)
        obtain ⟨e, rfl, he⟩ := ent_cells ht
        rw [hc6] at hcs
        obtain ⟨_, _, hat⟩ := World.cells?_some hcs
        refine ⟨e, he, fun _ j u hj => ?_⟩
        have hj6 : j < 6 := (Array.getElem?_eq_some_iff.1 hj).1
        have q := hat j hj6
        rw [Go.Deep.add_add] at q
        rw [q]
        simpa using hj
      · exact ⟨ent0, by decide, fun h => absurd h hi⟩
    let E : Nat → Ent := fun i => Classical.choose (hex i)
    have hE : ∀ i, (E i).id < 18446744073709551616 ∧ (i < len → ∀ j u, (E i).cells[j]? = some u → W.cell? (x.add (i * 6 + j)) = some u) := fun i => Classical.choose_spec (hex i)
    refine ⟨(List.range len).map E, ⟨some x, cap, by simp, by simp; omega, fun _ => ⟨x, rfl, fun i e hi j u hj => ?_⟩⟩, fun e he => ?_⟩
    · simp only [List.getElem?_map, Option.map_eq_some_iff] at hi
      obtain ⟨i', hi', rfl⟩ := hi
      obtain ⟨hlt, rfl⟩ := List.getElem?_eq_some_iff.1 hi'
      rw [List.length_range] at hlt
      rw [List.getElem_range] at hj
      exact (hE i).2 hlt j u hj
    · simp only [List.mem_map] at he
      obtain ⟨i, _, rfl⟩ := he
      exact (hE i).1
end Go.Proofs.Ytknccbdcfpncnaa
