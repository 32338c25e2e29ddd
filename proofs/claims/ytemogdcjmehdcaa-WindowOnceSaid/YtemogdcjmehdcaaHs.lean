/- Slices of numbers of 16 bits, as natural numbers: what they hold, an argument's. (The words of XUs, for uint16; reading only.) -/
import Derived.Test.YtemogdcjmehdcaaGenS
import Derived.Test.YtemogdcjmehdcaaGenT
import Derived.IntWalk
namespace Go.Proofs.Ytemogdcjmehdcaa
set_option maxRecDepth 100000
open Go.RowKit Go.ChangeShapes Go.WideShapes Go.ChangeAt

/-- The slice v is just these numbers. -/
def HsAt (w : World) (v : Value) (l : List Nat) : Prop :=
  ∃ A cap, v = .slice A l.length cap ∧ l.length ≤ cap ∧ (l ≠ [] → ∃ ad : Addr, A = some ad ∧ ∀ (j c : Nat), l[j]? = some c → w.cell? (ad.add j) = some (.int .u16 (c : Int)))
theorem HsAt.keep {w w' : World} {v : Value} {l : List Nat} (h : HsAt w v l) (hk : l ≠ [] → ∀ g, g < w.heap.size → v.ownBlock = some g → w'.heap[g]? = w.heap[g]?) : HsAt w' v l := by
  obtain ⟨A, cap, rfl, hcap, hc⟩ := h
  refine ⟨A, cap, rfl, hcap, fun hl => ?_⟩
  obtain ⟨ad, rfl, hcell⟩ := hc hl
  refine ⟨ad, rfl, fun j c hj => ?_⟩
  have h1 := hcell j c hj
  have hlt := World.block_lt_of_cell? w _ h1
  rw [add_block] at hlt
  rw [← h1]
  exact World.cell?_of_block (by rw [add_block]; exact hk hl ad.block hlt rfl)
theorem HsAt.below {w w' : World} {v : Value} {l : List Nat} (h : HsAt w v l) (hb : Below w.heap.size w w') : HsAt w' v l := h.keep fun _ g hg _ => hb.block g hg
theorem HsAt.lt {w : World} {A : Option Addr} {n cap : Nat} {l : List Nat} (h : HsAt w (.slice A n cap) l) (hl : l ≠ []) : ∃ ad, A = some ad ∧ ad.block < w.heap.size := by
  obtain ⟨A', cap', e, _, hc⟩ := h
  injection e with e1 e2 e3
  subst e1
  obtain ⟨ad, rfl, hcell⟩ := hc hl
  refine ⟨ad, rfl, ?_⟩
  have h1 := hcell 0 (l.head hl) (by rw [← List.head?_eq_getElem?]; exact List.head?_eq_some_head hl)
  have hlt := World.block_lt_of_cell? w _ h1
  rwa [add_block] at hlt
theorem HsAt.spots {w : World} {A : Option Addr} {n cap : Nat} {l : List Nat} (h : HsAt w (.slice A n cap) l) (hl : l ≠ []) :
    ∃ b off, A = some ⟨b, off, none⟩ ∧ b < w.heap.size ∧ ∀ (j c : Nat), l[j]? = some c → w.cell? ⟨b, off + j, none⟩ = some (.int .u16 (c : Int)) := by
  obtain ⟨ad, rfl, hlt⟩ := h.lt hl
  obtain ⟨A', cap', e, _, hc⟩ := h
  injection e with e1 e2 e3
  subst e1
  obtain ⟨ad', e', hcell⟩ := hc hl
  injection e' with e'
  subst e'
  have h1 := hcell 0 (l.head hl) (by rw [← List.head?_eq_getElem?]; exact List.head?_eq_some_head hl)
  obtain ⟨b, off, spot⟩ := ad
  have hspot : spot = none := by simpa [Addr.add] using World.cell?_spot h1
  subst hspot
  refine ⟨b, off, rfl, hlt, fun j c hj => ?_⟩
  have ha : (⟨b, off, none⟩ : Addr).add j = ⟨b, off + j, none⟩ := by unfold Addr.add; split <;> simp_all
  rw [← ha]
  exact hcell j c hj
theorem HsAt.size {w : World} {A : Option Addr} {n cap : Nat} {l : List Nat} (h : HsAt w (.slice A n cap) l) : n = l.length ∧ n ≤ cap := by
  obtain ⟨A', cap', e, hn, _⟩ := h
  injection e with e1 e2 e3
  subst e2 e3
  exact ⟨rfl, hn⟩

theorem open_hs {H : Type} {enc : TypeId × Value → H} {W : World} {b : Nat} {sp : Nat → Bool} {hd : Bool} {a : Option Addr} {len cap : Nat} {d : DataW H} {p : List MemPlace}
    (h : DataW.Trod enc Try.prog W b sp hd 31 (.slice a len cap) d p) : ∃ l, HsAt W (.slice a len cap) l ∧ ∀ x ∈ l, x < 65536 := by
  obtain ⟨fuel, hf⟩ := h
  rcases open_ints Try.underlying31 Try.underlying32 (by kernel_rfl) hf with ⟨hcs, _⟩ | ⟨x, l, c, zs, hcs, _, hl, hm, hz, _, hcell, hwz⟩
  · simp [Value.cells] at hcs
    obtain ⟨rfl, rfl, rfl⟩ := hcs
    exact ⟨[], ⟨none, 0, rfl, Nat.le_refl _, fun h => absurd rfl h⟩, fun x hx => by cases hx⟩
  · simp [Value.cells] at hcs
    obtain ⟨rfl, rfl, rfl⟩ := hcs
    have hlen : len ≤ zs.length := by rw [hz]; split <;> omega
    refine ⟨(zs.take len).map fun n => n.toNat, ⟨some x, cap, by simp [Nat.min_eq_left hlen], by simp; omega, fun _ => ⟨x, rfl, fun j c hj => ?_⟩⟩, fun y hy => ?_⟩
    · simp only [List.getElem?_map, Option.map_eq_some_iff, List.getElem?_take] at hj
      obtain ⟨n, hn, rfl⟩ := hj
      split at hn
      · have hjl : j < zs.length := (List.getElem?_eq_some_iff.1 hn).1
        have hmem : n ∈ zs := List.mem_of_getElem? hn
        have hb := bounds_u16 (hwz n hmem)
        rw [hcell j hjl]
        simp [List.getD, hn]
        omega
      · cases hn
    · simp only [List.mem_map] at hy
      obtain ⟨n, hn, rfl⟩ := hy
      have hb := bounds_u16 (hwz n (List.mem_of_mem_take hn))
      omega
end Go.Proofs.Ytemogdcjmehdcaa
