/- Layer 24: places by name: mathematics. -/
import Derived.Test.YtknccbdcfpncnaaPnM
namespace Go.Proofs.Ytknccbdcfpncnaa
set_option maxRecDepth 100000
open Go.RowKit

/-- Their names are not too long. -/
def Short (l : List Peer) : Prop := ∀ p ∈ l, p.entry.name.length ≤ 1000000
theorem nameQ_is (n : List UInt8) (p : Peer) : nameQ n p = true ↔ p.entry.name = n := by rw [nameQ, decide_eq_true_eq]
theorem nameQ_not (n : List UInt8) (p : Peer) : nameQ n p = false ↔ p.entry.name ≠ n := by rw [nameQ, decide_eq_false_iff_not]
/-- Where the first of a name stands. -/
theorem placeQ_spec (l : List Peer) (n : List UInt8) :
    (placeQ l n = -1 ∧ ∀ x ∈ l, x.entry.name ≠ n) ∨ ∃ (k : Nat) (x : Peer), placeQ l n = (k : Int) ∧ l[k]? = some x ∧ x.entry.name = n ∧ ∀ (j : Nat) (y : Peer), j < k → l[j]? = some y → y.entry.name ≠ n := by
  rcases firstPe_spec (nameQ n) l 0 with ⟨h, h'⟩ | ⟨k, x, h, h1, h2, h3⟩
  · exact .inl ⟨h, fun x hx => (nameQ_not _ _).1 (h' x hx)⟩
  · refine .inr ⟨k, x, by rw [placeQ, h, Nat.zero_add], h1, (nameQ_is _ _).1 h2, fun j y hj hy => (nameQ_not _ _).1 (h3 y ?_)⟩
    rw [List.mem_iff_getElem?]
    exact ⟨j, by rw [List.getElem?_take_of_lt hj]; exact hy⟩
theorem placeQ_low {l : List Peer} {n : List UInt8} {j : Nat} {y : Peer} (hy : l[j]? = some y) (h : y.entry.name = n) : 0 ≤ placeQ l n ∧ placeQ l n ≤ (j : Int) := by
  rcases placeQ_spec l n with ⟨-, h'⟩ | ⟨k, x, e, h1, h2, h3⟩
  · exact absurd h (h' y (List.mem_of_getElem? hy))
  · rw [e]
    refine ⟨by omega, ?_⟩
    rcases Nat.lt_or_ge j k with q | q
    · exact absurd h (h3 j y q hy)
    · omega
theorem placeQ_high {l : List Peer} {n : List UInt8} {i : Nat} {x : Peer} (hx : l[i]? = some x) (hn : x.entry.name = n) (h : ∀ (j : Nat) (y : Peer), j < i → l[j]? = some y → y.entry.name ≠ n) : placeQ l n = (i : Int) := by
  rcases placeQ_spec l n with ⟨-, h'⟩ | ⟨k, z, e, h1, h2, h3⟩
  · exact absurd hn (h' x (List.mem_of_getElem? hx))
  · rw [e]
    rcases Nat.lt_trichotomy i k with q | q | q
    · exact absurd hn (h3 i x q hx)
    · rw [q]
    · exact absurd h2 (h k z q h1)
theorem placeQ_none {l : List Peer} {n : List UInt8} (h : ∀ x ∈ l, x.entry.name ≠ n) : placeQ l n = -1 := by
  rcases placeQ_spec l n with ⟨e, -⟩ | ⟨k, z, e, h1, h2, h3⟩
  · exact e
  · exact absurd h2 (h z (List.mem_of_getElem? h1))
theorem placeQ_neg {l : List Peer} {n : List UInt8} (h : placeQ l n < 0) : ∀ x ∈ l, x.entry.name ≠ n := by
  rcases placeQ_spec l n with ⟨-, e⟩ | ⟨k, z, e, h1, h2, h3⟩
  · exact e
  · rw [e] at h; omega
/-- The cells of an element, of a slice that is known. -/
theorem cells_ofPe {b off m cap k : Nat} {l : List Peer} {w : World} {x : Peer} (h : RowsAt w (.slice (some ⟨b, off, none⟩) m cap) 8 (l.map Peer.enc)) (hx : l[k]? = some x) :
    ∀ w', Below w.heap.size w w' → ∀ j u, x.enc[j]? = some u → w'.cell? ⟨b, off + k * 8 + j, none⟩ = some u := by
  obtain ⟨b', off', hbo, hc⟩ := row_ofPe h hx
  injection hbo with hbo
  injection hbo with h1 h2
  subst h1 h2
  exact hc
theorem Words.drop {l : List Peer} (h : Words l) (n : List UInt8) : Words (dropQ l n) := fun p hp => h p (List.mem_filter.1 hp).1
theorem Short.drop {l : List Peer} (h : Short l) (n : List UInt8) : Short (dropQ l n) := fun p hp => h p (List.mem_filter.1 hp).1
end Go.Proofs.Ytknccbdcfpncnaa
