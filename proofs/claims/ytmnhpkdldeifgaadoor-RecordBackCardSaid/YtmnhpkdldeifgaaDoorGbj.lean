/- Bytes that do not lie in a block. -/
import Derived.Test.YtmnhpkdldeifgaaDoorGd
namespace Go.Proofs.YtmnhpkdldeifgaaDoor
set_option maxRecDepth 100000
open Go.RowKit

/-- Bytes that do not lie in a block. -/
structure BytesOff (w : World) (v : Value) (l : List UInt8) (g : Nat) : Prop where
  bytes : BytesAt w v l
  off : l ≠ [] → v.ownBlock ≠ some g
theorem BytesOff.below {w w' : World} {v : Value} {l : List UInt8} {g : Nat} (h : BytesOff w v l g) (b : Below w.heap.size w w') : BytesOff w' v l g := ⟨h.bytes.below b, h.off⟩
theorem BytesOff.far {w w' : World} {v : Value} {l : List UInt8} {g g' : Nat} (h : BytesOff w v l g) (q : w.grownBy w' (some g')) (e : g' = g) : BytesOff w' v l g := by
  subst e
  exact ⟨h.bytes.keep fun hne k hk ho => q.block k hk fun e => h.off hne (by rw [ho]; exact e), h.off⟩
theorem bytes_off {w : World} {v : Value} {l : List UInt8} {g : Nat} {T : TypeId} {h : Head} (b : BytesAt w v l) (x : Whole w g T h.enc.toArray) : BytesOff w v l g := by
  refine ⟨b, fun hne e => ?_⟩
  cases l with
  | nil => exact hne rfl
  | cons c r =>
    obtain ⟨A, cap, rfl, -, -⟩ := id b
    obtain ⟨g', off, rfl, -, hc⟩ := b.spots (by simp)
    have e1 : some g' = some g := e
    injection e1 with e1
    subst e1
    have c0 := hc 0 c rfl
    have c1 := Whole.at_ x (off + 0)
    rw [c0] at c1
    match off, c1 with
    | 0, c1 => simp [Head.enc] at c1
    | 1, c1 => simp [Head.enc] at c1
    | 2, c1 => simp [Head.enc] at c1
    | 3, c1 => simp [Head.enc] at c1
    | n + 4, c1 => simp [Head.enc] at c1
end Go.Proofs.YtmnhpkdldeifgaaDoor
