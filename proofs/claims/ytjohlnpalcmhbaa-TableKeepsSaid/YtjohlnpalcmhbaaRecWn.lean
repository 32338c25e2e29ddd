/- api.Window as a structure: its cells, opened, in a block. (Written by tools/mkrec.py.) -/
import Derived.Test.YtjohlnpalcmhbaaRwS
namespace Go.Proofs.Ytjohlnpalcmhbaa
set_option maxRecDepth 100000
open Go.RowKit Go.ChangeShapes Go.WideShapes Go.ChangeAt

structure Win where
  top : Int
  low : Nat
  high : Nat
deriving DecidableEq
namespace Win
def enc (x : Win) : List Value := [.int .i64 x.top, .int .u64 (x.low : Int), .int .u64 (x.high : Int)]
def ks : List CK := [.int .i64, .int .u64, .int .u64]
abbrev val (x : Win) : Value := .agg x.enc.toArray
theorem len (x : Win) : x.enc.length = 3 := rfl
theorem fits (x : Win) : Fits ks x.enc := ⟨⟨_, rfl⟩, ⟨_, rfl⟩, ⟨_, rfl⟩, trivial⟩
theorem one (x : Win) : x.enc.toArray.all (·.oneCell') = true := by simp [enc, Value.oneCell']
theorem isRec : Rec Try.prog 34 ks := ⟨by kernel_rfl, by kernel_rfl, by kernel_rfl⟩
theorem size (x : Win) : (Try.prog.info? 34).map (·.size) = some x.enc.toArray.size := by
  have h : (Try.prog.info? 34).map (·.size) = some 3 := by kernel_rfl
  exact h
def zero : Win := ⟨0, 0, 0⟩
theorem zero_is : (Try.prog.info? 34).map (·.zero) = some (some (.agg zero.enc.toArray)) := by kernel_rfl
/-- Its numbers are of their types. -/
structure Ok (x : Win) : Prop where
  top_ok : -9223372036854775808 ≤ x.top ∧ x.top ≤ 9223372036854775807
  low_ok : x.low < 18446744073709551616
  high_ok : x.high < 18446744073709551616
theorem of_fits {cs : List Value} (h : FitsW ks cs) : ∃ x : Win, cs = x.enc ∧ x.Ok := by
  obtain ⟨_, r0, rfl, ⟨z0, rfl, w0⟩, q0⟩ := FitsW.uncons h
  obtain ⟨_, r1, rfl, ⟨z1, rfl, w1⟩, q1⟩ := FitsW.uncons q0
  obtain ⟨_, r2, rfl, ⟨z2, rfl, w2⟩, q2⟩ := FitsW.uncons q1
  have hn := FitsW.nil q2
  subst hn
  have b0 := bounds_i64 w0
  have b1 := bounds_u64 w1
  obtain ⟨n1, rfl⟩ := Int.eq_ofNat_of_zero_le b1.1
  have b2 := bounds_u64 w2
  obtain ⟨n2, rfl⟩ := Int.eq_ofNat_of_zero_le b2.1
  exact ⟨⟨z0, n1, n2⟩, rfl, ⟨b0, (by show (n1 : Nat) < 18446744073709551616; have := b1.2; omega), (by show (n2 : Nat) < 18446744073709551616; have := b2.2; omega)⟩⟩
theorem opened {H : Type} {en : TypeId × Value → H} {W : World} {b base : Nat} {sp : Nat → Bool} {hd : Bool} {v : Value} {d : DataW H} {p : List MemPlace} (hv : Value.okWide Try.prog W .any base 34 v) (h : DataW.Trod en Try.prog W b sp hd 34 v d p) : ∃ x : Win, v = x.val ∧ x.Ok := by
  obtain ⟨cs, rfl, hf⟩ := open_rec isRec hv h
  obtain ⟨x, rfl, hx⟩ := of_fits hf
  exact ⟨x, rfl, hx⟩
theorem same (x y : Win) : eqCells x.enc y.enc = decide (x = y) := by
  rw [Bool.eq_iff_iff, decide_eq_true_eq]
  constructor
  · intro h
    simp only [enc, eqCells, cellEq, Bool.and_eq_true, beq_iff_eq, Bool.and_true] at h
    obtain ⟨h0, h1, h2⟩ := h
    obtain ⟨a13, a14, a15⟩ := x
    obtain ⟨b16, b17, b18⟩ := y
    simp only at h0 h1 h2
    have h1 := Int.ofNat.inj h1
    have h2 := Int.ofNat.inj h2
    subst h0 h1 h2
    rfl
  · rintro rfl
    exact eqCells_refl x.fits
theorem eq_run (x y : Win) (w : World) : (binOp .eql 34 x.val y.val).run Try.prog w = .ok (.bool (decide (x = y))) w := by
  rw [← same]
  exact run_eq_rec isRec _ _ x.fits y.fits w
/-- In a block. -/
abbrev At (w : World) (g : Nat) (x : Win) : Prop := Whole w g 34 x.enc.toArray
theorem At.cells {w : World} {g : Nat} {x : Win} (h : At w g x) : w.cell? ⟨g, 0, none⟩ = some (.int .i64 x.top) ∧ w.cell? ⟨g, 1, none⟩ = some (.int .u64 (x.low : Int)) ∧ w.cell? ⟨g, 2, none⟩ = some (.int .u64 (x.high : Int)) :=
  ⟨h.at_ 0, h.at_ 1, h.at_ 2⟩
theorem At.at_top {w : World} {g : Nat} {x : Win} (h : At w g x) : w.cell? ⟨g, 0, none⟩ = some (.int .i64 x.top) := h.at_ 0
theorem At.at_low {w : World} {g : Nat} {x : Win} (h : At w g x) : w.cell? ⟨g, 1, none⟩ = some (.int .u64 (x.low : Int)) := h.at_ 1
theorem At.at_high {w : World} {g : Nat} {x : Win} (h : At w g x) : w.cell? ⟨g, 2, none⟩ = some (.int .u64 (x.high : Int)) := h.at_ 2
theorem At.set_top {w : World} {g : Nat} {x : Win} (h : At w g x) (v : Int) : At (w.setCell ⟨g, 0, none⟩ (.int .i64 v)) g { x with top := v } := h.stored 0 _
theorem At.set_low {w : World} {g : Nat} {x : Win} (h : At w g x) (v : Nat) : At (w.setCell ⟨g, 1, none⟩ (.int .u64 (v : Int))) g { x with low := v } := h.stored 1 _
theorem At.set_high {w : World} {g : Nat} {x : Win} (h : At w g x) (v : Nat) : At (w.setCell ⟨g, 2, none⟩ (.int .u64 (v : Int))) g { x with high := v } := h.stored 2 _
end Win
end Go.Proofs.Ytjohlnpalcmhbaa
