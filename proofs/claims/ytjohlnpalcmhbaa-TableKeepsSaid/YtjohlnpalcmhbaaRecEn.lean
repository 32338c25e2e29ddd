/- api.Entry as a structure: its cells, opened, in a block. (Written by tools/mkrec.py.) -/
import Derived.Test.YtjohlnpalcmhbaaRwS
namespace Go.Proofs.Ytjohlnpalcmhbaa
set_option maxRecDepth 100000
open Go.RowKit Go.ChangeShapes Go.WideShapes Go.ChangeAt

structure Ent where
  name : List UInt8
  id : Nat
  since : Int
  till : Int
  index : Int
  tag : List UInt8
deriving DecidableEq
namespace Ent
def enc (x : Ent) : List Value := [.string ⟨x.name.toArray⟩, .int .u64 (x.id : Int), .int .i64 x.since, .int .i64 x.till, .int .i64 x.index, .string ⟨x.tag.toArray⟩]
def ks : List CK := [.str, .int .u64, .int .i64, .int .i64, .int .i64, .str]
abbrev val (x : Ent) : Value := .agg x.enc.toArray
theorem len (x : Ent) : x.enc.length = 6 := rfl
theorem fits (x : Ent) : Fits ks x.enc := ⟨⟨_, rfl⟩, ⟨_, rfl⟩, ⟨_, rfl⟩, ⟨_, rfl⟩, ⟨_, rfl⟩, ⟨_, rfl⟩, trivial⟩
theorem one (x : Ent) : x.enc.toArray.all (·.oneCell') = true := by simp [enc, Value.oneCell']
theorem isRec : Rec Try.prog 25 ks := ⟨by kernel_rfl, by kernel_rfl, by kernel_rfl⟩
theorem size (x : Ent) : (Try.prog.info? 25).map (·.size) = some x.enc.toArray.size := by
  have h : (Try.prog.info? 25).map (·.size) = some 6 := by kernel_rfl
  exact h
def zero : Ent := ⟨[], 0, 0, 0, 0, []⟩
theorem zero_is : (Try.prog.info? 25).map (·.zero) = some (some (.agg zero.enc.toArray)) := by kernel_rfl
/-- Its numbers are of their types. -/
structure Ok (x : Ent) : Prop where
  id_ok : x.id < 18446744073709551616
  since_ok : -9223372036854775808 ≤ x.since ∧ x.since ≤ 9223372036854775807
  till_ok : -9223372036854775808 ≤ x.till ∧ x.till ≤ 9223372036854775807
  index_ok : -9223372036854775808 ≤ x.index ∧ x.index ≤ 9223372036854775807
theorem of_fits {cs : List Value} (h : FitsW ks cs) : ∃ x : Ent, cs = x.enc ∧ x.Ok := by
  obtain ⟨_, r0, rfl, ⟨z0, rfl⟩, q0⟩ := FitsW.uncons h
  obtain ⟨_, r1, rfl, ⟨z1, rfl, w1⟩, q1⟩ := FitsW.uncons q0
  obtain ⟨_, r2, rfl, ⟨z2, rfl, w2⟩, q2⟩ := FitsW.uncons q1
  obtain ⟨_, r3, rfl, ⟨z3, rfl, w3⟩, q3⟩ := FitsW.uncons q2
  obtain ⟨_, r4, rfl, ⟨z4, rfl, w4⟩, q4⟩ := FitsW.uncons q3
  obtain ⟨_, r5, rfl, ⟨z5, rfl⟩, q5⟩ := FitsW.uncons q4
  have hn := FitsW.nil q5
  subst hn
  have b1 := bounds_u64 w1
  obtain ⟨n1, rfl⟩ := Int.eq_ofNat_of_zero_le b1.1
  have b2 := bounds_i64 w2
  have b3 := bounds_i64 w3
  have b4 := bounds_i64 w4
  exact ⟨⟨z0, n1, z2, z3, z4, z5⟩, rfl, ⟨(by show (n1 : Nat) < 18446744073709551616; have := b1.2; omega), b2, b3, b4⟩⟩
theorem opened {H : Type} {en : TypeId × Value → H} {W : World} {b base : Nat} {sp : Nat → Bool} {hd : Bool} {v : Value} {d : DataW H} {p : List MemPlace} (hv : Value.okWide Try.prog W .any base 25 v) (h : DataW.Trod en Try.prog W b sp hd 25 v d p) : ∃ x : Ent, v = x.val ∧ x.Ok := by
  obtain ⟨cs, rfl, hf⟩ := open_rec isRec hv h
  obtain ⟨x, rfl, hx⟩ := of_fits hf
  exact ⟨x, rfl, hx⟩
theorem same (x y : Ent) : eqCells x.enc y.enc = decide (x = y) := by
  rw [Bool.eq_iff_iff, decide_eq_true_eq]
  constructor
  · intro h
    simp only [enc, eqCells, cellEq, Bool.and_eq_true, beq_iff_eq, Bool.and_true, ba_list] at h
    obtain ⟨h0, h1, h2, h3, h4, h5⟩ := h
    obtain ⟨a1, a2, a3, a4, a5, a6⟩ := x
    obtain ⟨b7, b8, b9, b10, b11, b12⟩ := y
    simp only at h0 h1 h2 h3 h4 h5
    have h1 := Int.ofNat.inj h1
    subst h0 h1 h2 h3 h4 h5
    rfl
  · rintro rfl
    exact eqCells_refl x.fits
theorem eq_run (x y : Ent) (w : World) : (binOp .eql 25 x.val y.val).run Try.prog w = .ok (.bool (decide (x = y))) w := by
  rw [← same]
  exact run_eq_rec isRec _ _ x.fits y.fits w
/-- In a block. -/
abbrev At (w : World) (g : Nat) (x : Ent) : Prop := Whole w g 25 x.enc.toArray
theorem At.cells {w : World} {g : Nat} {x : Ent} (h : At w g x) : w.cell? ⟨g, 0, none⟩ = some (.string ⟨x.name.toArray⟩) ∧ w.cell? ⟨g, 1, none⟩ = some (.int .u64 (x.id : Int)) ∧ w.cell? ⟨g, 2, none⟩ = some (.int .i64 x.since) ∧ w.cell? ⟨g, 3, none⟩ = some (.int .i64 x.till) ∧ w.cell? ⟨g, 4, none⟩ = some (.int .i64 x.index) ∧ w.cell? ⟨g, 5, none⟩ = some (.string ⟨x.tag.toArray⟩) :=
  ⟨h.at_ 0, h.at_ 1, h.at_ 2, h.at_ 3, h.at_ 4, h.at_ 5⟩
theorem At.at_name {w : World} {g : Nat} {x : Ent} (h : At w g x) : w.cell? ⟨g, 0, none⟩ = some (.string ⟨x.name.toArray⟩) := h.at_ 0
theorem At.at_id {w : World} {g : Nat} {x : Ent} (h : At w g x) : w.cell? ⟨g, 1, none⟩ = some (.int .u64 (x.id : Int)) := h.at_ 1
theorem At.at_since {w : World} {g : Nat} {x : Ent} (h : At w g x) : w.cell? ⟨g, 2, none⟩ = some (.int .i64 x.since) := h.at_ 2
theorem At.at_till {w : World} {g : Nat} {x : Ent} (h : At w g x) : w.cell? ⟨g, 3, none⟩ = some (.int .i64 x.till) := h.at_ 3
theorem At.at_index {w : World} {g : Nat} {x : Ent} (h : At w g x) : w.cell? ⟨g, 4, none⟩ = some (.int .i64 x.index) := h.at_ 4
theorem At.at_tag {w : World} {g : Nat} {x : Ent} (h : At w g x) : w.cell? ⟨g, 5, none⟩ = some (.string ⟨x.tag.toArray⟩) := h.at_ 5
theorem At.set_name {w : World} {g : Nat} {x : Ent} (h : At w g x) (v : List UInt8) : At (w.setCell ⟨g, 0, none⟩ (.string ⟨v.toArray⟩)) g { x with name := v } := h.stored 0 _
theorem At.set_id {w : World} {g : Nat} {x : Ent} (h : At w g x) (v : Nat) : At (w.setCell ⟨g, 1, none⟩ (.int .u64 (v : Int))) g { x with id := v } := h.stored 1 _
theorem At.set_since {w : World} {g : Nat} {x : Ent} (h : At w g x) (v : Int) : At (w.setCell ⟨g, 2, none⟩ (.int .i64 v)) g { x with since := v } := h.stored 2 _
theorem At.set_till {w : World} {g : Nat} {x : Ent} (h : At w g x) (v : Int) : At (w.setCell ⟨g, 3, none⟩ (.int .i64 v)) g { x with till := v } := h.stored 3 _
theorem At.set_index {w : World} {g : Nat} {x : Ent} (h : At w g x) (v : Int) : At (w.setCell ⟨g, 4, none⟩ (.int .i64 v)) g { x with index := v } := h.stored 4 _
theorem At.set_tag {w : World} {g : Nat} {x : Ent} (h : At w g x) (v : List UInt8) : At (w.setCell ⟨g, 5, none⟩ (.string ⟨v.toArray⟩)) g { x with tag := v } := h.stored 5 _
end Ent
end Go.Proofs.Ytjohlnpalcmhbaa
