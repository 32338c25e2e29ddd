/- label.span as a structure: its cells, opened, in a block. (Written by tools/mkrec.py.) Package label, as landed: span.has, Key. -/
import Derived.Test.YtpcdbpijgmninaaDoorGj
import Derived.Test.YtpcdbpijgmninaaDoorGg
import Derived.Test.YtpcdbpijgmninaaDoorGc
import Derived.Test.YtpcdbpijgmninaaDoorGh
import Derived.Deep.DeepCutAuto
import Derived.Deep.LoopGhost
namespace Go.Proofs.YtpcdbpijgmninaaDoor
set_option maxRecDepth 100000
open Go.RowKit Go.ChangeShapes Go.WideShapes Go.ChangeAt

structure Span where
  lo : Nat
  hi : Nat
deriving DecidableEq
namespace Span
def enc (x : Span) : List Value := [.int .u8 (x.lo : Int), .int .u8 (x.hi : Int)]
def ks : List CK := [.int .u8, .int .u8]
abbrev val (x : Span) : Value := .agg x.enc.toArray
theorem len (x : Span) : x.enc.length = 2 := rfl
theorem fits (x : Span) : Fits ks x.enc := ⟨⟨_, rfl⟩, ⟨_, rfl⟩, trivial⟩
theorem one (x : Span) : x.enc.toArray.all (·.oneCell') = true := by simp [enc, Value.oneCell']
theorem isRec : Rec Tryd.prog 107 ks := ⟨by kernel_rfl, by kernel_rfl, by kernel_rfl⟩
theorem size (x : Span) : (Tryd.prog.info? 107).map (·.size) = some x.enc.toArray.size := by
  have h : (Tryd.prog.info? 107).map (·.size) = some 2 := by kernel_rfl
  exact h
def zero : Span := ⟨0, 0⟩
theorem zero_is : (Tryd.prog.info? 107).map (·.zero) = some (some (.agg zero.enc.toArray)) := by kernel_rfl
/-- Its numbers are of their types. -/
structure Ok (x : Span) : Prop where
  lo_ok : x.lo < 256
  hi_ok : x.hi < 256
theorem of_fits {cs : List Value} (h : FitsW ks cs) : ∃ x : Span, cs = x.enc ∧ x.Ok := by
  obtain ⟨_, r0, rfl, ⟨z0, rfl, w0⟩, q0⟩ := FitsW.uncons h
  obtain ⟨_, r1, rfl, ⟨z1, rfl, w1⟩, q1⟩ := FitsW.uncons q0
  have hn := FitsW.nil q1
  subst hn
  have b0 := bounds_u8 w0
  obtain ⟨n0, rfl⟩ := Int.eq_ofNat_of_zero_le b0.1
  have b1 := bounds_u8 w1
  obtain ⟨n1, rfl⟩ := Int.eq_ofNat_of_zero_le b1.1
  exact ⟨⟨n0, n1⟩, rfl, ⟨(by show (n0 : Nat) < 256; have := b0.2; omega), (by show (n1 : Nat) < 256; have := b1.2; omega)⟩⟩
theorem opened {H : Type} {en : TypeId × Value → H} {W : World} {b base : Nat} {sp : Nat → Bool} {hd : Bool} {v : Value} {d : DataW H} {p : List MemPlace} (hv : Value.okWide Tryd.prog W .any base 107 v) (h : DataW.Trod en Tryd.prog W b sp hd 107 v d p) : ∃ x : Span, v = x.val ∧ x.Ok := by
  obtain ⟨cs, rfl, hf⟩ := open_rec isRec hv h
  obtain ⟨x, rfl, hx⟩ := of_fits hf
  exact ⟨x, rfl, hx⟩
theorem same (x y : Span) : eqCells x.enc y.enc = decide (x = y) := by
  rw [Bool.eq_iff_iff, decide_eq_true_eq]
  constructor
  · intro h
    simp only [enc, eqCells, cellEq, Bool.and_eq_true, beq_iff_eq, Bool.and_true] at h
    obtain ⟨h0, h1⟩ := h
    obtain ⟨a1, a2⟩ := x
    obtain ⟨b3, b4⟩ := y
    simp only at h0 h1
    have h0 := Int.ofNat.inj h0
    have h1 := Int.ofNat.inj h1
    subst h0 h1
    rfl
  · rintro rfl
    exact eqCells_refl x.fits
theorem eq_run (x y : Span) (w : World) : (binOp .eql 107 x.val y.val).run Tryd.prog w = .ok (.bool (decide (x = y))) w := by
  rw [← same]
  exact run_eq_rec isRec _ _ x.fits y.fits w
/-- In a block. -/
abbrev At (w : World) (g : Nat) (x : Span) : Prop := Whole w g 107 x.enc.toArray
theorem At.cells {w : World} {g : Nat} {x : Span} (h : At w g x) : w.cell? ⟨g, 0, none⟩ = some (.int .u8 (x.lo : Int)) ∧ w.cell? ⟨g, 1, none⟩ = some (.int .u8 (x.hi : Int)) :=
  ⟨h.at_ 0, h.at_ 1⟩
theorem At.at_lo {w : World} {g : Nat} {x : Span} (h : At w g x) : w.cell? ⟨g, 0, none⟩ = some (.int .u8 (x.lo : Int)) := h.at_ 0
theorem At.at_hi {w : World} {g : Nat} {x : Span} (h : At w g x) : w.cell? ⟨g, 1, none⟩ = some (.int .u8 (x.hi : Int)) := h.at_ 1
theorem At.set_lo {w : World} {g : Nat} {x : Span} (h : At w g x) (v : Nat) : At (w.setCell ⟨g, 0, none⟩ (.int .u8 (v : Int))) g { x with lo := v } := h.stored 0 _
theorem At.set_hi {w : World} {g : Nat} {x : Span} (h : At w g x) (v : Nat) : At (w.setCell ⟨g, 1, none⟩ (.int .u8 (v : Int))) g { x with hi := v } := h.stored 1 _
end Span
end Go.Proofs.YtpcdbpijgmninaaDoor

namespace Go.Proofs.YtpcdbpijgmninaaDoor
set_option maxRecDepth 100000
open Go.RowKit

/-- Does a byte lie in a span? -/
def Span.hasB (s : Span) (c : UInt8) : Bool := decide (s.lo ≤ c.toNat) && decide (c.toNat ≤ s.hi)

set_option maxHeartbeats 1000000 in
theorem has_any (s : Span) (c : UInt8) (w : World) :
    Calls Tryd.prog 79 #[s.val, .int .u8 (c.toNat : Int)] w fun e w' => e = .returned (.bool (s.hasB c)) ∧ Below w.heap.size w w' := by
  obtain ⟨b1, h1⟩ : ∃ b, b = decide (s.lo ≤ c.toNat) := ⟨_, rfl⟩
  obtain ⟨b2, h2⟩ : ∃ b, b = decide (c.toNat ≤ s.hi) := ⟨_, rfl⟩
  have d1 : decide ((s.lo : Int) ≤ (c.toNat : Int)) = b1 := by rw [h1]; congr 1; apply propext; omega
  have d2 : decide ((c.toNat : Int) ≤ (s.hi : Int)) = b2 := by rw [h2]; congr 1; apply propext; omega
  have HR : Hid (s.hasB c = (b1 && b2)) := Lib.hid (by rw [Span.hasB, h1, h2])
  have d1n := h1.symm
  have d2n := h2.symm
  clear h1 h2
  go_enter Tryd.func79, Tryd.ntmps79
  go_wp2_with (refine wpList_box_row rfl 107 _ rfl s.enc.toArray (by with_unfolding_all exact rfl) ?_)
  intro w1 b1 x1 z1
  obtain ⟨gS, hgS⟩ : ∃ g, g = w.heap.size := ⟨_, rfl⟩
  have M_S := Lib.hid (show w.heap.size ≤ gS from by rw [hgS]; exact Nat.le_refl _)
  have B1 := Lib.hid b1
  rw [← hgS] at x1 ⊢
  have S1 : Hid (Span.At w1 gS s) := Lib.hid x1
  clear b1 x1 z1 hgS 
  have c1 := Span.At.at_lo S1.out
  have c2 := Span.At.at_hi S1.out
  cases b1
  all_goals
    go_wp2
    go_ret
    exact ⟨by rw [HR.out]; rfl, B1.out⟩

def seenS : Span := ⟨33, 126⟩
theorem seen_is (c : UInt8) : seenS.hasB c = keyC c := by
  rw [Span.hasB, keyC]
  congr 1
  all_goals
    congr 1
    apply propext
    simp only [seenS]
    omega

end Go.Proofs.YtpcdbpijgmninaaDoor
