/- Package msg: which fields a kind has, one by one (each), for whatever function is handed in; known, within. label.span as a structure: its cells, opened, in a block. (Written by tools/mkrec.py.) Package label, as landed: span.has, Key. What the document's Key of layer 10 answers. -/
import Derived.Test.YtnjeopgcpffkcaaGm
import Derived.Test.YtnjeopgcpffkcaaGi
import Derived.Test.YtnjeopgcpffkcaaGf
import Derived.Test.YtnjeopgcpffkcaaGb
import Derived.Test.YtnjeopgcpffkcaaGg
import Derived.Deep.DeepCutAuto
import Derived.Deep.LoopGhost
namespace Go.Proofs.Ytnjeopgcpffkcaa
set_option maxRecDepth 100000
open Go.RowKit

set_option maxHeartbeats 1000000 in
theorem msWithin_any (n a b : Int) (w : World) : Calls Try.prog 33 #[.int .i64 n, .int .i64 a, .int .i64 b] w fun e w' => e = .returned (.bool (decide (a ≤ n) && decide (n ≤ b))) ∧ w = w' := by
  by_cases h : a ≤ n
  · obtain ⟨q, hq⟩ : ∃ q, q = decide (n ≤ b) := ⟨_, rfl⟩
    have d1 : decide (a ≤ n) = true := by simpa using h
    have d2 := hq.symm
    rw [d1, ← hq, Bool.true_and]
    clear hq
    go_enter Try.func33, Try.ntmps33
    go_wp2
    go_ret
    exact ⟨rfl, rfl⟩
  · have d1 : decide (a ≤ n) = false := by simpa using h
    rw [d1, Bool.false_and]
    go_enter Try.func33, Try.ntmps33
    go_wp2
    go_ret
    exact ⟨rfl, rfl⟩
set_option maxHeartbeats 1000000 in
theorem known_any (k : Int) (w : World) : Calls Try.prog 32 #[.int .i64 k] w fun e w' => e = .returned (.bool (knownK k)) ∧ w = w' := by
  have C := Lib.hid (msWithin_any k 1 16 w)
  have HQ : Hid (knownK k = (decide (1 ≤ k) && decide (k ≤ 16))) := Lib.hid rfl
  rw [← HQ.out] at C
  go_enter Try.func32, Try.ntmps32
  go_wp2_with fail
  refine C.out.mono ?_
  rintro e w1 ⟨rfl, rfl⟩
  go_wp2
  go_ret
  exact ⟨rfl, rfl⟩

/-- One of a kind's fields behind those ahead of it. -/
def Step (k : Int) (fs : List Nat) (f : Nat) : Prop := fs ++ [f] <+: fldK k
set_option maxHeartbeats 2000000 in
theorem each_any (F : FuncId) (eg : ∀ args w, (callFunc F args).run Try.prog w = .ok (.enter F args) w) (caps : Array Value) (k : Int) (I : List Nat → World → Prop)
    (hC : ∀ fs f w, Step k fs f → I fs w → Calls Try.prog F (#[.int .i64 (f : Int)] ++ caps) w fun e w' => e = .returned (.tuple #[]) ∧ I (fs ++ [f]) w') (w : World) (h : I [] w) :
    Calls Try.prog 26 #[.int .i64 k, .func (.func F) #[] caps] w fun e w' => e = .returned (.tuple #[]) ∧ I (fldK k) w' := by
  have H0 := Lib.hid h
  have HC := Lib.hid hC
  clear h hC
  rcases kinds k with rfl | rfl | rfl | rfl | rfl | rfl | rfl | rfl | rfl | rfl | rfl | rfl | rfl | rfl | rfl | rfl | hk
  · go_enter Try.func26, Try.ntmps26
    go_wp2
    go_end0
    exact ⟨rfl, H0.out⟩
  · go_enter Try.func26, Try.ntmps26
    go_wp2
    go_end0
    exact ⟨rfl, H0.out⟩
  · go_enter Try.func26, Try.ntmps26
    go_wp2
    go_end0
    exact ⟨rfl, H0.out⟩
  · go_enter Try.func26, Try.ntmps26
    go_wp2_with fail
    refine (HC.out [] 1 w (show [1] <+: fldK 4 from by decide) H0.out).mono ?_
    rintro e w1 ⟨rfl, h1⟩
    have H1 := Lib.hid h1
    clear h1
    go_wp2_with fail
    refine (HC.out [1] 7 w1 (show [1, 7] <+: fldK 4 from by decide) H1.out).mono ?_
    rintro e w2 ⟨rfl, h2⟩
    have H2 := Lib.hid h2
    clear h2
    go_wp2
    go_end0
    exact ⟨rfl, H2.out⟩
  · go_enter Try.func26, Try.ntmps26
    go_wp2
    go_end0
    exact ⟨rfl, H0.out⟩
  · go_enter Try.func26, Try.ntmps26
    go_wp2_with fail
    refine (HC.out [] 3 w (show [3] <+: fldK 6 from by decide) H0.out).mono ?_
    rintro e w1 ⟨rfl, h1⟩
    have H1 := Lib.hid h1
    clear h1
    go_wp2
    go_end0
    exact ⟨rfl, H1.out⟩
  · go_enter Try.func26, Try.ntmps26
    go_wp2_with fail
    refine (HC.out [] 7 w (show [7] <+: fldK 7 from by decide) H0.out).mono ?_
    rintro e w1 ⟨rfl, h1⟩
    have H1 := Lib.hid h1
    clear h1
    go_wp2
    go_end0
    exact ⟨rfl, H1.out⟩
  · go_enter Try.func26, Try.ntmps26
    go_wp2_with fail
    refine (HC.out [] 2 w (show [2] <+: fldK 8 from by decide) H0.out).mono ?_
    rintro e w1 ⟨rfl, h1⟩
    have H1 := Lib.hid h1
    clear h1
    go_wp2_with fail
    refine (HC.out [2] 5 w1 (show [2, 5] <+: fldK 8 from by decide) H1.out).mono ?_
    rintro e w2 ⟨rfl, h2⟩
    have H2 := Lib.hid h2
    clear h2
    go_wp2_with fail
    refine (HC.out [2, 5] 6 w2 (show [2, 5, 6] <+: fldK 8 from by decide) H2.out).mono ?_
    rintro e w3 ⟨rfl, h3⟩
    have H3 := Lib.hid h3
    clear h3
    go_wp2
    go_end0
    exact ⟨rfl, H3.out⟩
  · go_enter Try.func26, Try.ntmps26
    go_wp2_with fail
    refine (HC.out [] 0 w (show [0] <+: fldK 9 from by decide) H0.out).mono ?_
    rintro e w1 ⟨rfl, h1⟩
    have H1 := Lib.hid h1
    clear h1
    go_wp2_with fail
    refine (HC.out [0] 4 w1 (show [0, 4] <+: fldK 9 from by decide) H1.out).mono ?_
    rintro e w2 ⟨rfl, h2⟩
    have H2 := Lib.hid h2
    clear h2
    go_wp2
    go_end0
    exact ⟨rfl, H2.out⟩
  · go_enter Try.func26, Try.ntmps26
    go_wp2_with fail
    refine (HC.out [] 5 w (show [5] <+: fldK 10 from by decide) H0.out).mono ?_
    rintro e w1 ⟨rfl, h1⟩
    have H1 := Lib.hid h1
    clear h1
    go_wp2
    go_end0
    exact ⟨rfl, H1.out⟩
  · go_enter Try.func26, Try.ntmps26
    go_wp2_with fail
    refine (HC.out [] 0 w (show [0] <+: fldK 11 from by decide) H0.out).mono ?_
    rintro e w1 ⟨rfl, h1⟩
    have H1 := Lib.hid h1
    clear h1
    go_wp2_with fail
    refine (HC.out [0] 1 w1 (show [0, 1] <+: fldK 11 from by decide) H1.out).mono ?_
    rintro e w2 ⟨rfl, h2⟩
    have H2 := Lib.hid h2
    clear h2
    go_wp2_with fail
    refine (HC.out [0, 1] 2 w2 (show [0, 1, 2] <+: fldK 11 from by decide) H2.out).mono ?_
    rintro e w3 ⟨rfl, h3⟩
    have H3 := Lib.hid h3
    clear h3
    go_wp2_with fail
    refine (HC.out [0, 1, 2] 4 w3 (show [0, 1, 2, 4] <+: fldK 11 from by decide) H3.out).mono ?_
    rintro e w4 ⟨rfl, h4⟩
    have H4 := Lib.hid h4
    clear h4
    go_wp2_with fail
    refine (HC.out [0, 1, 2, 4] 6 w4 (show [0, 1, 2, 4, 6] <+: fldK 11 from by decide) H4.out).mono ?_
    rintro e w5 ⟨rfl, h5⟩
    have H5 := Lib.hid h5
    clear h5
    go_wp2
    go_end0
    exact ⟨rfl, H5.out⟩
  · go_enter Try.func26, Try.ntmps26
    go_wp2_with fail
    refine (HC.out [] 8 w (show [8] <+: fldK 12 from by decide) H0.out).mono ?_
    rintro e w1 ⟨rfl, h1⟩
    have H1 := Lib.hid h1
    clear h1
    go_wp2
    go_end0
    exact ⟨rfl, H1.out⟩
  · go_enter Try.func26, Try.ntmps26
    go_wp2_with fail
    refine (HC.out [] 0 w (show [0] <+: fldK 13 from by decide) H0.out).mono ?_
    rintro e w1 ⟨rfl, h1⟩
    have H1 := Lib.hid h1
    clear h1
    go_wp2
    go_end0
    exact ⟨rfl, H1.out⟩
  · go_enter Try.func26, Try.ntmps26
    go_wp2_with fail
    refine (HC.out [] 3 w (show [3] <+: fldK 14 from by decide) H0.out).mono ?_
    rintro e w1 ⟨rfl, h1⟩
    have H1 := Lib.hid h1
    clear h1
    go_wp2
    go_end0
    exact ⟨rfl, H1.out⟩
  · go_enter Try.func26, Try.ntmps26
    go_wp2_with fail
    refine (HC.out [] 0 w (show [0] <+: fldK 15 from by decide) H0.out).mono ?_
    rintro e w1 ⟨rfl, h1⟩
    have H1 := Lib.hid h1
    clear h1
    go_wp2_with fail
    refine (HC.out [0] 8 w1 (show [0, 8] <+: fldK 15 from by decide) H1.out).mono ?_
    rintro e w2 ⟨rfl, h2⟩
    have H2 := Lib.hid h2
    clear h2
    go_wp2
    go_end0
    exact ⟨rfl, H2.out⟩
  · go_enter Try.func26, Try.ntmps26
    go_wp2
    go_end0
    exact ⟨rfl, H0.out⟩
  · have HF := Lib.hid (fld_out hk)
    rw [HF.out]
    have d4 : ¬ k = 4 := by omega
    have d6 : ¬ k = 6 := by omega
    have d7 : ¬ k = 7 := by omega
    have d8 : ¬ k = 8 := by omega
    have d9 : ¬ k = 9 := by omega
    have d10 : ¬ k = 10 := by omega
    have d11 : ¬ k = 11 := by omega
    have d12 : ¬ k = 12 := by omega
    have d13 : ¬ k = 13 := by omega
    have d14 : ¬ k = 14 := by omega
    have d15 : ¬ k = 15 := by omega
    clear hk
    go_enter Try.func26, Try.ntmps26
    go_wp2
    go_end0
    exact ⟨rfl, H0.out⟩
end Go.Proofs.Ytnjeopgcpffkcaa

namespace Go.Proofs.Ytnjeopgcpffkcaa
set_option maxRecDepth 100000
open Go.RowKit Go.ChangeShapes Go.WideShapes Go.ChangeAt

structure Span where
  lo : Nat
  hi : Nat
deriving DecidableEq
namespace Span
def enc (x : Span) : List Value := [.int .u8 (x.lo : Int), .int .u8 (x.hi : Int)]
def ks : List CK := [.int .u8, .int .u8]
abbrev val (x : Span) : Value := .agg x.enc.toArray
theorem len (x : Span) : x.enc.length = 2 := rfl
theorem fits (x : Span) : Fits ks x.enc := ⟨⟨_, rfl⟩, ⟨_, rfl⟩, trivial⟩
theorem one (x : Span) : x.enc.toArray.all (·.oneCell') = true := by simp [enc, Value.oneCell']
theorem isRec : Rec Try.prog 94 ks := ⟨by kernel_rfl, by kernel_rfl, by kernel_rfl⟩
theorem size (x : Span) : (Try.prog.info? 94).map (·.size) = some x.enc.toArray.size := by
  have h : (Try.prog.info? 94).map (·.size) = some 2 := by kernel_rfl
  exact h
def zero : Span := ⟨0, 0⟩
theorem zero_is : (Try.prog.info? 94).map (·.zero) = some (some (.agg zero.enc.toArray)) := by kernel_rfl
/-- Its numbers are of their types. -/
structure Ok (x : Span) : Prop where
  lo_ok : x.lo < 256
  hi_ok : x.hi < 256
theorem of_fits {cs : List Value} (h : FitsW ks cs) : ∃ x : Span, cs = x.enc ∧ x.Ok := by
  obtain ⟨_, r0, rfl, ⟨z0, rfl, w0⟩, q0⟩ := FitsW.uncons h
  obtain ⟨_, r1, rfl, ⟨z1, rfl, w1⟩, q1⟩ := FitsW.uncons q0
  have hn := FitsW.nil q1
  subst hn
  have b0 := bounds_u8 w0
  obtain ⟨n0, rfl⟩ := Int.eq_ofNat_of_zero_le b0.1
  have b1 := bounds_u8 w1
  obtain ⟨n1, rfl⟩ := Int.eq_ofNat_of_zero_le b1.1
  exact ⟨⟨n0, n1⟩, rfl, ⟨(by show (n0 : Nat) < 256; have := b0.2; omega), (by show (n1 : Nat) < 256; have := b1.2; omega)⟩⟩
theorem opened {H : Type} {en : TypeId × Value → H} {W : World} {b base : Nat} {sp : Nat → Bool} {hd : Bool} {v : Value} {d : DataW H} {p : List MemPlace} (hv : Value.okWide Try.prog W .any base 94 v) (h : DataW.Trod en Try.prog W b sp hd 94 v d p) : ∃ x : Span, v = x.val ∧ x.Ok := by
  obtain ⟨cs, rfl, hf⟩ := open_rec isRec hv h
  obtain ⟨x, rfl, hx⟩ := of_fits hf
  exact ⟨x, rfl, hx⟩
theorem same (x y : Span) : eqCells x.enc y.enc = decide (x = y) := by
  rw [Bool.eq_iff_iff, decide_eq_true_eq]
  constructor
  · intro h
    simp only [enc, eqCells, cellEq, Bool.and_eq_true, beq_iff_eq, Bool.and_true] at h
    obtain ⟨h0, h1⟩ := h
    obtain ⟨a1, a2⟩ := x
    obtain ⟨b3, b4⟩ := y
    simp only at h0 h1
    have h0 := Int.ofNat.inj h0
    have h1 := Int.ofNat.inj h1
    subst h0 h1
    rfl
  · rintro rfl
    exact eqCells_refl x.fits
theorem eq_run (x y : Span) (w : World) : (binOp .eql 94 x.val y.val).run Try.prog w = .ok (.bool (decide (x = y))) w := by
  rw [← same]
  exact run_eq_rec isRec _ _ x.fits y.fits w
/-- In a block. -/
abbrev At (w : World) (g : Nat) (x : Span) : Prop := Whole w g 94 x.enc.toArray
theorem At.cells {w : World} {g : Nat} {x : Span} (h : At w g x) : w.cell? ⟨g, 0, none⟩ = some (.int .u8 (x.lo : Int)) ∧ w.cell? ⟨g, 1, none⟩ = some (.int .u8 (x.hi : Int)) :=
  ⟨h.at_ 0, h.at_ 1⟩
theorem At.at_lo {w : World} {g : Nat} {x : Span} (h : At w g x) : w.cell? ⟨g, 0, none⟩ = some (.int .u8 (x.lo : Int)) := h.at_ 0
theorem At.at_hi {w : World} {g : Nat} {x : Span} (h : At w g x) : w.cell? ⟨g, 1, none⟩ = some (.int .u8 (x.hi : Int)) := h.at_ 1
theorem At.set_lo {w : World} {g : Nat} {x : Span} (h : At w g x) (v : Nat) : At (w.setCell ⟨g, 0, none⟩ (.int .u8 (v : Int))) g { x with lo := v } := h.stored 0 _
theorem At.set_hi {w : World} {g : Nat} {x : Span} (h : At w g x) (v : Nat) : At (w.setCell ⟨g, 1, none⟩ (.int .u8 (v : Int))) g { x with hi := v } := h.stored 1 _
end Span
end Go.Proofs.Ytnjeopgcpffkcaa

namespace Go.Proofs.Ytnjeopgcpffkcaa
set_option maxRecDepth 100000
open Go.RowKit

/-- Does a byte lie in a span? -/
def Span.hasB (s : Span) (c : UInt8) : Bool := decide (s.lo ≤ c.toNat) && decide (c.toNat ≤ s.hi)

set_option maxHeartbeats 1000000 in
theorem has_any (s : Span) (c : UInt8) (w : World) :
    Calls Try.prog 68 #[s.val, .int .u8 (c.toNat : Int)] w fun e w' => e = .returned (.bool (s.hasB c)) ∧ Below w.heap.size w w' := by
  obtain ⟨b1, h1⟩ : ∃ b, b = decide (s.lo ≤ c.toNat) := ⟨_, rfl⟩
  obtain ⟨b2, h2⟩ : ∃ b, b = decide (c.toNat ≤ s.hi) := ⟨_, rfl⟩
  have d1 : decide ((s.lo : Int) ≤ (c.toNat : Int)) = b1 := by rw [h1]; congr 1; apply propext; omega
  have d2 : decide ((c.toNat : Int) ≤ (s.hi : Int)) = b2 := by rw [h2]; congr 1; apply propext; omega
  have HR : Hid (s.hasB c = (b1 && b2)) := Lib.hid (by rw [Span.hasB, h1, h2])
  have d1n := h1.symm
  have d2n := h2.symm
  clear h1 h2
  go_enter Try.func68, Try.ntmps68
  go_wp2_with (refine wpList_box_row rfl 94 _ rfl s.enc.toArray (by with_unfolding_all exact rfl) ?_)
  intro w1 b1 x1 z1
  obtain ⟨gS, hgS⟩ : ∃ g, g = w.heap.size := ⟨_, rfl⟩
  have M_S := Lib.hid (show w.heap.size ≤ gS from by rw [hgS]; exact Nat.le_refl _)
  have B1 := Lib.hid b1
  rw [← hgS] at x1 ⊢
  have S1 : Hid (Span.At w1 gS s) := Lib.hid x1
  clear b1 x1 z1 hgS 
  have c1 := Span.At.at_lo S1.out
  have c2 := Span.At.at_hi S1.out
  cases b1
  all_goals
    go_wp2
    go_ret
    exact ⟨by rw [HR.out]; rfl, B1.out⟩

def seenS : Span := ⟨33, 126⟩
theorem seen_is (c : UInt8) : seenS.hasB c = keyC c := by
  rw [Span.hasB, keyC]
  congr 1
  all_goals
    congr 1
    apply propext
    simp only [seenS]
    omega

set_option maxHeartbeats 1000000 in
theorem labelKey_any (l : List UInt8) (w : World) :
    Calls Try.prog 44 #[.string ⟨l.toArray⟩] w fun e w' => e = .returned (.bool (keyB l)) ∧ Below w.heap.size w w' := by
  by_cases h1 : l.length < 1
  · have HN : Hid (keyB l = false) := Lib.hid (by rw [keyB, decide_eq_false (by omega)]; rfl)
    have y1 : decide ((l.length : Int) < 1) = true := by simp; omega
    go_enter Try.func44, Try.ntmps44
    go_wp2
    go_ret
    exact ⟨by rw [HN.out]; rfl, Below.refl _ _⟩
  have y1 : decide ((l.length : Int) < 1) = false := by simp; omega
  by_cases h2 : 24 < l.length
  · have HN : Hid (keyB l = false) := Lib.hid (by rw [keyB, decide_eq_false (show ¬ l.length ≤ 24 by omega)]; simp)
    have y2 : decide (24 < (l.length : Int)) = true := by simp; omega
    have y2n : decide (24 < l.length) = true := by simp; omega
    clear h1
    go_enter Try.func44, Try.ntmps44
    go_wp2
    go_ret
    exact ⟨by rw [HN.out]; rfl, Below.refl _ _⟩
  have y2 : decide (24 < (l.length : Int)) = false := by simp; omega
  have y2n : decide (24 < l.length) = false := by simp; omega
  have HB := Lib.hid (show 1 ≤ l.length ∧ l.length ≤ 24 by omega)
  clear h1 h2
  go_enter Try.func44, Try.ntmps44
  go_wp2_with (refine wpList_alloc_row rfl 94 rfl Span.zero.enc.toArray Span.zero_is ?_)
  intro w1 b1 x1 z1
  obtain ⟨gS, hgS⟩ : ∃ g, g = w.heap.size := ⟨_, rfl⟩
  have M_S := Lib.hid (show w.heap.size ≤ gS from by rw [hgS]; exact Nat.le_refl _)
  have B1 := Lib.hid b1
  rw [← hgS] at x1 ⊢
  have S1 : Hid (Span.At w1 gS Span.zero) := Lib.hid x1
  clear b1 x1 z1 hgS 
  go_wp2_with (first | (with_reducible refine wpList_load_whole Span.isRec rfl _ rfl gS (by with_unfolding_all exact rfl) _ _ (Span.len _) S1.out ?_) | (with_reducible refine wpList_store_whole rfl 94 _ _ rfl gS seenS.enc.toArray (by with_unfolding_all exact rfl) (by with_unfolding_all exact rfl) _ _ S1.out (Span.size _) rfl (Span.one _) ?_))
  intro w2 q2 x2 z2
  have S2 : Hid (Span.At w2 gS seenS) := Lib.hid x2
  have B2 := Lib.hid (B1.out.grown q2 B1.out.size (fun k hk => by injection hk with hk; have := M_S.out; omega))
  clear q2 x2 z2 S1 B1
  go_wp2_with fail
  clear y1 y2 y2n
  go_loopw [16] (fun i wr => ∃ k : Nat, k ≤ l.length ∧ i = .int .i64 (k : Int) ∧ (l.take k).all keyC = true ∧ Span.At wr gS seenS ∧ Below w.heap.size w wr) (fun i _ => l.length - (intOf i).toNat)
  case atStart => exact ⟨0, Nat.zero_le _, rfl, rfl, S2.out, B2.out⟩
  case round =>
    obtain ⟨k, hk, rfl, ha, hs, hb⟩ := hrel
    have HA := Lib.hid ha
    have HS := Lib.hid hs
    have HBr := Lib.hid hb
    clear ha hs hb
    by_cases hlt : k < l.length
    · have dk : decide ((k : Int) < (l.length : Int)) = true := by simp; omega
      have dkn : decide (k < l.length) = true := by simp; omega
      obtain ⟨c, hc⟩ : ∃ c, l[k]? = some c := ⟨_, List.getElem?_eq_getElem hlt⟩
      have jk : (k : Int) < (l.length : Int) := by omega
      have r := str_at l k c hc
      have r4 : IntKind.i64.wrap ((k : Int) + 1) = ((k + 1 : Nat) : Int) := by have := HB.out; rw [IntWalk.i64_in _ (by omega)]; omega
      have HT := Lib.hid (all_take keyC l k c hc)
      have HF := Lib.hid (all_not keyC l k c hc)
      have CH := Lib.hid (fun w => has_any seenS c w)
      obtain ⟨q, hq⟩ : ∃ q, q = keyC c := ⟨_, rfl⟩
      simp only [seen_is, ← hq] at CH
      rw [← hq] at HT HF
      clear hc hq
      go_wp2_with (with_reducible refine wpList_load_whole Span.isRec rfl _ rfl gS (by with_unfolding_all exact rfl) _ _ (Span.len _) HS.out ?_)
      refine reg_begin (by kernel_rfl) fun w3 b3 z3 => ?_
      have S3 : Hid (Span.At w3 gS seenS) := Lib.hid (Whole.below HS.out b3 HS.out.lt)
      have B3 := Lib.hid (HBr.out.trans (b3.mono HBr.out.size))
      clear b3 z3 HS HBr
      refine reg_take (i := 0) (v := Span.val (seenS)) rfl (by kernel_rfl) (by kernel_rfl) (by kernel_rfl) (fun _ _ _ h => h) (by rfl) ?hy0 ?_
      case hy0 => intro w' hw'; exact exec_load_whole Span.isRec _ rfl gS rfl _ _ (Span.len _) w' (Whole.below S3.out hw' S3.out.lt)
      simp only [Act.put, List.setIfInBounds_toArray, List.set_cons_zero, List.set_cons_succ]
      refine reg_take (i := 1) (v := ?_) rfl (by kernel_rfl) (by kernel_rfl) (by kernel_rfl) (fun _ _ _ h => h) (by rfl) ?hy1 ?_
      case hy1 => intro w' hw'; go_simp; (try with_reducible rfl)
      simp only [Act.put, List.setIfInBounds_toArray, List.set_cons_zero, List.set_cons_succ]
      refine reg_take (i := 2) (v := ?_) rfl (by kernel_rfl) (by kernel_rfl) (by kernel_rfl) (fun _ _ _ h => h) (by rfl) ?hy2 ?_
      case hy2 => intro w' hw'; go_simp; (try with_reducible rfl)
      simp only [Act.put, List.setIfInBounds_toArray, List.set_cons_zero, List.set_cons_succ]
      refine reg_take (i := 3) (v := ?_) rfl (by kernel_rfl) (by kernel_rfl) (by kernel_rfl) (fun _ _ _ h => h) (by rfl) ?hy3 ?_
      case hy3 => intro w' hw'; go_simp; (try with_reducible rfl)
      simp only [Act.put, List.setIfInBounds_toArray, List.set_cons_zero, List.set_cons_succ]
      refine reg_call (i := 4) rfl (by kernel_rfl) (fun K' hK => ?_)
      go_simp
      refine (CH.out w3).mono ?_
      rintro e4 w4 ⟨rfl, b4⟩
      have S4 : Hid (Span.At w4 gS seenS) := Lib.hid (Whole.below S3.out b4 S3.out.lt)
      have B4 := Lib.hid (B3.out.trans (b4.mono B3.out.size))
      refine hK.out _ _ b4 ?_
      clear hK K' b4 S3 B3
      refine reg_take (i := 5) (v := ?_) rfl (by kernel_rfl) (by kernel_rfl) (by kernel_rfl) (fun _ _ _ h => h) (by rfl) ?hy5 ?_
      case hy5 => intro w' hw'; go_simp; (try with_reducible rfl)
      simp only [Act.put, List.setIfInBounds_toArray, List.set_cons_zero, List.set_cons_succ]
      refine reg_end (by kernel_rfl) ?_
      clear r CH
      cases q with
      | false =>
        have HN : Hid (keyB l = false) := Lib.hid (by rw [keyB, HF.out rfl]; simp)
        go_wp2
        go_ret
        exact ⟨by rw [HN.out]; rfl, B4.out⟩
      | true =>
        go_wp2
        exact ⟨⟨k + 1, by omega, by go_num, by rw [HT.out, HA.out]; rfl, S4.out, B4.out⟩, by simp [intOf]; omega⟩
    · obtain rfl : k = l.length := by omega
      have dk : decide ((l.length : Int) < (l.length : Int)) = false := by simp
      have HI : Hid (keyB l = true) := Lib.hid (by
        have e := HA.out
        rw [List.take_length] at e
        rw [keyB, e, decide_eq_true HB.out.1, decide_eq_true HB.out.2]
        rfl)
      go_wp2
      go_ret
      exact ⟨by rw [HI.out]; rfl, HBr.out⟩
end Go.Proofs.Ytnjeopgcpffkcaa

namespace Go.Proofs.Ytnjeopgcpffkcaa
set_option maxRecDepth 100000
open Go.RowKit

set_option maxHeartbeats 1000000 in
theorem refLbKey_any (l : List UInt8) (w : World) :
    Calls Try.prog 40 #[.string ⟨l.toArray⟩] w fun e w' => e = .returned (.bool (keyB l)) ∧ w = w' := by
  by_cases h1 : l.length < 1
  · have HN : Hid (keyB l = false) := Lib.hid (by rw [keyB, decide_eq_false (by omega)]; rfl)
    have y1 : decide ((l.length : Int) < 1) = true := by simp; omega
    go_enter Try.func40, Try.ntmps40
    go_wp2
    go_ret
    exact ⟨by rw [HN.out]; rfl, rfl⟩
  have y1 : decide ((l.length : Int) < 1) = false := by simp; omega
  by_cases h2 : 24 < l.length
  · have HN : Hid (keyB l = false) := Lib.hid (by rw [keyB, decide_eq_false (show ¬ l.length ≤ 24 by omega)]; simp)
    have y2 : decide (24 < (l.length : Int)) = true := by simp; omega
    have y2n : decide (24 < l.length) = true := by simp; omega
    clear h1
    go_enter Try.func40, Try.ntmps40
    go_wp2
    go_ret
    exact ⟨by rw [HN.out]; rfl, rfl⟩
  have y2 : decide (24 < (l.length : Int)) = false := by simp; omega
  have y2n : decide (24 < l.length) = false := by simp; omega
  have HB := Lib.hid (show 1 ≤ l.length ∧ l.length ≤ 24 by omega)
  clear h1 h2
  go_enter Try.func40, Try.ntmps40
  go_wp2_with fail
  go_loop [3] (fun i => ∃ k : Nat, k ≤ l.length ∧ i = .int .i64 (k : Int) ∧ (l.take k).all keyC = true) (fun i => l.length - (intOf i).toNat)
  case atStart => exact ⟨0, Nat.zero_le _, rfl, rfl⟩
  case round =>
    obtain ⟨k, hk, rfl, ha⟩ := hrel
    have HA := Lib.hid ha
    clear ha
    by_cases hlt : k < l.length
    · have dk : decide ((k : Int) < (l.length : Int)) = true := by simp; omega
      have dkn : decide (k < l.length) = true := by simp; omega
      obtain ⟨c, hc⟩ : ∃ c, l[k]? = some c := ⟨_, List.getElem?_eq_getElem hlt⟩
      have jk : (k : Int) < (l.length : Int) := by omega
      have r := str_at l k c hc
      have r4 : IntKind.i64.wrap ((k : Int) + 1) = ((k + 1 : Nat) : Int) := by have := HB.out; rw [IntWalk.i64_in _ (by omega)]; omega
      have HT := Lib.hid (all_take keyC l k c hc)
      have HF := Lib.hid (all_not keyC l k c hc)
      clear hc
      by_cases c1 : c.toNat ≤ 32
      · have z1 : decide ((c.toNat : Int) ≤ 32) = true := by simp; omega
        have z1n : decide (c.toNat ≤ 32) = true := by simp; omega
        have HN : Hid (keyB l = false) := Lib.hid (by rw [keyB, HF.out (by rw [keyC, decide_eq_false (by omega)]; rfl)]; simp)
        clear HF HT
        go_wp2
        go_ret
        exact ⟨by rw [HN.out]; rfl, rfl⟩
      have z1 : decide ((c.toNat : Int) ≤ 32) = false := by simp; omega
      have z1n : decide (c.toNat ≤ 32) = false := by simp; omega
      by_cases c2 : 127 ≤ c.toNat
      · have z2 : decide (127 ≤ (c.toNat : Int)) = true := by simp; omega
        have z2n : decide (127 ≤ c.toNat) = true := by simp; omega
        have HN : Hid (keyB l = false) := Lib.hid (by rw [keyB, HF.out (by rw [keyC, decide_eq_false (show ¬ c.toNat < 127 by omega)]; simp)]; simp)
        clear HF HT c1
        go_wp2
        go_ret
        exact ⟨by rw [HN.out]; rfl, rfl⟩
      have z2 : decide (127 ≤ (c.toNat : Int)) = false := by simp; omega
      have z2n : decide (127 ≤ c.toNat) = false := by simp; omega
      have HK : Hid (keyC c = true) := Lib.hid (by rw [keyC, decide_eq_true (by omega), decide_eq_true (by omega)]; rfl)
      clear c1 c2 HF
      go_wp2
      exact ⟨⟨k + 1, by omega, by go_num, by rw [HT.out, HA.out, HK.out]; rfl⟩, by simp [intOf]; omega⟩
    · obtain rfl : k = l.length := by omega
      have dk : decide ((l.length : Int) < (l.length : Int)) = false := by simp
      have HI : Hid (keyB l = true) := Lib.hid (by
        have e := HA.out
        rw [List.take_length] at e
        rw [keyB, e, decide_eq_true HB.out.1, decide_eq_true HB.out.2]
        rfl)
      go_wp2
      go_ret
      exact ⟨by rw [HI.out]; rfl, rfl⟩
end Go.Proofs.Ytnjeopgcpffkcaa
