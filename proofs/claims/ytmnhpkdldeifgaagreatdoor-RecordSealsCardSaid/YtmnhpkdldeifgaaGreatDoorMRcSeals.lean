/- The core of RecordSeals. -/
import Derived.Test.YtmnhpkdldeifgaaGreatDoorGbp
import Derived.Test.YtmnhpkdldeifgaaGreatDoorGbv
namespace Go.Proofs.YtmnhpkdldeifgaaGreatDoor
set_option maxRecDepth 100000
open Go.RowKit

set_option maxRecDepth 100000 in
set_option maxHeartbeats 2000000 in
theorem recordSeals_core (root : List UInt8) (h : Head) (ho : h.Ok) (A : Option Addr) (n cap : Nat) (b : List UInt8) (w : World) (hb : BytesAt w (.slice A n cap) b) (T : Tab w) (PW : PowT w) :
    Calls Tryz.prog 3 #[.string ⟨root.toArray⟩, h.val, .slice A n cap] w fun e w' => e = .returned (.bool true) ∧ Below w.heap.size w w' := by
  have T0 := Lib.hid T
  have P0 := Lib.hid PW
  have CW := fun w T P => Lib.hid (works19 w T P)
  obtain ⟨b0, h0⟩ : ∃ q, q = decide (300 < root.length) := ⟨_, rfl⟩
  obtain ⟨b1, h1⟩ : ∃ q, q = decide (500 < n) := ⟨_, rfl⟩
  obtain ⟨b2, h2⟩ : ∃ q, q = decide (n ≤ 2016) := ⟨_, rfl⟩
  have p0 : decide ((300 : Int) < (root.length : Int)) = b0 := by rw [h0, Bool.eq_iff_iff, decide_eq_true_eq, decide_eq_true_eq]; omega
  have p1 : decide ((500 : Int) < (n : Int)) = b1 := by rw [h1, Bool.eq_iff_iff, decide_eq_true_eq, decide_eq_true_eq]; omega
  have p2 : decide ((n : Int) ≤ 2016) = b2 := by rw [h2, Bool.eq_iff_iff, decide_eq_true_eq, decide_eq_true_eq]; omega
  have HR := Lib.hid (show b0 = false → root.length ≤ 300 from fun e => by rw [h0] at e; simpa using e)
  have CA := fun (q : root.length ≤ 300) w1 (qb : Below w.heap.size w w1) T P => Lib.hid ((rcSeal_any root h ho _ b w1 (by omega) (hb.below qb) T P).mono (R' := fun e w' => ∃ v', e = .returned (.tuple #[v', .int .i64 (sealX h b)]) ∧ BytesAt w' v' (sealA root h b) ∧ Below w1.heap.size w1 w') fun _ _ ⟨v', he, ⟨hb, _⟩, hw⟩ => ⟨v', he, hb, hw⟩)
  have CB := fun (q : root.length ≤ 300) w1 (qb : Below w.heap.size w w1) => Lib.hid (rgSeal_any root h ho _ b w1 (by omega) (hb.below qb))
  generalize sealA root h b = sa at *
  generalize sealX h b = sx at *
  clear T PW hb h0 h1 h2 ho
  cases b0 with
  | true =>
    clear HR CA CB
    go_enter Tryz.func3, Tryz.ntmps3
    go_wp2_with (refine wpList_box_row rfl 24 _ rfl h.enc.toArray (by with_unfolding_all exact rfl) ?_)
    intro w1 b1 x1 z1
    obtain ⟨gX, hgX⟩ : ∃ g, g = w.heap.size := ⟨_, rfl⟩
    have M_X := Lib.hid (show w.heap.size ≤ gX from by rw [hgX]; exact Nat.le_refl _)
    have B1 := Lib.hid b1
    rw [← hgX] at x1 ⊢
    have X1 : Hid (Head.At w1 gX h) := Lib.hid x1
    clear b1 x1 z1 hgX 
    go_wp2_with (with_reducible refine wpList_load_whole Head.isRec rfl _ rfl gX (by with_unfolding_all exact rfl) _ _ (Head.len _) X1.out ?_)
    refine ((CW w1 (T0.out.below B1.out T0.out.pos) (P0.out.below B1.out)).out).mono ?_
    rintro e2 w2 ⟨rfl, b2⟩
    have X2 : Hid (Head.At w2 gX h) := Lib.hid (Whole.below X1.out b2 X1.out.lt)
    have B2 := Lib.hid (B1.out.trans (b2.mono B1.out.size))
    clear b2 X1 B1
    go_wp2
    go_ret
    exact ⟨rfl, B2.out⟩
  | false =>
    cases b1 with
    | false =>
      have CA := CA (HR.out rfl)
      have CB := CB (HR.out rfl)
      clear HR
      go_enter Tryz.func3, Tryz.ntmps3
      go_wp2_with (refine wpList_box_row rfl 24 _ rfl h.enc.toArray (by with_unfolding_all exact rfl) ?_)
      intro w1 b1 x1 z1
      obtain ⟨gX, hgX⟩ : ∃ g, g = w.heap.size := ⟨_, rfl⟩
      have M_X := Lib.hid (show w.heap.size ≤ gX from by rw [hgX]; exact Nat.le_refl _)
      have B1 := Lib.hid b1
      rw [← hgX] at x1 ⊢
      have X1 : Hid (Head.At w1 gX h) := Lib.hid x1
      clear b1 x1 z1 hgX 
      go_wp2_with (with_reducible refine wpList_load_whole Head.isRec rfl _ rfl gX (by with_unfolding_all exact rfl) _ _ (Head.len _) X1.out ?_)
      refine ((CA w1 B1.out (T0.out.below B1.out T0.out.pos) (P0.out.below B1.out)).out).mono ?_
      rintro e2 w2 ⟨v1, rfl, y1, b2⟩
      have X2 : Hid (Head.At w2 gX h) := Lib.hid (Whole.below X1.out b2 X1.out.lt)
      have B2 := Lib.hid (B1.out.trans (b2.mono B1.out.size))
      have L2 : Hid (BytesAt w2 v1 sa) := Lib.hid y1
      clear b2 X1 B1 y1
      go_wp2_with (with_reducible refine wpList_load_whole Head.isRec rfl _ rfl gX (by with_unfolding_all exact rfl) _ _ (Head.len _) X2.out ?_)
      refine ((CB w2 B2.out).out).mono ?_
      rintro e3 w3 ⟨v2, rfl, y2, b3⟩
      have X3 : Hid (Head.At w3 gX h) := Lib.hid (Whole.below X2.out b3 X2.out.lt)
      have L3 : Hid (BytesAt w3 v1 sa) := Lib.hid (L2.out.below b3)
      have B3 := Lib.hid (B2.out.trans (b3.mono B2.out.size))
      have M3 : Hid (BytesAt w3 v2 sa) := Lib.hid y2
      clear b3 X2 L2 B2 y2
      clear CA CB p0 p1 p2
      have r1 := conv_bytes L3.out
      have r2 := conv_bytes M3.out
      go_wp2_with (with_reducible refine wpList_load_whole Head.isRec rfl _ rfl gX (by with_unfolding_all exact rfl) _ _ (Head.len _) X3.out ?_)
      refine ((CW w3 (T0.out.below B3.out T0.out.pos) (P0.out.below B3.out)).out).mono ?_
      rintro e4 w4 ⟨rfl, b4⟩
      have X4 : Hid (Head.At w4 gX h) := Lib.hid (Whole.below X3.out b4 X3.out.lt)
      have L4 : Hid (BytesAt w4 v1 sa) := Lib.hid (L3.out.below b4)
      have M4 : Hid (BytesAt w4 v2 sa) := Lib.hid (M3.out.below b4)
      have B4 := Lib.hid (B3.out.trans (b4.mono B3.out.size))
      clear b4 X3 L3 M3 B3
      go_wp2
      go_ret
      exact ⟨rfl, B4.out⟩
    | true =>
      cases b2 with
      | true =>
        clear HR CA CB
        go_enter Tryz.func3, Tryz.ntmps3
        go_wp2_with (refine wpList_box_row rfl 24 _ rfl h.enc.toArray (by with_unfolding_all exact rfl) ?_)
        intro w1 b1 x1 z1
        obtain ⟨gX, hgX⟩ : ∃ g, g = w.heap.size := ⟨_, rfl⟩
        have M_X := Lib.hid (show w.heap.size ≤ gX from by rw [hgX]; exact Nat.le_refl _)
        have B1 := Lib.hid b1
        rw [← hgX] at x1 ⊢
        have X1 : Hid (Head.At w1 gX h) := Lib.hid x1
        clear b1 x1 z1 hgX 
        go_wp2_with (with_reducible refine wpList_load_whole Head.isRec rfl _ rfl gX (by with_unfolding_all exact rfl) _ _ (Head.len _) X1.out ?_)
        refine ((CW w1 (T0.out.below B1.out T0.out.pos) (P0.out.below B1.out)).out).mono ?_
        rintro e2 w2 ⟨rfl, b2⟩
        have X2 : Hid (Head.At w2 gX h) := Lib.hid (Whole.below X1.out b2 X1.out.lt)
        have B2 := Lib.hid (B1.out.trans (b2.mono B1.out.size))
        clear b2 X1 B1
        go_wp2
        go_ret
        exact ⟨rfl, B2.out⟩
      | false =>
        have CA := CA (HR.out rfl)
        have CB := CB (HR.out rfl)
        clear HR
        go_enter Tryz.func3, Tryz.ntmps3
        go_wp2_with (refine wpList_box_row rfl 24 _ rfl h.enc.toArray (by with_unfolding_all exact rfl) ?_)
        intro w1 b1 x1 z1
        obtain ⟨gX, hgX⟩ : ∃ g, g = w.heap.size := ⟨_, rfl⟩
        have M_X := Lib.hid (show w.heap.size ≤ gX from by rw [hgX]; exact Nat.le_refl _)
        have B1 := Lib.hid b1
        rw [← hgX] at x1 ⊢
        have X1 : Hid (Head.At w1 gX h) := Lib.hid x1
        clear b1 x1 z1 hgX 
        go_wp2_with (with_reducible refine wpList_load_whole Head.isRec rfl _ rfl gX (by with_unfolding_all exact rfl) _ _ (Head.len _) X1.out ?_)
        refine ((CA w1 B1.out (T0.out.below B1.out T0.out.pos) (P0.out.below B1.out)).out).mono ?_
        rintro e2 w2 ⟨v1, rfl, y1, b2⟩
        have X2 : Hid (Head.At w2 gX h) := Lib.hid (Whole.below X1.out b2 X1.out.lt)
        have B2 := Lib.hid (B1.out.trans (b2.mono B1.out.size))
        have L2 : Hid (BytesAt w2 v1 sa) := Lib.hid y1
        clear b2 X1 B1 y1
        go_wp2_with (with_reducible refine wpList_load_whole Head.isRec rfl _ rfl gX (by with_unfolding_all exact rfl) _ _ (Head.len _) X2.out ?_)
        refine ((CB w2 B2.out).out).mono ?_
        rintro e3 w3 ⟨v2, rfl, y2, b3⟩
        have X3 : Hid (Head.At w3 gX h) := Lib.hid (Whole.below X2.out b3 X2.out.lt)
        have L3 : Hid (BytesAt w3 v1 sa) := Lib.hid (L2.out.below b3)
        have B3 := Lib.hid (B2.out.trans (b3.mono B2.out.size))
        have M3 : Hid (BytesAt w3 v2 sa) := Lib.hid y2
        clear b3 X2 L2 B2 y2
        clear CA CB p0 p1 p2
        have r1 := conv_bytes L3.out
        have r2 := conv_bytes M3.out
        go_wp2_with (with_reducible refine wpList_load_whole Head.isRec rfl _ rfl gX (by with_unfolding_all exact rfl) _ _ (Head.len _) X3.out ?_)
        refine ((CW w3 (T0.out.below B3.out T0.out.pos) (P0.out.below B3.out)).out).mono ?_
        rintro e4 w4 ⟨rfl, b4⟩
        have X4 : Hid (Head.At w4 gX h) := Lib.hid (Whole.below X3.out b4 X3.out.lt)
        have L4 : Hid (BytesAt w4 v1 sa) := Lib.hid (L3.out.below b4)
        have M4 : Hid (BytesAt w4 v2 sa) := Lib.hid (M3.out.below b4)
        have B4 := Lib.hid (B3.out.trans (b4.mono B3.out.size))
        clear b4 X3 L3 M3 B3
        go_wp2
        go_ret
        exact ⟨rfl, B4.out⟩
end Go.Proofs.YtmnhpkdldeifgaaGreatDoor
