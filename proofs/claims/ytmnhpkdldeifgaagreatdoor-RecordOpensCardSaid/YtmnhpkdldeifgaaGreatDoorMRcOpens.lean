/- The core of RecordOpens. -/
import Derived.Test.YtmnhpkdldeifgaaGreatDoorGbp
import Derived.Test.YtmnhpkdldeifgaaGreatDoorGbv
namespace Go.Proofs.YtmnhpkdldeifgaaGreatDoor
set_option maxRecDepth 100000
open Go.RowKit

set_option maxRecDepth 100000 in
set_option maxHeartbeats 2000000 in
theorem recordOpens_core (root : List UInt8) (A : Option Addr) (n cap : Nat) (b : List UInt8) (w : World) (hb : BytesAt w (.slice A n cap) b) (T : Tab w) (PW : PowT w) :
    Calls Tryz.prog 4 #[.string ⟨root.toArray⟩, .slice A n cap] w fun e w' => e = .returned (.bool true) ∧ Below w.heap.size w w' := by
  have T0 := Lib.hid T
  have P0 := Lib.hid PW
  have CW := fun w T P => Lib.hid (works19 w T P)
  obtain ⟨b0, h0⟩ : ∃ q, q = decide (300 < root.length) := ⟨_, rfl⟩
  obtain ⟨b1, h1⟩ : ∃ q, q = decide (600 < n) := ⟨_, rfl⟩
  obtain ⟨b2, h2⟩ : ∃ q, q = decide (n ≤ 2048) := ⟨_, rfl⟩
  have p0 : decide ((300 : Int) < (root.length : Int)) = b0 := by rw [h0, Bool.eq_iff_iff, decide_eq_true_eq, decide_eq_true_eq]; omega
  have p1 : decide ((600 : Int) < (n : Int)) = b1 := by rw [h1, Bool.eq_iff_iff, decide_eq_true_eq, decide_eq_true_eq]; omega
  have p2 : decide ((n : Int) ≤ 2048) = b2 := by rw [h2, Bool.eq_iff_iff, decide_eq_true_eq, decide_eq_true_eq]; omega
  have HR := Lib.hid (show b0 = false → root.length ≤ 300 from fun e => by rw [h0] at e; simpa using e)
  have CA := fun (q : root.length ≤ 300) w1 (qb : Below w.heap.size w w1) T P => Lib.hid (rcOpen_any root b _ w1 (by omega) (hb.below qb) T P)
  have CB := fun (q : root.length ≤ 300) w1 (qb : Below w.heap.size w w1) => Lib.hid (rgOpen_any root b _ w1 (by omega) (hb.below qb))
  generalize openH root b = oh at *
  generalize openB root b = ob at *
  generalize openX root b = ox at *
  clear T PW hb h0 h1 h2
  cases b0 with
  | true =>
    clear HR CA CB
    go_enter Tryz.func4, Tryz.ntmps4
    go_wp2_with fail
    refine ((CW w T0.out P0.out).out).mono ?_
    rintro e1 w1 ⟨rfl, b1⟩
    have B1 := Lib.hid b1
    clear b1 
    go_wp2
    go_ret
    exact ⟨rfl, B1.out⟩
  | false =>
    cases b1 with
    | false =>
      have CA := CA (HR.out rfl)
      have CB := CB (HR.out rfl)
      clear HR
      go_enter Tryz.func4, Tryz.ntmps4
      go_wp2_with fail
      refine ((CA w (Below.refl _ _) T0.out P0.out).out).mono ?_
      rintro e1 w1 ⟨v1, rfl, y1, b1⟩
      have B1 := Lib.hid b1
      have L1 : Hid (BytesAt w1 v1 ob) := Lib.hid y1
      clear b1 y1
      have D1 : Hid (Since w1 w1) := Lib.hid (⟨Below.refl _ _⟩)
      have L0 := L1
      clear L1
      go_wp2_with (refine wpList_alloc_row rfl 24 rfl Head.zero.enc.toArray Head.zero_is ?_)
      intro w2 b2 x2 z2
      obtain ⟨gY, hgY⟩ : ∃ g, g = w1.heap.size := ⟨_, rfl⟩
      have L_D_Y := Lib.hid (show w1.heap.size ≤ gY from by rw [hgY]; exact D1.out.b.size)
      have M_Y := Lib.hid (show w.heap.size ≤ gY from by rw [hgY]; exact B1.out.size)
      have D2 : Hid (Since w1 w2) := Lib.hid (D1.out.below b2)
      have B2 := Lib.hid (B1.out.trans (b2.mono B1.out.size))
      rw [← hgY] at x2 ⊢
      have Y2 : Hid (Head.At w2 gY Head.zero) := Lib.hid x2
      clear b2 x2 z2 hgY D1 B1
      go_wp2_with (first | (with_reducible refine wpList_load_whole Head.isRec rfl _ rfl gY (by with_unfolding_all exact rfl) _ _ (Head.len _) Y2.out ?_) | (with_reducible refine wpList_store_whole rfl 24 _ _ rfl gY oh.enc.toArray (by with_unfolding_all exact rfl) (by with_unfolding_all exact rfl) _ _ Y2.out (Head.size _) rfl (Head.one _) ?_))
      intro w3 q3 x3 z3
      have Y3 : Hid (Head.At w3 gY oh) := Lib.hid x3
      have D3 : Hid (Since w1 w3) := Lib.hid (D2.out.far q3 L_D_Y.out)
      have B3 := Lib.hid (B2.out.grown q3 B2.out.size (fun k hk => by injection hk with hk; have := M_Y.out; omega))
      clear q3 x3 z3 Y2 D2 B2
      go_wp2_with (with_reducible refine wpList_load_whole Head.isRec rfl _ rfl gY (by with_unfolding_all exact rfl) _ _ (Head.len _) Y3.out ?_)
      refine ((CB w3 B3.out).out).mono ?_
      rintro e4 w4 ⟨v2, rfl, y2, b4⟩
      have D4 : Hid (Since w1 w4) := Lib.hid (D3.out.below b4)
      have Y4 : Hid (Head.At w4 gY oh) := Lib.hid (Whole.below Y3.out b4 Y3.out.lt)
      have B4 := Lib.hid (B3.out.trans (b4.mono B3.out.size))
      have M4 : Hid (BytesAt w4 v2 ob) := Lib.hid y2
      clear b4 D3 Y3 B3 y2
      have F4 : Hid (Since w4 w4) := Lib.hid (⟨Below.refl _ _⟩)
      have M0 := M4
      clear M4
      go_wp2_with (first | (with_reducible refine wpList_load_whole Head.isRec rfl _ rfl gY (by with_unfolding_all exact rfl) _ _ (Head.len _) Y4.out ?_) | (refine wpList_alloc_row rfl 32 rfl (Heaf.enc Heaf.zero).toArray Heaf.zero_is ?_))
      intro w5 b5 x5 z5
      obtain ⟨gZ, hgZ⟩ : ∃ g, g = w4.heap.size := ⟨_, rfl⟩
      have L_D_Z := Lib.hid (show w1.heap.size ≤ gZ from by rw [hgZ]; exact D4.out.b.size)
      have N_Y_Z := Lib.hid (show gY < gZ from by rw [hgZ]; exact Y4.out.lt)
      have L_F_Z := Lib.hid (show w4.heap.size ≤ gZ from by rw [hgZ]; exact F4.out.b.size)
      have M_Z := Lib.hid (show w.heap.size ≤ gZ from by rw [hgZ]; exact B4.out.size)
      have D5 : Hid (Since w1 w5) := Lib.hid (D4.out.below b5)
      have Y5 : Hid (Head.At w5 gY oh) := Lib.hid (Whole.below Y4.out b5 Y4.out.lt)
      have F5 : Hid (Since w4 w5) := Lib.hid (F4.out.below b5)
      have B5 := Lib.hid (B4.out.trans (b5.mono B4.out.size))
      rw [← hgZ] at x5 ⊢
      have Z5 : Hid (Heaf.At w5 gZ Heaf.zero) := Lib.hid x5
      clear b5 x5 z5 hgZ D4 Y4 F4 B4
      go_wp2_with (first | (with_reducible refine wpList_load_whole Head.isRec rfl _ rfl gY (by with_unfolding_all exact rfl) _ _ (Head.len _) Y5.out ?_) | (with_reducible refine wpList_load_whole Heaf.isRec rfl _ rfl gZ (by with_unfolding_all exact rfl) _ _ (Heaf.len _) Z5.out ?_) | (with_reducible refine wpList_store_whole rfl 32 _ _ rfl gZ (Heaf.enc oh).toArray (by with_unfolding_all exact rfl) (by with_unfolding_all exact rfl) _ _ Z5.out (Heaf.size _) rfl (Heaf.one _) ?_))
      intro w6 q6 x6 z6
      have Z6 : Hid (Heaf.At w6 gZ oh) := Lib.hid x6
      have D6 : Hid (Since w1 w6) := Lib.hid (D5.out.far q6 L_D_Z.out)
      have Y6 : Hid (Head.At w6 gY oh) := Lib.hid (grown_far Y5.out q6 (by have := N_Y_Z.out; omega))
      have F6 : Hid (Since w4 w6) := Lib.hid (F5.out.far q6 L_F_Z.out)
      have B6 := Lib.hid (B5.out.grown q6 B5.out.size (fun k hk => by injection hk with hk; have := M_Z.out; omega))
      clear q6 x6 z6 Z5 D5 Y5 F5 B5
      clear CA CB p0 p1 p2
      have r1 := conv_bytes (L0.out.below D6.out.b)
      have r2 := conv_bytes (M0.out.below F6.out.b)
      go_wp2_with (first | (with_reducible refine wpList_load_whole Head.isRec rfl _ rfl gY (by with_unfolding_all exact rfl) _ _ (Head.len _) Y6.out ?_) | (with_reducible refine wpList_load_whole Heaf.isRec rfl _ rfl gZ (by with_unfolding_all exact rfl) _ _ (Heaf.len _) Z6.out ?_) | (first | (with_reducible refine wpList_eq_rec Heaf.isRec rfl _ _ rfl (Heaf.enc oh) (Heaf.enc oh) (Heaf.fits _) (Heaf.fits _) (by with_unfolding_all exact rfl) (by with_unfolding_all exact rfl) true (eqCells_refl (Heaf.fits _)).symm ?_) | (with_reducible refine wpList_eq_rec_w Heaf.isRec (by kernel_rfl) _ _ rfl (Heaf.enc oh) (Heaf.enc oh) (Heaf.fits _) (Heaf.fits _) (by with_unfolding_all exact rfl) (by with_unfolding_all exact rfl) true (eqCells_refl (Heaf.fits _)).symm ?_)))
      refine ((CW w6 (T0.out.below B6.out T0.out.pos) (P0.out.below B6.out)).out).mono ?_
      rintro e7 w7 ⟨rfl, b7⟩
      have D7 : Hid (Since w1 w7) := Lib.hid (D6.out.below b7)
      have Y7 : Hid (Head.At w7 gY oh) := Lib.hid (Whole.below Y6.out b7 Y6.out.lt)
      have F7 : Hid (Since w4 w7) := Lib.hid (F6.out.below b7)
      have Z7 : Hid (Heaf.At w7 gZ oh) := Lib.hid (Whole.below Z6.out b7 Z6.out.lt)
      have B7 := Lib.hid (B6.out.trans (b7.mono B6.out.size))
      clear b7 D6 Y6 F6 Z6 B6
      go_wp2
      go_ret
      exact ⟨rfl, B7.out⟩
    | true =>
      cases b2 with
      | true =>
        clear HR CA CB
        go_enter Tryz.func4, Tryz.ntmps4
        go_wp2_with fail
        refine ((CW w T0.out P0.out).out).mono ?_
        rintro e1 w1 ⟨rfl, b1⟩
        have B1 := Lib.hid b1
        clear b1 
        go_wp2
        go_ret
        exact ⟨rfl, B1.out⟩
      | false =>
        have CA := CA (HR.out rfl)
        have CB := CB (HR.out rfl)
        clear HR
        go_enter Tryz.func4, Tryz.ntmps4
        go_wp2_with fail
        refine ((CA w (Below.refl _ _) T0.out P0.out).out).mono ?_
        rintro e1 w1 ⟨v1, rfl, y1, b1⟩
        have B1 := Lib.hid b1
        have L1 : Hid (BytesAt w1 v1 ob) := Lib.hid y1
        clear b1 y1
        have D1 : Hid (Since w1 w1) := Lib.hid (⟨Below.refl _ _⟩)
        have L0 := L1
        clear L1
        go_wp2_with (refine wpList_alloc_row rfl 24 rfl Head.zero.enc.toArray Head.zero_is ?_)
        intro w2 b2 x2 z2
        obtain ⟨gY, hgY⟩ : ∃ g, g = w1.heap.size := ⟨_, rfl⟩
        have L_D_Y := Lib.hid (show w1.heap.size ≤ gY from by rw [hgY]; exact D1.out.b.size)
        have M_Y := Lib.hid (show w.heap.size ≤ gY from by rw [hgY]; exact B1.out.size)
        have D2 : Hid (Since w1 w2) := Lib.hid (D1.out.below b2)
        have B2 := Lib.hid (B1.out.trans (b2.mono B1.out.size))
        rw [← hgY] at x2 ⊢
        have Y2 : Hid (Head.At w2 gY Head.zero) := Lib.hid x2
        clear b2 x2 z2 hgY D1 B1
        go_wp2_with (first | (with_reducible refine wpList_load_whole Head.isRec rfl _ rfl gY (by with_unfolding_all exact rfl) _ _ (Head.len _) Y2.out ?_) | (with_reducible refine wpList_store_whole rfl 24 _ _ rfl gY oh.enc.toArray (by with_unfolding_all exact rfl) (by with_unfolding_all exact rfl) _ _ Y2.out (Head.size _) rfl (Head.one _) ?_))
        intro w3 q3 x3 z3
        have Y3 : Hid (Head.At w3 gY oh) := Lib.hid x3
        have D3 : Hid (Since w1 w3) := Lib.hid (D2.out.far q3 L_D_Y.out)
        have B3 := Lib.hid (B2.out.grown q3 B2.out.size (fun k hk => by injection hk with hk; have := M_Y.out; omega))
        clear q3 x3 z3 Y2 D2 B2
        go_wp2_with (with_reducible refine wpList_load_whole Head.isRec rfl _ rfl gY (by with_unfolding_all exact rfl) _ _ (Head.len _) Y3.out ?_)
        refine ((CB w3 B3.out).out).mono ?_
        rintro e4 w4 ⟨v2, rfl, y2, b4⟩
        have D4 : Hid (Since w1 w4) := Lib.hid (D3.out.below b4)
        have Y4 : Hid (Head.At w4 gY oh) := Lib.hid (Whole.below Y3.out b4 Y3.out.lt)
        have B4 := Lib.hid (B3.out.trans (b4.mono B3.out.size))
        have M4 : Hid (BytesAt w4 v2 ob) := Lib.hid y2
        clear b4 D3 Y3 B3 y2
        have F4 : Hid (Since w4 w4) := Lib.hid (⟨Below.refl _ _⟩)
        have M0 := M4
        clear M4
        go_wp2_with (first | (with_reducible refine wpList_load_whole Head.isRec rfl _ rfl gY (by with_unfolding_all exact rfl) _ _ (Head.len _) Y4.out ?_) | (refine wpList_alloc_row rfl 32 rfl (Heaf.enc Heaf.zero).toArray Heaf.zero_is ?_))
        intro w5 b5 x5 z5
        obtain ⟨gZ, hgZ⟩ : ∃ g, g = w4.heap.size := ⟨_, rfl⟩
        have L_D_Z := Lib.hid (show w1.heap.size ≤ gZ from by rw [hgZ]; exact D4.out.b.size)
        have N_Y_Z := Lib.hid (show gY < gZ from by rw [hgZ]; exact Y4.out.lt)
        have L_F_Z := Lib.hid (show w4.heap.size ≤ gZ from by rw [hgZ]; exact F4.out.b.size)
        have M_Z := Lib.hid (show w.heap.size ≤ gZ from by rw [hgZ]; exact B4.out.size)
        have D5 : Hid (Since w1 w5) := Lib.hid (D4.out.below b5)
        have Y5 : Hid (Head.At w5 gY oh) := Lib.hid (Whole.below Y4.out b5 Y4.out.lt)
        have F5 : Hid (Since w4 w5) := Lib.hid (F4.out.below b5)
        have B5 := Lib.hid (B4.out.trans (b5.mono B4.out.size))
        rw [← hgZ] at x5 ⊢
        have Z5 : Hid (Heaf.At w5 gZ Heaf.zero) := Lib.hid x5
        clear b5 x5 z5 hgZ D4 Y4 F4 B4
        go_wp2_with (first | (with_reducible refine wpList_load_whole Head.isRec rfl _ rfl gY (by with_unfolding_all exact rfl) _ _ (Head.len _) Y5.out ?_) | (with_reducible refine wpList_load_whole Heaf.isRec rfl _ rfl gZ (by with_unfolding_all exact rfl) _ _ (Heaf.len _) Z5.out ?_) | (with_reducible refine wpList_store_whole rfl 32 _ _ rfl gZ (Heaf.enc oh).toArray (by with_unfolding_all exact rfl) (by with_unfolding_all exact rfl) _ _ Z5.out (Heaf.size _) rfl (Heaf.one _) ?_))
        intro w6 q6 x6 z6
        have Z6 : Hid (Heaf.At w6 gZ oh) := Lib.hid x6
        have D6 : Hid (Since w1 w6) := Lib.hid (D5.out.far q6 L_D_Z.out)
        have Y6 : Hid (Head.At w6 gY oh) := Lib.hid (grown_far Y5.out q6 (by have := N_Y_Z.out; omega))
        have F6 : Hid (Since w4 w6) := Lib.hid (F5.out.far q6 L_F_Z.out)
        have B6 := Lib.hid (B5.out.grown q6 B5.out.size (fun k hk => by injection hk with hk; have := M_Z.out; omega))
        clear q6 x6 z6 Z5 D5 Y5 F5 B5
        clear CA CB p0 p1 p2
        have r1 := conv_bytes (L0.out.below D6.out.b)
        have r2 := conv_bytes (M0.out.below F6.out.b)
        go_wp2_with (first | (with_reducible refine wpList_load_whole Head.isRec rfl _ rfl gY (by with_unfolding_all exact rfl) _ _ (Head.len _) Y6.out ?_) | (with_reducible refine wpList_load_whole Heaf.isRec rfl _ rfl gZ (by with_unfolding_all exact rfl) _ _ (Heaf.len _) Z6.out ?_) | (first | (with_reducible refine wpList_eq_rec Heaf.isRec rfl _ _ rfl (Heaf.enc oh) (Heaf.enc oh) (Heaf.fits _) (Heaf.fits _) (by with_unfolding_all exact rfl) (by with_unfolding_all exact rfl) true (eqCells_refl (Heaf.fits _)).symm ?_) | (with_reducible refine wpList_eq_rec_w Heaf.isRec (by kernel_rfl) _ _ rfl (Heaf.enc oh) (Heaf.enc oh) (Heaf.fits _) (Heaf.fits _) (by with_unfolding_all exact rfl) (by with_unfolding_all exact rfl) true (eqCells_refl (Heaf.fits _)).symm ?_)))
        refine ((CW w6 (T0.out.below B6.out T0.out.pos) (P0.out.below B6.out)).out).mono ?_
        rintro e7 w7 ⟨rfl, b7⟩
        have D7 : Hid (Since w1 w7) := Lib.hid (D6.out.below b7)
        have Y7 : Hid (Head.At w7 gY oh) := Lib.hid (Whole.below Y6.out b7 Y6.out.lt)
        have F7 : Hid (Since w4 w7) := Lib.hid (F6.out.below b7)
        have Z7 : Hid (Heaf.At w7 gZ oh) := Lib.hid (Whole.below Z6.out b7 Z6.out.lt)
        have B7 := Lib.hid (B6.out.trans (b7.mono B6.out.size))
        clear b7 D6 Y6 F6 Z6 B6
        go_wp2
        go_ret
        exact ⟨rfl, B7.out⟩
end Go.Proofs.YtmnhpkdldeifgaaGreatDoor
