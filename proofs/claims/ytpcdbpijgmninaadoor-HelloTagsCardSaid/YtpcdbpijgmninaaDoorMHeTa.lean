/- HelloTags' core: how sessions are asked for and answered, and whether tags are right, is as the document has it. -/
import Derived.Test.YtpcdbpijgmninaaDoorGbg
import Derived.Test.YtpcdbpijgmninaaDoorMHfS
namespace Go.Proofs.YtpcdbpijgmninaaDoor
set_option maxRecDepth 100000
open Go.RowKit

set_option maxRecDepth 100000 in
set_option maxHeartbeats 2000000 in
theorem helloTags_core (k : List UInt8) (x : Hel) (y : Wel) (a : Ent) (xo : x.Ok) (yo : y.Ok) (ao : a.id < 18446744073709551616) (w : World) (T : Tab w) :
    Calls Tryd.prog 3 #[.string ⟨k.toArray⟩, x.val, y.val, a.val] w fun e w' => e = .returned (.bool true) ∧ Below w.heap.size w w' := by
  have T0 := Lib.hid T
  have C0 := fun w => Lib.hid (heGreat_any k x w)
  have C2 := fun w => Lib.hid (great_any y.entry w)
  have C3 := fun w => Lib.hid (great_any a w)
  have CW := fun w T => Lib.hid (works17 w T)
  have SX := fun h => Lib.hid (greatH_small (k := k) (x := x) h)
  have SY := fun h => Lib.hid (greatB_small (a := y.entry) h)
  have SA := fun h => Lib.hid (greatB_small (a := a) h)
  obtain ⟨b0, h0⟩ : ∃ b, b = greatH k x := ⟨_, rfl⟩
  obtain ⟨b1, h1⟩ : ∃ b, b = decide (300 < y.tag.length) := ⟨_, rfl⟩
  obtain ⟨b2, h2⟩ : ∃ b, b = greatB y.entry := ⟨_, rfl⟩
  obtain ⟨b3, h3⟩ : ∃ b, b = greatB a := ⟨_, rfl⟩
  simp only [← h0] at C0
  simp only [← h2] at C2
  simp only [← h3] at C3
  have p1 : decide ((300 : Int) < (y.tag.length : Int)) = b1 := by rw [h1, Bool.eq_iff_iff, decide_eq_true_eq, decide_eq_true_eq]; omega
  have HB := Lib.hid (And.intro h0 (And.intro h1 (And.intro h2 h3)))
  have XO := Lib.hid xo
  have YO := Lib.hid yo
  have AO := Lib.hid ao
  clear T h0 h1 h2 h3 xo yo ao
  go_enter Tryd.func3, Tryd.ntmps3
  go_wp2_with (refine wpList_box_row rfl 26 _ rfl x.enc.toArray (by with_unfolding_all exact rfl) ?_)
  intro w1 b1 x1 z1
  obtain ⟨gX, hgX⟩ : ∃ g, g = w.heap.size := ⟨_, rfl⟩
  have M_X := Lib.hid (show w.heap.size ≤ gX from by rw [hgX]; exact Nat.le_refl _)
  have B1 := Lib.hid b1
  rw [← hgX] at x1 ⊢
  have X1 : Hid (Hel.At w1 gX x) := Lib.hid x1
  clear b1 x1 z1 hgX 
  go_wp2_with (first | (with_reducible refine wpList_load_whole Hel.isRec rfl _ rfl gX (by with_unfolding_all exact rfl) _ _ (Hel.len _) X1.out ?_) | (with_reducible refine wpList_load_rec Ent.isRec rfl _ rfl gX 2 (by with_unfolding_all exact rfl) _ (Ent.len _) (Hel.At.part_entry X1.out) ?_) | (refine wpList_box_row rfl 28 _ rfl y.enc.toArray (by with_unfolding_all exact rfl) ?_))
  intro w2 b2 x2 z2
  obtain ⟨gY, hgY⟩ : ∃ g, g = w1.heap.size := ⟨_, rfl⟩
  have N_X_Y := Lib.hid (show gX < gY from by rw [hgY]; exact X1.out.lt)
  have M_Y := Lib.hid (show w.heap.size ≤ gY from by rw [hgY]; exact B1.out.size)
  have X2 : Hid (Hel.At w2 gX x) := Lib.hid (Whole.below X1.out b2 X1.out.lt)
  have B2 := Lib.hid (B1.out.trans (b2.mono B1.out.size))
  rw [← hgY] at x2 ⊢
  have Y2 : Hid (Wel.At w2 gY y) := Lib.hid x2
  clear b2 x2 z2 hgY X1 B1
  go_wp2_with (first | (with_reducible refine wpList_load_whole Hel.isRec rfl _ rfl gX (by with_unfolding_all exact rfl) _ _ (Hel.len _) X2.out ?_) | (with_reducible refine wpList_load_rec Ent.isRec rfl _ rfl gX 2 (by with_unfolding_all exact rfl) _ (Ent.len _) (Hel.At.part_entry X2.out) ?_) | (with_reducible refine wpList_load_whole Wel.isRec rfl _ rfl gY (by with_unfolding_all exact rfl) _ _ (Wel.len _) Y2.out ?_) | (with_reducible refine wpList_load_rec Ent.isRec rfl _ rfl gY 2 (by with_unfolding_all exact rfl) _ (Ent.len _) (Wel.At.part_entry Y2.out) ?_) | (refine wpList_box_row rfl 24 _ rfl a.enc.toArray (by with_unfolding_all exact rfl) ?_))
  intro w3 b3 x3 z3
  obtain ⟨gA, hgA⟩ : ∃ g, g = w2.heap.size := ⟨_, rfl⟩
  have N_X_A := Lib.hid (show gX < gA from by rw [hgA]; exact X2.out.lt)
  have N_Y_A := Lib.hid (show gY < gA from by rw [hgA]; exact Y2.out.lt)
  have M_A := Lib.hid (show w.heap.size ≤ gA from by rw [hgA]; exact B2.out.size)
  have X3 : Hid (Hel.At w3 gX x) := Lib.hid (Whole.below X2.out b3 X2.out.lt)
  have Y3 : Hid (Wel.At w3 gY y) := Lib.hid (Whole.below Y2.out b3 Y2.out.lt)
  have B3 := Lib.hid (B2.out.trans (b3.mono B2.out.size))
  rw [← hgA] at x3 ⊢
  have A3 : Hid (Ent.At w3 gA a) := Lib.hid x3
  clear b3 x3 z3 hgA X2 Y2 B2
  go_wp2_with (first | (with_reducible refine wpList_load_whole Hel.isRec rfl _ rfl gX (by with_unfolding_all exact rfl) _ _ (Hel.len _) X3.out ?_) | (with_reducible refine wpList_load_rec Ent.isRec rfl _ rfl gX 2 (by with_unfolding_all exact rfl) _ (Ent.len _) (Hel.At.part_entry X3.out) ?_) | (with_reducible refine wpList_load_whole Wel.isRec rfl _ rfl gY (by with_unfolding_all exact rfl) _ _ (Wel.len _) Y3.out ?_) | (with_reducible refine wpList_load_rec Ent.isRec rfl _ rfl gY 2 (by with_unfolding_all exact rfl) _ (Ent.len _) (Wel.At.part_entry Y3.out) ?_) | (with_reducible refine wpList_load_whole Ent.isRec rfl _ rfl gA (by with_unfolding_all exact rfl) _ _ (Ent.len _) A3.out ?_))
  refine ((C0 w3).out).mono ?_
  rintro e4 w4 ⟨rfl, b4⟩
  have X4 : Hid (Hel.At w4 gX x) := Lib.hid (Whole.below X3.out b4 X3.out.lt)
  have Y4 : Hid (Wel.At w4 gY y) := Lib.hid (Whole.below Y3.out b4 Y3.out.lt)
  have A4 : Hid (Ent.At w4 gA a) := Lib.hid (Whole.below A3.out b4 A3.out.lt)
  have B4 := Lib.hid (B3.out.trans (b4.mono B3.out.size))
  clear b4 X3 Y3 A3 B3
  clear C0
  cases b0 with
  | true =>
    go_wp2_with (first | (with_reducible refine wpList_load_whole Hel.isRec rfl _ rfl gX (by with_unfolding_all exact rfl) _ _ (Hel.len _) X4.out ?_) | (with_reducible refine wpList_load_rec Ent.isRec rfl _ rfl gX 2 (by with_unfolding_all exact rfl) _ (Ent.len _) (Hel.At.part_entry X4.out) ?_) | (with_reducible refine wpList_load_whole Wel.isRec rfl _ rfl gY (by with_unfolding_all exact rfl) _ _ (Wel.len _) Y4.out ?_) | (with_reducible refine wpList_load_rec Ent.isRec rfl _ rfl gY 2 (by with_unfolding_all exact rfl) _ (Ent.len _) (Wel.At.part_entry Y4.out) ?_) | (with_reducible refine wpList_load_whole Ent.isRec rfl _ rfl gA (by with_unfolding_all exact rfl) _ _ (Ent.len _) A4.out ?_))
    refine ((CW w4 (T0.out.below B4.out T0.out.pos)).out).mono ?_
    rintro e5 w5 ⟨rfl, b5⟩
    have X5 : Hid (Hel.At w5 gX x) := Lib.hid (Whole.below X4.out b5 X4.out.lt)
    have Y5 : Hid (Wel.At w5 gY y) := Lib.hid (Whole.below Y4.out b5 Y4.out.lt)
    have A5 : Hid (Ent.At w5 gA a) := Lib.hid (Whole.below A4.out b5 A4.out.lt)
    have B5 := Lib.hid (B4.out.trans (b5.mono B4.out.size))
    clear b5 X4 Y4 A4 B4
    go_wp2
    go_ret
    exact ⟨rfl, B5.out⟩
  | false =>
    have c1 := Wel.At.at_tag Y4.out
    cases b1 with
    | true =>
      go_wp2_with (first | (with_reducible refine wpList_load_whole Hel.isRec rfl _ rfl gX (by with_unfolding_all exact rfl) _ _ (Hel.len _) X4.out ?_) | (with_reducible refine wpList_load_rec Ent.isRec rfl _ rfl gX 2 (by with_unfolding_all exact rfl) _ (Ent.len _) (Hel.At.part_entry X4.out) ?_) | (with_reducible refine wpList_load_whole Wel.isRec rfl _ rfl gY (by with_unfolding_all exact rfl) _ _ (Wel.len _) Y4.out ?_) | (with_reducible refine wpList_load_rec Ent.isRec rfl _ rfl gY 2 (by with_unfolding_all exact rfl) _ (Ent.len _) (Wel.At.part_entry Y4.out) ?_) | (with_reducible refine wpList_load_whole Ent.isRec rfl _ rfl gA (by with_unfolding_all exact rfl) _ _ (Ent.len _) A4.out ?_))
      refine ((CW w4 (T0.out.below B4.out T0.out.pos)).out).mono ?_
      rintro e5 w5 ⟨rfl, b5⟩
      have X5 : Hid (Hel.At w5 gX x) := Lib.hid (Whole.below X4.out b5 X4.out.lt)
      have Y5 : Hid (Wel.At w5 gY y) := Lib.hid (Whole.below Y4.out b5 Y4.out.lt)
      have A5 : Hid (Ent.At w5 gA a) := Lib.hid (Whole.below A4.out b5 A4.out.lt)
      have B5 := Lib.hid (B4.out.trans (b5.mono B4.out.size))
      clear b5 X4 Y4 A4 B4
      go_wp2
      go_ret
      exact ⟨rfl, B5.out⟩
    | false =>
      go_wp2_with (first | (with_reducible refine wpList_load_whole Hel.isRec rfl _ rfl gX (by with_unfolding_all exact rfl) _ _ (Hel.len _) X4.out ?_) | (with_reducible refine wpList_load_rec Ent.isRec rfl _ rfl gX 2 (by with_unfolding_all exact rfl) _ (Ent.len _) (Hel.At.part_entry X4.out) ?_) | (with_reducible refine wpList_load_whole Wel.isRec rfl _ rfl gY (by with_unfolding_all exact rfl) _ _ (Wel.len _) Y4.out ?_) | (with_reducible refine wpList_load_rec Ent.isRec rfl _ rfl gY 2 (by with_unfolding_all exact rfl) _ (Ent.len _) (Wel.At.part_entry Y4.out) ?_) | (with_reducible refine wpList_load_whole Ent.isRec rfl _ rfl gA (by with_unfolding_all exact rfl) _ _ (Ent.len _) A4.out ?_) | (with_reducible refine wpList_load_rec_w Ent.isRec (by kernel_rfl) _ rfl gY 2 (by with_unfolding_all exact rfl) _ (Ent.len _) (Wel.At.part_entry Y4.out) ?_))
      refine ((C2 w4).out).mono ?_
      rintro e5 w5 ⟨rfl, b5⟩
      have X5 : Hid (Hel.At w5 gX x) := Lib.hid (Whole.below X4.out b5 X4.out.lt)
      have Y5 : Hid (Wel.At w5 gY y) := Lib.hid (Whole.below Y4.out b5 Y4.out.lt)
      have A5 : Hid (Ent.At w5 gA a) := Lib.hid (Whole.below A4.out b5 A4.out.lt)
      have B5 := Lib.hid (B4.out.trans (b5.mono B4.out.size))
      clear b5 X4 Y4 A4 B4
      clear C2 c1
      cases b2 with
      | true =>
        go_wp2_with (first | (with_reducible refine wpList_load_whole Hel.isRec rfl _ rfl gX (by with_unfolding_all exact rfl) _ _ (Hel.len _) X5.out ?_) | (with_reducible refine wpList_load_rec Ent.isRec rfl _ rfl gX 2 (by with_unfolding_all exact rfl) _ (Ent.len _) (Hel.At.part_entry X5.out) ?_) | (with_reducible refine wpList_load_whole Wel.isRec rfl _ rfl gY (by with_unfolding_all exact rfl) _ _ (Wel.len _) Y5.out ?_) | (with_reducible refine wpList_load_rec Ent.isRec rfl _ rfl gY 2 (by with_unfolding_all exact rfl) _ (Ent.len _) (Wel.At.part_entry Y5.out) ?_) | (with_reducible refine wpList_load_whole Ent.isRec rfl _ rfl gA (by with_unfolding_all exact rfl) _ _ (Ent.len _) A5.out ?_))
        refine ((CW w5 (T0.out.below B5.out T0.out.pos)).out).mono ?_
        rintro e6 w6 ⟨rfl, b6⟩
        have X6 : Hid (Hel.At w6 gX x) := Lib.hid (Whole.below X5.out b6 X5.out.lt)
        have Y6 : Hid (Wel.At w6 gY y) := Lib.hid (Whole.below Y5.out b6 Y5.out.lt)
        have A6 : Hid (Ent.At w6 gA a) := Lib.hid (Whole.below A5.out b6 A5.out.lt)
        have B6 := Lib.hid (B5.out.trans (b6.mono B5.out.size))
        clear b6 X5 Y5 A5 B5
        go_wp2
        go_ret
        exact ⟨rfl, B6.out⟩
      | false =>
        go_wp2_with (first | (with_reducible refine wpList_load_whole Hel.isRec rfl _ rfl gX (by with_unfolding_all exact rfl) _ _ (Hel.len _) X5.out ?_) | (with_reducible refine wpList_load_rec Ent.isRec rfl _ rfl gX 2 (by with_unfolding_all exact rfl) _ (Ent.len _) (Hel.At.part_entry X5.out) ?_) | (with_reducible refine wpList_load_whole Wel.isRec rfl _ rfl gY (by with_unfolding_all exact rfl) _ _ (Wel.len _) Y5.out ?_) | (with_reducible refine wpList_load_rec Ent.isRec rfl _ rfl gY 2 (by with_unfolding_all exact rfl) _ (Ent.len _) (Wel.At.part_entry Y5.out) ?_) | (with_reducible refine wpList_load_whole Ent.isRec rfl _ rfl gA (by with_unfolding_all exact rfl) _ _ (Ent.len _) A5.out ?_) | (with_reducible refine wpList_load_whole_w Ent.isRec (by kernel_rfl) _ rfl gA (by with_unfolding_all exact rfl) _ _ (Ent.len _) A5.out ?_))
        refine ((C3 w5).out).mono ?_
        rintro e6 w6 ⟨rfl, b6⟩
        have X6 : Hid (Hel.At w6 gX x) := Lib.hid (Whole.below X5.out b6 X5.out.lt)
        have Y6 : Hid (Wel.At w6 gY y) := Lib.hid (Whole.below Y5.out b6 Y5.out.lt)
        have A6 : Hid (Ent.At w6 gA a) := Lib.hid (Whole.below A5.out b6 A5.out.lt)
        have B6 := Lib.hid (B5.out.trans (b6.mono B5.out.size))
        clear b6 X5 Y5 A5 B5
        clear C3
        cases b3 with
        | true =>
          go_wp2_with (first | (with_reducible refine wpList_load_whole Hel.isRec rfl _ rfl gX (by with_unfolding_all exact rfl) _ _ (Hel.len _) X6.out ?_) | (with_reducible refine wpList_load_rec Ent.isRec rfl _ rfl gX 2 (by with_unfolding_all exact rfl) _ (Ent.len _) (Hel.At.part_entry X6.out) ?_) | (with_reducible refine wpList_load_whole Wel.isRec rfl _ rfl gY (by with_unfolding_all exact rfl) _ _ (Wel.len _) Y6.out ?_) | (with_reducible refine wpList_load_rec Ent.isRec rfl _ rfl gY 2 (by with_unfolding_all exact rfl) _ (Ent.len _) (Wel.At.part_entry Y6.out) ?_) | (with_reducible refine wpList_load_whole Ent.isRec rfl _ rfl gA (by with_unfolding_all exact rfl) _ _ (Ent.len _) A6.out ?_))
          refine ((CW w6 (T0.out.below B6.out T0.out.pos)).out).mono ?_
          rintro e7 w7 ⟨rfl, b7⟩
          have X7 : Hid (Hel.At w7 gX x) := Lib.hid (Whole.below X6.out b7 X6.out.lt)
          have Y7 : Hid (Wel.At w7 gY y) := Lib.hid (Whole.below Y6.out b7 Y6.out.lt)
          have A7 : Hid (Ent.At w7 gA a) := Lib.hid (Whole.below A6.out b7 A6.out.lt)
          have B7 := Lib.hid (B6.out.trans (b7.mono B6.out.size))
          clear b7 X6 Y6 A6 B6
          go_wp2
          go_ret
          exact ⟨rfl, B7.out⟩
        | false =>
          obtain ⟨k1, d1, x1, x2, x3⟩ := (SX HB.out.1.symm).out
          obtain ⟨y2, y3⟩ := (SY HB.out.2.2.1.symm).out
          obtain ⟨a2, a3⟩ := (SA HB.out.2.2.2.symm).out
          have y1 : y.tag.length ≤ 1000 := by
            have q := HB.out.2.1
            simp at q
            omega
          have CG := fun w T => Lib.hid (heGreet_any k x.dest x.nonce x.entry w (by omega) d1 (by omega) (by omega) T)
          have CGf := fun w => Lib.hid (hfGreet_any k x.dest x.nonce x.entry w (by omega) d1 XO.out.nonce_ok x2 x3 XO.out.entry_id_ok)
          have CA := fun w T => Lib.hid (heAnswer_any k x y.snd y.entry w (by omega) x2 x3 y2 y3 T)
          have CAf := fun w => Lib.hid (hfAnswer_any k x y.snd y.entry w (by omega) XO.out.nonce_ok YO.out.snd_ok x2 x3 XO.out.entry_id_ok y2 y3 YO.out.entry_id_ok)
          have CC := fun w T => Lib.hid (heChecks_any k x w (by omega) d1 x2 x3 (by omega) T)
          have CCf := fun w => Lib.hid (hfChecks_any k x w (by omega) d1 XO.out.nonce_ok x2 x3 XO.out.entry_id_ok)
          have CV := fun w T => Lib.hid (heAgrees_any k y a w (by omega) y2 y3 a2 a3 (by omega) T)
          have CVf := fun w => Lib.hid (hfAgrees_any k y a w (by omega) YO.out.fst_ok YO.out.snd_ok a2 a3 AO.out y2 y3 YO.out.entry_id_ok)
          clear SX SY SA HB XO YO AO k1 d1 x1 x2 x3 y1 y2 y3 a2 a3 p1
          generalize greetH k x.dest x.nonce x.entry = R at *
          generalize answerW k x y.snd y.entry = S at *
          generalize checksB k x = q at *
          generalize agreesB k y a = p at *
          have c1 := Hel.At.at_dest X6.out
          have c2 := Hel.At.at_nonce X6.out
          go_wp2_with (first | (with_reducible refine wpList_load_whole Hel.isRec rfl _ rfl gX (by with_unfolding_all exact rfl) _ _ (Hel.len _) X6.out ?_) | (with_reducible refine wpList_load_rec Ent.isRec rfl _ rfl gX 2 (by with_unfolding_all exact rfl) _ (Ent.len _) (Hel.At.part_entry X6.out) ?_) | (with_reducible refine wpList_load_whole Wel.isRec rfl _ rfl gY (by with_unfolding_all exact rfl) _ _ (Wel.len _) Y6.out ?_) | (with_reducible refine wpList_load_rec Ent.isRec rfl _ rfl gY 2 (by with_unfolding_all exact rfl) _ (Ent.len _) (Wel.At.part_entry Y6.out) ?_) | (with_reducible refine wpList_load_whole Ent.isRec rfl _ rfl gA (by with_unfolding_all exact rfl) _ _ (Ent.len _) A6.out ?_))
          refine ((CG w6 (T0.out.below B6.out T0.out.pos)).out).mono ?_
          rintro e7 w7 ⟨rfl, b7⟩
          have X7 : Hid (Hel.At w7 gX x) := Lib.hid (Whole.below X6.out b7 X6.out.lt)
          have Y7 : Hid (Wel.At w7 gY y) := Lib.hid (Whole.below Y6.out b7 Y6.out.lt)
          have A7 : Hid (Ent.At w7 gA a) := Lib.hid (Whole.below A6.out b7 A6.out.lt)
          have B7 := Lib.hid (B6.out.trans (b7.mono B6.out.size))
          clear b7 X6 Y6 A6 B6
          clear c1 c2
          go_wp2_with (first | (with_reducible refine wpList_load_whole Hel.isRec rfl _ rfl gX (by with_unfolding_all exact rfl) _ _ (Hel.len _) X7.out ?_) | (with_reducible refine wpList_load_rec Ent.isRec rfl _ rfl gX 2 (by with_unfolding_all exact rfl) _ (Ent.len _) (Hel.At.part_entry X7.out) ?_) | (with_reducible refine wpList_load_whole Wel.isRec rfl _ rfl gY (by with_unfolding_all exact rfl) _ _ (Wel.len _) Y7.out ?_) | (with_reducible refine wpList_load_rec Ent.isRec rfl _ rfl gY 2 (by with_unfolding_all exact rfl) _ (Ent.len _) (Wel.At.part_entry Y7.out) ?_) | (with_reducible refine wpList_load_whole Ent.isRec rfl _ rfl gA (by with_unfolding_all exact rfl) _ _ (Ent.len _) A7.out ?_) | (refine wpList_alloc_row rfl 26 rfl Hel.zero.enc.toArray Hel.zero_is ?_))
          intro w8 b8 x8 z8
          obtain ⟨gG, hgG⟩ : ∃ g, g = w7.heap.size := ⟨_, rfl⟩
          have N_X_G := Lib.hid (show gX < gG from by rw [hgG]; exact X7.out.lt)
          have N_Y_G := Lib.hid (show gY < gG from by rw [hgG]; exact Y7.out.lt)
          have N_A_G := Lib.hid (show gA < gG from by rw [hgG]; exact A7.out.lt)
          have M_G := Lib.hid (show w.heap.size ≤ gG from by rw [hgG]; exact B7.out.size)
          have X8 : Hid (Hel.At w8 gX x) := Lib.hid (Whole.below X7.out b8 X7.out.lt)
          have Y8 : Hid (Wel.At w8 gY y) := Lib.hid (Whole.below Y7.out b8 Y7.out.lt)
          have A8 : Hid (Ent.At w8 gA a) := Lib.hid (Whole.below A7.out b8 A7.out.lt)
          have B8 := Lib.hid (B7.out.trans (b8.mono B7.out.size))
          rw [← hgG] at x8 ⊢
          have G8 : Hid (Hel.At w8 gG Hel.zero) := Lib.hid x8
          clear b8 x8 z8 hgG X7 Y7 A7 B7
          go_wp2_with (first | (with_reducible refine wpList_load_whole Hel.isRec rfl _ rfl gX (by with_unfolding_all exact rfl) _ _ (Hel.len _) X8.out ?_) | (with_reducible refine wpList_load_rec Ent.isRec rfl _ rfl gX 2 (by with_unfolding_all exact rfl) _ (Ent.len _) (Hel.At.part_entry X8.out) ?_) | (with_reducible refine wpList_load_whole Wel.isRec rfl _ rfl gY (by with_unfolding_all exact rfl) _ _ (Wel.len _) Y8.out ?_) | (with_reducible refine wpList_load_rec Ent.isRec rfl _ rfl gY 2 (by with_unfolding_all exact rfl) _ (Ent.len _) (Wel.At.part_entry Y8.out) ?_) | (with_reducible refine wpList_load_whole Ent.isRec rfl _ rfl gA (by with_unfolding_all exact rfl) _ _ (Ent.len _) A8.out ?_) | (with_reducible refine wpList_load_whole Hel.isRec rfl _ rfl gG (by with_unfolding_all exact rfl) _ _ (Hel.len _) G8.out ?_) | (with_reducible refine wpList_load_rec Ent.isRec rfl _ rfl gG 2 (by with_unfolding_all exact rfl) _ (Ent.len _) (Hel.At.part_entry G8.out) ?_) | (with_reducible refine wpList_store_whole rfl 26 _ _ rfl gG R.enc.toArray (by with_unfolding_all exact rfl) (by with_unfolding_all exact rfl) _ _ G8.out (Hel.size _) rfl (Hel.one _) ?_))
          intro w9 q9 x9 z9
          have G9 : Hid (Hel.At w9 gG R) := Lib.hid x9
          have X9 : Hid (Hel.At w9 gX x) := Lib.hid (grown_far X8.out q9 (by have := N_X_G.out; omega))
          have Y9 : Hid (Wel.At w9 gY y) := Lib.hid (grown_far Y8.out q9 (by have := N_Y_G.out; omega))
          have A9 : Hid (Ent.At w9 gA a) := Lib.hid (grown_far A8.out q9 (by have := N_A_G.out; omega))
          have B9 := Lib.hid (B8.out.grown q9 B8.out.size (fun k hk => by injection hk with hk; have := M_G.out; omega))
          clear q9 x9 z9 G8 X8 Y8 A8 B8
          have c1 := Wel.At.at_snd Y9.out
          go_wp2_with (first | (with_reducible refine wpList_load_whole Hel.isRec rfl _ rfl gX (by with_unfolding_all exact rfl) _ _ (Hel.len _) X9.out ?_) | (with_reducible refine wpList_load_rec Ent.isRec rfl _ rfl gX 2 (by with_unfolding_all exact rfl) _ (Ent.len _) (Hel.At.part_entry X9.out) ?_) | (with_reducible refine wpList_load_whole Wel.isRec rfl _ rfl gY (by with_unfolding_all exact rfl) _ _ (Wel.len _) Y9.out ?_) | (with_reducible refine wpList_load_rec Ent.isRec rfl _ rfl gY 2 (by with_unfolding_all exact rfl) _ (Ent.len _) (Wel.At.part_entry Y9.out) ?_) | (with_reducible refine wpList_load_whole Ent.isRec rfl _ rfl gA (by with_unfolding_all exact rfl) _ _ (Ent.len _) A9.out ?_) | (with_reducible refine wpList_load_whole Hel.isRec rfl _ rfl gG (by with_unfolding_all exact rfl) _ _ (Hel.len _) G9.out ?_) | (with_reducible refine wpList_load_rec Ent.isRec rfl _ rfl gG 2 (by with_unfolding_all exact rfl) _ (Ent.len _) (Hel.At.part_entry G9.out) ?_))
          refine ((CA w9 (T0.out.below B9.out T0.out.pos)).out).mono ?_
          rintro e10 w10 ⟨rfl, b10⟩
          have X10 : Hid (Hel.At w10 gX x) := Lib.hid (Whole.below X9.out b10 X9.out.lt)
          have Y10 : Hid (Wel.At w10 gY y) := Lib.hid (Whole.below Y9.out b10 Y9.out.lt)
          have A10 : Hid (Ent.At w10 gA a) := Lib.hid (Whole.below A9.out b10 A9.out.lt)
          have G10 : Hid (Hel.At w10 gG R) := Lib.hid (Whole.below G9.out b10 G9.out.lt)
          have B10 := Lib.hid (B9.out.trans (b10.mono B9.out.size))
          clear b10 X9 Y9 A9 G9 B9
          clear c1
          go_wp2_with (first | (with_reducible refine wpList_load_whole Hel.isRec rfl _ rfl gX (by with_unfolding_all exact rfl) _ _ (Hel.len _) X10.out ?_) | (with_reducible refine wpList_load_rec Ent.isRec rfl _ rfl gX 2 (by with_unfolding_all exact rfl) _ (Ent.len _) (Hel.At.part_entry X10.out) ?_) | (with_reducible refine wpList_load_whole Wel.isRec rfl _ rfl gY (by with_unfolding_all exact rfl) _ _ (Wel.len _) Y10.out ?_) | (with_reducible refine wpList_load_rec Ent.isRec rfl _ rfl gY 2 (by with_unfolding_all exact rfl) _ (Ent.len _) (Wel.At.part_entry Y10.out) ?_) | (with_reducible refine wpList_load_whole Ent.isRec rfl _ rfl gA (by with_unfolding_all exact rfl) _ _ (Ent.len _) A10.out ?_) | (with_reducible refine wpList_load_whole Hel.isRec rfl _ rfl gG (by with_unfolding_all exact rfl) _ _ (Hel.len _) G10.out ?_) | (with_reducible refine wpList_load_rec Ent.isRec rfl _ rfl gG 2 (by with_unfolding_all exact rfl) _ (Ent.len _) (Hel.At.part_entry G10.out) ?_) | (refine wpList_alloc_row rfl 28 rfl Wel.zero.enc.toArray Wel.zero_is ?_))
          intro w11 b11 x11 z11
          obtain ⟨gV, hgV⟩ : ∃ g, g = w10.heap.size := ⟨_, rfl⟩
          have N_X_V := Lib.hid (show gX < gV from by rw [hgV]; exact X10.out.lt)
          have N_Y_V := Lib.hid (show gY < gV from by rw [hgV]; exact Y10.out.lt)
          have N_A_V := Lib.hid (show gA < gV from by rw [hgV]; exact A10.out.lt)
          have N_G_V := Lib.hid (show gG < gV from by rw [hgV]; exact G10.out.lt)
          have M_V := Lib.hid (show w.heap.size ≤ gV from by rw [hgV]; exact B10.out.size)
          have X11 : Hid (Hel.At w11 gX x) := Lib.hid (Whole.below X10.out b11 X10.out.lt)
          have Y11 : Hid (Wel.At w11 gY y) := Lib.hid (Whole.below Y10.out b11 Y10.out.lt)
          have A11 : Hid (Ent.At w11 gA a) := Lib.hid (Whole.below A10.out b11 A10.out.lt)
          have G11 : Hid (Hel.At w11 gG R) := Lib.hid (Whole.below G10.out b11 G10.out.lt)
          have B11 := Lib.hid (B10.out.trans (b11.mono B10.out.size))
          rw [← hgV] at x11 ⊢
          have V11 : Hid (Wel.At w11 gV Wel.zero) := Lib.hid x11
          clear b11 x11 z11 hgV X10 Y10 A10 G10 B10
          go_wp2_with (first | (with_reducible refine wpList_load_whole Hel.isRec rfl _ rfl gX (by with_unfolding_all exact rfl) _ _ (Hel.len _) X11.out ?_) | (with_reducible refine wpList_load_rec Ent.isRec rfl _ rfl gX 2 (by with_unfolding_all exact rfl) _ (Ent.len _) (Hel.At.part_entry X11.out) ?_) | (with_reducible refine wpList_load_whole Wel.isRec rfl _ rfl gY (by with_unfolding_all exact rfl) _ _ (Wel.len _) Y11.out ?_) | (with_reducible refine wpList_load_rec Ent.isRec rfl _ rfl gY 2 (by with_unfolding_all exact rfl) _ (Ent.len _) (Wel.At.part_entry Y11.out) ?_) | (with_reducible refine wpList_load_whole Ent.isRec rfl _ rfl gA (by with_unfolding_all exact rfl) _ _ (Ent.len _) A11.out ?_) | (with_reducible refine wpList_load_whole Hel.isRec rfl _ rfl gG (by with_unfolding_all exact rfl) _ _ (Hel.len _) G11.out ?_) | (with_reducible refine wpList_load_rec Ent.isRec rfl _ rfl gG 2 (by with_unfolding_all exact rfl) _ (Ent.len _) (Hel.At.part_entry G11.out) ?_) | (with_reducible refine wpList_load_whole Wel.isRec rfl _ rfl gV (by with_unfolding_all exact rfl) _ _ (Wel.len _) V11.out ?_) | (with_reducible refine wpList_load_rec Ent.isRec rfl _ rfl gV 2 (by with_unfolding_all exact rfl) _ (Ent.len _) (Wel.At.part_entry V11.out) ?_) | (with_reducible refine wpList_store_whole rfl 28 _ _ rfl gV S.enc.toArray (by with_unfolding_all exact rfl) (by with_unfolding_all exact rfl) _ _ V11.out (Wel.size _) rfl (Wel.one _) ?_))
          intro w12 q12 x12 z12
          have V12 : Hid (Wel.At w12 gV S) := Lib.hid x12
          have X12 : Hid (Hel.At w12 gX x) := Lib.hid (grown_far X11.out q12 (by have := N_X_V.out; omega))
          have Y12 : Hid (Wel.At w12 gY y) := Lib.hid (grown_far Y11.out q12 (by have := N_Y_V.out; omega))
          have A12 : Hid (Ent.At w12 gA a) := Lib.hid (grown_far A11.out q12 (by have := N_A_V.out; omega))
          have G12 : Hid (Hel.At w12 gG R) := Lib.hid (grown_far G11.out q12 (by have := N_G_V.out; omega))
          have B12 := Lib.hid (B11.out.grown q12 B11.out.size (fun k hk => by injection hk with hk; have := M_V.out; omega))
          clear q12 x12 z12 V11 X11 Y11 A11 G11 B11
          go_wp2_with (first | (with_reducible refine wpList_load_whole Hel.isRec rfl _ rfl gX (by with_unfolding_all exact rfl) _ _ (Hel.len _) X12.out ?_) | (with_reducible refine wpList_load_rec Ent.isRec rfl _ rfl gX 2 (by with_unfolding_all exact rfl) _ (Ent.len _) (Hel.At.part_entry X12.out) ?_) | (with_reducible refine wpList_load_whole Wel.isRec rfl _ rfl gY (by with_unfolding_all exact rfl) _ _ (Wel.len _) Y12.out ?_) | (with_reducible refine wpList_load_rec Ent.isRec rfl _ rfl gY 2 (by with_unfolding_all exact rfl) _ (Ent.len _) (Wel.At.part_entry Y12.out) ?_) | (with_reducible refine wpList_load_whole Ent.isRec rfl _ rfl gA (by with_unfolding_all exact rfl) _ _ (Ent.len _) A12.out ?_) | (with_reducible refine wpList_load_whole Hel.isRec rfl _ rfl gG (by with_unfolding_all exact rfl) _ _ (Hel.len _) G12.out ?_) | (with_reducible refine wpList_load_rec Ent.isRec rfl _ rfl gG 2 (by with_unfolding_all exact rfl) _ (Ent.len _) (Hel.At.part_entry G12.out) ?_) | (with_reducible refine wpList_load_whole Wel.isRec rfl _ rfl gV (by with_unfolding_all exact rfl) _ _ (Wel.len _) V12.out ?_) | (with_reducible refine wpList_load_rec Ent.isRec rfl _ rfl gV 2 (by with_unfolding_all exact rfl) _ (Ent.len _) (Wel.At.part_entry V12.out) ?_))
          refine reg_begin (by kernel_rfl) fun w13 b13 z13 => ?_
          have X13 : Hid (Hel.At w13 gX x) := Lib.hid (Whole.below X12.out b13 X12.out.lt)
          have Y13 : Hid (Wel.At w13 gY y) := Lib.hid (Whole.below Y12.out b13 Y12.out.lt)
          have A13 : Hid (Ent.At w13 gA a) := Lib.hid (Whole.below A12.out b13 A12.out.lt)
          have G13 : Hid (Hel.At w13 gG R) := Lib.hid (Whole.below G12.out b13 G12.out.lt)
          have V13 : Hid (Wel.At w13 gV S) := Lib.hid (Whole.below V12.out b13 V12.out.lt)
          have B13 := Lib.hid (B12.out.trans (b13.mono B12.out.size))
          clear b13 z13 X12 Y12 A12 G12 V12 B12
          refine reg_take (i := 0) (v := Hel.val (R)) rfl (by kernel_rfl) (by kernel_rfl) (by kernel_rfl) (fun _ _ _ h => h) (by rfl) ?hy0 ?_
          case hy0 => intro w' hw'; exact exec_load_whole Hel.isRec _ rfl gG rfl _ _ (Hel.len _) w' (Whole.below G13.out hw' G13.out.lt)
          simp only [Act.put, List.setIfInBounds_toArray, List.set_cons_zero, List.set_cons_succ]
          refine reg_take (i := 1) (v := ?_) rfl (by kernel_rfl) (by kernel_rfl) (by kernel_rfl) (fun _ _ _ h => h) (by rfl) ?hy1 ?_
          case hy1 => intro w' hw'; go_simp; (try with_reducible rfl)
          simp only [Act.put, List.setIfInBounds_toArray, List.set_cons_zero, List.set_cons_succ]
          refine reg_take (i := 2) (v := ?_) rfl (by kernel_rfl) (by kernel_rfl) (by kernel_rfl) (fun _ _ _ h => h) (by rfl) ?hy2 ?_
          case hy2 => intro w' hw'; go_simp; (try with_reducible rfl)
          simp only [Act.put, List.setIfInBounds_toArray, List.set_cons_zero, List.set_cons_succ]
          refine reg_take (i := 3) (v := (.string ⟨(x).dest.toArray⟩)) rfl (by kernel_rfl) (by kernel_rfl) (by kernel_rfl) (fun _ _ _ h => h) (by rfl) ?hy3 ?_
          case hy3 => intro w' hw'; have c := Hel.At.at_dest (Whole.below X13.out hw' X13.out.lt); go_simp; (try with_reducible rfl)
          simp only [Act.put, List.setIfInBounds_toArray, List.set_cons_zero, List.set_cons_succ]
          refine reg_take (i := 4) (v := ?_) rfl (by kernel_rfl) (by kernel_rfl) (by kernel_rfl) (fun _ _ _ h => h) (by rfl) ?hy4 ?_
          case hy4 => intro w' hw'; go_simp; (try with_reducible rfl)
          simp only [Act.put, List.setIfInBounds_toArray, List.set_cons_zero, List.set_cons_succ]
          refine reg_take (i := 5) (v := (.int .u64 ((x).nonce : Int))) rfl (by kernel_rfl) (by kernel_rfl) (by kernel_rfl) (fun _ _ _ h => h) (by rfl) ?hy5 ?_
          case hy5 => intro w' hw'; have c := Hel.At.at_nonce (Whole.below X13.out hw' X13.out.lt); go_simp; (try with_reducible rfl)
          simp only [Act.put, List.setIfInBounds_toArray, List.set_cons_zero, List.set_cons_succ]
          refine reg_take (i := 6) (v := ?_) rfl (by kernel_rfl) (by kernel_rfl) (by kernel_rfl) (fun _ _ _ h => h) (by rfl) ?hy6 ?_
          case hy6 => intro w' hw'; go_simp; (try with_reducible rfl)
          simp only [Act.put, List.setIfInBounds_toArray, List.set_cons_zero, List.set_cons_succ]
          refine reg_take (i := 7) (v := Ent.val (x).entry) rfl (by kernel_rfl) (by kernel_rfl) (by kernel_rfl) (fun _ _ _ h => h) (by rfl) ?hy7 ?_
          case hy7 => intro w' hw'; exact exec_load_rec Ent.isRec _ rfl gX 2 rfl _ (Ent.len _) w' (Hel.At.part_entry (Whole.below X13.out hw' X13.out.lt))
          simp only [Act.put, List.setIfInBounds_toArray, List.set_cons_zero, List.set_cons_succ]
          refine reg_call (i := 8) rfl (by kernel_rfl) (fun K' hK => ?_)
          go_simp
          refine ((CGf w13).out).mono ?_
          rintro e14 w14 ⟨rfl, b14⟩
          have X14 : Hid (Hel.At w14 gX x) := Lib.hid (Whole.below X13.out b14 X13.out.lt)
          have Y14 : Hid (Wel.At w14 gY y) := Lib.hid (Whole.below Y13.out b14 Y13.out.lt)
          have A14 : Hid (Ent.At w14 gA a) := Lib.hid (Whole.below A13.out b14 A13.out.lt)
          have G14 : Hid (Hel.At w14 gG R) := Lib.hid (Whole.below G13.out b14 G13.out.lt)
          have V14 : Hid (Wel.At w14 gV S) := Lib.hid (Whole.below V13.out b14 V13.out.lt)
          have B14 := Lib.hid (B13.out.trans (b14.mono B13.out.size))
          refine hK.out _ _ b14 ?_
          clear hK K' b14 X13 Y13 A13 G13 V13 B13
          refine reg_take (i := 9) (v := .bool true) rfl (by kernel_rfl) (by kernel_rfl) (by kernel_rfl) (fun _ _ _ h => h) (by rfl) ?hy9 ?_
          case hy9 => intro w' hw'; exact exec_eq_rec Her.isRec _ _ _ rfl (Her.enc R) (Her.enc R) (Her.fits _) (Her.fits _) rfl rfl true (eqCells_refl (Her.fits _)).symm w'
          simp only [Act.put, List.setIfInBounds_toArray, List.set_cons_zero, List.set_cons_succ]
          refine reg_take (i := 10) (v := ?_) rfl (by kernel_rfl) (by kernel_rfl) (by kernel_rfl) (fun _ _ _ h => h) (by rfl) ?hy10 ?_
          case hy10 => intro w' hw'; go_simp; (try with_reducible rfl)
          simp only [Act.put, List.setIfInBounds_toArray, List.set_cons_zero, List.set_cons_succ]
          refine reg_take (i := 11) (v := Wel.val (S)) rfl (by kernel_rfl) (by kernel_rfl) (by kernel_rfl) (fun _ _ _ h => h) (by rfl) ?hy11 ?_
          case hy11 => intro w' hw'; exact exec_load_whole Wel.isRec _ rfl gV rfl _ _ (Wel.len _) w' (Whole.below V14.out hw' V14.out.lt)
          simp only [Act.put, List.setIfInBounds_toArray, List.set_cons_zero, List.set_cons_succ]
          refine reg_take (i := 12) (v := ?_) rfl (by kernel_rfl) (by kernel_rfl) (by kernel_rfl) (fun _ _ _ h => h) (by rfl) ?hy12 ?_
          case hy12 => intro w' hw'; go_simp; (try with_reducible rfl)
          simp only [Act.put, List.setIfInBounds_toArray, List.set_cons_zero, List.set_cons_succ]
          refine reg_take (i := 13) (v := Hel.val (x)) rfl (by kernel_rfl) (by kernel_rfl) (by kernel_rfl) (fun _ _ _ h => h) (by rfl) ?hy13 ?_
          case hy13 => intro w' hw'; exact exec_load_whole Hel.isRec _ rfl gX rfl _ _ (Hel.len _) w' (Whole.below X14.out hw' X14.out.lt)
          simp only [Act.put, List.setIfInBounds_toArray, List.set_cons_zero, List.set_cons_succ]
          refine reg_take (i := 14) (v := ?_) rfl (by kernel_rfl) (by kernel_rfl) (by kernel_rfl) (fun _ _ _ h => h) (by rfl) ?hy14 ?_
          case hy14 => intro w' hw'; go_simp; (try with_reducible rfl)
          simp only [Act.put, List.setIfInBounds_toArray, List.set_cons_zero, List.set_cons_succ]
          refine reg_take (i := 15) (v := (.int .u64 ((y).snd : Int))) rfl (by kernel_rfl) (by kernel_rfl) (by kernel_rfl) (fun _ _ _ h => h) (by rfl) ?hy15 ?_
          case hy15 => intro w' hw'; have c := Wel.At.at_snd (Whole.below Y14.out hw' Y14.out.lt); go_simp; (try with_reducible rfl)
          simp only [Act.put, List.setIfInBounds_toArray, List.set_cons_zero, List.set_cons_succ]
          refine reg_take (i := 16) (v := ?_) rfl (by kernel_rfl) (by kernel_rfl) (by kernel_rfl) (fun _ _ _ h => h) (by rfl) ?hy16 ?_
          case hy16 => intro w' hw'; go_simp; (try with_reducible rfl)
          simp only [Act.put, List.setIfInBounds_toArray, List.set_cons_zero, List.set_cons_succ]
          refine reg_take (i := 17) (v := Ent.val (y).entry) rfl (by kernel_rfl) (by kernel_rfl) (by kernel_rfl) (fun _ _ _ h => h) (by rfl) ?hy17 ?_
          case hy17 => intro w' hw'; exact exec_load_rec Ent.isRec _ rfl gY 2 rfl _ (Ent.len _) w' (Wel.At.part_entry (Whole.below Y14.out hw' Y14.out.lt))
          simp only [Act.put, List.setIfInBounds_toArray, List.set_cons_zero, List.set_cons_succ]
          refine reg_call (i := 18) rfl (by kernel_rfl) (fun K' hK => ?_)
          go_simp
          refine ((CAf w14).out).mono ?_
          rintro e15 w15 ⟨rfl, b15⟩
          have X15 : Hid (Hel.At w15 gX x) := Lib.hid (Whole.below X14.out b15 X14.out.lt)
          have Y15 : Hid (Wel.At w15 gY y) := Lib.hid (Whole.below Y14.out b15 Y14.out.lt)
          have A15 : Hid (Ent.At w15 gA a) := Lib.hid (Whole.below A14.out b15 A14.out.lt)
          have G15 : Hid (Hel.At w15 gG R) := Lib.hid (Whole.below G14.out b15 G14.out.lt)
          have V15 : Hid (Wel.At w15 gV S) := Lib.hid (Whole.below V14.out b15 V14.out.lt)
          have B15 := Lib.hid (B14.out.trans (b15.mono B14.out.size))
          refine hK.out _ _ b15 ?_
          clear hK K' b15 X14 Y14 A14 G14 V14 B14
          refine reg_take (i := 19) (v := .bool true) rfl (by kernel_rfl) (by kernel_rfl) (by kernel_rfl) (fun _ _ _ h => h) (by rfl) ?hy19 ?_
          case hy19 => intro w' hw'; exact exec_eq_rec Wer.isRec _ _ _ rfl (Wer.enc S) (Wer.enc S) (Wer.fits _) (Wer.fits _) rfl rfl true (eqCells_refl (Wer.fits _)).symm w'
          simp only [Act.put, List.setIfInBounds_toArray, List.set_cons_zero, List.set_cons_succ]
          refine reg_take (i := 20) (v := ?_) rfl (by kernel_rfl) (by kernel_rfl) (by kernel_rfl) (fun _ _ _ h => h) (by rfl) ?hy20 ?_
          case hy20 => intro w' hw'; go_simp; (try with_reducible rfl)
          simp only [Act.put, List.setIfInBounds_toArray, List.set_cons_zero, List.set_cons_succ]
          refine reg_take (i := 21) (v := ?_) rfl (by kernel_rfl) (by kernel_rfl) (by kernel_rfl) (fun _ _ _ h => h) (by rfl) ?hy21 ?_
          case hy21 => intro w' hw'; go_simp; (try with_reducible rfl)
          simp only [Act.put, List.setIfInBounds_toArray, List.set_cons_zero, List.set_cons_succ]
          refine reg_take (i := 22) (v := ?_) rfl (by kernel_rfl) (by kernel_rfl) (by kernel_rfl) (fun _ _ _ h => h) (by rfl) ?hy22 ?_
          case hy22 => intro w' hw'; go_simp; (try with_reducible rfl)
          simp only [Act.put, List.setIfInBounds_toArray, List.set_cons_zero, List.set_cons_succ]
          refine reg_take (i := 23) (v := Hel.val (x)) rfl (by kernel_rfl) (by kernel_rfl) (by kernel_rfl) (fun _ _ _ h => h) (by rfl) ?hy23 ?_
          case hy23 => intro w' hw'; exact exec_load_whole Hel.isRec _ rfl gX rfl _ _ (Hel.len _) w' (Whole.below X15.out hw' X15.out.lt)
          simp only [Act.put, List.setIfInBounds_toArray, List.set_cons_zero, List.set_cons_succ]
          refine reg_take (i := 25) (v := ?_) rfl (by kernel_rfl) (by kernel_rfl) (by kernel_rfl) (fun _ _ _ h => h) (by rfl) ?hy25 ?_
          case hy25 => intro w' hw'; go_simp; (try with_reducible rfl)
          simp only [Act.put, List.setIfInBounds_toArray, List.set_cons_zero, List.set_cons_succ]
          refine reg_take (i := 26) (v := Hel.val (x)) rfl (by kernel_rfl) (by kernel_rfl) (by kernel_rfl) (fun _ _ _ h => h) (by rfl) ?hy26 ?_
          case hy26 => intro w' hw'; exact exec_load_whole Hel.isRec _ rfl gX rfl _ _ (Hel.len _) w' (Whole.below X15.out hw' X15.out.lt)
          simp only [Act.put, List.setIfInBounds_toArray, List.set_cons_zero, List.set_cons_succ]
          refine reg_call (i := 24) rfl (by kernel_rfl) (fun K' hK => ?_)
          go_simp
          refine ((CC w15 (T0.out.below B15.out T0.out.pos)).out).mono ?_
          rintro e16 w16 ⟨rfl, b16⟩
          have X16 : Hid (Hel.At w16 gX x) := Lib.hid (Whole.below X15.out b16 X15.out.lt)
          have Y16 : Hid (Wel.At w16 gY y) := Lib.hid (Whole.below Y15.out b16 Y15.out.lt)
          have A16 : Hid (Ent.At w16 gA a) := Lib.hid (Whole.below A15.out b16 A15.out.lt)
          have G16 : Hid (Hel.At w16 gG R) := Lib.hid (Whole.below G15.out b16 G15.out.lt)
          have V16 : Hid (Wel.At w16 gV S) := Lib.hid (Whole.below V15.out b16 V15.out.lt)
          have B16 := Lib.hid (B15.out.trans (b16.mono B15.out.size))
          refine hK.out _ _ b16 ?_
          clear hK K' b16 X15 Y15 A15 G15 V15 B15
          refine reg_call (i := 27) rfl (by kernel_rfl) (fun K' hK => ?_)
          go_simp
          refine ((CCf w16).out).mono ?_
          rintro e17 w17 ⟨rfl, b17⟩
          have X17 : Hid (Hel.At w17 gX x) := Lib.hid (Whole.below X16.out b17 X16.out.lt)
          have Y17 : Hid (Wel.At w17 gY y) := Lib.hid (Whole.below Y16.out b17 Y16.out.lt)
          have A17 : Hid (Ent.At w17 gA a) := Lib.hid (Whole.below A16.out b17 A16.out.lt)
          have G17 : Hid (Hel.At w17 gG R) := Lib.hid (Whole.below G16.out b17 G16.out.lt)
          have V17 : Hid (Wel.At w17 gV S) := Lib.hid (Whole.below V16.out b17 V16.out.lt)
          have B17 := Lib.hid (B16.out.trans (b17.mono B16.out.size))
          refine hK.out _ _ b17 ?_
          clear hK K' b17 X16 Y16 A16 G16 V16 B16
          refine reg_take (i := 28) (v := .bool true) rfl (by kernel_rfl) (by kernel_rfl) (by kernel_rfl) (fun _ _ _ h => h) (by rfl) ?hy28 ?_
          case hy28 => intro w' hw'; exact (by go_simp; (try with_reducible rfl))
          simp only [Act.put, List.setIfInBounds_toArray, List.set_cons_zero, List.set_cons_succ]
          refine reg_take (i := 29) (v := ?_) rfl (by kernel_rfl) (by kernel_rfl) (by kernel_rfl) (fun _ _ _ h => h) (by rfl) ?hy29 ?_
          case hy29 => intro w' hw'; go_simp; (try with_reducible rfl)
          simp only [Act.put, List.setIfInBounds_toArray, List.set_cons_zero, List.set_cons_succ]
          refine reg_take (i := 30) (v := ?_) rfl (by kernel_rfl) (by kernel_rfl) (by kernel_rfl) (fun _ _ _ h => h) (by rfl) ?hy30 ?_
          case hy30 => intro w' hw'; go_simp; (try with_reducible rfl)
          simp only [Act.put, List.setIfInBounds_toArray, List.set_cons_zero, List.set_cons_succ]
          refine reg_take (i := 31) (v := ?_) rfl (by kernel_rfl) (by kernel_rfl) (by kernel_rfl) (fun _ _ _ h => h) (by rfl) ?hy31 ?_
          case hy31 => intro w' hw'; go_simp; (try with_reducible rfl)
          simp only [Act.put, List.setIfInBounds_toArray, List.set_cons_zero, List.set_cons_succ]
          refine reg_take (i := 32) (v := Wel.val (y)) rfl (by kernel_rfl) (by kernel_rfl) (by kernel_rfl) (fun _ _ _ h => h) (by rfl) ?hy32 ?_
          case hy32 => intro w' hw'; exact exec_load_whole Wel.isRec _ rfl gY rfl _ _ (Wel.len _) w' (Whole.below Y17.out hw' Y17.out.lt)
          simp only [Act.put, List.setIfInBounds_toArray, List.set_cons_zero, List.set_cons_succ]
          refine reg_take (i := 33) (v := Ent.val (a)) rfl (by kernel_rfl) (by kernel_rfl) (by kernel_rfl) (fun _ _ _ h => h) (by rfl) ?hy33 ?_
          case hy33 => intro w' hw'; exact exec_load_whole Ent.isRec _ rfl gA rfl _ _ (Ent.len _) w' (Whole.below A17.out hw' A17.out.lt)
          simp only [Act.put, List.setIfInBounds_toArray, List.set_cons_zero, List.set_cons_succ]
          refine reg_take (i := 35) (v := ?_) rfl (by kernel_rfl) (by kernel_rfl) (by kernel_rfl) (fun _ _ _ h => h) (by rfl) ?hy35 ?_
          case hy35 => intro w' hw'; go_simp; (try with_reducible rfl)
          simp only [Act.put, List.setIfInBounds_toArray, List.set_cons_zero, List.set_cons_succ]
          refine reg_take (i := 36) (v := Wel.val (y)) rfl (by kernel_rfl) (by kernel_rfl) (by kernel_rfl) (fun _ _ _ h => h) (by rfl) ?hy36 ?_
          case hy36 => intro w' hw'; exact exec_load_whole Wel.isRec _ rfl gY rfl _ _ (Wel.len _) w' (Whole.below Y17.out hw' Y17.out.lt)
          simp only [Act.put, List.setIfInBounds_toArray, List.set_cons_zero, List.set_cons_succ]
          refine reg_take (i := 37) (v := Ent.val (a)) rfl (by kernel_rfl) (by kernel_rfl) (by kernel_rfl) (fun _ _ _ h => h) (by rfl) ?hy37 ?_
          case hy37 => intro w' hw'; exact exec_load_whole Ent.isRec _ rfl gA rfl _ _ (Ent.len _) w' (Whole.below A17.out hw' A17.out.lt)
          simp only [Act.put, List.setIfInBounds_toArray, List.set_cons_zero, List.set_cons_succ]
          refine reg_call (i := 34) rfl (by kernel_rfl) (fun K' hK => ?_)
          go_simp
          refine ((CV w17 (T0.out.below B17.out T0.out.pos)).out).mono ?_
          rintro e18 w18 ⟨rfl, b18⟩
          have X18 : Hid (Hel.At w18 gX x) := Lib.hid (Whole.below X17.out b18 X17.out.lt)
          have Y18 : Hid (Wel.At w18 gY y) := Lib.hid (Whole.below Y17.out b18 Y17.out.lt)
          have A18 : Hid (Ent.At w18 gA a) := Lib.hid (Whole.below A17.out b18 A17.out.lt)
          have G18 : Hid (Hel.At w18 gG R) := Lib.hid (Whole.below G17.out b18 G17.out.lt)
          have V18 : Hid (Wel.At w18 gV S) := Lib.hid (Whole.below V17.out b18 V17.out.lt)
          have B18 := Lib.hid (B17.out.trans (b18.mono B17.out.size))
          refine hK.out _ _ b18 ?_
          clear hK K' b18 X17 Y17 A17 G17 V17 B17
          refine reg_call (i := 38) rfl (by kernel_rfl) (fun K' hK => ?_)
          go_simp
          refine ((CVf w18).out).mono ?_
          rintro e19 w19 ⟨rfl, b19⟩
          have X19 : Hid (Hel.At w19 gX x) := Lib.hid (Whole.below X18.out b19 X18.out.lt)
          have Y19 : Hid (Wel.At w19 gY y) := Lib.hid (Whole.below Y18.out b19 Y18.out.lt)
          have A19 : Hid (Ent.At w19 gA a) := Lib.hid (Whole.below A18.out b19 A18.out.lt)
          have G19 : Hid (Hel.At w19 gG R) := Lib.hid (Whole.below G18.out b19 G18.out.lt)
          have V19 : Hid (Wel.At w19 gV S) := Lib.hid (Whole.below V18.out b19 V18.out.lt)
          have B19 := Lib.hid (B18.out.trans (b19.mono B18.out.size))
          refine hK.out _ _ b19 ?_
          clear hK K' b19 X18 Y18 A18 G18 V18 B18
          refine reg_take (i := 39) (v := .bool true) rfl (by kernel_rfl) (by kernel_rfl) (by kernel_rfl) (fun _ _ _ h => h) (by rfl) ?hy39 ?_
          case hy39 => intro w' hw'; exact (by go_simp; (try with_reducible rfl))
          simp only [Act.put, List.setIfInBounds_toArray, List.set_cons_zero, List.set_cons_succ]
          refine reg_take (i := 40) (v := ?_) rfl (by kernel_rfl) (by kernel_rfl) (by kernel_rfl) (fun _ _ _ h => h) (by rfl) ?hy40 ?_
          case hy40 => intro w' hw'; go_simp; (try with_reducible rfl)
          simp only [Act.put, List.setIfInBounds_toArray, List.set_cons_zero, List.set_cons_succ]
          refine reg_take (i := 41) (v := ?_) rfl (by kernel_rfl) (by kernel_rfl) (by kernel_rfl) (fun _ _ _ h => h) (by rfl) ?hy41 ?_
          case hy41 => intro w' hw'; go_simp; (try with_reducible rfl)
          simp only [Act.put, List.setIfInBounds_toArray, List.set_cons_zero, List.set_cons_succ]
          refine reg_call (i := 42) rfl (by kernel_rfl) (fun K' hK => ?_)
          go_simp
          refine ((CW w19 (T0.out.below B19.out T0.out.pos)).out).mono ?_
          rintro e20 w20 ⟨rfl, b20⟩
          have X20 : Hid (Hel.At w20 gX x) := Lib.hid (Whole.below X19.out b20 X19.out.lt)
          have Y20 : Hid (Wel.At w20 gY y) := Lib.hid (Whole.below Y19.out b20 Y19.out.lt)
          have A20 : Hid (Ent.At w20 gA a) := Lib.hid (Whole.below A19.out b20 A19.out.lt)
          have G20 : Hid (Hel.At w20 gG R) := Lib.hid (Whole.below G19.out b20 G19.out.lt)
          have V20 : Hid (Wel.At w20 gV S) := Lib.hid (Whole.below V19.out b20 V19.out.lt)
          have B20 := Lib.hid (B19.out.trans (b20.mono B19.out.size))
          refine hK.out _ _ b20 ?_
          clear hK K' b20 X19 Y19 A19 G19 V19 B19
          refine reg_take (i := 43) (v := ?_) rfl (by kernel_rfl) (by kernel_rfl) (by kernel_rfl) (fun _ _ _ h => h) (by rfl) ?hy43 ?_
          case hy43 => intro w' hw'; go_simp; (try with_reducible rfl)
          simp only [Act.put, List.setIfInBounds_toArray, List.set_cons_zero, List.set_cons_succ]
          refine reg_take (i := 44) (v := ?_) rfl (by kernel_rfl) (by kernel_rfl) (by kernel_rfl) (fun _ _ _ h => h) (by rfl) ?hy44 ?_
          case hy44 => intro w' hw'; go_simp; (try with_reducible rfl)
          simp only [Act.put, List.setIfInBounds_toArray, List.set_cons_zero, List.set_cons_succ]
          refine reg_end (by kernel_rfl) ?_
          go_wp2
          go_ret
          exact ⟨rfl, B20.out⟩
end Go.Proofs.YtpcdbpijgmninaaDoor
