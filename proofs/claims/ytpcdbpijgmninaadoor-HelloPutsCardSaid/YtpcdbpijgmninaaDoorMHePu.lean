/- HelloPuts' core: how hellos, welcomes and resets are written is as the document has it. -/
import Derived.Test.YtpcdbpijgmninaaDoorGbg
import Derived.Test.YtpcdbpijgmninaaDoorMHfR
namespace Go.Proofs.YtpcdbpijgmninaaDoor
set_option maxRecDepth 100000
open Go.RowKit

set_option maxRecDepth 100000 in
set_option maxHeartbeats 2000000 in
theorem helloPuts_core (x : Hel) (y : Wel) (n : Nat) (xo : x.Ok) (yo : y.Ok) (no : n < 18446744073709551616) (w : World) (T : Tab w) :
    Calls Tryd.prog 4 #[x.val, y.val, .int .u64 (n : Int)] w fun e w' => e = .returned (.bool true) ∧ Below w.heap.size w w' := by
  have T0 := Lib.hid T
  have C0 := fun w => Lib.hid (heGreat_any [] x w)
  have C2 := fun w => Lib.hid (great_any y.entry w)
  have CW := fun w T => Lib.hid (works17 w T)
  have CP := fun w => Lib.hid (hePutHello_any x w)
  have CQ := fun w => Lib.hid (hfPutHello_any x w xo.nonce_ok xo.entry_id_ok)
  have CU := fun w => Lib.hid (hePutWelcome_any y w)
  have CV := fun w => Lib.hid (hfPutWelcome_any y w yo.fst_ok yo.snd_ok yo.entry_id_ok)
  have CR := fun w => Lib.hid (hePutReset_any n w)
  have CS := fun w => Lib.hid (hfPutReset_any n no w)
  obtain ⟨b0, h0⟩ : ∃ b, b = greatH [] x := ⟨_, rfl⟩
  obtain ⟨b1, h1⟩ : ∃ b, b = decide (300 < y.tag.length) := ⟨_, rfl⟩
  obtain ⟨b2, h2⟩ : ∃ b, b = greatB y.entry := ⟨_, rfl⟩
  simp only [← h0] at C0
  simp only [← h2] at C2
  have p1 : decide ((300 : Int) < (y.tag.length : Int)) = b1 := by rw [h1, Bool.eq_iff_iff, decide_eq_true_eq, decide_eq_true_eq]; omega
  generalize (if rightH x then helloB x else []) = l at *
  generalize (if rightH x then (0 : Int) else 2) = c at *
  generalize (if rightW y then welcB y else []) = m at *
  generalize (if rightW y then (0 : Int) else 2) = d at *
  generalize resetB n = r at *
  clear T h0 h1 h2 xo yo no
  go_enter Tryd.func4, Tryd.ntmps4
  go_wp2_with (refine wpList_box_row rfl 26 _ rfl x.enc.toArray (by with_unfolding_all exact rfl) ?_)
  intro w1 b1 x1 z1
  obtain ⟨gX, hgX⟩ : ∃ g, g = w.heap.size := ⟨_, rfl⟩
  have M_X := Lib.hid (show w.heap.size ≤ gX from by rw [hgX]; exact Nat.le_refl _)
  have B1 := Lib.hid b1
  rw [← hgX] at x1 ⊢
  have X1 : Hid (Hel.At w1 gX x) := Lib.hid x1
  clear b1 x1 z1 hgX 
  go_wp2_with (first | (with_reducible refine wpList_load_whole Hel.isRec rfl _ rfl gX (by with_unfolding_all exact rfl) _ _ (Hel.len _) X1.out ?_) | (with_reducible refine wpList_load_rec Ent.isRec rfl _ rfl gX 2 (by with_unfolding_all exact rfl) _ (Ent.len _) (Hel.At.part_entry X1.out) ?_) | (refine wpList_box_row rfl 28 _ rfl y.enc.toArray (by with_unfolding_all exact rfl) ?_))
  intro w2 b2 x2 z2
  obtain ⟨gY, hgY⟩ : ∃ g, g = w1.heap.size := ⟨_, rfl⟩
  have N_X_Y := Lib.hid (show gX < gY from by rw [hgY]; exact X1.out.lt)
  have M_Y := Lib.hid (show w.heap.size ≤ gY from by rw [hgY]; exact B1.out.size)
  have X2 : Hid (Hel.At w2 gX x) := Lib.hid (Whole.below X1.out b2 X1.out.lt)
  have B2 := Lib.hid (B1.out.trans (b2.mono B1.out.size))
  rw [← hgY] at x2 ⊢
  have Y2 : Hid (Wel.At w2 gY y) := Lib.hid x2
  clear b2 x2 z2 hgY X1 B1
  go_wp2_with (first | (with_reducible refine wpList_load_whole Hel.isRec rfl _ rfl gX (by with_unfolding_all exact rfl) _ _ (Hel.len _) X2.out ?_) | (with_reducible refine wpList_load_rec Ent.isRec rfl _ rfl gX 2 (by with_unfolding_all exact rfl) _ (Ent.len _) (Hel.At.part_entry X2.out) ?_) | (with_reducible refine wpList_load_whole Wel.isRec rfl _ rfl gY (by with_unfolding_all exact rfl) _ _ (Wel.len _) Y2.out ?_) | (with_reducible refine wpList_load_rec Ent.isRec rfl _ rfl gY 2 (by with_unfolding_all exact rfl) _ (Ent.len _) (Wel.At.part_entry Y2.out) ?_))
  refine ((C0 w2).out).mono ?_
  rintro e3 w3 ⟨rfl, b3⟩
  have X3 : Hid (Hel.At w3 gX x) := Lib.hid (Whole.below X2.out b3 X2.out.lt)
  have Y3 : Hid (Wel.At w3 gY y) := Lib.hid (Whole.below Y2.out b3 Y2.out.lt)
  have B3 := Lib.hid (B2.out.trans (b3.mono B2.out.size))
  clear b3 X2 Y2 B2
  clear C0
  cases b0 with
  | true =>
    go_wp2_with (first | (with_reducible refine wpList_load_whole Hel.isRec rfl _ rfl gX (by with_unfolding_all exact rfl) _ _ (Hel.len _) X3.out ?_) | (with_reducible refine wpList_load_rec Ent.isRec rfl _ rfl gX 2 (by with_unfolding_all exact rfl) _ (Ent.len _) (Hel.At.part_entry X3.out) ?_) | (with_reducible refine wpList_load_whole Wel.isRec rfl _ rfl gY (by with_unfolding_all exact rfl) _ _ (Wel.len _) Y3.out ?_) | (with_reducible refine wpList_load_rec Ent.isRec rfl _ rfl gY 2 (by with_unfolding_all exact rfl) _ (Ent.len _) (Wel.At.part_entry Y3.out) ?_))
    refine ((CW w3 (T0.out.below B3.out T0.out.pos)).out).mono ?_
    rintro e4 w4 ⟨rfl, b4⟩
    have X4 : Hid (Hel.At w4 gX x) := Lib.hid (Whole.below X3.out b4 X3.out.lt)
    have Y4 : Hid (Wel.At w4 gY y) := Lib.hid (Whole.below Y3.out b4 Y3.out.lt)
    have B4 := Lib.hid (B3.out.trans (b4.mono B3.out.size))
    clear b4 X3 Y3 B3
    go_wp2
    go_ret
    exact ⟨rfl, B4.out⟩
  | false =>
    have c1 := Wel.At.at_tag Y3.out
    cases b1 with
    | true =>
      go_wp2_with (first | (with_reducible refine wpList_load_whole Hel.isRec rfl _ rfl gX (by with_unfolding_all exact rfl) _ _ (Hel.len _) X3.out ?_) | (with_reducible refine wpList_load_rec Ent.isRec rfl _ rfl gX 2 (by with_unfolding_all exact rfl) _ (Ent.len _) (Hel.At.part_entry X3.out) ?_) | (with_reducible refine wpList_load_whole Wel.isRec rfl _ rfl gY (by with_unfolding_all exact rfl) _ _ (Wel.len _) Y3.out ?_) | (with_reducible refine wpList_load_rec Ent.isRec rfl _ rfl gY 2 (by with_unfolding_all exact rfl) _ (Ent.len _) (Wel.At.part_entry Y3.out) ?_))
      refine ((CW w3 (T0.out.below B3.out T0.out.pos)).out).mono ?_
      rintro e4 w4 ⟨rfl, b4⟩
      have X4 : Hid (Hel.At w4 gX x) := Lib.hid (Whole.below X3.out b4 X3.out.lt)
      have Y4 : Hid (Wel.At w4 gY y) := Lib.hid (Whole.below Y3.out b4 Y3.out.lt)
      have B4 := Lib.hid (B3.out.trans (b4.mono B3.out.size))
      clear b4 X3 Y3 B3
      go_wp2
      go_ret
      exact ⟨rfl, B4.out⟩
    | false =>
      go_wp2_with (first | (with_reducible refine wpList_load_whole Hel.isRec rfl _ rfl gX (by with_unfolding_all exact rfl) _ _ (Hel.len _) X3.out ?_) | (with_reducible refine wpList_load_rec Ent.isRec rfl _ rfl gX 2 (by with_unfolding_all exact rfl) _ (Ent.len _) (Hel.At.part_entry X3.out) ?_) | (with_reducible refine wpList_load_whole Wel.isRec rfl _ rfl gY (by with_unfolding_all exact rfl) _ _ (Wel.len _) Y3.out ?_) | (with_reducible refine wpList_load_rec Ent.isRec rfl _ rfl gY 2 (by with_unfolding_all exact rfl) _ (Ent.len _) (Wel.At.part_entry Y3.out) ?_) | (with_reducible refine wpList_load_rec_w Ent.isRec (by kernel_rfl) _ rfl gY 2 (by with_unfolding_all exact rfl) _ (Ent.len _) (Wel.At.part_entry Y3.out) ?_))
      refine ((C2 w3).out).mono ?_
      rintro e4 w4 ⟨rfl, b4⟩
      have X4 : Hid (Hel.At w4 gX x) := Lib.hid (Whole.below X3.out b4 X3.out.lt)
      have Y4 : Hid (Wel.At w4 gY y) := Lib.hid (Whole.below Y3.out b4 Y3.out.lt)
      have B4 := Lib.hid (B3.out.trans (b4.mono B3.out.size))
      clear b4 X3 Y3 B3
      clear C2 c1
      cases b2 with
      | true =>
        go_wp2_with (first | (with_reducible refine wpList_load_whole Hel.isRec rfl _ rfl gX (by with_unfolding_all exact rfl) _ _ (Hel.len _) X4.out ?_) | (with_reducible refine wpList_load_rec Ent.isRec rfl _ rfl gX 2 (by with_unfolding_all exact rfl) _ (Ent.len _) (Hel.At.part_entry X4.out) ?_) | (with_reducible refine wpList_load_whole Wel.isRec rfl _ rfl gY (by with_unfolding_all exact rfl) _ _ (Wel.len _) Y4.out ?_) | (with_reducible refine wpList_load_rec Ent.isRec rfl _ rfl gY 2 (by with_unfolding_all exact rfl) _ (Ent.len _) (Wel.At.part_entry Y4.out) ?_))
        refine ((CW w4 (T0.out.below B4.out T0.out.pos)).out).mono ?_
        rintro e5 w5 ⟨rfl, b5⟩
        have X5 : Hid (Hel.At w5 gX x) := Lib.hid (Whole.below X4.out b5 X4.out.lt)
        have Y5 : Hid (Wel.At w5 gY y) := Lib.hid (Whole.below Y4.out b5 Y4.out.lt)
        have B5 := Lib.hid (B4.out.trans (b5.mono B4.out.size))
        clear b5 X4 Y4 B4
        go_wp2
        go_ret
        exact ⟨rfl, B5.out⟩
      | false =>
        go_wp2_with (first | (with_reducible refine wpList_load_whole Hel.isRec rfl _ rfl gX (by with_unfolding_all exact rfl) _ _ (Hel.len _) X4.out ?_) | (with_reducible refine wpList_load_rec Ent.isRec rfl _ rfl gX 2 (by with_unfolding_all exact rfl) _ (Ent.len _) (Hel.At.part_entry X4.out) ?_) | (with_reducible refine wpList_load_whole Wel.isRec rfl _ rfl gY (by with_unfolding_all exact rfl) _ _ (Wel.len _) Y4.out ?_) | (with_reducible refine wpList_load_rec Ent.isRec rfl _ rfl gY 2 (by with_unfolding_all exact rfl) _ (Ent.len _) (Wel.At.part_entry Y4.out) ?_))
        refine ((CP w4).out).mono ?_
        rintro e5 w5 ⟨v1, rfl, y1, b5⟩
        have X5 : Hid (Hel.At w5 gX x) := Lib.hid (Whole.below X4.out b5 X4.out.lt)
        have Y5 : Hid (Wel.At w5 gY y) := Lib.hid (Whole.below Y4.out b5 Y4.out.lt)
        have B5 := Lib.hid (B4.out.trans (b5.mono B4.out.size))
        have L5 : Hid (BytesAt w5 v1 l) := Lib.hid y1
        clear b5 X4 Y4 B4 y1
        go_wp2_with (first | (with_reducible refine wpList_load_whole Hel.isRec rfl _ rfl gX (by with_unfolding_all exact rfl) _ _ (Hel.len _) X5.out ?_) | (with_reducible refine wpList_load_rec Ent.isRec rfl _ rfl gX 2 (by with_unfolding_all exact rfl) _ (Ent.len _) (Hel.At.part_entry X5.out) ?_) | (with_reducible refine wpList_load_whole Wel.isRec rfl _ rfl gY (by with_unfolding_all exact rfl) _ _ (Wel.len _) Y5.out ?_) | (with_reducible refine wpList_load_rec Ent.isRec rfl _ rfl gY 2 (by with_unfolding_all exact rfl) _ (Ent.len _) (Wel.At.part_entry Y5.out) ?_))
        refine ((CQ w5).out).mono ?_
        rintro e6 w6 ⟨v2, rfl, y2, b6⟩
        have X6 : Hid (Hel.At w6 gX x) := Lib.hid (Whole.below X5.out b6 X5.out.lt)
        have Y6 : Hid (Wel.At w6 gY y) := Lib.hid (Whole.below Y5.out b6 Y5.out.lt)
        have L6 : Hid (BytesAt w6 v1 l) := Lib.hid (L5.out.below b6)
        have B6 := Lib.hid (B5.out.trans (b6.mono B5.out.size))
        have M6 : Hid (BytesAt w6 v2 l) := Lib.hid y2
        clear b6 X5 Y5 L5 B5 y2
        go_wp2_with (first | (with_reducible refine wpList_load_whole Hel.isRec rfl _ rfl gX (by with_unfolding_all exact rfl) _ _ (Hel.len _) X6.out ?_) | (with_reducible refine wpList_load_rec Ent.isRec rfl _ rfl gX 2 (by with_unfolding_all exact rfl) _ (Ent.len _) (Hel.At.part_entry X6.out) ?_) | (with_reducible refine wpList_load_whole Wel.isRec rfl _ rfl gY (by with_unfolding_all exact rfl) _ _ (Wel.len _) Y6.out ?_) | (with_reducible refine wpList_load_rec Ent.isRec rfl _ rfl gY 2 (by with_unfolding_all exact rfl) _ (Ent.len _) (Wel.At.part_entry Y6.out) ?_))
        refine ((CU w6).out).mono ?_
        rintro e7 w7 ⟨v3, rfl, y3, b7⟩
        have X7 : Hid (Hel.At w7 gX x) := Lib.hid (Whole.below X6.out b7 X6.out.lt)
        have Y7 : Hid (Wel.At w7 gY y) := Lib.hid (Whole.below Y6.out b7 Y6.out.lt)
        have L7 : Hid (BytesAt w7 v1 l) := Lib.hid (L6.out.below b7)
        have M7 : Hid (BytesAt w7 v2 l) := Lib.hid (M6.out.below b7)
        have B7 := Lib.hid (B6.out.trans (b7.mono B6.out.size))
        have N7 : Hid (BytesAt w7 v3 m) := Lib.hid y3
        clear b7 X6 Y6 L6 M6 B6 y3
        go_wp2_with (first | (with_reducible refine wpList_load_whole Hel.isRec rfl _ rfl gX (by with_unfolding_all exact rfl) _ _ (Hel.len _) X7.out ?_) | (with_reducible refine wpList_load_rec Ent.isRec rfl _ rfl gX 2 (by with_unfolding_all exact rfl) _ (Ent.len _) (Hel.At.part_entry X7.out) ?_) | (with_reducible refine wpList_load_whole Wel.isRec rfl _ rfl gY (by with_unfolding_all exact rfl) _ _ (Wel.len _) Y7.out ?_) | (with_reducible refine wpList_load_rec Ent.isRec rfl _ rfl gY 2 (by with_unfolding_all exact rfl) _ (Ent.len _) (Wel.At.part_entry Y7.out) ?_))
        refine ((CV w7).out).mono ?_
        rintro e8 w8 ⟨v4, rfl, y4, b8⟩
        have X8 : Hid (Hel.At w8 gX x) := Lib.hid (Whole.below X7.out b8 X7.out.lt)
        have Y8 : Hid (Wel.At w8 gY y) := Lib.hid (Whole.below Y7.out b8 Y7.out.lt)
        have L8 : Hid (BytesAt w8 v1 l) := Lib.hid (L7.out.below b8)
        have M8 : Hid (BytesAt w8 v2 l) := Lib.hid (M7.out.below b8)
        have N8 : Hid (BytesAt w8 v3 m) := Lib.hid (N7.out.below b8)
        have B8 := Lib.hid (B7.out.trans (b8.mono B7.out.size))
        have O8 : Hid (BytesAt w8 v4 m) := Lib.hid y4
        clear b8 X7 Y7 L7 M7 N7 B7 y4
        clear CP CQ CU CV p1
        go_wp2_with (first | (with_reducible refine wpList_load_whole Hel.isRec rfl _ rfl gX (by with_unfolding_all exact rfl) _ _ (Hel.len _) X8.out ?_) | (with_reducible refine wpList_load_rec Ent.isRec rfl _ rfl gX 2 (by with_unfolding_all exact rfl) _ (Ent.len _) (Hel.At.part_entry X8.out) ?_) | (with_reducible refine wpList_load_whole Wel.isRec rfl _ rfl gY (by with_unfolding_all exact rfl) _ _ (Wel.len _) Y8.out ?_) | (with_reducible refine wpList_load_rec Ent.isRec rfl _ rfl gY 2 (by with_unfolding_all exact rfl) _ (Ent.len _) (Wel.At.part_entry Y8.out) ?_))
        refine reg_begin (by kernel_rfl) fun w9 b9 z9 => ?_
        have X9 : Hid (Hel.At w9 gX x) := Lib.hid (Whole.below X8.out b9 X8.out.lt)
        have Y9 : Hid (Wel.At w9 gY y) := Lib.hid (Whole.below Y8.out b9 Y8.out.lt)
        have L9 : Hid (BytesAt w9 v1 l) := Lib.hid (L8.out.below b9)
        have M9 : Hid (BytesAt w9 v2 l) := Lib.hid (M8.out.below b9)
        have N9 : Hid (BytesAt w9 v3 m) := Lib.hid (N8.out.below b9)
        have O9 : Hid (BytesAt w9 v4 m) := Lib.hid (O8.out.below b9)
        have B9 := Lib.hid (B8.out.trans (b9.mono B8.out.size))
        clear b9 z9 X8 Y8 L8 M8 N8 O8 B8
        refine reg_take (i := 0) (v := ?_) rfl (by kernel_rfl) (by kernel_rfl) (by kernel_rfl) (fun _ _ _ h => h) (by rfl) ?hy0 ?_
        case hy0 => intro w' hw'; go_simp; (try with_reducible rfl)
        simp only [Act.put, List.setIfInBounds_toArray, List.set_cons_zero, List.set_cons_succ]
        refine reg_take (i := 1) (v := .string ⟨l.toArray⟩) rfl (by kernel_rfl) (by kernel_rfl) (by kernel_rfl) (fun _ _ _ h => h) (by rfl) ?hy1 ?_
        case hy1 => intro w' hw'; exact (by have r := conv_bytes (L9.out.below hw'); go_simp; (try with_reducible rfl))
        simp only [Act.put, List.setIfInBounds_toArray, List.set_cons_zero, List.set_cons_succ]
        refine reg_take (i := 2) (v := ?_) rfl (by kernel_rfl) (by kernel_rfl) (by kernel_rfl) (fun _ _ _ h => h) (by rfl) ?hy2 ?_
        case hy2 => intro w' hw'; go_simp; (try with_reducible rfl)
        simp only [Act.put, List.setIfInBounds_toArray, List.set_cons_zero, List.set_cons_succ]
        refine reg_take (i := 3) (v := .string ⟨l.toArray⟩) rfl (by kernel_rfl) (by kernel_rfl) (by kernel_rfl) (fun _ _ _ h => h) (by rfl) ?hy3 ?_
        case hy3 => intro w' hw'; exact (by have r := conv_bytes (M9.out.below hw'); go_simp; (try with_reducible rfl))
        simp only [Act.put, List.setIfInBounds_toArray, List.set_cons_zero, List.set_cons_succ]
        refine reg_take (i := 4) (v := ?_) rfl (by kernel_rfl) (by kernel_rfl) (by kernel_rfl) (fun _ _ _ h => h) (by rfl) ?hy4 ?_
        case hy4 => intro w' hw'; go_simp; (try with_reducible rfl)
        simp only [Act.put, List.setIfInBounds_toArray, List.set_cons_zero, List.set_cons_succ]
        refine reg_take (i := 5) (v := ?_) rfl (by kernel_rfl) (by kernel_rfl) (by kernel_rfl) (fun _ _ _ h => h) (by rfl) ?hy5 ?_
        case hy5 => intro w' hw'; go_simp; (try with_reducible rfl)
        simp only [Act.put, List.setIfInBounds_toArray, List.set_cons_zero, List.set_cons_succ]
        refine reg_take (i := 6) (v := ?_) rfl (by kernel_rfl) (by kernel_rfl) (by kernel_rfl) (fun _ _ _ h => h) (by rfl) ?hy6 ?_
        case hy6 => intro w' hw'; go_simp; (try with_reducible rfl)
        simp only [Act.put, List.setIfInBounds_toArray, List.set_cons_zero, List.set_cons_succ]
        refine reg_take (i := 7) (v := ?_) rfl (by kernel_rfl) (by kernel_rfl) (by kernel_rfl) (fun _ _ _ h => h) (by rfl) ?hy7 ?_
        case hy7 => intro w' hw'; go_simp; (try with_reducible rfl)
        simp only [Act.put, List.setIfInBounds_toArray, List.set_cons_zero, List.set_cons_succ]
        refine reg_take (i := 8) (v := ?_) rfl (by kernel_rfl) (by kernel_rfl) (by kernel_rfl) (fun _ _ _ h => h) (by rfl) ?hy8 ?_
        case hy8 => intro w' hw'; go_simp; (try with_reducible rfl)
        simp only [Act.put, List.setIfInBounds_toArray, List.set_cons_zero, List.set_cons_succ]
        refine reg_take (i := 9) (v := ?_) rfl (by kernel_rfl) (by kernel_rfl) (by kernel_rfl) (fun _ _ _ h => h) (by rfl) ?hy9 ?_
        case hy9 => intro w' hw'; go_simp; (try with_reducible rfl)
        simp only [Act.put, List.setIfInBounds_toArray, List.set_cons_zero, List.set_cons_succ]
        refine reg_take (i := 10) (v := ?_) rfl (by kernel_rfl) (by kernel_rfl) (by kernel_rfl) (fun _ _ _ h => h) (by rfl) ?hy10 ?_
        case hy10 => intro w' hw'; go_simp; (try with_reducible rfl)
        simp only [Act.put, List.setIfInBounds_toArray, List.set_cons_zero, List.set_cons_succ]
        refine reg_take (i := 11) (v := ?_) rfl (by kernel_rfl) (by kernel_rfl) (by kernel_rfl) (fun _ _ _ h => h) (by rfl) ?hy11 ?_
        case hy11 => intro w' hw'; go_simp; (try with_reducible rfl)
        simp only [Act.put, List.setIfInBounds_toArray, List.set_cons_zero, List.set_cons_succ]
        refine reg_take (i := 12) (v := .string ⟨m.toArray⟩) rfl (by kernel_rfl) (by kernel_rfl) (by kernel_rfl) (fun _ _ _ h => h) (by rfl) ?hy12 ?_
        case hy12 => intro w' hw'; exact (by have r := conv_bytes (N9.out.below hw'); go_simp; (try with_reducible rfl))
        simp only [Act.put, List.setIfInBounds_toArray, List.set_cons_zero, List.set_cons_succ]
        refine reg_take (i := 13) (v := ?_) rfl (by kernel_rfl) (by kernel_rfl) (by kernel_rfl) (fun _ _ _ h => h) (by rfl) ?hy13 ?_
        case hy13 => intro w' hw'; go_simp; (try with_reducible rfl)
        simp only [Act.put, List.setIfInBounds_toArray, List.set_cons_zero, List.set_cons_succ]
        refine reg_take (i := 14) (v := .string ⟨m.toArray⟩) rfl (by kernel_rfl) (by kernel_rfl) (by kernel_rfl) (fun _ _ _ h => h) (by rfl) ?hy14 ?_
        case hy14 => intro w' hw'; exact (by have r := conv_bytes (O9.out.below hw'); go_simp; (try with_reducible rfl))
        simp only [Act.put, List.setIfInBounds_toArray, List.set_cons_zero, List.set_cons_succ]
        refine reg_take (i := 15) (v := ?_) rfl (by kernel_rfl) (by kernel_rfl) (by kernel_rfl) (fun _ _ _ h => h) (by rfl) ?hy15 ?_
        case hy15 => intro w' hw'; go_simp; (try with_reducible rfl)
        simp only [Act.put, List.setIfInBounds_toArray, List.set_cons_zero, List.set_cons_succ]
        refine reg_take (i := 16) (v := ?_) rfl (by kernel_rfl) (by kernel_rfl) (by kernel_rfl) (fun _ _ _ h => h) (by rfl) ?hy16 ?_
        case hy16 => intro w' hw'; go_simp; (try with_reducible rfl)
        simp only [Act.put, List.setIfInBounds_toArray, List.set_cons_zero, List.set_cons_succ]
        refine reg_take (i := 17) (v := ?_) rfl (by kernel_rfl) (by kernel_rfl) (by kernel_rfl) (fun _ _ _ h => h) (by rfl) ?hy17 ?_
        case hy17 => intro w' hw'; go_simp; (try with_reducible rfl)
        simp only [Act.put, List.setIfInBounds_toArray, List.set_cons_zero, List.set_cons_succ]
        refine reg_take (i := 18) (v := ?_) rfl (by kernel_rfl) (by kernel_rfl) (by kernel_rfl) (fun _ _ _ h => h) (by rfl) ?hy18 ?_
        case hy18 => intro w' hw'; go_simp; (try with_reducible rfl)
        simp only [Act.put, List.setIfInBounds_toArray, List.set_cons_zero, List.set_cons_succ]
        refine reg_take (i := 19) (v := ?_) rfl (by kernel_rfl) (by kernel_rfl) (by kernel_rfl) (fun _ _ _ h => h) (by rfl) ?hy19 ?_
        case hy19 => intro w' hw'; go_simp; (try with_reducible rfl)
        simp only [Act.put, List.setIfInBounds_toArray, List.set_cons_zero, List.set_cons_succ]
        refine reg_take (i := 20) (v := ?_) rfl (by kernel_rfl) (by kernel_rfl) (by kernel_rfl) (fun _ _ _ h => h) (by rfl) ?hy20 ?_
        case hy20 => intro w' hw'; go_simp; (try with_reducible rfl)
        simp only [Act.put, List.setIfInBounds_toArray, List.set_cons_zero, List.set_cons_succ]
        refine reg_take (i := 21) (v := ?_) rfl (by kernel_rfl) (by kernel_rfl) (by kernel_rfl) (fun _ _ _ h => h) (by rfl) ?hy21 ?_
        case hy21 => intro w' hw'; go_simp; (try with_reducible rfl)
        simp only [Act.put, List.setIfInBounds_toArray, List.set_cons_zero, List.set_cons_succ]
        refine reg_take (i := 22) (v := ?_) rfl (by kernel_rfl) (by kernel_rfl) (by kernel_rfl) (fun _ _ _ h => h) (by rfl) ?hy22 ?_
        case hy22 => intro w' hw'; go_simp; (try with_reducible rfl)
        simp only [Act.put, List.setIfInBounds_toArray, List.set_cons_zero, List.set_cons_succ]
        refine reg_take (i := 23) (v := ?_) rfl (by kernel_rfl) (by kernel_rfl) (by kernel_rfl) (fun _ _ _ h => h) (by rfl) ?hy23 ?_
        case hy23 => intro w' hw'; go_simp; (try with_reducible rfl)
        simp only [Act.put, List.setIfInBounds_toArray, List.set_cons_zero, List.set_cons_succ]
        refine reg_take (i := 26) (v := ?_) rfl (by kernel_rfl) (by kernel_rfl) (by kernel_rfl) (fun _ _ _ h => h) (by rfl) ?hy26 ?_
        case hy26 => intro w' hw'; go_simp; (try with_reducible rfl)
        simp only [Act.put, List.setIfInBounds_toArray, List.set_cons_zero, List.set_cons_succ]
        refine reg_call (i := 24) rfl (by kernel_rfl) (fun K' hK => ?_)
        go_simp
        refine ((CR w9).out).mono ?_
        rintro e10 w10 ⟨v5, rfl, y5, b10⟩
        have X10 : Hid (Hel.At w10 gX x) := Lib.hid (Whole.below X9.out b10 X9.out.lt)
        have Y10 : Hid (Wel.At w10 gY y) := Lib.hid (Whole.below Y9.out b10 Y9.out.lt)
        have L10 : Hid (BytesAt w10 v1 l) := Lib.hid (L9.out.below b10)
        have M10 : Hid (BytesAt w10 v2 l) := Lib.hid (M9.out.below b10)
        have N10 : Hid (BytesAt w10 v3 m) := Lib.hid (N9.out.below b10)
        have O10 : Hid (BytesAt w10 v4 m) := Lib.hid (O9.out.below b10)
        have B10 := Lib.hid (B9.out.trans (b10.mono B9.out.size))
        have P10 : Hid (BytesAt w10 v5 r) := Lib.hid y5
        refine hK.out _ _ b10 ?_
        clear hK K' b10 X9 Y9 L9 M9 N9 O9 B9 y5
        refine reg_take (i := 25) (v := .string ⟨r.toArray⟩) rfl (by kernel_rfl) (by kernel_rfl) (by kernel_rfl) (fun _ _ _ h => h) (by rfl) ?hy25 ?_
        case hy25 => intro w' hw'; exact (by have r := conv_bytes (P10.out.below hw'); go_simp; (try with_reducible rfl))
        simp only [Act.put, List.setIfInBounds_toArray, List.set_cons_zero, List.set_cons_succ]
        refine reg_call (i := 27) rfl (by kernel_rfl) (fun K' hK => ?_)
        go_simp
        refine ((CS w10).out).mono ?_
        rintro e11 w11 ⟨v6, rfl, y6, b11⟩
        have X11 : Hid (Hel.At w11 gX x) := Lib.hid (Whole.below X10.out b11 X10.out.lt)
        have Y11 : Hid (Wel.At w11 gY y) := Lib.hid (Whole.below Y10.out b11 Y10.out.lt)
        have L11 : Hid (BytesAt w11 v1 l) := Lib.hid (L10.out.below b11)
        have M11 : Hid (BytesAt w11 v2 l) := Lib.hid (M10.out.below b11)
        have N11 : Hid (BytesAt w11 v3 m) := Lib.hid (N10.out.below b11)
        have O11 : Hid (BytesAt w11 v4 m) := Lib.hid (O10.out.below b11)
        have P11 : Hid (BytesAt w11 v5 r) := Lib.hid (P10.out.below b11)
        have B11 := Lib.hid (B10.out.trans (b11.mono B10.out.size))
        have Q11 : Hid (BytesAt w11 v6 r) := Lib.hid y6
        refine hK.out _ _ b11 ?_
        clear hK K' b11 X10 Y10 L10 M10 N10 O10 P10 B10 y6
        refine reg_take (i := 28) (v := .string ⟨r.toArray⟩) rfl (by kernel_rfl) (by kernel_rfl) (by kernel_rfl) (fun _ _ _ h => h) (by rfl) ?hy28 ?_
        case hy28 => intro w' hw'; exact (by have r := conv_bytes (Q11.out.below hw'); go_simp; (try with_reducible rfl))
        simp only [Act.put, List.setIfInBounds_toArray, List.set_cons_zero, List.set_cons_succ]
        refine reg_take (i := 29) (v := ?_) rfl (by kernel_rfl) (by kernel_rfl) (by kernel_rfl) (fun _ _ _ h => h) (by rfl) ?hy29 ?_
        case hy29 => intro w' hw'; go_simp; (try with_reducible rfl)
        simp only [Act.put, List.setIfInBounds_toArray, List.set_cons_zero, List.set_cons_succ]
        refine reg_take (i := 30) (v := ?_) rfl (by kernel_rfl) (by kernel_rfl) (by kernel_rfl) (fun _ _ _ h => h) (by rfl) ?hy30 ?_
        case hy30 => intro w' hw'; go_simp; (try with_reducible rfl)
        simp only [Act.put, List.setIfInBounds_toArray, List.set_cons_zero, List.set_cons_succ]
        refine reg_take (i := 31) (v := ?_) rfl (by kernel_rfl) (by kernel_rfl) (by kernel_rfl) (fun _ _ _ h => h) (by rfl) ?hy31 ?_
        case hy31 => intro w' hw'; go_simp; (try with_reducible rfl)
        simp only [Act.put, List.setIfInBounds_toArray, List.set_cons_zero, List.set_cons_succ]
        refine reg_call (i := 32) rfl (by kernel_rfl) (fun K' hK => ?_)
        go_simp
        refine ((CW w11 (T0.out.below B11.out T0.out.pos)).out).mono ?_
        rintro e12 w12 ⟨rfl, b12⟩
        have X12 : Hid (Hel.At w12 gX x) := Lib.hid (Whole.below X11.out b12 X11.out.lt)
        have Y12 : Hid (Wel.At w12 gY y) := Lib.hid (Whole.below Y11.out b12 Y11.out.lt)
        have L12 : Hid (BytesAt w12 v1 l) := Lib.hid (L11.out.below b12)
        have M12 : Hid (BytesAt w12 v2 l) := Lib.hid (M11.out.below b12)
        have N12 : Hid (BytesAt w12 v3 m) := Lib.hid (N11.out.below b12)
        have O12 : Hid (BytesAt w12 v4 m) := Lib.hid (O11.out.below b12)
        have P12 : Hid (BytesAt w12 v5 r) := Lib.hid (P11.out.below b12)
        have Q12 : Hid (BytesAt w12 v6 r) := Lib.hid (Q11.out.below b12)
        have B12 := Lib.hid (B11.out.trans (b12.mono B11.out.size))
        refine hK.out _ _ b12 ?_
        clear hK K' b12 X11 Y11 L11 M11 N11 O11 P11 Q11 B11
        refine reg_take (i := 33) (v := ?_) rfl (by kernel_rfl) (by kernel_rfl) (by kernel_rfl) (fun _ _ _ h => h) (by rfl) ?hy33 ?_
        case hy33 => intro w' hw'; go_simp; (try with_reducible rfl)
        simp only [Act.put, List.setIfInBounds_toArray, List.set_cons_zero, List.set_cons_succ]
        refine reg_take (i := 34) (v := ?_) rfl (by kernel_rfl) (by kernel_rfl) (by kernel_rfl) (fun _ _ _ h => h) (by rfl) ?hy34 ?_
        case hy34 => intro w' hw'; go_simp; (try with_reducible rfl)
        simp only [Act.put, List.setIfInBounds_toArray, List.set_cons_zero, List.set_cons_succ]
        refine reg_end (by kernel_rfl) ?_
        go_wp2
        go_ret
        exact ⟨rfl, B12.out⟩
end Go.Proofs.YtpcdbpijgmninaaDoor
