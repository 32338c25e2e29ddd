/- HelloTakes' core: which packet any bytes are is as the document has it. -/
import Derived.Test.YtpcdbpijgmninaaDoorGbg
import Derived.Test.YtpcdbpijgmninaaDoorMHfT
namespace Go.Proofs.YtpcdbpijgmninaaDoor
set_option maxRecDepth 100000
open Go.RowKit

set_option maxRecDepth 100000 in
set_option maxHeartbeats 2000000 in
theorem helloTakes_core (A : Option Addr) (n cap : Nat) (b : List UInt8) (w : World) (h : BytesAt w (.slice A n cap) b) (T : Tab w) :
    Calls Tryd.prog 5 #[.slice A n cap] w fun e w' => e = .returned (.bool true) ∧ Below w.heap.size w w' := by
  have T0 := Lib.hid T
  have H := Lib.hid h
  have CW := fun w T => Lib.hid (works17 w T)
  obtain ⟨rfl, -⟩ := h.size
  by_cases hl : 1000 < b.length
  · have d : decide ((1000 : Int) < (b.length : Int)) = true := by simp; omega
    clear T h hl
    go_enter Tryd.func5, Tryd.ntmps5
    go_wp2_with fail
    refine ((CW w T0.out).out).mono ?_
    rintro e1 w1 ⟨rfl, b1⟩
    have B1 := Lib.hid b1
    clear b1 
    go_wp2
    go_ret
    exact ⟨rfl, B1.out⟩
  · have d : decide ((1000 : Int) < (b.length : Int)) = false := by simp; omega
    have CH := fun w1 (q : Below w.heap.size w w1) => Lib.hid (heTakeHello_any _ b w1 (h.below q))
    have CI := fun w1 (q : Below w.heap.size w w1) => Lib.hid (hfTakeHello_any _ b w1 (by omega) (h.below q))
    have CU := fun w1 (q : Below w.heap.size w w1) => Lib.hid (heTakeWelcome_any _ b w1 (h.below q))
    have CV := fun w1 (q : Below w.heap.size w w1) => Lib.hid (hfTakeWelcome_any _ b w1 (by omega) (h.below q))
    have CR := fun w1 (q : Below w.heap.size w w1) => Lib.hid (heTakeReset_any _ b w1 (h.below q))
    have CS := fun w1 (q : Below w.heap.size w w1) => Lib.hid (hfTakeReset_any _ b w1 (by omega) (h.below q))
    have CK := fun w1 (q : Below w.heap.size w w1) => Lib.hid (heKindOf_any _ b w1 (h.below q))
    have CL := fun w1 (q : Below w.heap.size w w1) => Lib.hid (hfKindOf_any _ b w1 (h.below q))
    generalize takeH b = th at *
    generalize takeHX b = ch at *
    generalize takeW b = tw at *
    generalize takeWX b = cw at *
    generalize takeR b = tr at *
    generalize takeRX b = cr at *
    generalize kindB b = kb at *
    clear T h hl H
    go_enter Tryd.func5, Tryd.ntmps5
    go_wp2_with fail
    refine ((CH w (Below.refl _ _)).out).mono ?_
    rintro e1 w1 ⟨rfl, b1⟩
    have B1 := Lib.hid b1
    clear b1 
    go_wp2_with (refine wpList_alloc_row rfl 26 rfl Hel.zero.enc.toArray Hel.zero_is ?_)
    intro w2 b2 x2 z2
    obtain ⟨gG, hgG⟩ : ∃ g, g = w1.heap.size := ⟨_, rfl⟩
    have M_G := Lib.hid (show w.heap.size ≤ gG from by rw [hgG]; exact B1.out.size)
    have B2 := Lib.hid (B1.out.trans (b2.mono B1.out.size))
    rw [← hgG] at x2 ⊢
    have G2 : Hid (Hel.At w2 gG Hel.zero) := Lib.hid x2
    clear b2 x2 z2 hgG B1
    go_wp2_with (first | (with_reducible refine wpList_load_whole Hel.isRec rfl _ rfl gG (by with_unfolding_all exact rfl) _ _ (Hel.len _) G2.out ?_) | (with_reducible refine wpList_load_rec Ent.isRec rfl _ rfl gG 2 (by with_unfolding_all exact rfl) _ (Ent.len _) (Hel.At.part_entry G2.out) ?_) | (with_reducible refine wpList_store_whole rfl 26 _ _ rfl gG th.enc.toArray (by with_unfolding_all exact rfl) (by with_unfolding_all exact rfl) _ _ G2.out (Hel.size _) rfl (Hel.one _) ?_))
    intro w3 q3 x3 z3
    have G3 : Hid (Hel.At w3 gG th) := Lib.hid x3
    have B3 := Lib.hid (B2.out.grown q3 B2.out.size (fun k hk => by injection hk with hk; have := M_G.out; omega))
    clear q3 x3 z3 G2 B2
    go_wp2_with (first | (with_reducible refine wpList_load_whole Hel.isRec rfl _ rfl gG (by with_unfolding_all exact rfl) _ _ (Hel.len _) G3.out ?_) | (with_reducible refine wpList_load_rec Ent.isRec rfl _ rfl gG 2 (by with_unfolding_all exact rfl) _ (Ent.len _) (Hel.At.part_entry G3.out) ?_))
    refine ((CI w3 B3.out).out).mono ?_
    rintro e4 w4 ⟨rfl, b4⟩
    have G4 : Hid (Hel.At w4 gG th) := Lib.hid (Whole.below G3.out b4 G3.out.lt)
    have B4 := Lib.hid (B3.out.trans (b4.mono B3.out.size))
    clear b4 G3 B3
    go_wp2_with (first | (with_reducible refine wpList_load_whole Hel.isRec rfl _ rfl gG (by with_unfolding_all exact rfl) _ _ (Hel.len _) G4.out ?_) | (with_reducible refine wpList_load_rec Ent.isRec rfl _ rfl gG 2 (by with_unfolding_all exact rfl) _ (Ent.len _) (Hel.At.part_entry G4.out) ?_) | (refine wpList_alloc_row rfl 34 rfl (Her.enc Her.zero).toArray Her.zero_is ?_))
    intro w5 b5 x5 z5
    obtain ⟨gI, hgI⟩ : ∃ g, g = w4.heap.size := ⟨_, rfl⟩
    have N_G_I := Lib.hid (show gG < gI from by rw [hgI]; exact G4.out.lt)
    have M_I := Lib.hid (show w.heap.size ≤ gI from by rw [hgI]; exact B4.out.size)
    have G5 : Hid (Hel.At w5 gG th) := Lib.hid (Whole.below G4.out b5 G4.out.lt)
    have B5 := Lib.hid (B4.out.trans (b5.mono B4.out.size))
    rw [← hgI] at x5 ⊢
    have I5 : Hid (Her.At w5 gI Her.zero) := Lib.hid x5
    clear b5 x5 z5 hgI G4 B4
    go_wp2_with (first | (with_reducible refine wpList_load_whole Hel.isRec rfl _ rfl gG (by with_unfolding_all exact rfl) _ _ (Hel.len _) G5.out ?_) | (with_reducible refine wpList_load_rec Ent.isRec rfl _ rfl gG 2 (by with_unfolding_all exact rfl) _ (Ent.len _) (Hel.At.part_entry G5.out) ?_) | (with_reducible refine wpList_load_whole Her.isRec rfl _ rfl gI (by with_unfolding_all exact rfl) _ _ (Her.len _) I5.out ?_) | (with_reducible refine wpList_load_rec Ent.isRec rfl _ rfl gI 2 (by with_unfolding_all exact rfl) _ (Ent.len _) (Her.At.part_entry I5.out) ?_) | (with_reducible refine wpList_store_whole rfl 34 _ _ rfl gI (Her.enc th).toArray (by with_unfolding_all exact rfl) (by with_unfolding_all exact rfl) _ _ I5.out (Her.size _) rfl (Her.one _) ?_))
    intro w6 q6 x6 z6
    have I6 : Hid (Her.At w6 gI th) := Lib.hid x6
    have G6 : Hid (Hel.At w6 gG th) := Lib.hid (grown_far G5.out q6 (by have := N_G_I.out; omega))
    have B6 := Lib.hid (B5.out.grown q6 B5.out.size (fun k hk => by injection hk with hk; have := M_I.out; omega))
    clear q6 x6 z6 I5 G5 B5
    go_wp2_with (first | (with_reducible refine wpList_load_whole Hel.isRec rfl _ rfl gG (by with_unfolding_all exact rfl) _ _ (Hel.len _) G6.out ?_) | (with_reducible refine wpList_load_rec Ent.isRec rfl _ rfl gG 2 (by with_unfolding_all exact rfl) _ (Ent.len _) (Hel.At.part_entry G6.out) ?_) | (with_reducible refine wpList_load_whole Her.isRec rfl _ rfl gI (by with_unfolding_all exact rfl) _ _ (Her.len _) I6.out ?_) | (with_reducible refine wpList_load_rec Ent.isRec rfl _ rfl gI 2 (by with_unfolding_all exact rfl) _ (Ent.len _) (Her.At.part_entry I6.out) ?_))
    refine ((CU w6 B6.out).out).mono ?_
    rintro e7 w7 ⟨rfl, b7⟩
    have G7 : Hid (Hel.At w7 gG th) := Lib.hid (Whole.below G6.out b7 G6.out.lt)
    have I7 : Hid (Her.At w7 gI th) := Lib.hid (Whole.below I6.out b7 I6.out.lt)
    have B7 := Lib.hid (B6.out.trans (b7.mono B6.out.size))
    clear b7 G6 I6 B6
    go_wp2_with (first | (with_reducible refine wpList_load_whole Hel.isRec rfl _ rfl gG (by with_unfolding_all exact rfl) _ _ (Hel.len _) G7.out ?_) | (with_reducible refine wpList_load_rec Ent.isRec rfl _ rfl gG 2 (by with_unfolding_all exact rfl) _ (Ent.len _) (Hel.At.part_entry G7.out) ?_) | (with_reducible refine wpList_load_whole Her.isRec rfl _ rfl gI (by with_unfolding_all exact rfl) _ _ (Her.len _) I7.out ?_) | (with_reducible refine wpList_load_rec Ent.isRec rfl _ rfl gI 2 (by with_unfolding_all exact rfl) _ (Ent.len _) (Her.At.part_entry I7.out) ?_) | (refine wpList_alloc_row rfl 28 rfl Wel.zero.enc.toArray Wel.zero_is ?_))
    intro w8 b8 x8 z8
    obtain ⟨gU, hgU⟩ : ∃ g, g = w7.heap.size := ⟨_, rfl⟩
    have N_G_U := Lib.hid (show gG < gU from by rw [hgU]; exact G7.out.lt)
    have N_I_U := Lib.hid (show gI < gU from by rw [hgU]; exact I7.out.lt)
    have M_U := Lib.hid (show w.heap.size ≤ gU from by rw [hgU]; exact B7.out.size)
    have G8 : Hid (Hel.At w8 gG th) := Lib.hid (Whole.below G7.out b8 G7.out.lt)
    have I8 : Hid (Her.At w8 gI th) := Lib.hid (Whole.below I7.out b8 I7.out.lt)
    have B8 := Lib.hid (B7.out.trans (b8.mono B7.out.size))
    rw [← hgU] at x8 ⊢
    have U8 : Hid (Wel.At w8 gU Wel.zero) := Lib.hid x8
    clear b8 x8 z8 hgU G7 I7 B7
    go_wp2_with (first | (with_reducible refine wpList_load_whole Hel.isRec rfl _ rfl gG (by with_unfolding_all exact rfl) _ _ (Hel.len _) G8.out ?_) | (with_reducible refine wpList_load_rec Ent.isRec rfl _ rfl gG 2 (by with_unfolding_all exact rfl) _ (Ent.len _) (Hel.At.part_entry G8.out) ?_) | (with_reducible refine wpList_load_whole Her.isRec rfl _ rfl gI (by with_unfolding_all exact rfl) _ _ (Her.len _) I8.out ?_) | (with_reducible refine wpList_load_rec Ent.isRec rfl _ rfl gI 2 (by with_unfolding_all exact rfl) _ (Ent.len _) (Her.At.part_entry I8.out) ?_) | (with_reducible refine wpList_load_whole Wel.isRec rfl _ rfl gU (by with_unfolding_all exact rfl) _ _ (Wel.len _) U8.out ?_) | (with_reducible refine wpList_load_rec Ent.isRec rfl _ rfl gU 2 (by with_unfolding_all exact rfl) _ (Ent.len _) (Wel.At.part_entry U8.out) ?_) | (with_reducible refine wpList_store_whole rfl 28 _ _ rfl gU tw.enc.toArray (by with_unfolding_all exact rfl) (by with_unfolding_all exact rfl) _ _ U8.out (Wel.size _) rfl (Wel.one _) ?_))
    intro w9 q9 x9 z9
    have U9 : Hid (Wel.At w9 gU tw) := Lib.hid x9
    have G9 : Hid (Hel.At w9 gG th) := Lib.hid (grown_far G8.out q9 (by have := N_G_U.out; omega))
    have I9 : Hid (Her.At w9 gI th) := Lib.hid (grown_far I8.out q9 (by have := N_I_U.out; omega))
    have B9 := Lib.hid (B8.out.grown q9 B8.out.size (fun k hk => by injection hk with hk; have := M_U.out; omega))
    clear q9 x9 z9 U8 G8 I8 B8
    go_wp2_with (first | (with_reducible refine wpList_load_whole Hel.isRec rfl _ rfl gG (by with_unfolding_all exact rfl) _ _ (Hel.len _) G9.out ?_) | (with_reducible refine wpList_load_rec Ent.isRec rfl _ rfl gG 2 (by with_unfolding_all exact rfl) _ (Ent.len _) (Hel.At.part_entry G9.out) ?_) | (with_reducible refine wpList_load_whole Her.isRec rfl _ rfl gI (by with_unfolding_all exact rfl) _ _ (Her.len _) I9.out ?_) | (with_reducible refine wpList_load_rec Ent.isRec rfl _ rfl gI 2 (by with_unfolding_all exact rfl) _ (Ent.len _) (Her.At.part_entry I9.out) ?_) | (with_reducible refine wpList_load_whole Wel.isRec rfl _ rfl gU (by with_unfolding_all exact rfl) _ _ (Wel.len _) U9.out ?_) | (with_reducible refine wpList_load_rec Ent.isRec rfl _ rfl gU 2 (by with_unfolding_all exact rfl) _ (Ent.len _) (Wel.At.part_entry U9.out) ?_))
    refine ((CV w9 B9.out).out).mono ?_
    rintro e10 w10 ⟨rfl, b10⟩
    have G10 : Hid (Hel.At w10 gG th) := Lib.hid (Whole.below G9.out b10 G9.out.lt)
    have I10 : Hid (Her.At w10 gI th) := Lib.hid (Whole.below I9.out b10 I9.out.lt)
    have U10 : Hid (Wel.At w10 gU tw) := Lib.hid (Whole.below U9.out b10 U9.out.lt)
    have B10 := Lib.hid (B9.out.trans (b10.mono B9.out.size))
    clear b10 G9 I9 U9 B9
    go_wp2_with (first | (with_reducible refine wpList_load_whole Hel.isRec rfl _ rfl gG (by with_unfolding_all exact rfl) _ _ (Hel.len _) G10.out ?_) | (with_reducible refine wpList_load_rec Ent.isRec rfl _ rfl gG 2 (by with_unfolding_all exact rfl) _ (Ent.len _) (Hel.At.part_entry G10.out) ?_) | (with_reducible refine wpList_load_whole Her.isRec rfl _ rfl gI (by with_unfolding_all exact rfl) _ _ (Her.len _) I10.out ?_) | (with_reducible refine wpList_load_rec Ent.isRec rfl _ rfl gI 2 (by with_unfolding_all exact rfl) _ (Ent.len _) (Her.At.part_entry I10.out) ?_) | (with_reducible refine wpList_load_whole Wel.isRec rfl _ rfl gU (by with_unfolding_all exact rfl) _ _ (Wel.len _) U10.out ?_) | (with_reducible refine wpList_load_rec Ent.isRec rfl _ rfl gU 2 (by with_unfolding_all exact rfl) _ (Ent.len _) (Wel.At.part_entry U10.out) ?_) | (refine wpList_alloc_row rfl 36 rfl (Wer.enc Wer.zero).toArray Wer.zero_is ?_))
    intro w11 b11 x11 z11
    obtain ⟨gV, hgV⟩ : ∃ g, g = w10.heap.size := ⟨_, rfl⟩
    have N_G_V := Lib.hid (show gG < gV from by rw [hgV]; exact G10.out.lt)
    have N_I_V := Lib.hid (show gI < gV from by rw [hgV]; exact I10.out.lt)
    have N_U_V := Lib.hid (show gU < gV from by rw [hgV]; exact U10.out.lt)
    have M_V := Lib.hid (show w.heap.size ≤ gV from by rw [hgV]; exact B10.out.size)
    have G11 : Hid (Hel.At w11 gG th) := Lib.hid (Whole.below G10.out b11 G10.out.lt)
    have I11 : Hid (Her.At w11 gI th) := Lib.hid (Whole.below I10.out b11 I10.out.lt)
    have U11 : Hid (Wel.At w11 gU tw) := Lib.hid (Whole.below U10.out b11 U10.out.lt)
    have B11 := Lib.hid (B10.out.trans (b11.mono B10.out.size))
    rw [← hgV] at x11 ⊢
    have V11 : Hid (Wer.At w11 gV Wer.zero) := Lib.hid x11
    clear b11 x11 z11 hgV G10 I10 U10 B10
    go_wp2_with (first | (with_reducible refine wpList_load_whole Hel.isRec rfl _ rfl gG (by with_unfolding_all exact rfl) _ _ (Hel.len _) G11.out ?_) | (with_reducible refine wpList_load_rec Ent.isRec rfl _ rfl gG 2 (by with_unfolding_all exact rfl) _ (Ent.len _) (Hel.At.part_entry G11.out) ?_) | (with_reducible refine wpList_load_whole Her.isRec rfl _ rfl gI (by with_unfolding_all exact rfl) _ _ (Her.len _) I11.out ?_) | (with_reducible refine wpList_load_rec Ent.isRec rfl _ rfl gI 2 (by with_unfolding_all exact rfl) _ (Ent.len _) (Her.At.part_entry I11.out) ?_) | (with_reducible refine wpList_load_whole Wel.isRec rfl _ rfl gU (by with_unfolding_all exact rfl) _ _ (Wel.len _) U11.out ?_) | (with_reducible refine wpList_load_rec Ent.isRec rfl _ rfl gU 2 (by with_unfolding_all exact rfl) _ (Ent.len _) (Wel.At.part_entry U11.out) ?_) | (with_reducible refine wpList_load_whole Wer.isRec rfl _ rfl gV (by with_unfolding_all exact rfl) _ _ (Wer.len _) V11.out ?_) | (with_reducible refine wpList_load_rec Ent.isRec rfl _ rfl gV 2 (by with_unfolding_all exact rfl) _ (Ent.len _) (Wer.At.part_entry V11.out) ?_) | (with_reducible refine wpList_store_whole rfl 36 _ _ rfl gV (Wer.enc tw).toArray (by with_unfolding_all exact rfl) (by with_unfolding_all exact rfl) _ _ V11.out (Wer.size _) rfl (Wer.one _) ?_))
    intro w12 q12 x12 z12
    have V12 : Hid (Wer.At w12 gV tw) := Lib.hid x12
    have G12 : Hid (Hel.At w12 gG th) := Lib.hid (grown_far G11.out q12 (by have := N_G_V.out; omega))
    have I12 : Hid (Her.At w12 gI th) := Lib.hid (grown_far I11.out q12 (by have := N_I_V.out; omega))
    have U12 : Hid (Wel.At w12 gU tw) := Lib.hid (grown_far U11.out q12 (by have := N_U_V.out; omega))
    have B12 := Lib.hid (B11.out.grown q12 B11.out.size (fun k hk => by injection hk with hk; have := M_V.out; omega))
    clear q12 x12 z12 V11 G11 I11 U11 B11
    go_wp2_with (first | (with_reducible refine wpList_load_whole Hel.isRec rfl _ rfl gG (by with_unfolding_all exact rfl) _ _ (Hel.len _) G12.out ?_) | (with_reducible refine wpList_load_rec Ent.isRec rfl _ rfl gG 2 (by with_unfolding_all exact rfl) _ (Ent.len _) (Hel.At.part_entry G12.out) ?_) | (with_reducible refine wpList_load_whole Her.isRec rfl _ rfl gI (by with_unfolding_all exact rfl) _ _ (Her.len _) I12.out ?_) | (with_reducible refine wpList_load_rec Ent.isRec rfl _ rfl gI 2 (by with_unfolding_all exact rfl) _ (Ent.len _) (Her.At.part_entry I12.out) ?_) | (with_reducible refine wpList_load_whole Wel.isRec rfl _ rfl gU (by with_unfolding_all exact rfl) _ _ (Wel.len _) U12.out ?_) | (with_reducible refine wpList_load_rec Ent.isRec rfl _ rfl gU 2 (by with_unfolding_all exact rfl) _ (Ent.len _) (Wel.At.part_entry U12.out) ?_) | (with_reducible refine wpList_load_whole Wer.isRec rfl _ rfl gV (by with_unfolding_all exact rfl) _ _ (Wer.len _) V12.out ?_) | (with_reducible refine wpList_load_rec Ent.isRec rfl _ rfl gV 2 (by with_unfolding_all exact rfl) _ (Ent.len _) (Wer.At.part_entry V12.out) ?_))
    refine ((CR w12 B12.out).out).mono ?_
    rintro e13 w13 ⟨rfl, b13⟩
    have G13 : Hid (Hel.At w13 gG th) := Lib.hid (Whole.below G12.out b13 G12.out.lt)
    have I13 : Hid (Her.At w13 gI th) := Lib.hid (Whole.below I12.out b13 I12.out.lt)
    have U13 : Hid (Wel.At w13 gU tw) := Lib.hid (Whole.below U12.out b13 U12.out.lt)
    have V13 : Hid (Wer.At w13 gV tw) := Lib.hid (Whole.below V12.out b13 V12.out.lt)
    have B13 := Lib.hid (B12.out.trans (b13.mono B12.out.size))
    clear b13 G12 I12 U12 V12 B12
    go_wp2_with (first | (with_reducible refine wpList_load_whole Hel.isRec rfl _ rfl gG (by with_unfolding_all exact rfl) _ _ (Hel.len _) G13.out ?_) | (with_reducible refine wpList_load_rec Ent.isRec rfl _ rfl gG 2 (by with_unfolding_all exact rfl) _ (Ent.len _) (Hel.At.part_entry G13.out) ?_) | (with_reducible refine wpList_load_whole Her.isRec rfl _ rfl gI (by with_unfolding_all exact rfl) _ _ (Her.len _) I13.out ?_) | (with_reducible refine wpList_load_rec Ent.isRec rfl _ rfl gI 2 (by with_unfolding_all exact rfl) _ (Ent.len _) (Her.At.part_entry I13.out) ?_) | (with_reducible refine wpList_load_whole Wel.isRec rfl _ rfl gU (by with_unfolding_all exact rfl) _ _ (Wel.len _) U13.out ?_) | (with_reducible refine wpList_load_rec Ent.isRec rfl _ rfl gU 2 (by with_unfolding_all exact rfl) _ (Ent.len _) (Wel.At.part_entry U13.out) ?_) | (with_reducible refine wpList_load_whole Wer.isRec rfl _ rfl gV (by with_unfolding_all exact rfl) _ _ (Wer.len _) V13.out ?_) | (with_reducible refine wpList_load_rec Ent.isRec rfl _ rfl gV 2 (by with_unfolding_all exact rfl) _ (Ent.len _) (Wer.At.part_entry V13.out) ?_))
    refine ((CS w13 B13.out).out).mono ?_
    rintro e14 w14 ⟨rfl, b14⟩
    have G14 : Hid (Hel.At w14 gG th) := Lib.hid (Whole.below G13.out b14 G13.out.lt)
    have I14 : Hid (Her.At w14 gI th) := Lib.hid (Whole.below I13.out b14 I13.out.lt)
    have U14 : Hid (Wel.At w14 gU tw) := Lib.hid (Whole.below U13.out b14 U13.out.lt)
    have V14 : Hid (Wer.At w14 gV tw) := Lib.hid (Whole.below V13.out b14 V13.out.lt)
    have B14 := Lib.hid (B13.out.trans (b14.mono B13.out.size))
    clear b14 G13 I13 U13 V13 B13
    clear CH CI CU CV CR CS
    go_wp2_with (first | (with_reducible refine wpList_load_whole Hel.isRec rfl _ rfl gG (by with_unfolding_all exact rfl) _ _ (Hel.len _) G14.out ?_) | (with_reducible refine wpList_load_rec Ent.isRec rfl _ rfl gG 2 (by with_unfolding_all exact rfl) _ (Ent.len _) (Hel.At.part_entry G14.out) ?_) | (with_reducible refine wpList_load_whole Her.isRec rfl _ rfl gI (by with_unfolding_all exact rfl) _ _ (Her.len _) I14.out ?_) | (with_reducible refine wpList_load_rec Ent.isRec rfl _ rfl gI 2 (by with_unfolding_all exact rfl) _ (Ent.len _) (Her.At.part_entry I14.out) ?_) | (with_reducible refine wpList_load_whole Wel.isRec rfl _ rfl gU (by with_unfolding_all exact rfl) _ _ (Wel.len _) U14.out ?_) | (with_reducible refine wpList_load_rec Ent.isRec rfl _ rfl gU 2 (by with_unfolding_all exact rfl) _ (Ent.len _) (Wel.At.part_entry U14.out) ?_) | (with_reducible refine wpList_load_whole Wer.isRec rfl _ rfl gV (by with_unfolding_all exact rfl) _ _ (Wer.len _) V14.out ?_) | (with_reducible refine wpList_load_rec Ent.isRec rfl _ rfl gV 2 (by with_unfolding_all exact rfl) _ (Ent.len _) (Wer.At.part_entry V14.out) ?_))
    refine ((CK w14 B14.out).out).mono ?_
    rintro e15 w15 ⟨rfl, b15⟩
    have G15 : Hid (Hel.At w15 gG th) := Lib.hid (Whole.below G14.out b15 G14.out.lt)
    have I15 : Hid (Her.At w15 gI th) := Lib.hid (Whole.below I14.out b15 I14.out.lt)
    have U15 : Hid (Wel.At w15 gU tw) := Lib.hid (Whole.below U14.out b15 U14.out.lt)
    have V15 : Hid (Wer.At w15 gV tw) := Lib.hid (Whole.below V14.out b15 V14.out.lt)
    have B15 := Lib.hid (B14.out.trans (b15.mono B14.out.size))
    clear b15 G14 I14 U14 V14 B14
    go_wp2_with (first | (with_reducible refine wpList_load_whole Hel.isRec rfl _ rfl gG (by with_unfolding_all exact rfl) _ _ (Hel.len _) G15.out ?_) | (with_reducible refine wpList_load_rec Ent.isRec rfl _ rfl gG 2 (by with_unfolding_all exact rfl) _ (Ent.len _) (Hel.At.part_entry G15.out) ?_) | (with_reducible refine wpList_load_whole Her.isRec rfl _ rfl gI (by with_unfolding_all exact rfl) _ _ (Her.len _) I15.out ?_) | (with_reducible refine wpList_load_rec Ent.isRec rfl _ rfl gI 2 (by with_unfolding_all exact rfl) _ (Ent.len _) (Her.At.part_entry I15.out) ?_) | (with_reducible refine wpList_load_whole Wel.isRec rfl _ rfl gU (by with_unfolding_all exact rfl) _ _ (Wel.len _) U15.out ?_) | (with_reducible refine wpList_load_rec Ent.isRec rfl _ rfl gU 2 (by with_unfolding_all exact rfl) _ (Ent.len _) (Wel.At.part_entry U15.out) ?_) | (with_reducible refine wpList_load_whole Wer.isRec rfl _ rfl gV (by with_unfolding_all exact rfl) _ _ (Wer.len _) V15.out ?_) | (with_reducible refine wpList_load_rec Ent.isRec rfl _ rfl gV 2 (by with_unfolding_all exact rfl) _ (Ent.len _) (Wer.At.part_entry V15.out) ?_))
    refine ((CL w15 B15.out).out).mono ?_
    rintro e16 w16 ⟨rfl, b16⟩
    have G16 : Hid (Hel.At w16 gG th) := Lib.hid (Whole.below G15.out b16 G15.out.lt)
    have I16 : Hid (Her.At w16 gI th) := Lib.hid (Whole.below I15.out b16 I15.out.lt)
    have U16 : Hid (Wel.At w16 gU tw) := Lib.hid (Whole.below U15.out b16 U15.out.lt)
    have V16 : Hid (Wer.At w16 gV tw) := Lib.hid (Whole.below V15.out b16 V15.out.lt)
    have B16 := Lib.hid (B15.out.trans (b16.mono B15.out.size))
    clear b16 G15 I15 U15 V15 B15
    clear CK CL
    go_wp2_with (first | (with_reducible refine wpList_load_whole Hel.isRec rfl _ rfl gG (by with_unfolding_all exact rfl) _ _ (Hel.len _) G16.out ?_) | (with_reducible refine wpList_load_rec Ent.isRec rfl _ rfl gG 2 (by with_unfolding_all exact rfl) _ (Ent.len _) (Hel.At.part_entry G16.out) ?_) | (with_reducible refine wpList_load_whole Her.isRec rfl _ rfl gI (by with_unfolding_all exact rfl) _ _ (Her.len _) I16.out ?_) | (with_reducible refine wpList_load_rec Ent.isRec rfl _ rfl gI 2 (by with_unfolding_all exact rfl) _ (Ent.len _) (Her.At.part_entry I16.out) ?_) | (with_reducible refine wpList_load_whole Wel.isRec rfl _ rfl gU (by with_unfolding_all exact rfl) _ _ (Wel.len _) U16.out ?_) | (with_reducible refine wpList_load_rec Ent.isRec rfl _ rfl gU 2 (by with_unfolding_all exact rfl) _ (Ent.len _) (Wel.At.part_entry U16.out) ?_) | (with_reducible refine wpList_load_whole Wer.isRec rfl _ rfl gV (by with_unfolding_all exact rfl) _ _ (Wer.len _) V16.out ?_) | (with_reducible refine wpList_load_rec Ent.isRec rfl _ rfl gV 2 (by with_unfolding_all exact rfl) _ (Ent.len _) (Wer.At.part_entry V16.out) ?_) | (first | (with_reducible refine wpList_load_whole_w Hel.isRec (by kernel_rfl) _ rfl gG (by with_unfolding_all exact rfl) _ _ (Hel.len _) G16.out ?_) | (with_reducible refine wpList_load_whole_w Her.isRec (by kernel_rfl) _ rfl gI (by with_unfolding_all exact rfl) _ _ (Her.len _) I16.out ?_) | (with_reducible refine wpList_load_whole_w Wel.isRec (by kernel_rfl) _ rfl gU (by with_unfolding_all exact rfl) _ _ (Wel.len _) U16.out ?_) | (with_reducible refine wpList_load_whole_w Wer.isRec (by kernel_rfl) _ rfl gV (by with_unfolding_all exact rfl) _ _ (Wer.len _) V16.out ?_) | (with_reducible refine wpList_eq_rec_w Her.isRec (by kernel_rfl) _ _ rfl (Her.enc th) (Her.enc th) (Her.fits _) (Her.fits _) (by with_unfolding_all exact rfl) (by with_unfolding_all exact rfl) true (eqCells_refl (Her.fits _)).symm ?_) | (with_reducible refine wpList_eq_rec_w Wer.isRec (by kernel_rfl) _ _ rfl (Wer.enc tw) (Wer.enc tw) (Wer.fits _) (Wer.fits _) (by with_unfolding_all exact rfl) (by with_unfolding_all exact rfl) true (eqCells_refl (Wer.fits _)).symm ?_)))
    refine ((CW w16 (T0.out.below B16.out T0.out.pos)).out).mono ?_
    rintro e17 w17 ⟨rfl, b17⟩
    have G17 : Hid (Hel.At w17 gG th) := Lib.hid (Whole.below G16.out b17 G16.out.lt)
    have I17 : Hid (Her.At w17 gI th) := Lib.hid (Whole.below I16.out b17 I16.out.lt)
    have U17 : Hid (Wel.At w17 gU tw) := Lib.hid (Whole.below U16.out b17 U16.out.lt)
    have V17 : Hid (Wer.At w17 gV tw) := Lib.hid (Whole.below V16.out b17 V16.out.lt)
    have B17 := Lib.hid (B16.out.trans (b17.mono B16.out.size))
    clear b17 G16 I16 U16 V16 B16
    go_wp2
    go_ret
    exact ⟨rfl, B17.out⟩
end Go.Proofs.YtpcdbpijgmninaaDoor
