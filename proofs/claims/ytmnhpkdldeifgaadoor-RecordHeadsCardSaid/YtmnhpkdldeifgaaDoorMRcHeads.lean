/- The core of RecordHeads: which head may be, how it is written and read is as the document has it. -/
import Derived.Test.YtmnhpkdldeifgaaDoorGbl
import Derived.Test.YtmnhpkdldeifgaaDoorMRgB
namespace Go.Proofs.YtmnhpkdldeifgaaDoor
set_option maxRecDepth 100000
open Go.RowKit

set_option maxRecDepth 100000 in
set_option maxHeartbeats 2000000 in
theorem recordHeads_core (h : Head) (ho : h.Ok) (A : Option Addr) (n cap : Nat) (b : List UInt8) (w : World) (hb : BytesAt w (.slice A n cap) b) (T : Tab w) (PW : PowT w) :
    Calls Tryd.prog 3 #[h.val, .slice A n cap] w fun e w' => e = .returned (.bool true) ∧ Below w.heap.size w w' := by
  have T0 := Lib.hid T
  have P0 := Lib.hid PW
  have CW := fun w T P => Lib.hid (works19 w T P)
  have CT := fun w1 (q : Below w.heap.size w w1) => Lib.hid (rcTake_any _ b w1 (hb.below q))
  have CU := fun w1 (q : Below w.heap.size w w1) => Lib.hid (rgTake_any _ b w1 (hb.below q))
  have CR := fun w => Lib.hid (rcRight_any h ho.id_ok w)
  have CQ := fun w => Lib.hid (rgRight_any h w)
  have CP := fun w => Lib.hid (rcPut_any h w)
  have CG := fun w => Lib.hid ((rgPut_any h ho.id_ok w).mono (R' := fun e w' => ∃ v', e = .returned v' ∧ BytesAt w' v' (headB h) ∧ Below w.heap.size w w') fun _ _ ⟨v', he, ho, hb⟩ => ⟨v', he, BytesAt.of_own ho, hb⟩)
  generalize takeHd b = th at *
  generalize takeHdX b = tx at *
  generalize headR h = hr at *
  generalize headB h = l at *
  by_cases hn : 3000 < n
  · have d : decide ((3000 : Int) < (n : Int)) = true := by simp; omega
    clear T PW hb hn ho CT CU CR CQ CP CG
    go_enter Tryd.func3, Tryd.ntmps3
    go_wp2_with (refine wpList_box_row rfl 24 _ rfl h.enc.toArray (by with_unfolding_all exact rfl) ?_)
    intro w1 b1 x1 z1
    obtain ⟨gX, hgX⟩ : ∃ g, g = w.heap.size := ⟨_, rfl⟩
    have M_X := Lib.hid (show w.heap.size ≤ gX from by rw [hgX]; exact Nat.le_refl _)
    have B1 := Lib.hid b1
    rw [← hgX] at x1 ⊢
    have X1 : Hid (Head.At w1 gX h) := Lib.hid x1
    clear b1 x1 z1 hgX 
    go_wp2_with (with_reducible refine wpList_load_whole Head.isRec rfl _ rfl gX (by with_unfolding_all exact rfl) _ _ (Head.len _) X1.out ?_)
    refine ((CW w1 (T0.out.below B1.out T0.out.pos) (P0.out.below B1.out)).out).mono ?_
    rintro e2 w2 ⟨rfl, b2⟩
    have X2 : Hid (Head.At w2 gX h) := Lib.hid (Whole.below X1.out b2 X1.out.lt)
    have B2 := Lib.hid (B1.out.trans (b2.mono B1.out.size))
    clear b2 X1 B1
    go_wp2
    go_ret
    exact ⟨rfl, B2.out⟩
  · have d : decide ((3000 : Int) < (n : Int)) = false := by simp; omega
    clear T PW hb hn ho
    go_enter Tryd.func3, Tryd.ntmps3
    go_wp2_with (refine wpList_box_row rfl 24 _ rfl h.enc.toArray (by with_unfolding_all exact rfl) ?_)
    intro w1 b1 x1 z1
    obtain ⟨gX, hgX⟩ : ∃ g, g = w.heap.size := ⟨_, rfl⟩
    have M_X := Lib.hid (show w.heap.size ≤ gX from by rw [hgX]; exact Nat.le_refl _)
    have B1 := Lib.hid b1
    rw [← hgX] at x1 ⊢
    have X1 : Hid (Head.At w1 gX h) := Lib.hid x1
    clear b1 x1 z1 hgX 
    go_wp2_with (with_reducible refine wpList_load_whole Head.isRec rfl _ rfl gX (by with_unfolding_all exact rfl) _ _ (Head.len _) X1.out ?_)
    refine ((CT w1 B1.out).out).mono ?_
    rintro e2 w2 ⟨rfl, b2⟩
    have X2 : Hid (Head.At w2 gX h) := Lib.hid (Whole.below X1.out b2 X1.out.lt)
    have B2 := Lib.hid (B1.out.trans (b2.mono B1.out.size))
    clear b2 X1 B1
    go_wp2_with (first | (with_reducible refine wpList_load_whole Head.isRec rfl _ rfl gX (by with_unfolding_all exact rfl) _ _ (Head.len _) X2.out ?_) | (refine wpList_alloc_row rfl 24 rfl Head.zero.enc.toArray Head.zero_is ?_))
    intro w3 b3 x3 z3
    obtain ⟨gY, hgY⟩ : ∃ g, g = w2.heap.size := ⟨_, rfl⟩
    have N_X_Y := Lib.hid (show gX < gY from by rw [hgY]; exact X2.out.lt)
    have M_Y := Lib.hid (show w.heap.size ≤ gY from by rw [hgY]; exact B2.out.size)
    have X3 : Hid (Head.At w3 gX h) := Lib.hid (Whole.below X2.out b3 X2.out.lt)
    have B3 := Lib.hid (B2.out.trans (b3.mono B2.out.size))
    rw [← hgY] at x3 ⊢
    have Y3 : Hid (Head.At w3 gY Head.zero) := Lib.hid x3
    clear b3 x3 z3 hgY X2 B2
    go_wp2_with (first | (with_reducible refine wpList_load_whole Head.isRec rfl _ rfl gX (by with_unfolding_all exact rfl) _ _ (Head.len _) X3.out ?_) | (with_reducible refine wpList_load_whole Head.isRec rfl _ rfl gY (by with_unfolding_all exact rfl) _ _ (Head.len _) Y3.out ?_) | (with_reducible refine wpList_store_whole rfl 24 _ _ rfl gY th.enc.toArray (by with_unfolding_all exact rfl) (by with_unfolding_all exact rfl) _ _ Y3.out (Head.size _) rfl (Head.one _) ?_))
    intro w4 q4 x4 z4
    have Y4 : Hid (Head.At w4 gY th) := Lib.hid x4
    have X4 : Hid (Head.At w4 gX h) := Lib.hid (grown_far X3.out q4 (by have := N_X_Y.out; omega))
    have B4 := Lib.hid (B3.out.grown q4 B3.out.size (fun k hk => by injection hk with hk; have := M_Y.out; omega))
    clear q4 x4 z4 Y3 X3 B3
    go_wp2_with (first | (with_reducible refine wpList_load_whole Head.isRec rfl _ rfl gX (by with_unfolding_all exact rfl) _ _ (Head.len _) X4.out ?_) | (with_reducible refine wpList_load_whole Head.isRec rfl _ rfl gY (by with_unfolding_all exact rfl) _ _ (Head.len _) Y4.out ?_))
    refine ((CU w4 B4.out).out).mono ?_
    rintro e5 w5 ⟨rfl, b5⟩
    have X5 : Hid (Head.At w5 gX h) := Lib.hid (Whole.below X4.out b5 X4.out.lt)
    have Y5 : Hid (Head.At w5 gY th) := Lib.hid (Whole.below Y4.out b5 Y4.out.lt)
    have B5 := Lib.hid (B4.out.trans (b5.mono B4.out.size))
    clear b5 X4 Y4 B4
    go_wp2_with (first | (with_reducible refine wpList_load_whole Head.isRec rfl _ rfl gX (by with_unfolding_all exact rfl) _ _ (Head.len _) X5.out ?_) | (with_reducible refine wpList_load_whole Head.isRec rfl _ rfl gY (by with_unfolding_all exact rfl) _ _ (Head.len _) Y5.out ?_) | (refine wpList_alloc_row rfl 30 rfl (Heaf.enc Heaf.zero).toArray Heaf.zero_is ?_))
    intro w6 b6 x6 z6
    obtain ⟨gZ, hgZ⟩ : ∃ g, g = w5.heap.size := ⟨_, rfl⟩
    have N_X_Z := Lib.hid (show gX < gZ from by rw [hgZ]; exact X5.out.lt)
    have N_Y_Z := Lib.hid (show gY < gZ from by rw [hgZ]; exact Y5.out.lt)
    have M_Z := Lib.hid (show w.heap.size ≤ gZ from by rw [hgZ]; exact B5.out.size)
    have X6 : Hid (Head.At w6 gX h) := Lib.hid (Whole.below X5.out b6 X5.out.lt)
    have Y6 : Hid (Head.At w6 gY th) := Lib.hid (Whole.below Y5.out b6 Y5.out.lt)
    have B6 := Lib.hid (B5.out.trans (b6.mono B5.out.size))
    rw [← hgZ] at x6 ⊢
    have Z6 : Hid (Heaf.At w6 gZ Heaf.zero) := Lib.hid x6
    clear b6 x6 z6 hgZ X5 Y5 B5
    go_wp2_with (first | (with_reducible refine wpList_load_whole Head.isRec rfl _ rfl gX (by with_unfolding_all exact rfl) _ _ (Head.len _) X6.out ?_) | (with_reducible refine wpList_load_whole Head.isRec rfl _ rfl gY (by with_unfolding_all exact rfl) _ _ (Head.len _) Y6.out ?_) | (with_reducible refine wpList_load_whole Heaf.isRec rfl _ rfl gZ (by with_unfolding_all exact rfl) _ _ (Heaf.len _) Z6.out ?_) | (with_reducible refine wpList_store_whole rfl 30 _ _ rfl gZ (Heaf.enc th).toArray (by with_unfolding_all exact rfl) (by with_unfolding_all exact rfl) _ _ Z6.out (Heaf.size _) rfl (Heaf.one _) ?_))
    intro w7 q7 x7 z7
    have Z7 : Hid (Heaf.At w7 gZ th) := Lib.hid x7
    have X7 : Hid (Head.At w7 gX h) := Lib.hid (grown_far X6.out q7 (by have := N_X_Z.out; omega))
    have Y7 : Hid (Head.At w7 gY th) := Lib.hid (grown_far Y6.out q7 (by have := N_Y_Z.out; omega))
    have B7 := Lib.hid (B6.out.grown q7 B6.out.size (fun k hk => by injection hk with hk; have := M_Z.out; omega))
    clear q7 x7 z7 Z6 X6 Y6 B6
    clear CT CU d
    go_wp2_with (first | (with_reducible refine wpList_load_whole Head.isRec rfl _ rfl gX (by with_unfolding_all exact rfl) _ _ (Head.len _) X7.out ?_) | (with_reducible refine wpList_load_whole Head.isRec rfl _ rfl gY (by with_unfolding_all exact rfl) _ _ (Head.len _) Y7.out ?_) | (with_reducible refine wpList_load_whole Heaf.isRec rfl _ rfl gZ (by with_unfolding_all exact rfl) _ _ (Heaf.len _) Z7.out ?_))
    refine reg_begin (by kernel_rfl) fun w8 b8 z8 => ?_
    have X8 : Hid (Head.At w8 gX h) := Lib.hid (Whole.below X7.out b8 X7.out.lt)
    have Y8 : Hid (Head.At w8 gY th) := Lib.hid (Whole.below Y7.out b8 Y7.out.lt)
    have Z8 : Hid (Heaf.At w8 gZ th) := Lib.hid (Whole.below Z7.out b8 Z7.out.lt)
    have B8 := Lib.hid (B7.out.trans (b8.mono B7.out.size))
    clear b8 z8 X7 Y7 Z7 B7
    refine reg_take (i := 0) (v := Head.val (h)) rfl (by kernel_rfl) (by kernel_rfl) (by kernel_rfl) (fun _ _ _ h => h) (by rfl) ?hy0 ?_
    case hy0 => intro w' hw'; exact exec_load_whole Head.isRec _ rfl gX rfl _ _ (Head.len _) w' (Whole.below X8.out hw' X8.out.lt)
    simp only [Act.put, List.setIfInBounds_toArray, List.set_cons_zero, List.set_cons_succ]
    refine reg_take (i := 2) (v := Head.val (h)) rfl (by kernel_rfl) (by kernel_rfl) (by kernel_rfl) (fun _ _ _ h => h) (by rfl) ?hy2 ?_
    case hy2 => intro w' hw'; exact exec_load_whole Head.isRec _ rfl gX rfl _ _ (Head.len _) w' (Whole.below X8.out hw' X8.out.lt)
    simp only [Act.put, List.setIfInBounds_toArray, List.set_cons_zero, List.set_cons_succ]
    refine reg_call (i := 1) rfl (by kernel_rfl) (fun K' hK => ?_)
    go_simp
    refine ((CR w8).out).mono ?_
    rintro e9 w9 ⟨rfl, b9⟩
    have X9 : Hid (Head.At w9 gX h) := Lib.hid (Whole.below X8.out b9 X8.out.lt)
    have Y9 : Hid (Head.At w9 gY th) := Lib.hid (Whole.below Y8.out b9 Y8.out.lt)
    have Z9 : Hid (Heaf.At w9 gZ th) := Lib.hid (Whole.below Z8.out b9 Z8.out.lt)
    have B9 := Lib.hid (B8.out.trans (b9.mono B8.out.size))
    refine hK.out _ _ b9 ?_
    clear hK K' b9 X8 Y8 Z8 B8
    refine reg_call (i := 3) rfl (by kernel_rfl) (fun K' hK => ?_)
    go_simp
    refine ((CQ w9).out).mono ?_
    rintro e10 w10 ⟨rfl, b10⟩
    have X10 : Hid (Head.At w10 gX h) := Lib.hid (Whole.below X9.out b10 X9.out.lt)
    have Y10 : Hid (Head.At w10 gY th) := Lib.hid (Whole.below Y9.out b10 Y9.out.lt)
    have Z10 : Hid (Heaf.At w10 gZ th) := Lib.hid (Whole.below Z9.out b10 Z9.out.lt)
    have B10 := Lib.hid (B9.out.trans (b10.mono B9.out.size))
    refine hK.out _ _ b10 ?_
    clear hK K' b10 X9 Y9 Z9 B9
    refine reg_take (i := 4) (v := ?_) rfl (by kernel_rfl) (by kernel_rfl) (by kernel_rfl) (fun _ _ _ h => h) (by rfl) ?hy4 ?_
    case hy4 => intro w' hw'; go_simp; (try with_reducible rfl)
    simp only [Act.put, List.setIfInBounds_toArray, List.set_cons_zero, List.set_cons_succ]
    refine reg_take (i := 5) (v := ?_) rfl (by kernel_rfl) (by kernel_rfl) (by kernel_rfl) (fun _ _ _ h => h) (by rfl) ?hy5 ?_
    case hy5 => intro w' hw'; go_simp; (try with_reducible rfl)
    simp only [Act.put, List.setIfInBounds_toArray, List.set_cons_zero, List.set_cons_succ]
    refine reg_take (i := 6) (v := Head.val (h)) rfl (by kernel_rfl) (by kernel_rfl) (by kernel_rfl) (fun _ _ _ h => h) (by rfl) ?hy6 ?_
    case hy6 => intro w' hw'; exact exec_load_whole Head.isRec _ rfl gX rfl _ _ (Head.len _) w' (Whole.below X10.out hw' X10.out.lt)
    simp only [Act.put, List.setIfInBounds_toArray, List.set_cons_zero, List.set_cons_succ]
    refine reg_take (i := 9) (v := Head.val (h)) rfl (by kernel_rfl) (by kernel_rfl) (by kernel_rfl) (fun _ _ _ h => h) (by rfl) ?hy9 ?_
    case hy9 => intro w' hw'; exact exec_load_whole Head.isRec _ rfl gX rfl _ _ (Head.len _) w' (Whole.below X10.out hw' X10.out.lt)
    simp only [Act.put, List.setIfInBounds_toArray, List.set_cons_zero, List.set_cons_succ]
    refine reg_call (i := 7) rfl (by kernel_rfl) (fun K' hK => ?_)
    go_simp
    refine ((CP w10).out).mono ?_
    rintro e11 w11 ⟨v5, rfl, y5, b11⟩
    have X11 : Hid (Head.At w11 gX h) := Lib.hid (Whole.below X10.out b11 X10.out.lt)
    have Y11 : Hid (Head.At w11 gY th) := Lib.hid (Whole.below Y10.out b11 Y10.out.lt)
    have Z11 : Hid (Heaf.At w11 gZ th) := Lib.hid (Whole.below Z10.out b11 Z10.out.lt)
    have B11 := Lib.hid (B10.out.trans (b11.mono B10.out.size))
    have P11 : Hid (BytesAt w11 v5 l) := Lib.hid y5
    refine hK.out _ _ b11 ?_
    clear hK K' b11 X10 Y10 Z10 B10 y5
    refine reg_take (i := 8) (v := .string ⟨l.toArray⟩) rfl (by kernel_rfl) (by kernel_rfl) (by kernel_rfl) (fun _ _ _ h => h) (by rfl) ?hy8 ?_
    case hy8 => intro w' hw'; exact (by have r := conv_bytes (P11.out.below hw'); go_simp; (try with_reducible rfl))
    simp only [Act.put, List.setIfInBounds_toArray, List.set_cons_zero, List.set_cons_succ]
    refine reg_call (i := 10) rfl (by kernel_rfl) (fun K' hK => ?_)
    go_simp
    refine ((CG w11).out).mono ?_
    rintro e12 w12 ⟨v6, rfl, y6, b12⟩
    have X12 : Hid (Head.At w12 gX h) := Lib.hid (Whole.below X11.out b12 X11.out.lt)
    have Y12 : Hid (Head.At w12 gY th) := Lib.hid (Whole.below Y11.out b12 Y11.out.lt)
    have Z12 : Hid (Heaf.At w12 gZ th) := Lib.hid (Whole.below Z11.out b12 Z11.out.lt)
    have P12 : Hid (BytesAt w12 v5 l) := Lib.hid (P11.out.below b12)
    have B12 := Lib.hid (B11.out.trans (b12.mono B11.out.size))
    have Q12 : Hid (BytesAt w12 v6 l) := Lib.hid y6
    refine hK.out _ _ b12 ?_
    clear hK K' b12 X11 Y11 Z11 P11 B11 y6
    refine reg_take (i := 11) (v := .string ⟨l.toArray⟩) rfl (by kernel_rfl) (by kernel_rfl) (by kernel_rfl) (fun _ _ _ h => h) (by rfl) ?hy11 ?_
    case hy11 => intro w' hw'; exact (by have r := conv_bytes (Q12.out.below hw'); go_simp; (try with_reducible rfl))
    simp only [Act.put, List.setIfInBounds_toArray, List.set_cons_zero, List.set_cons_succ]
    refine reg_take (i := 12) (v := ?_) rfl (by kernel_rfl) (by kernel_rfl) (by kernel_rfl) (fun _ _ _ h => h) (by rfl) ?hy12 ?_
    case hy12 => intro w' hw'; go_simp; (try with_reducible rfl)
    simp only [Act.put, List.setIfInBounds_toArray, List.set_cons_zero, List.set_cons_succ]
    refine reg_take (i := 13) (v := ?_) rfl (by kernel_rfl) (by kernel_rfl) (by kernel_rfl) (fun _ _ _ h => h) (by rfl) ?hy13 ?_
    case hy13 => intro w' hw'; go_simp; (try with_reducible rfl)
    simp only [Act.put, List.setIfInBounds_toArray, List.set_cons_zero, List.set_cons_succ]
    refine reg_take (i := 14) (v := ?_) rfl (by kernel_rfl) (by kernel_rfl) (by kernel_rfl) (fun _ _ _ h => h) (by rfl) ?hy14 ?_
    case hy14 => intro w' hw'; go_simp; (try with_reducible rfl)
    simp only [Act.put, List.setIfInBounds_toArray, List.set_cons_zero, List.set_cons_succ]
    refine reg_take (i := 15) (v := Head.val (th)) rfl (by kernel_rfl) (by kernel_rfl) (by kernel_rfl) (fun _ _ _ h => h) (by rfl) ?hy15 ?_
    case hy15 => intro w' hw'; exact exec_load_whole Head.isRec _ rfl gY rfl _ _ (Head.len _) w' (Whole.below Y12.out hw' Y12.out.lt)
    simp only [Act.put, List.setIfInBounds_toArray, List.set_cons_zero, List.set_cons_succ]
    refine reg_take (i := 16) (v := Heaf.val (th)) rfl (by kernel_rfl) (by kernel_rfl) (by kernel_rfl) (fun _ _ _ h => h) (by rfl) ?hy16 ?_
    case hy16 => intro w' hw'; exact exec_load_whole Heaf.isRec _ rfl gZ rfl _ _ (Heaf.len _) w' (Whole.below Z12.out hw' Z12.out.lt)
    simp only [Act.put, List.setIfInBounds_toArray, List.set_cons_zero, List.set_cons_succ]
    refine reg_take (i := 17) (v := .bool true) rfl (by kernel_rfl) (by kernel_rfl) (by kernel_rfl) (fun _ _ _ h => h) (by rfl) ?hy17 ?_
    case hy17 => intro w' hw'; exact (exec_eq_rec Heaf.isRec _ _ _ rfl (Heaf.enc th) (Heaf.enc th) (Heaf.fits _) (Heaf.fits _) (by with_unfolding_all exact rfl) (by with_unfolding_all exact rfl) true (eqCells_refl (Heaf.fits _)).symm w')
    simp only [Act.put, List.setIfInBounds_toArray, List.set_cons_zero, List.set_cons_succ]
    refine reg_take (i := 18) (v := ?_) rfl (by kernel_rfl) (by kernel_rfl) (by kernel_rfl) (fun _ _ _ h => h) (by rfl) ?hy18 ?_
    case hy18 => intro w' hw'; go_simp; (try with_reducible rfl)
    simp only [Act.put, List.setIfInBounds_toArray, List.set_cons_zero, List.set_cons_succ]
    refine reg_take (i := 19) (v := ?_) rfl (by kernel_rfl) (by kernel_rfl) (by kernel_rfl) (fun _ _ _ h => h) (by rfl) ?hy19 ?_
    case hy19 => intro w' hw'; go_simp; (try with_reducible rfl)
    simp only [Act.put, List.setIfInBounds_toArray, List.set_cons_zero, List.set_cons_succ]
    refine reg_take (i := 20) (v := ?_) rfl (by kernel_rfl) (by kernel_rfl) (by kernel_rfl) (fun _ _ _ h => h) (by rfl) ?hy20 ?_
    case hy20 => intro w' hw'; go_simp; (try with_reducible rfl)
    simp only [Act.put, List.setIfInBounds_toArray, List.set_cons_zero, List.set_cons_succ]
    refine reg_take (i := 21) (v := ?_) rfl (by kernel_rfl) (by kernel_rfl) (by kernel_rfl) (fun _ _ _ h => h) (by rfl) ?hy21 ?_
    case hy21 => intro w' hw'; go_simp; (try with_reducible rfl)
    simp only [Act.put, List.setIfInBounds_toArray, List.set_cons_zero, List.set_cons_succ]
    refine reg_take (i := 22) (v := ?_) rfl (by kernel_rfl) (by kernel_rfl) (by kernel_rfl) (fun _ _ _ h => h) (by rfl) ?hy22 ?_
    case hy22 => intro w' hw'; go_simp; (try with_reducible rfl)
    simp only [Act.put, List.setIfInBounds_toArray, List.set_cons_zero, List.set_cons_succ]
    refine reg_take (i := 23) (v := ?_) rfl (by kernel_rfl) (by kernel_rfl) (by kernel_rfl) (fun _ _ _ h => h) (by rfl) ?hy23 ?_
    case hy23 => intro w' hw'; go_simp; (try with_reducible rfl)
    simp only [Act.put, List.setIfInBounds_toArray, List.set_cons_zero, List.set_cons_succ]
    refine reg_take (i := 24) (v := ?_) rfl (by kernel_rfl) (by kernel_rfl) (by kernel_rfl) (fun _ _ _ h => h) (by rfl) ?hy24 ?_
    case hy24 => intro w' hw'; go_simp; (try with_reducible rfl)
    simp only [Act.put, List.setIfInBounds_toArray, List.set_cons_zero, List.set_cons_succ]
    refine reg_call (i := 25) rfl (by kernel_rfl) (fun K' hK => ?_)
    go_simp
    refine ((CW w12 (T0.out.below B12.out T0.out.pos) (P0.out.below B12.out)).out).mono ?_
    rintro e13 w13 ⟨rfl, b13⟩
    have X13 : Hid (Head.At w13 gX h) := Lib.hid (Whole.below X12.out b13 X12.out.lt)
    have Y13 : Hid (Head.At w13 gY th) := Lib.hid (Whole.below Y12.out b13 Y12.out.lt)
    have Z13 : Hid (Heaf.At w13 gZ th) := Lib.hid (Whole.below Z12.out b13 Z12.out.lt)
    have P13 : Hid (BytesAt w13 v5 l) := Lib.hid (P12.out.below b13)
    have Q13 : Hid (BytesAt w13 v6 l) := Lib.hid (Q12.out.below b13)
    have B13 := Lib.hid (B12.out.trans (b13.mono B12.out.size))
    refine hK.out _ _ b13 ?_
    clear hK K' b13 X12 Y12 Z12 P12 Q12 B12
    refine reg_take (i := 26) (v := ?_) rfl (by kernel_rfl) (by kernel_rfl) (by kernel_rfl) (fun _ _ _ h => h) (by rfl) ?hy26 ?_
    case hy26 => intro w' hw'; go_simp; (try with_reducible rfl)
    simp only [Act.put, List.setIfInBounds_toArray, List.set_cons_zero, List.set_cons_succ]
    refine reg_take (i := 27) (v := ?_) rfl (by kernel_rfl) (by kernel_rfl) (by kernel_rfl) (fun _ _ _ h => h) (by rfl) ?hy27 ?_
    case hy27 => intro w' hw'; go_simp; (try with_reducible rfl)
    simp only [Act.put, List.setIfInBounds_toArray, List.set_cons_zero, List.set_cons_succ]
    refine reg_end (by kernel_rfl) ?_
    go_wp2
    go_ret
    exact ⟨rfl, B13.out⟩
end Go.Proofs.YtmnhpkdldeifgaaDoor
