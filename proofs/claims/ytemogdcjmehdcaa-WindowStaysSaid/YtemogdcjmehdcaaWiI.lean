/- What package window's Mark answers: all that layer 20's statements lean on (window_is). -/
import Derived.Test.YtemogdcjmehdcaaWiE
namespace Go.Proofs.Ytemogdcjmehdcaa
set_option maxRecDepth 100000
open Go.RowKit

set_option maxRecDepth 100000 in
set_option maxHeartbeats 1000000 in
theorem winMark_any (W : Win) (hok : W.ok) (n : Int) (w : World) :
    Calls Try.prog 8 #[W.val, .int .i64 n] w fun e w' => e = .returned (markW W n).val ∧ Below w.heap.size w w' := by
  by_cases hF : freshX W n = 0
  · have CF := fun w => Lib.hid (winFresh_any W hok n w)
    simp only [hF] at CF
    have CH := fun w => Lib.hid (winHalves_any W w)
    obtain ⟨f1, f2, f3, f4, f5⟩ := fresh_place W n hF
    have hm := mark_is W hok n hF
    obtain ⟨M, hM⟩ : ∃ M, M = markW W n := ⟨_, rfl⟩
    obtain ⟨T, hT⟩ : ∃ T, T = max W.top n := ⟨_, rfl⟩
    obtain ⟨p, hp⟩ : ∃ p, p = (n - W.top).toNat := ⟨_, rfl⟩
    obtain ⟨k, hk⟩ : ∃ k, k = (W.top - n).toNat := ⟨_, rfl⟩
    rw [← hM, ← hT, ← hp, ← hk] at hm
    rw [← hM]
    have mx : (if W.top < n then n else W.top) = T := by rw [hT]; split <;> omega
    have e1 : T - W.top = (p : Int) := by omega
    have e2 : T - n = (k : Int) := by omega
    have r1 : IntKind.i64.wrap (T - W.top) = (p : Int) := by rw [e1, IntWalk.i64_in _ (by omega)]
    have r2 : IntKind.i64.wrap (T - n) = (k : Int) := by rw [e2, IntWalk.i64_in _ (by omega)]
    have CM := fun w => Lib.hid (winMoved_any W.low W.high hok.1 p (by omega) w)
    have CW := fun w => Lib.hid (winWith_any (upLo W.low p) (upHi W.low W.high p) (upLo_lt _ _) (upHi_lt _ _ hok.1) k (by omega) w)
    obtain ⟨a, ha⟩ : ∃ a, a = upLo W.low p := ⟨_, rfl⟩
    obtain ⟨b, hb⟩ : ∃ b, b = upHi W.low W.high p := ⟨_, rfl⟩
    rw [← ha, ← hb] at hm
    simp only [← ha, ← hb] at CM CW
    obtain ⟨c, hc⟩ : ∃ c, c = setLo a k := ⟨_, rfl⟩
    obtain ⟨d, hd⟩ : ∃ d, d = setHi b k := ⟨_, rfl⟩
    rw [← hc, ← hd] at hm
    simp only [← hc, ← hd] at CW
    have HM := Lib.hid hm
    clear hm hM hT hp hk e1 e2 ha hb hc hd f1 f2 f3 f4 f5 hF hok
    go_enter Try.func8, Try.ntmps8
    go_wp2_with (refine wpList_box_row rfl 24 _ rfl W.enc.toArray (by with_unfolding_all exact rfl) ?_)
    intro w1 b1 x1 z1
    obtain ⟨gX, hgX⟩ : ∃ g, g = w.heap.size := ⟨_, rfl⟩
    have M_X := Lib.hid (show w.heap.size ≤ gX from by rw [hgX]; exact Nat.le_refl _)
    have B1 := Lib.hid b1
    rw [← hgX] at x1 ⊢
    have X1 : Hid (Win.At w1 gX W) := Lib.hid x1
    clear b1 x1 z1 hgX 
    go_wp2_with (first | (with_reducible refine wpList_load_whole Win.isRec rfl _ rfl gX (by with_unfolding_all exact rfl) _ _ (Win.len _) X1.out ?_) | (refine wpList_alloc_row rfl 24 rfl Win.zero.enc.toArray Win.zero_is ?_))
    intro w2 b2 x2 z2
    obtain ⟨gR, hgR⟩ : ∃ g, g = w1.heap.size := ⟨_, rfl⟩
    have N_X_R := Lib.hid (show gX < gR from by rw [hgR]; exact X1.out.lt)
    have M_R := Lib.hid (show w.heap.size ≤ gR from by rw [hgR]; exact B1.out.size)
    have X2 : Hid (Win.At w2 gX W) := Lib.hid (Whole.below X1.out b2 X1.out.lt)
    have B2 := Lib.hid (B1.out.trans (b2.mono B1.out.size))
    rw [← hgR] at x2 ⊢
    have R2 : Hid (Win.At w2 gR Win.zero) := Lib.hid x2
    clear b2 x2 z2 hgR X1 B1
    go_wp2_with (first | (with_reducible refine wpList_load_whole Win.isRec rfl _ rfl gX (by with_unfolding_all exact rfl) _ _ (Win.len _) X2.out ?_) | (with_reducible refine wpList_load_whole Win.isRec rfl _ rfl gR (by with_unfolding_all exact rfl) _ _ (Win.len _) R2.out ?_))
    refine ((CF w2).out).mono ?_
    rintro e3 w3 ⟨rfl, b3⟩
    have X3 : Hid (Win.At w3 gX W) := Lib.hid (Whole.below X2.out b3 X2.out.lt)
    have R3 : Hid (Win.At w3 gR Win.zero) := Lib.hid (Whole.below R2.out b3 R2.out.lt)
    have B3 := Lib.hid (B2.out.trans (b3.mono B2.out.size))
    clear b3 X2 R2 B2
    clear CF
    have c0 := Win.At.at_top X3.out
    go_wp2_with (first | (with_reducible refine wpList_load_whole Win.isRec rfl _ rfl gX (by with_unfolding_all exact rfl) _ _ (Win.len _) X3.out ?_) | (with_reducible refine wpList_load_whole Win.isRec rfl _ rfl gR (by with_unfolding_all exact rfl) _ _ (Win.len _) R3.out ?_))
    refine regS_begin (From w3) (by kernel_rfl) (Below.refl _ _).drew ?_
    have b4 : Below w3.heap.size w3 w3.drew := (Below.refl _ _).drew
    generalize w3.drew = w4 at b4 ⊢
    have X4 : Hid (Win.At w4 gX W) := Lib.hid (Whole.below X3.out b4 X3.out.lt)
    have R4 : Hid (Win.At w4 gR Win.zero) := Lib.hid (Whole.below R3.out b4 R3.out.lt)
    have B4 := Lib.hid (B3.out.trans (b4.mono B3.out.size))
    have HS4 : Hid (From w3 w4) := Lib.hid b4
    clear b4
    refine regS_take (i := 0) (v := Win.val (W)) rfl (by kernel_rfl) (by kernel_rfl) (by kernel_rfl) (fun _ _ _ h => h) (by rfl) HS4.out ?hy0 ?_
    case hy0 => intro w' hw'; exact exec_load_whole Win.isRec _ rfl gX rfl _ _ (Win.len _) w' (Whole.below X3.out hw' X3.out.lt)
    simp only [Act.put, List.setIfInBounds_toArray, List.set_cons_zero, List.set_cons_succ]
    refine regS_take (i := 2) (v := ?_) rfl (by kernel_rfl) (by kernel_rfl) (by kernel_rfl) (fun _ _ _ h => h) (by rfl) HS4.out ?hy2 ?_
    case hy2 => intro w' hw'; go_simp; (try with_reducible rfl)
    simp only [Act.put, List.setIfInBounds_toArray, List.set_cons_zero, List.set_cons_succ]
    refine regS_take (i := 3) (v := ?_) rfl (by kernel_rfl) (by kernel_rfl) (by kernel_rfl) (fun _ _ _ h => h) (by rfl) HS4.out ?hy3 ?_
    case hy3 => intro w' hw'; go_simp; (try with_reducible rfl)
    simp only [Act.put, List.setIfInBounds_toArray, List.set_cons_zero, List.set_cons_succ]
    refine regS_take (i := 4) (v := (.int .i64 (W).top)) rfl (by kernel_rfl) (by kernel_rfl) (by kernel_rfl) (fun _ _ _ h => h) (by rfl) HS4.out ?hy4 ?_
    case hy4 => intro w' hw'; have c := Win.At.at_top (Whole.below X3.out hw' X3.out.lt); go_simp; (try with_reducible rfl)
    simp only [Act.put, List.setIfInBounds_toArray, List.set_cons_zero, List.set_cons_succ]
    refine regS_take (i := 5) (v := ?_) rfl (by kernel_rfl) (by kernel_rfl) (by kernel_rfl) (fun _ _ _ h => h) (by rfl) HS4.out ?hy5 ?_
    case hy5 => intro w' hw'; go_simp; (try with_reducible rfl)
    simp only [Act.put, List.setIfInBounds_toArray, List.set_cons_zero, List.set_cons_succ]
    refine regS_take (i := 7) (v := ?_) rfl (by kernel_rfl) (by kernel_rfl) (by kernel_rfl) (fun _ _ _ h => h) (by rfl) HS4.out ?hy7 ?_
    case hy7 => intro w' hw'; go_simp; (try with_reducible rfl)
    simp only [Act.put, List.setIfInBounds_toArray, List.set_cons_zero, List.set_cons_succ]
    refine regS_take (i := 8) (v := ?_) rfl (by kernel_rfl) (by kernel_rfl) (by kernel_rfl) (fun _ _ _ h => h) (by rfl) HS4.out ?hy8 ?_
    case hy8 => intro w' hw'; go_simp; (try with_reducible rfl)
    simp only [Act.put, List.setIfInBounds_toArray, List.set_cons_zero, List.set_cons_succ]
    refine regS_take (i := 9) (v := ?_) rfl (by kernel_rfl) (by kernel_rfl) (by kernel_rfl) (fun _ _ _ h => h) (by rfl) HS4.out ?hy9 ?_
    case hy9 => intro w' hw'; go_simp; (try with_reducible rfl)
    simp only [Act.put, List.setIfInBounds_toArray, List.set_cons_zero, List.set_cons_succ]
    refine regS_two (i := 1) (j := 11) rfl rfl (by kernel_rfl) (fun K' hK => ?_) (fun K' hK => ?_)
    · go_simp
      refine ((CH w4).out).mono ?_
      rintro e5 w5 ⟨rfl, b5⟩
      have X5 : Hid (Win.At w5 gX W) := Lib.hid (Whole.below X4.out b5 X4.out.lt)
      have R5 : Hid (Win.At w5 gR Win.zero) := Lib.hid (Whole.below R4.out b5 R4.out.lt)
      have B5 := Lib.hid (B4.out.trans (b5.mono B4.out.size))
      have HS5 : Hid (From w3 w5) := Lib.hid (HS4.out.trans (b5.mono HS4.out.size))
      clear b5
      refine hK.out _ _ HS5.out ?_
      clear hK K' X4 R4 B4 HS4
      refine regS_two (i := 6) (j := 11) rfl rfl (by kernel_rfl) (fun K' hK => ?_) (fun K' hK => ?_)
      · go_simp
        refine ((CM w5).out).mono ?_
        rintro e6 w6 ⟨rfl, b6⟩
        have X6 : Hid (Win.At w6 gX W) := Lib.hid (Whole.below X5.out b6 X5.out.lt)
        have R6 : Hid (Win.At w6 gR Win.zero) := Lib.hid (Whole.below R5.out b6 R5.out.lt)
        have B6 := Lib.hid (B5.out.trans (b6.mono B5.out.size))
        have HS6 : Hid (From w3 w6) := Lib.hid (HS5.out.trans (b6.mono HS5.out.size))
        clear b6
        refine hK.out _ _ HS6.out ?_
        clear hK K' X5 R5 B5 HS5
        refine regS_two (i := 10) (j := 11) rfl rfl (by kernel_rfl) (fun K' hK => ?_) (fun K' hK => ?_)
        · go_simp
          refine ((CW w6).out).mono ?_
          rintro e7 w7 ⟨rfl, b7⟩
          have X7 : Hid (Win.At w7 gX W) := Lib.hid (Whole.below X6.out b7 X6.out.lt)
          have R7 : Hid (Win.At w7 gR Win.zero) := Lib.hid (Whole.below R6.out b7 R6.out.lt)
          have B7 := Lib.hid (B6.out.trans (b7.mono B6.out.size))
          have HS7 : Hid (From w3 w7) := Lib.hid (HS6.out.trans (b7.mono HS6.out.size))
          clear b7
          refine hK.out _ _ HS7.out ?_
          clear hK K' X6 R6 B6 HS6
          refine regS_do (i := 11) rfl (by kernel_rfl) (fun K' hK => ?_)
          refine (if_pos (by kernel_rfl)).mpr ?_
          refine wp_alloc_row 37 rfl (uv [0, 0]) two_zero ?_
          intro w8 b8 x8 z8
          obtain ⟨gP, hgP⟩ : ∃ g, g = w7.heap.size := ⟨_, rfl⟩
          have N_X_P := Lib.hid (show gX < gP from by rw [hgP]; exact X7.out.lt)
          have N_R_P := Lib.hid (show gR < gP from by rw [hgP]; exact R7.out.lt)
          have M_P := Lib.hid (show w.heap.size ≤ gP from by rw [hgP]; exact B7.out.size)
          have L_P := Lib.hid (show w3.heap.size ≤ gP from by rw [hgP]; exact HS7.out.size)
          have X8 : Hid (Win.At w8 gX W) := Lib.hid (Whole.below X7.out b8 X7.out.lt)
          have R8 : Hid (Win.At w8 gR Win.zero) := Lib.hid (Whole.below R7.out b8 R7.out.lt)
          have B8 := Lib.hid (B7.out.trans (b8.mono B7.out.size))
          have HS8 : Hid (From w3 w8) := Lib.hid (HS7.out.trans (b8.mono HS7.out.size))
          clear b8
          rw [← hgP] at x8 ⊢
          have P8 : Hid (Whole w8 gP 37 (uv [0, 0])) := Lib.hid x8
          clear x8 z8 hgP
          refine hK.out _ _ HS8.out ?_
          clear hK K' X7 R7 B7 HS7
          refine regS_do (i := 12) rfl (by kernel_rfl) (fun K' hK => ?_)
          refine (if_pos (by kernel_rfl)).mpr ?_
          refine wp_store_whole 37 _ _ rfl gP (uv [c, d]) (by with_unfolding_all exact rfl) (by with_unfolding_all exact rfl) _ _ P8.out (two_size _ _) rfl (uv_one _) ?_
          intro w9 q9 x9 z9
          have P9 : Hid (Whole w9 gP 37 (uv [c, d])) := Lib.hid x9
          have X9 : Hid (Win.At w9 gX W) := Lib.hid (grown_far X8.out q9 (by have := N_X_P.out; omega))
          have R9 : Hid (Win.At w9 gR Win.zero) := Lib.hid (grown_far R8.out q9 (by have := N_R_P.out; omega))
          have B9 := Lib.hid (B8.out.grown q9 B8.out.size (fun k hk => by injection hk with hk; have := M_P.out; omega))
          have HS9 := Lib.hid (HS8.out.grown q9 HS8.out.size (fun k hk => by injection hk with hk; have := L_P.out; omega))
          clear q9 x9 z9
          refine hK.out _ _ HS9.out ?_
          clear hK K' P8 X8 R8 B8 HS8
          refine regS_end (by kernel_rfl) ?_
          clear HS9 X3 R3
          have q0 := (P9.out.at_ 0).trans (uv_at _ _ c rfl)
          have q1 := (P9.out.at_ 1).trans (uv_at _ _ d rfl)
          have e3 : (Win.mk T c d).enc = [.int .i64 T, .int .u64 (c : Int), .int .u64 (d : Int)] := rfl
          go_wp2_with (first | (with_reducible refine wpList_load_whole Win.isRec rfl _ rfl gX (by with_unfolding_all exact rfl) _ _ (Win.len _) X9.out ?_) | (with_reducible refine wpList_load_whole Win.isRec rfl _ rfl gR (by with_unfolding_all exact rfl) _ _ (Win.len _) R9.out ?_) | (with_reducible refine wpList_store_whole rfl 24 _ _ rfl gR (Win.mk T c d).enc.toArray (by with_unfolding_all exact rfl) (by with_unfolding_all exact rfl) _ _ R9.out (Win.size (Win.mk T c d)) rfl (Win.one _) ?_))
          intro w10 q10 x10 z10
          have R10 : Hid (Win.At w10 gR (Win.mk T c d)) := Lib.hid x10
          have X10 : Hid (Win.At w10 gX W) := Lib.hid (grown_far X9.out q10 (by have := N_X_R.out; omega))
          have P10 : Hid (Whole w10 gP 37 (uv [c, d])) := Lib.hid (grown_far P9.out q10 (by have := N_R_P.out; omega))
          have B10 := Lib.hid (B9.out.grown q10 B9.out.size (fun k hk => by injection hk with hk; have := M_R.out; omega))
          clear q10 x10 z10 R9 X9 P9 B9
          rw [← HM.out] at R10
          go_wp2_with fail
          refine bodyPost_ret (v := M.val) ?_ rfl ⟨rfl, B10.out⟩
          exact results_win rfl _ _ _ _ rfl R10.out
        · refine (if_pos (by kernel_rfl)).mpr ?_
          refine wp_alloc_row 37 rfl (uv [0, 0]) two_zero ?_
          intro w7 b7 x7 z7
          obtain ⟨gP, hgP⟩ : ∃ g, g = w6.heap.size := ⟨_, rfl⟩
          have N_X_P := Lib.hid (show gX < gP from by rw [hgP]; exact X6.out.lt)
          have N_R_P := Lib.hid (show gR < gP from by rw [hgP]; exact R6.out.lt)
          have M_P := Lib.hid (show w.heap.size ≤ gP from by rw [hgP]; exact B6.out.size)
          have L_P := Lib.hid (show w3.heap.size ≤ gP from by rw [hgP]; exact HS6.out.size)
          have X7 : Hid (Win.At w7 gX W) := Lib.hid (Whole.below X6.out b7 X6.out.lt)
          have R7 : Hid (Win.At w7 gR Win.zero) := Lib.hid (Whole.below R6.out b7 R6.out.lt)
          have B7 := Lib.hid (B6.out.trans (b7.mono B6.out.size))
          have HS7 : Hid (From w3 w7) := Lib.hid (HS6.out.trans (b7.mono HS6.out.size))
          clear b7
          rw [← hgP] at x7 ⊢
          have P7 : Hid (Whole w7 gP 37 (uv [0, 0])) := Lib.hid x7
          clear x7 z7 hgP
          refine hK.out _ _ HS7.out ?_
          clear hK K' X6 R6 B6 HS6
          refine regS_do (i := 10) rfl (by kernel_rfl) (fun K' hK => ?_)
          go_simp
          refine ((CW w7).out).mono ?_
          rintro e8 w8 ⟨rfl, b8⟩
          have X8 : Hid (Win.At w8 gX W) := Lib.hid (Whole.below X7.out b8 X7.out.lt)
          have R8 : Hid (Win.At w8 gR Win.zero) := Lib.hid (Whole.below R7.out b8 R7.out.lt)
          have P8 : Hid (Whole w8 gP 37 (uv [0, 0])) := Lib.hid (Whole.below P7.out b8 P7.out.lt)
          have B8 := Lib.hid (B7.out.trans (b8.mono B7.out.size))
          have HS8 : Hid (From w3 w8) := Lib.hid (HS7.out.trans (b8.mono HS7.out.size))
          clear b8
          refine hK.out _ _ HS8.out ?_
          clear hK K' X7 R7 P7 B7 HS7
          refine regS_do (i := 12) rfl (by kernel_rfl) (fun K' hK => ?_)
          refine (if_pos (by kernel_rfl)).mpr ?_
          refine wp_store_whole 37 _ _ rfl gP (uv [c, d]) (by with_unfolding_all exact rfl) (by with_unfolding_all exact rfl) _ _ P8.out (two_size _ _) rfl (uv_one _) ?_
          intro w9 q9 x9 z9
          have P9 : Hid (Whole w9 gP 37 (uv [c, d])) := Lib.hid x9
          have X9 : Hid (Win.At w9 gX W) := Lib.hid (grown_far X8.out q9 (by have := N_X_P.out; omega))
          have R9 : Hid (Win.At w9 gR Win.zero) := Lib.hid (grown_far R8.out q9 (by have := N_R_P.out; omega))
          have B9 := Lib.hid (B8.out.grown q9 B8.out.size (fun k hk => by injection hk with hk; have := M_P.out; omega))
          have HS9 := Lib.hid (HS8.out.grown q9 HS8.out.size (fun k hk => by injection hk with hk; have := L_P.out; omega))
          clear q9 x9 z9
          refine hK.out _ _ HS9.out ?_
          clear hK K' P8 X8 R8 B8 HS8
          refine regS_end (by kernel_rfl) ?_
          clear HS9 X3 R3
          have q0 := (P9.out.at_ 0).trans (uv_at _ _ c rfl)
          have q1 := (P9.out.at_ 1).trans (uv_at _ _ d rfl)
          have e3 : (Win.mk T c d).enc = [.int .i64 T, .int .u64 (c : Int), .int .u64 (d : Int)] := rfl
          go_wp2_with (first | (with_reducible refine wpList_load_whole Win.isRec rfl _ rfl gX (by with_unfolding_all exact rfl) _ _ (Win.len _) X9.out ?_) | (with_reducible refine wpList_load_whole Win.isRec rfl _ rfl gR (by with_unfolding_all exact rfl) _ _ (Win.len _) R9.out ?_) | (with_reducible refine wpList_store_whole rfl 24 _ _ rfl gR (Win.mk T c d).enc.toArray (by with_unfolding_all exact rfl) (by with_unfolding_all exact rfl) _ _ R9.out (Win.size (Win.mk T c d)) rfl (Win.one _) ?_))
          intro w10 q10 x10 z10
          have R10 : Hid (Win.At w10 gR (Win.mk T c d)) := Lib.hid x10
          have X10 : Hid (Win.At w10 gX W) := Lib.hid (grown_far X9.out q10 (by have := N_X_R.out; omega))
          have P10 : Hid (Whole w10 gP 37 (uv [c, d])) := Lib.hid (grown_far P9.out q10 (by have := N_R_P.out; omega))
          have B10 := Lib.hid (B9.out.grown q10 B9.out.size (fun k hk => by injection hk with hk; have := M_R.out; omega))
          clear q10 x10 z10 R9 X9 P9 B9
          rw [← HM.out] at R10
          go_wp2_with fail
          refine bodyPost_ret (v := M.val) ?_ rfl ⟨rfl, B10.out⟩
          exact results_win rfl _ _ _ _ rfl R10.out
      · refine (if_pos (by kernel_rfl)).mpr ?_
        refine wp_alloc_row 37 rfl (uv [0, 0]) two_zero ?_
        intro w6 b6 x6 z6
        obtain ⟨gP, hgP⟩ : ∃ g, g = w5.heap.size := ⟨_, rfl⟩
        have N_X_P := Lib.hid (show gX < gP from by rw [hgP]; exact X5.out.lt)
        have N_R_P := Lib.hid (show gR < gP from by rw [hgP]; exact R5.out.lt)
        have M_P := Lib.hid (show w.heap.size ≤ gP from by rw [hgP]; exact B5.out.size)
        have L_P := Lib.hid (show w3.heap.size ≤ gP from by rw [hgP]; exact HS5.out.size)
        have X6 : Hid (Win.At w6 gX W) := Lib.hid (Whole.below X5.out b6 X5.out.lt)
        have R6 : Hid (Win.At w6 gR Win.zero) := Lib.hid (Whole.below R5.out b6 R5.out.lt)
        have B6 := Lib.hid (B5.out.trans (b6.mono B5.out.size))
        have HS6 : Hid (From w3 w6) := Lib.hid (HS5.out.trans (b6.mono HS5.out.size))
        clear b6
        rw [← hgP] at x6 ⊢
        have P6 : Hid (Whole w6 gP 37 (uv [0, 0])) := Lib.hid x6
        clear x6 z6 hgP
        refine hK.out _ _ HS6.out ?_
        clear hK K' X5 R5 B5 HS5
        refine regS_do (i := 6) rfl (by kernel_rfl) (fun K' hK => ?_)
        go_simp
        refine ((CM w6).out).mono ?_
        rintro e7 w7 ⟨rfl, b7⟩
        have X7 : Hid (Win.At w7 gX W) := Lib.hid (Whole.below X6.out b7 X6.out.lt)
        have R7 : Hid (Win.At w7 gR Win.zero) := Lib.hid (Whole.below R6.out b7 R6.out.lt)
        have P7 : Hid (Whole w7 gP 37 (uv [0, 0])) := Lib.hid (Whole.below P6.out b7 P6.out.lt)
        have B7 := Lib.hid (B6.out.trans (b7.mono B6.out.size))
        have HS7 : Hid (From w3 w7) := Lib.hid (HS6.out.trans (b7.mono HS6.out.size))
        clear b7
        refine hK.out _ _ HS7.out ?_
        clear hK K' X6 R6 P6 B6 HS6
        refine regS_do (i := 10) rfl (by kernel_rfl) (fun K' hK => ?_)
        go_simp
        refine ((CW w7).out).mono ?_
        rintro e8 w8 ⟨rfl, b8⟩
        have X8 : Hid (Win.At w8 gX W) := Lib.hid (Whole.below X7.out b8 X7.out.lt)
        have R8 : Hid (Win.At w8 gR Win.zero) := Lib.hid (Whole.below R7.out b8 R7.out.lt)
        have P8 : Hid (Whole w8 gP 37 (uv [0, 0])) := Lib.hid (Whole.below P7.out b8 P7.out.lt)
        have B8 := Lib.hid (B7.out.trans (b8.mono B7.out.size))
        have HS8 : Hid (From w3 w8) := Lib.hid (HS7.out.trans (b8.mono HS7.out.size))
        clear b8
        refine hK.out _ _ HS8.out ?_
        clear hK K' X7 R7 P7 B7 HS7
        refine regS_do (i := 12) rfl (by kernel_rfl) (fun K' hK => ?_)
        refine (if_pos (by kernel_rfl)).mpr ?_
        refine wp_store_whole 37 _ _ rfl gP (uv [c, d]) (by with_unfolding_all exact rfl) (by with_unfolding_all exact rfl) _ _ P8.out (two_size _ _) rfl (uv_one _) ?_
        intro w9 q9 x9 z9
        have P9 : Hid (Whole w9 gP 37 (uv [c, d])) := Lib.hid x9
        have X9 : Hid (Win.At w9 gX W) := Lib.hid (grown_far X8.out q9 (by have := N_X_P.out; omega))
        have R9 : Hid (Win.At w9 gR Win.zero) := Lib.hid (grown_far R8.out q9 (by have := N_R_P.out; omega))
        have B9 := Lib.hid (B8.out.grown q9 B8.out.size (fun k hk => by injection hk with hk; have := M_P.out; omega))
        have HS9 := Lib.hid (HS8.out.grown q9 HS8.out.size (fun k hk => by injection hk with hk; have := L_P.out; omega))
        clear q9 x9 z9
        refine hK.out _ _ HS9.out ?_
        clear hK K' P8 X8 R8 B8 HS8
        refine regS_end (by kernel_rfl) ?_
        clear HS9 X3 R3
        have q0 := (P9.out.at_ 0).trans (uv_at _ _ c rfl)
        have q1 := (P9.out.at_ 1).trans (uv_at _ _ d rfl)
        have e3 : (Win.mk T c d).enc = [.int .i64 T, .int .u64 (c : Int), .int .u64 (d : Int)] := rfl
        go_wp2_with (first | (with_reducible refine wpList_load_whole Win.isRec rfl _ rfl gX (by with_unfolding_all exact rfl) _ _ (Win.len _) X9.out ?_) | (with_reducible refine wpList_load_whole Win.isRec rfl _ rfl gR (by with_unfolding_all exact rfl) _ _ (Win.len _) R9.out ?_) | (with_reducible refine wpList_store_whole rfl 24 _ _ rfl gR (Win.mk T c d).enc.toArray (by with_unfolding_all exact rfl) (by with_unfolding_all exact rfl) _ _ R9.out (Win.size (Win.mk T c d)) rfl (Win.one _) ?_))
        intro w10 q10 x10 z10
        have R10 : Hid (Win.At w10 gR (Win.mk T c d)) := Lib.hid x10
        have X10 : Hid (Win.At w10 gX W) := Lib.hid (grown_far X9.out q10 (by have := N_X_R.out; omega))
        have P10 : Hid (Whole w10 gP 37 (uv [c, d])) := Lib.hid (grown_far P9.out q10 (by have := N_R_P.out; omega))
        have B10 := Lib.hid (B9.out.grown q10 B9.out.size (fun k hk => by injection hk with hk; have := M_R.out; omega))
        clear q10 x10 z10 R9 X9 P9 B9
        rw [← HM.out] at R10
        go_wp2_with fail
        refine bodyPost_ret (v := M.val) ?_ rfl ⟨rfl, B10.out⟩
        exact results_win rfl _ _ _ _ rfl R10.out
    · refine (if_pos (by kernel_rfl)).mpr ?_
      refine wp_alloc_row 37 rfl (uv [0, 0]) two_zero ?_
      intro w5 b5 x5 z5
      obtain ⟨gP, hgP⟩ : ∃ g, g = w4.heap.size := ⟨_, rfl⟩
      have N_X_P := Lib.hid (show gX < gP from by rw [hgP]; exact X4.out.lt)
      have N_R_P := Lib.hid (show gR < gP from by rw [hgP]; exact R4.out.lt)
      have M_P := Lib.hid (show w.heap.size ≤ gP from by rw [hgP]; exact B4.out.size)
      have L_P := Lib.hid (show w3.heap.size ≤ gP from by rw [hgP]; exact HS4.out.size)
      have X5 : Hid (Win.At w5 gX W) := Lib.hid (Whole.below X4.out b5 X4.out.lt)
      have R5 : Hid (Win.At w5 gR Win.zero) := Lib.hid (Whole.below R4.out b5 R4.out.lt)
      have B5 := Lib.hid (B4.out.trans (b5.mono B4.out.size))
      have HS5 : Hid (From w3 w5) := Lib.hid (HS4.out.trans (b5.mono HS4.out.size))
      clear b5
      rw [← hgP] at x5 ⊢
      have P5 : Hid (Whole w5 gP 37 (uv [0, 0])) := Lib.hid x5
      clear x5 z5 hgP
      refine hK.out _ _ HS5.out ?_
      clear hK K' X4 R4 B4 HS4
      refine regS_do (i := 1) rfl (by kernel_rfl) (fun K' hK => ?_)
      go_simp
      refine ((CH w5).out).mono ?_
      rintro e6 w6 ⟨rfl, b6⟩
      have X6 : Hid (Win.At w6 gX W) := Lib.hid (Whole.below X5.out b6 X5.out.lt)
      have R6 : Hid (Win.At w6 gR Win.zero) := Lib.hid (Whole.below R5.out b6 R5.out.lt)
      have P6 : Hid (Whole w6 gP 37 (uv [0, 0])) := Lib.hid (Whole.below P5.out b6 P5.out.lt)
      have B6 := Lib.hid (B5.out.trans (b6.mono B5.out.size))
      have HS6 : Hid (From w3 w6) := Lib.hid (HS5.out.trans (b6.mono HS5.out.size))
      clear b6
      refine hK.out _ _ HS6.out ?_
      clear hK K' X5 R5 P5 B5 HS5
      refine regS_do (i := 6) rfl (by kernel_rfl) (fun K' hK => ?_)
      go_simp
      refine ((CM w6).out).mono ?_
      rintro e7 w7 ⟨rfl, b7⟩
      have X7 : Hid (Win.At w7 gX W) := Lib.hid (Whole.below X6.out b7 X6.out.lt)
      have R7 : Hid (Win.At w7 gR Win.zero) := Lib.hid (Whole.below R6.out b7 R6.out.lt)
      have P7 : Hid (Whole w7 gP 37 (uv [0, 0])) := Lib.hid (Whole.below P6.out b7 P6.out.lt)
      have B7 := Lib.hid (B6.out.trans (b7.mono B6.out.size))
      have HS7 : Hid (From w3 w7) := Lib.hid (HS6.out.trans (b7.mono HS6.out.size))
      clear b7
      refine hK.out _ _ HS7.out ?_
      clear hK K' X6 R6 P6 B6 HS6
      refine regS_do (i := 10) rfl (by kernel_rfl) (fun K' hK => ?_)
      go_simp
      refine ((CW w7).out).mono ?_
      rintro e8 w8 ⟨rfl, b8⟩
      have X8 : Hid (Win.At w8 gX W) := Lib.hid (Whole.below X7.out b8 X7.out.lt)
      have R8 : Hid (Win.At w8 gR Win.zero) := Lib.hid (Whole.below R7.out b8 R7.out.lt)
      have P8 : Hid (Whole w8 gP 37 (uv [0, 0])) := Lib.hid (Whole.below P7.out b8 P7.out.lt)
      have B8 := Lib.hid (B7.out.trans (b8.mono B7.out.size))
      have HS8 : Hid (From w3 w8) := Lib.hid (HS7.out.trans (b8.mono HS7.out.size))
      clear b8
      refine hK.out _ _ HS8.out ?_
      clear hK K' X7 R7 P7 B7 HS7
      refine regS_do (i := 12) rfl (by kernel_rfl) (fun K' hK => ?_)
      refine (if_pos (by kernel_rfl)).mpr ?_
      refine wp_store_whole 37 _ _ rfl gP (uv [c, d]) (by with_unfolding_all exact rfl) (by with_unfolding_all exact rfl) _ _ P8.out (two_size _ _) rfl (uv_one _) ?_
      intro w9 q9 x9 z9
      have P9 : Hid (Whole w9 gP 37 (uv [c, d])) := Lib.hid x9
      have X9 : Hid (Win.At w9 gX W) := Lib.hid (grown_far X8.out q9 (by have := N_X_P.out; omega))
      have R9 : Hid (Win.At w9 gR Win.zero) := Lib.hid (grown_far R8.out q9 (by have := N_R_P.out; omega))
      have B9 := Lib.hid (B8.out.grown q9 B8.out.size (fun k hk => by injection hk with hk; have := M_P.out; omega))
      have HS9 := Lib.hid (HS8.out.grown q9 HS8.out.size (fun k hk => by injection hk with hk; have := L_P.out; omega))
      clear q9 x9 z9
      refine hK.out _ _ HS9.out ?_
      clear hK K' P8 X8 R8 B8 HS8
      refine regS_end (by kernel_rfl) ?_
      clear HS9 X3 R3
      have q0 := (P9.out.at_ 0).trans (uv_at _ _ c rfl)
      have q1 := (P9.out.at_ 1).trans (uv_at _ _ d rfl)
      have e3 : (Win.mk T c d).enc = [.int .i64 T, .int .u64 (c : Int), .int .u64 (d : Int)] := rfl
      go_wp2_with (first | (with_reducible refine wpList_load_whole Win.isRec rfl _ rfl gX (by with_unfolding_all exact rfl) _ _ (Win.len _) X9.out ?_) | (with_reducible refine wpList_load_whole Win.isRec rfl _ rfl gR (by with_unfolding_all exact rfl) _ _ (Win.len _) R9.out ?_) | (with_reducible refine wpList_store_whole rfl 24 _ _ rfl gR (Win.mk T c d).enc.toArray (by with_unfolding_all exact rfl) (by with_unfolding_all exact rfl) _ _ R9.out (Win.size (Win.mk T c d)) rfl (Win.one _) ?_))
      intro w10 q10 x10 z10
      have R10 : Hid (Win.At w10 gR (Win.mk T c d)) := Lib.hid x10
      have X10 : Hid (Win.At w10 gX W) := Lib.hid (grown_far X9.out q10 (by have := N_X_R.out; omega))
      have P10 : Hid (Whole w10 gP 37 (uv [c, d])) := Lib.hid (grown_far P9.out q10 (by have := N_R_P.out; omega))
      have B10 := Lib.hid (B9.out.grown q10 B9.out.size (fun k hk => by injection hk with hk; have := M_R.out; omega))
      clear q10 x10 z10 R9 X9 P9 B9
      rw [← HM.out] at R10
      go_wp2_with fail
      refine bodyPost_ret (v := M.val) ?_ rfl ⟨rfl, B10.out⟩
      exact results_win rfl _ _ _ _ rfl R10.out
  · have CF := fun w => Lib.hid (winFresh_any W hok n w)
    have em : markW W n = W := by rw [markW, if_pos hF]
    rw [em]
    have e1 : (freshX W n != 0) = true := by simpa using hF
    obtain ⟨F, hFF⟩ : ∃ F, F = freshX W n := ⟨_, rfl⟩
    rw [← hFF] at e1
    simp only [← hFF] at CF
    clear em hFF hF hok
    go_enter Try.func8, Try.ntmps8
    go_wp2_with (refine wpList_box_row rfl 24 _ rfl W.enc.toArray (by with_unfolding_all exact rfl) ?_)
    intro w1 b1 x1 z1
    obtain ⟨gX, hgX⟩ : ∃ g, g = w.heap.size := ⟨_, rfl⟩
    have M_X := Lib.hid (show w.heap.size ≤ gX from by rw [hgX]; exact Nat.le_refl _)
    have B1 := Lib.hid b1
    rw [← hgX] at x1 ⊢
    have X1 : Hid (Win.At w1 gX W) := Lib.hid x1
    clear b1 x1 z1 hgX 
    go_wp2_with (first | (with_reducible refine wpList_load_whole Win.isRec rfl _ rfl gX (by with_unfolding_all exact rfl) _ _ (Win.len _) X1.out ?_) | (refine wpList_alloc_row rfl 24 rfl Win.zero.enc.toArray Win.zero_is ?_))
    intro w2 b2 x2 z2
    obtain ⟨gR, hgR⟩ : ∃ g, g = w1.heap.size := ⟨_, rfl⟩
    have N_X_R := Lib.hid (show gX < gR from by rw [hgR]; exact X1.out.lt)
    have M_R := Lib.hid (show w.heap.size ≤ gR from by rw [hgR]; exact B1.out.size)
    have X2 : Hid (Win.At w2 gX W) := Lib.hid (Whole.below X1.out b2 X1.out.lt)
    have B2 := Lib.hid (B1.out.trans (b2.mono B1.out.size))
    rw [← hgR] at x2 ⊢
    have R2 : Hid (Win.At w2 gR Win.zero) := Lib.hid x2
    clear b2 x2 z2 hgR X1 B1
    go_wp2_with (first | (with_reducible refine wpList_load_whole Win.isRec rfl _ rfl gX (by with_unfolding_all exact rfl) _ _ (Win.len _) X2.out ?_) | (with_reducible refine wpList_load_whole Win.isRec rfl _ rfl gR (by with_unfolding_all exact rfl) _ _ (Win.len _) R2.out ?_))
    refine ((CF w2).out).mono ?_
    rintro e3 w3 ⟨rfl, b3⟩
    have X3 : Hid (Win.At w3 gX W) := Lib.hid (Whole.below X2.out b3 X2.out.lt)
    have R3 : Hid (Win.At w3 gR Win.zero) := Lib.hid (Whole.below R2.out b3 R2.out.lt)
    have B3 := Lib.hid (B2.out.trans (b3.mono B2.out.size))
    clear b3 X2 R2 B2
    clear CF
    go_wp2_with (first | (with_reducible refine wpList_load_whole Win.isRec rfl _ rfl gX (by with_unfolding_all exact rfl) _ _ (Win.len _) X3.out ?_) | (with_reducible refine wpList_load_whole Win.isRec rfl _ rfl gR (by with_unfolding_all exact rfl) _ _ (Win.len _) R3.out ?_) | (with_reducible refine wpList_store_whole rfl 24 _ _ rfl gR W.enc.toArray (by with_unfolding_all exact rfl) (by with_unfolding_all exact rfl) _ _ R3.out (Win.size W) rfl (Win.one _) ?_))
    intro w4 q4 x4 z4
    have R4 : Hid (Win.At w4 gR W) := Lib.hid x4
    have X4 : Hid (Win.At w4 gX W) := Lib.hid (grown_far X3.out q4 (by have := N_X_R.out; omega))
    have B4 := Lib.hid (B3.out.grown q4 B3.out.size (fun k hk => by injection hk with hk; have := M_R.out; omega))
    clear q4 x4 z4 R3 X3 B3
    go_wp2_with fail
    refine bodyPost_ret (v := W.val) ?_ rfl ⟨rfl, B4.out⟩
    exact results_win rfl _ _ _ _ rfl R4.out

theorem window_is : WindowIs where
  fresh W n w hok _ _ := winFresh_any W hok n w
  mark W n w hok _ _ := winMark_any W hok n w
  seen W n w hok _ _ := winSeen_any W hok n w
end Go.Proofs.Ytemogdcjmehdcaa
