/- The document's layer 17: what may be, and how it is written. -/
import Derived.Test.YtpcdbpijgmninaaDoorMHfS
import Derived.Test.YtpcdbpijgmninaaDoorGk
import Derived.Test.YtpcdbpijgmninaaDoorGx
namespace Go.Proofs.YtpcdbpijgmninaaDoor
set_option maxRecDepth 100000
open Go.RowKit

set_option maxRecDepth 100000 in
set_option maxHeartbeats 1000000 in
theorem hfRightHello_any (x : Her) (w : World) :
    Calls Tryd.prog 44 #[Her.val x] w fun e w' => e = .returned (.bool (rightH x)) ∧ Below w.heap.size w w' := by
  have CN := fun w => Lib.hid (refName_any x.dest w)
  have CR := fun w => Lib.hid (refRight_any x.entry w)
  have HE : Hid (rightH x = (nameB x.dest && decide (x.nonce ≠ 0) && entR x.entry && decide (x.tag.length = 32))) := Lib.hid rfl
  obtain ⟨b0, h0⟩ : ∃ b, b = nameB x.dest := ⟨_, rfl⟩
  obtain ⟨b1, h1⟩ : ∃ b, b = decide (x.nonce ≠ 0) := ⟨_, rfl⟩
  obtain ⟨b2, h2⟩ : ∃ b, b = entR x.entry := ⟨_, rfl⟩
  obtain ⟨b3, h3⟩ : ∃ b, b = decide (x.tag.length = 32) := ⟨_, rfl⟩
  simp only [← h0] at CN
  simp only [← h2] at CR
  rw [← h0, ← h1, ← h2, ← h3] at HE
  have p1 : decide ((0 : Int) < (x.nonce : Int)) = b1 := by rw [h1, Bool.eq_iff_iff, decide_eq_true_eq, decide_eq_true_eq]; omega
  have p2 : decide (0 < x.nonce) = b1 := by rw [h1, Bool.eq_iff_iff, decide_eq_true_eq, decide_eq_true_eq]; omega
  have q1 : ((x.tag.length : Int) == 32) = b3 := by rw [h3, Bool.eq_iff_iff, beq_iff_eq, decide_eq_true_eq]; omega
  have q2 : (x.tag.length == 32) = b3 := by rw [h3, Bool.eq_iff_iff, beq_iff_eq, decide_eq_true_eq]
  have q3 : decide ((x.tag.length : Int) = 32) = b3 := by rw [h3, Bool.eq_iff_iff, decide_eq_true_eq, decide_eq_true_eq]; omega
  clear h0 h1 h2 h3
  go_enter Tryd.func44, Tryd.ntmps44
  go_wp2_with (refine wpList_box_row rfl 34 _ rfl (Her.enc x).toArray (by with_unfolding_all exact rfl) ?_)
  intro w1 b1 x1 z1
  obtain ⟨gX, hgX⟩ : ∃ g, g = w.heap.size := ⟨_, rfl⟩
  have M_X := Lib.hid (show w.heap.size ≤ gX from by rw [hgX]; exact Nat.le_refl _)
  have B1 := Lib.hid b1
  rw [← hgX] at x1 ⊢
  have X1 : Hid (Her.At w1 gX x) := Lib.hid x1
  clear b1 x1 z1 hgX 
  have c0 := Her.At.at_dest X1.out
  have c1 := Her.At.at_nonce X1.out
  go_wp2_with fail
  refine (CN w1).out.mono ?_
  rintro e w9 ⟨rfl, rfl⟩
  clear c0 CN
  cases b0 with
  | false =>
    go_wp2
    go_ret
    exact ⟨by rw [HE.out]; rfl, B1.out⟩
  | true =>
    cases b1 with
    | false =>
      go_wp2
      go_ret
      exact ⟨by rw [HE.out]; rfl, B1.out⟩
    | true =>
      go_wp2_with (first | (with_reducible refine wpList_load_whole Her.isRec rfl _ rfl gX (by with_unfolding_all exact rfl) _ _ (Her.len _) X1.out ?_) | (with_reducible refine wpList_load_rec Ent.isRec rfl _ rfl gX 2 (by with_unfolding_all exact rfl) _ (Ent.len _) (Her.At.part_entry X1.out) ?_) | (with_reducible refine wpList_load_rec_w Ent.isRec (by kernel_rfl) _ rfl gX 2 (by with_unfolding_all exact rfl) _ (Ent.len _) (Her.At.part_entry X1.out) ?_))
      refine ((CR w1).out).mono ?_
      rintro e2 w2 ⟨rfl, b2⟩
      have X2 : Hid (Her.At w2 gX x) := Lib.hid (Whole.below X1.out b2 X1.out.lt)
      have B2 := Lib.hid (B1.out.trans (b2.mono B1.out.size))
      clear b2 X1 B1
      clear c1 CR p1 p2
      cases b2 with
      | false =>
        go_wp2
        go_ret
        exact ⟨by rw [HE.out]; rfl, B2.out⟩
      | true =>
        have c2 := Her.At.at_tag X2.out
        cases b3
        all_goals
          go_wp2
          go_ret
          exact ⟨by rw [HE.out]; rfl, B2.out⟩

set_option maxRecDepth 100000 in
set_option maxHeartbeats 1000000 in
theorem hfRightWelcome_any (x : Wer) (w : World) :
    Calls Tryd.prog 48 #[Wer.val x] w fun e w' => e = .returned (.bool (rightW x)) ∧ Below w.heap.size w w' := by
  have CR := fun w => Lib.hid (refRight_any x.entry w)
  have HE : Hid (rightW x = (decide (x.fst ≠ 0) && decide (x.snd ≠ 0) && entR x.entry && decide (x.tag.length = 32))) := Lib.hid rfl
  obtain ⟨b0, h0⟩ : ∃ b, b = decide (x.fst ≠ 0) := ⟨_, rfl⟩
  obtain ⟨b1, h1⟩ : ∃ b, b = decide (x.snd ≠ 0) := ⟨_, rfl⟩
  obtain ⟨b2, h2⟩ : ∃ b, b = entR x.entry := ⟨_, rfl⟩
  obtain ⟨b3, h3⟩ : ∃ b, b = decide (x.tag.length = 32) := ⟨_, rfl⟩
  simp only [← h2] at CR
  rw [← h0, ← h1, ← h2, ← h3] at HE
  have o1 : decide ((0 : Int) < (x.fst : Int)) = b0 := by rw [h0, Bool.eq_iff_iff, decide_eq_true_eq, decide_eq_true_eq]; omega
  have o2 : decide (0 < x.fst) = b0 := by rw [h0, Bool.eq_iff_iff, decide_eq_true_eq, decide_eq_true_eq]; omega
  have p1 : decide ((0 : Int) < (x.snd : Int)) = b1 := by rw [h1, Bool.eq_iff_iff, decide_eq_true_eq, decide_eq_true_eq]; omega
  have p2 : decide (0 < x.snd) = b1 := by rw [h1, Bool.eq_iff_iff, decide_eq_true_eq, decide_eq_true_eq]; omega
  have q1 : ((x.tag.length : Int) == 32) = b3 := by rw [h3, Bool.eq_iff_iff, beq_iff_eq, decide_eq_true_eq]; omega
  have q2 : (x.tag.length == 32) = b3 := by rw [h3, Bool.eq_iff_iff, beq_iff_eq, decide_eq_true_eq]
  have q3 : decide ((x.tag.length : Int) = 32) = b3 := by rw [h3, Bool.eq_iff_iff, decide_eq_true_eq, decide_eq_true_eq]; omega
  clear h0 h1 h2 h3
  go_enter Tryd.func48, Tryd.ntmps48
  go_wp2_with (refine wpList_box_row rfl 36 _ rfl (Wer.enc x).toArray (by with_unfolding_all exact rfl) ?_)
  intro w1 b1 x1 z1
  obtain ⟨gX, hgX⟩ : ∃ g, g = w.heap.size := ⟨_, rfl⟩
  have M_X := Lib.hid (show w.heap.size ≤ gX from by rw [hgX]; exact Nat.le_refl _)
  have B1 := Lib.hid b1
  rw [← hgX] at x1 ⊢
  have X1 : Hid (Wer.At w1 gX x) := Lib.hid x1
  clear b1 x1 z1 hgX 
  have c0 := Wer.At.at_fst X1.out
  have c1 := Wer.At.at_snd X1.out
  cases b0 with
  | false =>
    go_wp2
    go_ret
    exact ⟨by rw [HE.out]; rfl, B1.out⟩
  | true =>
    cases b1 with
    | false =>
      go_wp2
      go_ret
      exact ⟨by rw [HE.out]; rfl, B1.out⟩
    | true =>
      go_wp2_with (first | (with_reducible refine wpList_load_whole Wer.isRec rfl _ rfl gX (by with_unfolding_all exact rfl) _ _ (Wer.len _) X1.out ?_) | (with_reducible refine wpList_load_rec Ent.isRec rfl _ rfl gX 2 (by with_unfolding_all exact rfl) _ (Ent.len _) (Wer.At.part_entry X1.out) ?_) | (with_reducible refine wpList_load_rec_w Ent.isRec (by kernel_rfl) _ rfl gX 2 (by with_unfolding_all exact rfl) _ (Ent.len _) (Wer.At.part_entry X1.out) ?_))
      refine ((CR w1).out).mono ?_
      rintro e2 w2 ⟨rfl, b2⟩
      have X2 : Hid (Wer.At w2 gX x) := Lib.hid (Whole.below X1.out b2 X1.out.lt)
      have B2 := Lib.hid (B1.out.trans (b2.mono B1.out.size))
      clear b2 X1 B1
      clear c1 CR o1 o2 p1 p2 c0
      cases b2 with
      | false =>
        go_wp2
        go_ret
        exact ⟨by rw [HE.out]; rfl, B2.out⟩
      | true =>
        have c2 := Wer.At.at_tag X2.out
        cases b3
        all_goals
          go_wp2
          go_ret
          exact ⟨by rw [HE.out]; rfl, B2.out⟩

set_option maxRecDepth 100000 in
set_option maxHeartbeats 2000000 in
theorem hfPutHello_any (x : Her) (w : World) (hm : x.nonce < 18446744073709551616) (hi : x.entry.id < 18446744073709551616) :
    Calls Tryd.prog 19 #[Her.val x] w fun e w' => ∃ v', e = .returned (.tuple #[v', .int .i64 (if rightH x then 0 else 2)]) ∧ BytesAt w' v' (if rightH x then helloB x else []) ∧ Below w.heap.size w w' := by
  have CR := fun w => Lib.hid (hfRightHello_any x w)
  cases hr : rightH x with
  | false =>
    rw [hr] at CR
    clear hr hm hi
    go_enter Tryd.func19, Tryd.ntmps19
    go_wp2_with (refine wpList_box_row rfl 34 _ rfl (Her.enc x).toArray (by with_unfolding_all exact rfl) ?_)
    intro w1 b1 x1 z1
    obtain ⟨gX, hgX⟩ : ∃ g, g = w.heap.size := ⟨_, rfl⟩
    have M_X := Lib.hid (show w.heap.size ≤ gX from by rw [hgX]; exact Nat.le_refl _)
    have B1 := Lib.hid b1
    rw [← hgX] at x1 ⊢
    have X1 : Hid (Her.At w1 gX x) := Lib.hid x1
    clear b1 x1 z1 hgX 
    go_wp2_with (first | (with_reducible refine wpList_load_whole Her.isRec rfl _ rfl gX (by with_unfolding_all exact rfl) _ _ (Her.len _) X1.out ?_) | (with_reducible refine wpList_load_rec Ent.isRec rfl _ rfl gX 2 (by with_unfolding_all exact rfl) _ (Ent.len _) (Her.At.part_entry X1.out) ?_))
    refine ((CR w1).out).mono ?_
    rintro e2 w2 ⟨rfl, b2⟩
    have X2 : Hid (Her.At w2 gX x) := Lib.hid (Whole.below X1.out b2 X1.out.lt)
    have B2 := Lib.hid (B1.out.trans (b2.mono B1.out.size))
    clear b2 X1 B1
    go_wp2
    go_ret2
    exact ⟨_, rfl, BytesAt.nil _, B2.out⟩
  | true =>
    rw [hr] at CR
    obtain ⟨q1, -, q3, q4⟩ := rightH_parts hr
    obtain ⟨p1, p2, -⟩ := entR_parts q3
    have e1 := name_short q1
    have e2 := name_short p1
    have TL := Lib.hid (show (txt x.dest).length ≤ 18 by rw [txt_length]; have := cutL_less x.dest; omega)
    have HD := Lib.hid (show x.dest.length ≤ 70000 by omega)
    have HM := Lib.hid hm
    have HL := Lib.hid q4
    have CE := fun v w h => Lib.hid (hfText_own v ([1] ++ txt x.dest ++ be 8 x.nonce) x.entry w h (by have := TL.out; simp only [List.length_append, be_length, List.length_cons, List.length_nil]; omega) (by omega) (by omega) hi)
    have LE := Lib.hid (textE_less (a := x.entry) (by omega) (by omega))
    have HG : Hid (helloB x = [1] ++ txt x.dest ++ be 8 x.nonce ++ textE x.entry ++ x.tag) := Lib.hid (by simp [helloB, greetP])
    generalize helloB x = R at *
    generalize textE x.entry = G at *
    clear hr q1 q3 q4 p1 p2 e1 e2 hm hi
    go_enter Tryd.func19, Tryd.ntmps19
    go_wp2_with (refine wpList_box_row rfl 34 _ rfl (Her.enc x).toArray (by with_unfolding_all exact rfl) ?_)
    intro w1 b1 x1 z1
    obtain ⟨gX, hgX⟩ : ∃ g, g = w.heap.size := ⟨_, rfl⟩
    have M_X := Lib.hid (show w.heap.size ≤ gX from by rw [hgX]; exact Nat.le_refl _)
    have B1 := Lib.hid b1
    rw [← hgX] at x1 ⊢
    have X1 : Hid (Her.At w1 gX x) := Lib.hid x1
    clear b1 x1 z1 hgX 
    go_wp2_with (first | (with_reducible refine wpList_load_whole Her.isRec rfl _ rfl gX (by with_unfolding_all exact rfl) _ _ (Her.len _) X1.out ?_) | (with_reducible refine wpList_load_rec Ent.isRec rfl _ rfl gX 2 (by with_unfolding_all exact rfl) _ (Ent.len _) (Her.At.part_entry X1.out) ?_))
    refine ((CR w1).out).mono ?_
    rintro e2 w2 ⟨rfl, b2⟩
    have X2 : Hid (Her.At w2 gX x) := Lib.hid (Whole.below X1.out b2 X1.out.lt)
    have B2 := Lib.hid (B1.out.trans (b2.mono B1.out.size))
    clear b2 X1 B1
    have y1 := BytesAt.lit w2 [1] _ (rfl : (#[.int .u8 1] : Array Value) = (bv [1]).toArray)
    have b1 : Below w2.heap.size w2 (w2.alloc (.cells #[.int .u8 1] 5)) := (Below.refl _ _).alloc (Nat.le_refl _) _
    have C := Lib.hid (ref_text_b _ [1] x.dest _ y1 (by decide) HD.out)
    have Xo := Lib.hid (Whole.below X2.out b1 X2.out.lt)
    have c0 := Her.At.at_dest Xo.out
    have Bo := Lib.hid (B2.out.trans (b1.mono B2.out.size))
    clear y1 b1
    go_wp2_with fail
    refine C.out.mono ?_
    rintro e wp ⟨vp, rfl, y2, b2⟩
    have Xp : Hid (Her.At wp gX x) := Lib.hid (Whole.below Xo.out b2 (Whole.lt Xo.out))
    have Bp := Lib.hid (Bo.out.trans (b2.mono Bo.out.size))
    have Yp := Lib.hid y2
    clear y2 b2 c0 C Xo Bo X2 B2
    have c0 := Her.At.at_nonce Xp.out
    have C := Lib.hid (ref_num_b vp ([1] ++ txt x.dest) x.nonce 8 wp Yp.out (by decide) (by decide) (by have := TL.out; rw [List.length_append]; simp only [List.length_cons, List.length_nil]; omega) HM.out)
    go_wp2_with fail
    refine C.out.mono ?_
    rintro e wq ⟨vq, rfl, y3, b3⟩
    have Xq : Hid (Her.At wq gX x) := Lib.hid (Whole.below Xp.out b3 (Whole.lt Xp.out))
    have Bq := Lib.hid (Bp.out.trans (b3.mono Bp.out.size))
    have Yq := Lib.hid y3
    clear y3 b3 c0 C Xp Bp Yp
    go_wp2_with fail
    obtain ⟨W0, hW0⟩ : ∃ W0, W0 = wq.drew := ⟨_, rfl⟩
    have X0 : Hid (Her.At W0 gX x) := Lib.hid (by rw [hW0]; exact Xq.out)
    have Y0 : Hid (BytesAt W0 vq ([1] ++ txt x.dest ++ be 8 x.nonce)) := Lib.hid (by rw [hW0]; exact Yq.out.drewN 1)
    have B0 : Hid (Below w.heap.size w W0) := Lib.hid (by rw [hW0]; exact Bq.out.drew)
    have Z0 := Lib.hid (Whole.lt X0.out)
    refine regS_begin (fun w' => Below W0.heap.size W0 w') (by kernel_rfl) (by rw [← hW0]; exact Below.refl _ _) ?_
    have hS : Below W0.heap.size W0 W0 := Below.refl _ _
    rw [← hW0]
    clear hW0 Xq Yq Bq
    refine regS_take (i := 0) (v := ?_) rfl (by kernel_rfl) (by kernel_rfl) (by kernel_rfl) (fun _ _ _ h => h) (by rfl) hS ?hy0 ?_
    case hy0 => intro w' hw'; go_simp; (try with_reducible rfl)
    simp only [Act.put, List.setIfInBounds_toArray, List.set_cons_zero, List.set_cons_succ]
    refine regS_take (i := 1) (v := ?_) rfl (by kernel_rfl) (by kernel_rfl) (by kernel_rfl) (fun _ _ _ h => h) (by rfl) hS ?hy1 ?_
    case hy1 => intro w' hw'; go_simp; (try with_reducible rfl)
    simp only [Act.put, List.setIfInBounds_toArray, List.set_cons_zero, List.set_cons_succ]
    refine regS_take (i := 2) (v := x.entry.val) rfl (by kernel_rfl) (by kernel_rfl) (by kernel_rfl) (fun _ _ _ h => h) (by rfl) hS ?hy2 ?_
    case hy2 => intro w' hw'; exact exec_load_rec Ent.isRec _ rfl gX 2 rfl _ (Ent.len _) w' (Her.At.part_entry (Whole.below X0.out hw' Z0.out))
    simp only [Act.put, List.setIfInBounds_toArray, List.set_cons_zero, List.set_cons_succ]
    refine regS_take (i := 4) (v := ?_) rfl (by kernel_rfl) (by kernel_rfl) (by kernel_rfl) (fun _ _ _ h => h) (by rfl) hS ?hy4 ?_
    case hy4 => intro w' hw'; go_simp; (try with_reducible rfl)
    simp only [Act.put, List.setIfInBounds_toArray, List.set_cons_zero, List.set_cons_succ]
    refine regS_take (i := 5) (v := .string ⟨x.tag.toArray⟩) rfl (by kernel_rfl) (by kernel_rfl) (by kernel_rfl) (fun _ _ _ h => h) (by rfl) hS ?hy5 ?_
    case hy5 => intro w' hw'; have c := Her.At.at_tag (Whole.below X0.out hw' Z0.out); go_simp; (try with_reducible rfl)
    simp only [Act.put, List.setIfInBounds_toArray, List.set_cons_zero, List.set_cons_succ]
    refine regS_two (i := 3) (j := 6) rfl rfl (by kernel_rfl) (fun K' hK => ?_) (fun K' hK => ?_)
    · go_simp
      refine (CE vq W0 Y0.out).out.mono ?_
      rintro e wa ⟨vb, rfl, oa, ba⟩
      refine hK.out _ _ ba ?_
      clear hK K' hS
      refine regS_do (i := 6) rfl (by kernel_rfl) (fun K' hK => ?_)
      obtain ⟨vt, wb, rt, yt, bt⟩ := conv_str wa ⟨x.tag.toArray⟩
      go_simp
      have yt : BytesAt wb vt x.tag := by simpa using yt
      have ob := kept_below oa bt rfl
      have bb : Below W0.heap.size W0 wb := ba.trans (bt.mono ba.size)
      refine hK.out _ _ bb ?_
      clear hK K' rt bt oa ba
      refine regS_do (i := 7) rfl (by kernel_rfl) (fun K' hK => ?_)
      refine (if_pos (by kernel_rfl)).mpr ?_
      refine wp_append_bytes _ _ rfl W0.heap.size _ _ _ rfl ob _ x.tag rfl yt (by have := HL.out; have := LE.out; have := TL.out; simp only [List.length_append, be_length, List.length_cons, List.length_nil]; omega) bb.size ?_
      intro vz wz oz gz
      have bz : Below W0.heap.size W0 wz := bb.grown gz bb.size (fun k hk => (ob.lt k hk).1)
      have yz : BytesAt wz vz R := BytesAt.of_own (base := W0.heap.size) (by rw [HG.out, List.length_append, bv_append]; exact oz)
      refine hK.out _ _ bz ?_
      clear hK K' oz gz ob bb yt
      have hS := bz
      refine regS_take (i := 8) (v := ?_) rfl (by kernel_rfl) (by kernel_rfl) (by kernel_rfl) (fun _ _ _ h => h) (by rfl) hS ?hy8 ?_
      case hy8 => intro w' hw'; go_simp; (try with_reducible rfl)
      simp only [Act.put, List.setIfInBounds_toArray, List.set_cons_zero, List.set_cons_succ]
      refine regS_take (i := 9) (v := ?_) rfl (by kernel_rfl) (by kernel_rfl) (by kernel_rfl) (fun _ _ _ h => h) (by rfl) hS ?hy9 ?_
      case hy9 => intro w' hw'; go_simp; (try with_reducible rfl)
      simp only [Act.put, List.setIfInBounds_toArray, List.set_cons_zero, List.set_cons_succ]
      refine regS_end (by kernel_rfl) ?_
      have YC := Lib.hid yz
      have BC := Lib.hid (B0.out.trans (bz.mono B0.out.size))
      clear hS bz yz
      go_wp2
      go_ret2
      exact ⟨_, rfl, YC.out, BC.out⟩
    · obtain ⟨vt, wa, rt, ya, ba⟩ := conv_str W0 ⟨x.tag.toArray⟩
      go_simp
      have ya : BytesAt wa vt x.tag := by simpa using ya
      refine hK.out _ _ ba ?_
      clear hK K' rt hS
      refine regS_do (i := 3) rfl (by kernel_rfl) (fun K' hK => ?_)
      go_simp
      refine (CE vq wa (Y0.out.below ba)).out.mono ?_
      rintro e wb ⟨vb, rfl, oc, bc⟩
      have yt := ya.below bc
      have ob := own_less oc ba.size
      have bb : Below W0.heap.size W0 wb := ba.trans (bc.mono ba.size)
      refine hK.out _ _ bb ?_
      clear hK K' oc bc ya ba
      refine regS_do (i := 7) rfl (by kernel_rfl) (fun K' hK => ?_)
      refine (if_pos (by kernel_rfl)).mpr ?_
      refine wp_append_bytes _ _ rfl W0.heap.size _ _ _ rfl ob _ x.tag rfl yt (by have := HL.out; have := LE.out; have := TL.out; simp only [List.length_append, be_length, List.length_cons, List.length_nil]; omega) bb.size ?_
      intro vz wz oz gz
      have bz : Below W0.heap.size W0 wz := bb.grown gz bb.size (fun k hk => (ob.lt k hk).1)
      have yz : BytesAt wz vz R := BytesAt.of_own (base := W0.heap.size) (by rw [HG.out, List.length_append, bv_append]; exact oz)
      refine hK.out _ _ bz ?_
      clear hK K' oz gz ob bb yt
      have hS := bz
      refine regS_take (i := 8) (v := ?_) rfl (by kernel_rfl) (by kernel_rfl) (by kernel_rfl) (fun _ _ _ h => h) (by rfl) hS ?hy8 ?_
      case hy8 => intro w' hw'; go_simp; (try with_reducible rfl)
      simp only [Act.put, List.setIfInBounds_toArray, List.set_cons_zero, List.set_cons_succ]
      refine regS_take (i := 9) (v := ?_) rfl (by kernel_rfl) (by kernel_rfl) (by kernel_rfl) (fun _ _ _ h => h) (by rfl) hS ?hy9 ?_
      case hy9 => intro w' hw'; go_simp; (try with_reducible rfl)
      simp only [Act.put, List.setIfInBounds_toArray, List.set_cons_zero, List.set_cons_succ]
      refine regS_end (by kernel_rfl) ?_
      have YC := Lib.hid yz
      have BC := Lib.hid (B0.out.trans (bz.mono B0.out.size))
      clear hS bz yz
      go_wp2
      go_ret2
      exact ⟨_, rfl, YC.out, BC.out⟩

set_option maxRecDepth 100000 in
set_option maxHeartbeats 2000000 in
theorem hfPutWelcome_any (x : Wer) (w : World) (hf : x.fst < 18446744073709551616) (hs : x.snd < 18446744073709551616) (hi : x.entry.id < 18446744073709551616) :
    Calls Tryd.prog 21 #[Wer.val x] w fun e w' => ∃ v', e = .returned (.tuple #[v', .int .i64 (if rightW x then 0 else 2)]) ∧ BytesAt w' v' (if rightW x then welcB x else []) ∧ Below w.heap.size w w' := by
  have CR := fun w => Lib.hid (hfRightWelcome_any x w)
  cases hr : rightW x with
  | false =>
    rw [hr] at CR
    clear hr hf hs hi
    go_enter Tryd.func21, Tryd.ntmps21
    go_wp2_with (refine wpList_box_row rfl 36 _ rfl (Wer.enc x).toArray (by with_unfolding_all exact rfl) ?_)
    intro w1 b1 x1 z1
    obtain ⟨gX, hgX⟩ : ∃ g, g = w.heap.size := ⟨_, rfl⟩
    have M_X := Lib.hid (show w.heap.size ≤ gX from by rw [hgX]; exact Nat.le_refl _)
    have B1 := Lib.hid b1
    rw [← hgX] at x1 ⊢
    have X1 : Hid (Wer.At w1 gX x) := Lib.hid x1
    clear b1 x1 z1 hgX 
    go_wp2_with (first | (with_reducible refine wpList_load_whole Wer.isRec rfl _ rfl gX (by with_unfolding_all exact rfl) _ _ (Wer.len _) X1.out ?_) | (with_reducible refine wpList_load_rec Ent.isRec rfl _ rfl gX 2 (by with_unfolding_all exact rfl) _ (Ent.len _) (Wer.At.part_entry X1.out) ?_))
    refine ((CR w1).out).mono ?_
    rintro e2 w2 ⟨rfl, b2⟩
    have X2 : Hid (Wer.At w2 gX x) := Lib.hid (Whole.below X1.out b2 X1.out.lt)
    have B2 := Lib.hid (B1.out.trans (b2.mono B1.out.size))
    clear b2 X1 B1
    go_wp2
    go_ret2
    exact ⟨_, rfl, BytesAt.nil _, B2.out⟩
  | true =>
    rw [hr] at CR
    obtain ⟨-, -, q3, q4⟩ := rightW_parts hr
    obtain ⟨p1, p2, -⟩ := entR_parts q3
    have e2 := name_short p1
    have HF := Lib.hid hf
    have HS := Lib.hid hs
    have HL := Lib.hid q4
    have CE := fun v w h => Lib.hid (hfText_own v ([2] ++ be 8 x.fst ++ be 8 x.snd) x.entry w h (by simp [be_length]) (by omega) (by omega) hi)
    have LE := Lib.hid (textE_less (a := x.entry) (by omega) (by omega))
    have HG : Hid (welcB x = [2] ++ be 8 x.fst ++ be 8 x.snd ++ textE x.entry ++ x.tag) := Lib.hid (rfl)
    generalize welcB x = R at *
    generalize textE x.entry = G at *
    clear hr q3 q4 p1 p2 e2 hf hs hi
    go_enter Tryd.func21, Tryd.ntmps21
    go_wp2_with (refine wpList_box_row rfl 36 _ rfl (Wer.enc x).toArray (by with_unfolding_all exact rfl) ?_)
    intro w1 b1 x1 z1
    obtain ⟨gX, hgX⟩ : ∃ g, g = w.heap.size := ⟨_, rfl⟩
    have M_X := Lib.hid (show w.heap.size ≤ gX from by rw [hgX]; exact Nat.le_refl _)
    have B1 := Lib.hid b1
    rw [← hgX] at x1 ⊢
    have X1 : Hid (Wer.At w1 gX x) := Lib.hid x1
    clear b1 x1 z1 hgX 
    go_wp2_with (first | (with_reducible refine wpList_load_whole Wer.isRec rfl _ rfl gX (by with_unfolding_all exact rfl) _ _ (Wer.len _) X1.out ?_) | (with_reducible refine wpList_load_rec Ent.isRec rfl _ rfl gX 2 (by with_unfolding_all exact rfl) _ (Ent.len _) (Wer.At.part_entry X1.out) ?_))
    refine ((CR w1).out).mono ?_
    rintro e2 w2 ⟨rfl, b2⟩
    have X2 : Hid (Wer.At w2 gX x) := Lib.hid (Whole.below X1.out b2 X1.out.lt)
    have B2 := Lib.hid (B1.out.trans (b2.mono B1.out.size))
    clear b2 X1 B1
    have y1 := BytesAt.lit w2 [2] _ (rfl : (#[.int .u8 2] : Array Value) = (bv [2]).toArray)
    have b1 : Below w2.heap.size w2 (w2.alloc (.cells #[.int .u8 2] 5)) := (Below.refl _ _).alloc (Nat.le_refl _) _
    have C := Lib.hid (ref_num_b _ [2] x.fst 8 _ y1 (by decide) (by decide) (by decide) HF.out)
    have Xo := Lib.hid (Whole.below X2.out b1 X2.out.lt)
    have c0 := Wer.At.at_fst Xo.out
    have Bo := Lib.hid (B2.out.trans (b1.mono B2.out.size))
    clear y1 b1
    go_wp2_with fail
    refine C.out.mono ?_
    rintro e wp ⟨vp, rfl, y2, b2⟩
    have Xp : Hid (Wer.At wp gX x) := Lib.hid (Whole.below Xo.out b2 (Whole.lt Xo.out))
    have Bp := Lib.hid (Bo.out.trans (b2.mono Bo.out.size))
    have Yp := Lib.hid y2
    clear y2 b2 c0 C Xo Bo X2 B2
    have c0 := Wer.At.at_snd Xp.out
    have C := Lib.hid (ref_num_b vp ([2] ++ be 8 x.fst) x.snd 8 wp Yp.out (by decide) (by decide) (by simp [be_length]) HS.out)
    go_wp2_with fail
    refine C.out.mono ?_
    rintro e wq ⟨vq, rfl, y3, b3⟩
    have Xq : Hid (Wer.At wq gX x) := Lib.hid (Whole.below Xp.out b3 (Whole.lt Xp.out))
    have Bq := Lib.hid (Bp.out.trans (b3.mono Bp.out.size))
    have Yq := Lib.hid y3
    clear y3 b3 c0 C Xp Bp Yp
    go_wp2_with fail
    obtain ⟨W0, hW0⟩ : ∃ W0, W0 = wq.drew := ⟨_, rfl⟩
    have X0 : Hid (Wer.At W0 gX x) := Lib.hid (by rw [hW0]; exact Xq.out)
    have Y0 : Hid (BytesAt W0 vq ([2] ++ be 8 x.fst ++ be 8 x.snd)) := Lib.hid (by rw [hW0]; exact Yq.out.drewN 1)
    have B0 : Hid (Below w.heap.size w W0) := Lib.hid (by rw [hW0]; exact Bq.out.drew)
    have Z0 := Lib.hid (Whole.lt X0.out)
    refine regS_begin (fun w' => Below W0.heap.size W0 w') (by kernel_rfl) (by rw [← hW0]; exact Below.refl _ _) ?_
    have hS : Below W0.heap.size W0 W0 := Below.refl _ _
    rw [← hW0]
    clear hW0 Xq Yq Bq
    refine regS_take (i := 0) (v := ?_) rfl (by kernel_rfl) (by kernel_rfl) (by kernel_rfl) (fun _ _ _ h => h) (by rfl) hS ?hy0 ?_
    case hy0 => intro w' hw'; go_simp; (try with_reducible rfl)
    simp only [Act.put, List.setIfInBounds_toArray, List.set_cons_zero, List.set_cons_succ]
    refine regS_take (i := 1) (v := ?_) rfl (by kernel_rfl) (by kernel_rfl) (by kernel_rfl) (fun _ _ _ h => h) (by rfl) hS ?hy1 ?_
    case hy1 => intro w' hw'; go_simp; (try with_reducible rfl)
    simp only [Act.put, List.setIfInBounds_toArray, List.set_cons_zero, List.set_cons_succ]
    refine regS_take (i := 2) (v := x.entry.val) rfl (by kernel_rfl) (by kernel_rfl) (by kernel_rfl) (fun _ _ _ h => h) (by rfl) hS ?hy2 ?_
    case hy2 => intro w' hw'; exact exec_load_rec Ent.isRec _ rfl gX 2 rfl _ (Ent.len _) w' (Wer.At.part_entry (Whole.below X0.out hw' Z0.out))
    simp only [Act.put, List.setIfInBounds_toArray, List.set_cons_zero, List.set_cons_succ]
    refine regS_take (i := 4) (v := ?_) rfl (by kernel_rfl) (by kernel_rfl) (by kernel_rfl) (fun _ _ _ h => h) (by rfl) hS ?hy4 ?_
    case hy4 => intro w' hw'; go_simp; (try with_reducible rfl)
    simp only [Act.put, List.setIfInBounds_toArray, List.set_cons_zero, List.set_cons_succ]
    refine regS_take (i := 5) (v := .string ⟨x.tag.toArray⟩) rfl (by kernel_rfl) (by kernel_rfl) (by kernel_rfl) (fun _ _ _ h => h) (by rfl) hS ?hy5 ?_
    case hy5 => intro w' hw'; have c := Wer.At.at_tag (Whole.below X0.out hw' Z0.out); go_simp; (try with_reducible rfl)
    simp only [Act.put, List.setIfInBounds_toArray, List.set_cons_zero, List.set_cons_succ]
    refine regS_two (i := 3) (j := 6) rfl rfl (by kernel_rfl) (fun K' hK => ?_) (fun K' hK => ?_)
    · go_simp
      refine (CE vq W0 Y0.out).out.mono ?_
      rintro e wa ⟨vb, rfl, oa, ba⟩
      refine hK.out _ _ ba ?_
      clear hK K' hS
      refine regS_do (i := 6) rfl (by kernel_rfl) (fun K' hK => ?_)
      obtain ⟨vt, wb, rt, yt, bt⟩ := conv_str wa ⟨x.tag.toArray⟩
      go_simp
      have yt : BytesAt wb vt x.tag := by simpa using yt
      have ob := kept_below oa bt rfl
      have bb : Below W0.heap.size W0 wb := ba.trans (bt.mono ba.size)
      refine hK.out _ _ bb ?_
      clear hK K' rt bt oa ba
      refine regS_do (i := 7) rfl (by kernel_rfl) (fun K' hK => ?_)
      refine (if_pos (by kernel_rfl)).mpr ?_
      refine wp_append_bytes _ _ rfl W0.heap.size _ _ _ rfl ob _ x.tag rfl yt (by have := HL.out; have := LE.out; simp only [List.length_append, be_length, List.length_cons, List.length_nil]; omega) bb.size ?_
      intro vz wz oz gz
      have bz : Below W0.heap.size W0 wz := bb.grown gz bb.size (fun k hk => (ob.lt k hk).1)
      have yz : BytesAt wz vz R := BytesAt.of_own (base := W0.heap.size) (by rw [HG.out, List.length_append, bv_append]; exact oz)
      refine hK.out _ _ bz ?_
      clear hK K' oz gz ob bb yt
      have hS := bz
      refine regS_take (i := 8) (v := ?_) rfl (by kernel_rfl) (by kernel_rfl) (by kernel_rfl) (fun _ _ _ h => h) (by rfl) hS ?hy8 ?_
      case hy8 => intro w' hw'; go_simp; (try with_reducible rfl)
      simp only [Act.put, List.setIfInBounds_toArray, List.set_cons_zero, List.set_cons_succ]
      refine regS_take (i := 9) (v := ?_) rfl (by kernel_rfl) (by kernel_rfl) (by kernel_rfl) (fun _ _ _ h => h) (by rfl) hS ?hy9 ?_
      case hy9 => intro w' hw'; go_simp; (try with_reducible rfl)
      simp only [Act.put, List.setIfInBounds_toArray, List.set_cons_zero, List.set_cons_succ]
      refine regS_end (by kernel_rfl) ?_
      have YC := Lib.hid yz
      have BC := Lib.hid (B0.out.trans (bz.mono B0.out.size))
      clear hS bz yz
      go_wp2
      go_ret2
      exact ⟨_, rfl, YC.out, BC.out⟩
    · obtain ⟨vt, wa, rt, ya, ba⟩ := conv_str W0 ⟨x.tag.toArray⟩
      go_simp
      have ya : BytesAt wa vt x.tag := by simpa using ya
      refine hK.out _ _ ba ?_
      clear hK K' rt hS
      refine regS_do (i := 3) rfl (by kernel_rfl) (fun K' hK => ?_)
      go_simp
      refine (CE vq wa (Y0.out.below ba)).out.mono ?_
      rintro e wb ⟨vb, rfl, oc, bc⟩
      have yt := ya.below bc
      have ob := own_less oc ba.size
      have bb : Below W0.heap.size W0 wb := ba.trans (bc.mono ba.size)
      refine hK.out _ _ bb ?_
      clear hK K' oc bc ya ba
      refine regS_do (i := 7) rfl (by kernel_rfl) (fun K' hK => ?_)
      refine (if_pos (by kernel_rfl)).mpr ?_
      refine wp_append_bytes _ _ rfl W0.heap.size _ _ _ rfl ob _ x.tag rfl yt (by have := HL.out; have := LE.out; simp only [List.length_append, be_length, List.length_cons, List.length_nil]; omega) bb.size ?_
      intro vz wz oz gz
      have bz : Below W0.heap.size W0 wz := bb.grown gz bb.size (fun k hk => (ob.lt k hk).1)
      have yz : BytesAt wz vz R := BytesAt.of_own (base := W0.heap.size) (by rw [HG.out, List.length_append, bv_append]; exact oz)
      refine hK.out _ _ bz ?_
      clear hK K' oz gz ob bb yt
      have hS := bz
      refine regS_take (i := 8) (v := ?_) rfl (by kernel_rfl) (by kernel_rfl) (by kernel_rfl) (fun _ _ _ h => h) (by rfl) hS ?hy8 ?_
      case hy8 => intro w' hw'; go_simp; (try with_reducible rfl)
      simp only [Act.put, List.setIfInBounds_toArray, List.set_cons_zero, List.set_cons_succ]
      refine regS_take (i := 9) (v := ?_) rfl (by kernel_rfl) (by kernel_rfl) (by kernel_rfl) (fun _ _ _ h => h) (by rfl) hS ?hy9 ?_
      case hy9 => intro w' hw'; go_simp; (try with_reducible rfl)
      simp only [Act.put, List.setIfInBounds_toArray, List.set_cons_zero, List.set_cons_succ]
      refine regS_end (by kernel_rfl) ?_
      have YC := Lib.hid yz
      have BC := Lib.hid (B0.out.trans (bz.mono B0.out.size))
      clear hS bz yz
      go_wp2
      go_ret2
      exact ⟨_, rfl, YC.out, BC.out⟩

set_option maxRecDepth 100000 in
theorem hfPutReset_any (n : Nat) (hn : n < 18446744073709551616) (w : World) :
    Calls Tryd.prog 23 #[.int .u64 (n : Int)] w fun e w' => ∃ v', e = .returned v' ∧ BytesAt w' v' (resetB n) ∧ Below w.heap.size w w' := by
  have HG : Hid (resetB n = [4] ++ be 8 n) := Lib.hid rfl
  have y1 := BytesAt.lit w [4] _ (rfl : (#[.int .u8 4] : Array Value) = (bv [4]).toArray)
  have b1 : Below w.heap.size w (w.alloc (.cells #[.int .u8 4] 5)) := (Below.refl _ _).alloc (Nat.le_refl _) _
  have C := Lib.hid (ref_num_b _ [4] n 8 _ y1 (by decide) (by decide) (by decide) hn)
  rw [← HG.out] at C
  have B1 := Lib.hid b1
  clear y1 b1 hn
  go_enter Tryd.func23, Tryd.ntmps23
  go_wp2_with fail
  refine C.out.mono ?_
  rintro e w2 ⟨v2, rfl, y2, b2⟩
  have B2 := Lib.hid (B1.out.trans (b2.mono B1.out.size))
  have Y2 := Lib.hid y2
  clear y2 b2 C B1
  go_wp2
  go_ret
  exact ⟨_, rfl, Y2.out, B2.out⟩
end Go.Proofs.YtpcdbpijgmninaaDoor
