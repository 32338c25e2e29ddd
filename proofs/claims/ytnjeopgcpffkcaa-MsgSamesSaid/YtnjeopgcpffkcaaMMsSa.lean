/- MsgSames' core: whether two messages are the same, what a copy is, and what is answered, is as the document has it. -/
import Derived.Test.YtnjeopgcpffkcaaGbi
import Derived.Test.YtnjeopgcpffkcaaGb
namespace Go.Proofs.Ytnjeopgcpffkcaa
set_option maxRecDepth 100000
open Go.RowKit

set_option maxRecDepth 100000 in
set_option maxHeartbeats 2000000 in
theorem msgSames_core (m : Mg) (e t : Row) (n : Mg) (f u : Row) (k : Int) (w : World) (h : Lists w e t m) (hn : Lists w f u n) :
    Calls Try.prog 5 #[(m.raw e t).val, (n.raw f u).val, .int .i64 k] w fun x w' => x = .returned (.bool true) ∧ Below w.heap.size w w' := by
  have C0 := fun w1 (b : Below w.heap.size w w1) => Lib.hid (greatM_any m e t w1 (h.below b))
  have CN := fun w1 (b : Below w.heap.size w w1) => Lib.hid (greatM_any n f u w1 (hn.below b))
  cases hg : greatM m with
  | true =>
    rw [hg] at C0
    clear h hn hg
    go_enter Try.func5, Try.ntmps5
    go_wp2_with (refine wpList_box_row rfl 27 _ rfl (m.raw e t).enc.toArray (by with_unfolding_all exact rfl) ?_)
    intro w1 b1 x1 z1
    obtain ⟨gM, hgM⟩ : ∃ g, g = w.heap.size := ⟨_, rfl⟩
    have M_M := Lib.hid (show w.heap.size ≤ gM from by rw [hgM]; exact Nat.le_refl _)
    have B1 := Lib.hid b1
    rw [← hgM] at x1 ⊢
    have M1 : Hid (Mr.At w1 gM (m.raw e t)) := Lib.hid x1
    clear b1 x1 z1 hgM 
    go_wp2_with (first | (with_reducible refine wpList_load_whole_st Mr.isRec rfl _ rfl gM (by with_unfolding_all exact rfl) _ _ (Mr.len _) M1.out ?_) | (refine wpList_box_row rfl 27 _ rfl (n.raw f u).enc.toArray (by with_unfolding_all exact rfl) ?_))
    intro w2 b2 x2 z2
    obtain ⟨gN, hgN⟩ : ∃ g, g = w1.heap.size := ⟨_, rfl⟩
    have N_M_N := Lib.hid (show gM < gN from by rw [hgN]; exact M1.out.lt)
    have M_N := Lib.hid (show w.heap.size ≤ gN from by rw [hgN]; exact B1.out.size)
    have M2 : Hid (Mr.At w2 gM (m.raw e t)) := Lib.hid (Whole.below M1.out b2 M1.out.lt)
    have B2 := Lib.hid (B1.out.trans (b2.mono B1.out.size))
    rw [← hgN] at x2 ⊢
    have N2 : Hid (Mr.At w2 gN (n.raw f u)) := Lib.hid x2
    clear b2 x2 z2 hgN M1 B1
    go_wp2_with (first | (with_reducible refine wpList_load_whole_st Mr.isRec rfl _ rfl gM (by with_unfolding_all exact rfl) _ _ (Mr.len _) M2.out ?_) | (with_reducible refine wpList_load_whole_st Mr.isRec rfl _ rfl gN (by with_unfolding_all exact rfl) _ _ (Mr.len _) N2.out ?_))
    refine ((C0 w2 B2.out).out).mono ?_
    rintro e3 w3 ⟨rfl, b3⟩
    have M3 : Hid (Mr.At w3 gM (m.raw e t)) := Lib.hid (Whole.below M2.out b3 M2.out.lt)
    have N3 : Hid (Mr.At w3 gN (n.raw f u)) := Lib.hid (Whole.below N2.out b3 N2.out.lt)
    have B3 := Lib.hid (B2.out.trans (b3.mono B2.out.size))
    clear b3 M2 N2 B2
    go_wp2_with (first | (with_reducible refine wpList_load_whole_st Mr.isRec rfl _ rfl gM (by with_unfolding_all exact rfl) _ _ (Mr.len _) M3.out ?_) | (with_reducible refine wpList_load_whole_st Mr.isRec rfl _ rfl gN (by with_unfolding_all exact rfl) _ _ (Mr.len _) N3.out ?_))
    refine (works16 w3).mono ?_
    rintro e4 w4 ⟨rfl, b4⟩
    have M4 : Hid (Mr.At w4 gM (m.raw e t)) := Lib.hid (Whole.below M3.out b4 M3.out.lt)
    have N4 : Hid (Mr.At w4 gN (n.raw f u)) := Lib.hid (Whole.below N3.out b4 N3.out.lt)
    have B4 := Lib.hid (B3.out.trans (b4.mono B3.out.size))
    clear b4 M3 N3 B3
    go_wp2
    go_ret
    exact ⟨rfl, B4.out⟩
  | false =>
    have hs := (great_small hg).1
    rw [hg] at C0
    cases hg2 : greatM n with
    | true =>
      rw [hg2] at CN
      clear h hn hg hs hg2
      go_enter Try.func5, Try.ntmps5
      go_wp2_with (refine wpList_box_row rfl 27 _ rfl (m.raw e t).enc.toArray (by with_unfolding_all exact rfl) ?_)
      intro w1 b1 x1 z1
      obtain ⟨gM, hgM⟩ : ∃ g, g = w.heap.size := ⟨_, rfl⟩
      have M_M := Lib.hid (show w.heap.size ≤ gM from by rw [hgM]; exact Nat.le_refl _)
      have B1 := Lib.hid b1
      rw [← hgM] at x1 ⊢
      have M1 : Hid (Mr.At w1 gM (m.raw e t)) := Lib.hid x1
      clear b1 x1 z1 hgM 
      go_wp2_with (first | (with_reducible refine wpList_load_whole_st Mr.isRec rfl _ rfl gM (by with_unfolding_all exact rfl) _ _ (Mr.len _) M1.out ?_) | (refine wpList_box_row rfl 27 _ rfl (n.raw f u).enc.toArray (by with_unfolding_all exact rfl) ?_))
      intro w2 b2 x2 z2
      obtain ⟨gN, hgN⟩ : ∃ g, g = w1.heap.size := ⟨_, rfl⟩
      have N_M_N := Lib.hid (show gM < gN from by rw [hgN]; exact M1.out.lt)
      have M_N := Lib.hid (show w.heap.size ≤ gN from by rw [hgN]; exact B1.out.size)
      have M2 : Hid (Mr.At w2 gM (m.raw e t)) := Lib.hid (Whole.below M1.out b2 M1.out.lt)
      have B2 := Lib.hid (B1.out.trans (b2.mono B1.out.size))
      rw [← hgN] at x2 ⊢
      have N2 : Hid (Mr.At w2 gN (n.raw f u)) := Lib.hid x2
      clear b2 x2 z2 hgN M1 B1
      go_wp2_with (first | (with_reducible refine wpList_load_whole_st Mr.isRec rfl _ rfl gM (by with_unfolding_all exact rfl) _ _ (Mr.len _) M2.out ?_) | (with_reducible refine wpList_load_whole_st Mr.isRec rfl _ rfl gN (by with_unfolding_all exact rfl) _ _ (Mr.len _) N2.out ?_))
      refine ((C0 w2 B2.out).out).mono ?_
      rintro e3 w3 ⟨rfl, b3⟩
      have M3 : Hid (Mr.At w3 gM (m.raw e t)) := Lib.hid (Whole.below M2.out b3 M2.out.lt)
      have N3 : Hid (Mr.At w3 gN (n.raw f u)) := Lib.hid (Whole.below N2.out b3 N2.out.lt)
      have B3 := Lib.hid (B2.out.trans (b3.mono B2.out.size))
      clear b3 M2 N2 B2
      go_wp2_with (first | (with_reducible refine wpList_load_whole_st Mr.isRec rfl _ rfl gM (by with_unfolding_all exact rfl) _ _ (Mr.len _) M3.out ?_) | (with_reducible refine wpList_load_whole_st Mr.isRec rfl _ rfl gN (by with_unfolding_all exact rfl) _ _ (Mr.len _) N3.out ?_) | (with_reducible refine wpList_load_whole_w_st Mr.isRec (by kernel_rfl) _ rfl gN (by with_unfolding_all exact rfl) _ _ (Mr.len _) N3.out ?_))
      refine ((CN w3 B3.out).out).mono ?_
      rintro e4 w4 ⟨rfl, b4⟩
      have M4 : Hid (Mr.At w4 gM (m.raw e t)) := Lib.hid (Whole.below M3.out b4 M3.out.lt)
      have N4 : Hid (Mr.At w4 gN (n.raw f u)) := Lib.hid (Whole.below N3.out b4 N3.out.lt)
      have B4 := Lib.hid (B3.out.trans (b4.mono B3.out.size))
      clear b4 M3 N3 B3
      go_wp2_with (first | (with_reducible refine wpList_load_whole_st Mr.isRec rfl _ rfl gM (by with_unfolding_all exact rfl) _ _ (Mr.len _) M4.out ?_) | (with_reducible refine wpList_load_whole_st Mr.isRec rfl _ rfl gN (by with_unfolding_all exact rfl) _ _ (Mr.len _) N4.out ?_))
      refine (works16 w4).mono ?_
      rintro e5 w5 ⟨rfl, b5⟩
      have M5 : Hid (Mr.At w5 gM (m.raw e t)) := Lib.hid (Whole.below M4.out b5 M4.out.lt)
      have N5 : Hid (Mr.At w5 gN (n.raw f u)) := Lib.hid (Whole.below N4.out b5 N4.out.lt)
      have B5 := Lib.hid (B4.out.trans (b5.mono B4.out.size))
      clear b5 M4 N4 B4
      go_wp2
      go_ret
      exact ⟨rfl, B5.out⟩
    | false =>
      rw [hg2] at CN
      have C1 := fun w1 (b : Below w.heap.size w w1) => Lib.hid (msSame_any m n e t f u hs.1 hs.2 w1 (h.below b) (hn.below b))
      have C2 := fun w1 (b : Below w.heap.size w w1) => Lib.hid (refMsSame_any m n e t f u hs.1 hs.2 w1 (h.below b) (hn.below b))
      have C3 := fun w1 (b : Below w.heap.size w w1) => Lib.hid ((msCopy_any m e t hs.1 hs.2 w1 (h.below b)).mono (R' := fun x w' => ∃ e' t', x = .returned (m.raw e' t').val ∧ Lists w' e' t' m ∧ Below w1.heap.size w1 w') fun _ _ ⟨e', t', q, o, b⟩ => ⟨e', t', q, o.lists, b⟩)
      have C4 := fun e1 t1 w1 (b : Below w.heap.size w w1) hl => Lib.hid (msSame_self m e t e1 t1 hs.1 hs.2 w1 (h.below b) hl)
      have C5 := fun w => Lib.hid (msAnswer_any k w)
      have C6 := fun w => Lib.hid (refAnswer_any k w)
      clear h hn hg hs hg2
      generalize decide (m = n) = q at *
      generalize answerK k = z at *
      go_enter Try.func5, Try.ntmps5
      go_wp2_with (refine wpList_box_row rfl 27 _ rfl (m.raw e t).enc.toArray (by with_unfolding_all exact rfl) ?_)
      intro w1 b1 x1 z1
      obtain ⟨gM, hgM⟩ : ∃ g, g = w.heap.size := ⟨_, rfl⟩
      have M_M := Lib.hid (show w.heap.size ≤ gM from by rw [hgM]; exact Nat.le_refl _)
      have B1 := Lib.hid b1
      rw [← hgM] at x1 ⊢
      have M1 : Hid (Mr.At w1 gM (m.raw e t)) := Lib.hid x1
      clear b1 x1 z1 hgM 
      go_wp2_with (first | (with_reducible refine wpList_load_whole_st Mr.isRec rfl _ rfl gM (by with_unfolding_all exact rfl) _ _ (Mr.len _) M1.out ?_) | (refine wpList_box_row rfl 27 _ rfl (n.raw f u).enc.toArray (by with_unfolding_all exact rfl) ?_))
      intro w2 b2 x2 z2
      obtain ⟨gN, hgN⟩ : ∃ g, g = w1.heap.size := ⟨_, rfl⟩
      have N_M_N := Lib.hid (show gM < gN from by rw [hgN]; exact M1.out.lt)
      have M_N := Lib.hid (show w.heap.size ≤ gN from by rw [hgN]; exact B1.out.size)
      have M2 : Hid (Mr.At w2 gM (m.raw e t)) := Lib.hid (Whole.below M1.out b2 M1.out.lt)
      have B2 := Lib.hid (B1.out.trans (b2.mono B1.out.size))
      rw [← hgN] at x2 ⊢
      have N2 : Hid (Mr.At w2 gN (n.raw f u)) := Lib.hid x2
      clear b2 x2 z2 hgN M1 B1
      go_wp2_with (first | (with_reducible refine wpList_load_whole_st Mr.isRec rfl _ rfl gM (by with_unfolding_all exact rfl) _ _ (Mr.len _) M2.out ?_) | (with_reducible refine wpList_load_whole_st Mr.isRec rfl _ rfl gN (by with_unfolding_all exact rfl) _ _ (Mr.len _) N2.out ?_))
      refine ((C0 w2 B2.out).out).mono ?_
      rintro e3 w3 ⟨rfl, b3⟩
      have M3 : Hid (Mr.At w3 gM (m.raw e t)) := Lib.hid (Whole.below M2.out b3 M2.out.lt)
      have N3 : Hid (Mr.At w3 gN (n.raw f u)) := Lib.hid (Whole.below N2.out b3 N2.out.lt)
      have B3 := Lib.hid (B2.out.trans (b3.mono B2.out.size))
      clear b3 M2 N2 B2
      go_wp2_with (first | (with_reducible refine wpList_load_whole_st Mr.isRec rfl _ rfl gM (by with_unfolding_all exact rfl) _ _ (Mr.len _) M3.out ?_) | (with_reducible refine wpList_load_whole_st Mr.isRec rfl _ rfl gN (by with_unfolding_all exact rfl) _ _ (Mr.len _) N3.out ?_) | (with_reducible refine wpList_load_whole_w_st Mr.isRec (by kernel_rfl) _ rfl gN (by with_unfolding_all exact rfl) _ _ (Mr.len _) N3.out ?_))
      refine ((CN w3 B3.out).out).mono ?_
      rintro e4 w4 ⟨rfl, b4⟩
      have M4 : Hid (Mr.At w4 gM (m.raw e t)) := Lib.hid (Whole.below M3.out b4 M3.out.lt)
      have N4 : Hid (Mr.At w4 gN (n.raw f u)) := Lib.hid (Whole.below N3.out b4 N3.out.lt)
      have B4 := Lib.hid (B3.out.trans (b4.mono B3.out.size))
      clear b4 M3 N3 B3
      go_wp2_with (first | (with_reducible refine wpList_load_whole_st Mr.isRec rfl _ rfl gM (by with_unfolding_all exact rfl) _ _ (Mr.len _) M4.out ?_) | (with_reducible refine wpList_load_whole_st Mr.isRec rfl _ rfl gN (by with_unfolding_all exact rfl) _ _ (Mr.len _) N4.out ?_))
      refine reg_begin (by kernel_rfl) fun w5 b5 z5 => ?_
      have M5 : Hid (Mr.At w5 gM (m.raw e t)) := Lib.hid (Whole.below M4.out b5 M4.out.lt)
      have N5 : Hid (Mr.At w5 gN (n.raw f u)) := Lib.hid (Whole.below N4.out b5 N4.out.lt)
      have B5 := Lib.hid (B4.out.trans (b5.mono B4.out.size))
      clear b5 z5 M4 N4 B4
      refine reg_take (i := 0) (v := Mr.val ((m.raw e t))) rfl (by kernel_rfl) (by kernel_rfl) (by kernel_rfl) (fun _ _ _ h => h) (by rfl) ?hy0 ?_
      case hy0 => intro w' hw'; exact exec_load_whole_st Mr.isRec _ rfl gM rfl _ _ (Mr.len _) w' (Whole.below M5.out hw' M5.out.lt)
      simp only [Act.put, List.setIfInBounds_toArray, List.set_cons_zero, List.set_cons_succ]
      refine reg_take (i := 1) (v := Mr.val ((n.raw f u))) rfl (by kernel_rfl) (by kernel_rfl) (by kernel_rfl) (fun _ _ _ h => h) (by rfl) ?hy1 ?_
      case hy1 => intro w' hw'; exact exec_load_whole_st Mr.isRec _ rfl gN rfl _ _ (Mr.len _) w' (Whole.below N5.out hw' N5.out.lt)
      simp only [Act.put, List.setIfInBounds_toArray, List.set_cons_zero, List.set_cons_succ]
      refine reg_take (i := 3) (v := Mr.val ((m.raw e t))) rfl (by kernel_rfl) (by kernel_rfl) (by kernel_rfl) (fun _ _ _ h => h) (by rfl) ?hy3 ?_
      case hy3 => intro w' hw'; exact exec_load_whole_st Mr.isRec _ rfl gM rfl _ _ (Mr.len _) w' (Whole.below M5.out hw' M5.out.lt)
      simp only [Act.put, List.setIfInBounds_toArray, List.set_cons_zero, List.set_cons_succ]
      refine reg_take (i := 4) (v := Mr.val ((n.raw f u))) rfl (by kernel_rfl) (by kernel_rfl) (by kernel_rfl) (fun _ _ _ h => h) (by rfl) ?hy4 ?_
      case hy4 => intro w' hw'; exact exec_load_whole_st Mr.isRec _ rfl gN rfl _ _ (Mr.len _) w' (Whole.below N5.out hw' N5.out.lt)
      simp only [Act.put, List.setIfInBounds_toArray, List.set_cons_zero, List.set_cons_succ]
      refine reg_call (i := 2) rfl (by kernel_rfl) (fun K' hK => ?_)
      go_simp
      refine ((C1 w5 B5.out).out).mono ?_
      rintro e6 w6 ⟨rfl, b6⟩
      have M6 : Hid (Mr.At w6 gM (m.raw e t)) := Lib.hid (Whole.below M5.out b6 M5.out.lt)
      have N6 : Hid (Mr.At w6 gN (n.raw f u)) := Lib.hid (Whole.below N5.out b6 N5.out.lt)
      have B6 := Lib.hid (B5.out.trans (b6.mono B5.out.size))
      refine hK.out _ _ b6 ?_
      clear hK K' b6 M5 N5 B5
      refine reg_call (i := 5) rfl (by kernel_rfl) (fun K' hK => ?_)
      go_simp
      refine ((C2 w6 B6.out).out).mono ?_
      rintro e7 w7 ⟨rfl, b7⟩
      have M7 : Hid (Mr.At w7 gM (m.raw e t)) := Lib.hid (Whole.below M6.out b7 M6.out.lt)
      have N7 : Hid (Mr.At w7 gN (n.raw f u)) := Lib.hid (Whole.below N6.out b7 N6.out.lt)
      have B7 := Lib.hid (B6.out.trans (b7.mono B6.out.size))
      refine hK.out _ _ b7 ?_
      clear hK K' b7 M6 N6 B6
      refine reg_take (i := 6) (v := ?_) rfl (by kernel_rfl) (by kernel_rfl) (by kernel_rfl) (fun _ _ _ h => h) (by rfl) ?hy6 ?_
      case hy6 => intro w' hw'; go_simp; (try with_reducible rfl)
      simp only [Act.put, List.setIfInBounds_toArray, List.set_cons_zero, List.set_cons_succ]
      refine reg_take (i := 7) (v := ?_) rfl (by kernel_rfl) (by kernel_rfl) (by kernel_rfl) (fun _ _ _ h => h) (by rfl) ?hy7 ?_
      case hy7 => intro w' hw'; go_simp; (try with_reducible rfl)
      simp only [Act.put, List.setIfInBounds_toArray, List.set_cons_zero, List.set_cons_succ]
      refine reg_take (i := 8) (v := Mr.val ((m.raw e t))) rfl (by kernel_rfl) (by kernel_rfl) (by kernel_rfl) (fun _ _ _ h => h) (by rfl) ?hy8 ?_
      case hy8 => intro w' hw'; exact exec_load_whole_st Mr.isRec _ rfl gM rfl _ _ (Mr.len _) w' (Whole.below M7.out hw' M7.out.lt)
      simp only [Act.put, List.setIfInBounds_toArray, List.set_cons_zero, List.set_cons_succ]
      refine reg_take (i := 9) (v := Mr.val ((m.raw e t))) rfl (by kernel_rfl) (by kernel_rfl) (by kernel_rfl) (fun _ _ _ h => h) (by rfl) ?hy9 ?_
      case hy9 => intro w' hw'; exact exec_load_whole_st Mr.isRec _ rfl gM rfl _ _ (Mr.len _) w' (Whole.below M7.out hw' M7.out.lt)
      simp only [Act.put, List.setIfInBounds_toArray, List.set_cons_zero, List.set_cons_succ]
      refine reg_call (i := 10) rfl (by kernel_rfl) (fun K' hK => ?_)
      go_simp
      refine ((C3 w7 B7.out).out).mono ?_
      rintro e8 w8 ⟨e3, t3, rfl, l3, b8⟩
      have M8 : Hid (Mr.At w8 gM (m.raw e t)) := Lib.hid (Whole.below M7.out b8 M7.out.lt)
      have N8 : Hid (Mr.At w8 gN (n.raw f u)) := Lib.hid (Whole.below N7.out b8 N7.out.lt)
      have B8 := Lib.hid (B7.out.trans (b8.mono B7.out.size))
      have P8 : Hid (Lists w8 e3 t3 m) := Lib.hid l3
      refine hK.out _ _ b8 ?_
      clear hK K' b8 M7 N7 B7 l3
      refine reg_call (i := 11) rfl (by kernel_rfl) (fun K' hK => ?_)
      go_simp
      refine ((C4 e3 t3 w8 B8.out P8.out).out).mono ?_
      rintro e9 w9 ⟨rfl, b9⟩
      have M9 : Hid (Mr.At w9 gM (m.raw e t)) := Lib.hid (Whole.below M8.out b9 M8.out.lt)
      have N9 : Hid (Mr.At w9 gN (n.raw f u)) := Lib.hid (Whole.below N8.out b9 N8.out.lt)
      have P9 : Hid (Lists w9 e3 t3 m) := Lib.hid (P8.out.below b9)
      have B9 := Lib.hid (B8.out.trans (b9.mono B8.out.size))
      refine hK.out _ _ b9 ?_
      clear hK K' b9 M8 N8 P8 B8
      refine reg_take (i := 12) (v := ?_) rfl (by kernel_rfl) (by kernel_rfl) (by kernel_rfl) (fun _ _ _ h => h) (by rfl) ?hy12 ?_
      case hy12 => intro w' hw'; go_simp; (try with_reducible rfl)
      simp only [Act.put, List.setIfInBounds_toArray, List.set_cons_zero, List.set_cons_succ]
      refine reg_take (i := 13) (v := ?_) rfl (by kernel_rfl) (by kernel_rfl) (by kernel_rfl) (fun _ _ _ h => h) (by rfl) ?hy13 ?_
      case hy13 => intro w' hw'; go_simp; (try with_reducible rfl)
      simp only [Act.put, List.setIfInBounds_toArray, List.set_cons_zero, List.set_cons_succ]
      refine reg_take (i := 14) (v := ?_) rfl (by kernel_rfl) (by kernel_rfl) (by kernel_rfl) (fun _ _ _ h => h) (by rfl) ?hy14 ?_
      case hy14 => intro w' hw'; go_simp; (try with_reducible rfl)
      simp only [Act.put, List.setIfInBounds_toArray, List.set_cons_zero, List.set_cons_succ]
      refine reg_take (i := 16) (v := ?_) rfl (by kernel_rfl) (by kernel_rfl) (by kernel_rfl) (fun _ _ _ h => h) (by rfl) ?hy16 ?_
      case hy16 => intro w' hw'; go_simp; (try with_reducible rfl)
      simp only [Act.put, List.setIfInBounds_toArray, List.set_cons_zero, List.set_cons_succ]
      refine reg_call (i := 15) rfl (by kernel_rfl) (fun K' hK => ?_)
      go_simp
      refine ((C5 w9).out).mono ?_
      rintro e10 w10 ⟨rfl, b10⟩
      have M10 : Hid (Mr.At w10 gM (m.raw e t)) := Lib.hid (Whole.below M9.out b10 M9.out.lt)
      have N10 : Hid (Mr.At w10 gN (n.raw f u)) := Lib.hid (Whole.below N9.out b10 N9.out.lt)
      have P10 : Hid (Lists w10 e3 t3 m) := Lib.hid (P9.out.below b10)
      have B10 := Lib.hid (B9.out.trans (b10.mono B9.out.size))
      refine hK.out _ _ b10 ?_
      clear hK K' b10 M9 N9 P9 B9
      refine reg_call (i := 17) rfl (by kernel_rfl) (fun K' hK => ?_)
      go_simp
      refine ((C6 w10).out).mono ?_
      rintro e11 w11 ⟨rfl, b11⟩
      have M11 : Hid (Mr.At w11 gM (m.raw e t)) := Lib.hid (Whole.below M10.out b11 M10.out.lt)
      have N11 : Hid (Mr.At w11 gN (n.raw f u)) := Lib.hid (Whole.below N10.out b11 N10.out.lt)
      have P11 : Hid (Lists w11 e3 t3 m) := Lib.hid (P10.out.below b11)
      have B11 := Lib.hid (B10.out.trans (b11.mono B10.out.size))
      refine hK.out _ _ b11 ?_
      clear hK K' b11 M10 N10 P10 B10
      refine reg_take (i := 18) (v := ?_) rfl (by kernel_rfl) (by kernel_rfl) (by kernel_rfl) (fun _ _ _ h => h) (by rfl) ?hy18 ?_
      case hy18 => intro w' hw'; go_simp; (try with_reducible rfl)
      simp only [Act.put, List.setIfInBounds_toArray, List.set_cons_zero, List.set_cons_succ]
      refine reg_take (i := 19) (v := ?_) rfl (by kernel_rfl) (by kernel_rfl) (by kernel_rfl) (fun _ _ _ h => h) (by rfl) ?hy19 ?_
      case hy19 => intro w' hw'; go_simp; (try with_reducible rfl)
      simp only [Act.put, List.setIfInBounds_toArray, List.set_cons_zero, List.set_cons_succ]
      refine reg_take (i := 20) (v := ?_) rfl (by kernel_rfl) (by kernel_rfl) (by kernel_rfl) (fun _ _ _ h => h) (by rfl) ?hy20 ?_
      case hy20 => intro w' hw'; go_simp; (try with_reducible rfl)
      simp only [Act.put, List.setIfInBounds_toArray, List.set_cons_zero, List.set_cons_succ]
      refine reg_call (i := 21) rfl (by kernel_rfl) (fun K' hK => ?_)
      go_simp
      refine (works16 w11).mono ?_
      rintro e12 w12 ⟨rfl, b12⟩
      have M12 : Hid (Mr.At w12 gM (m.raw e t)) := Lib.hid (Whole.below M11.out b12 M11.out.lt)
      have N12 : Hid (Mr.At w12 gN (n.raw f u)) := Lib.hid (Whole.below N11.out b12 N11.out.lt)
      have P12 : Hid (Lists w12 e3 t3 m) := Lib.hid (P11.out.below b12)
      have B12 := Lib.hid (B11.out.trans (b12.mono B11.out.size))
      refine hK.out _ _ b12 ?_
      clear hK K' b12 M11 N11 P11 B11
      refine reg_take (i := 22) (v := ?_) rfl (by kernel_rfl) (by kernel_rfl) (by kernel_rfl) (fun _ _ _ h => h) (by rfl) ?hy22 ?_
      case hy22 => intro w' hw'; go_simp; (try with_reducible rfl)
      simp only [Act.put, List.setIfInBounds_toArray, List.set_cons_zero, List.set_cons_succ]
      refine reg_take (i := 23) (v := ?_) rfl (by kernel_rfl) (by kernel_rfl) (by kernel_rfl) (fun _ _ _ h => h) (by rfl) ?hy23 ?_
      case hy23 => intro w' hw'; go_simp; (try with_reducible rfl)
      simp only [Act.put, List.setIfInBounds_toArray, List.set_cons_zero, List.set_cons_succ]
      refine reg_end (by kernel_rfl) ?_
      go_wp2
      go_ret
      exact ⟨rfl, B12.out⟩
end Go.Proofs.Ytnjeopgcpffkcaa
