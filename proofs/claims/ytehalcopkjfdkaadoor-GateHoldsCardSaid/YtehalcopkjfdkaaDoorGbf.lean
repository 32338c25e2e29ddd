/- Package token as landed: Sign, Check, Valid; and all of them as TokenIs (tools/mktki.py writes it). -/
import Derived.Test.YtehalcopkjfdkaaDoorGba
import Derived.Test.YtehalcopkjfdkaaDoorGbc
import Derived.Test.YtehalcopkjfdkaaDoorGbe
namespace Go.Proofs.YtehalcopkjfdkaaDoor
set_option maxRecDepth 100000
open Go.RowKit

set_option maxRecDepth 100000 in
set_option maxHeartbeats 1000000 in
theorem tkSign_any (k : List UInt8) (a : Ent) (hk : k.length ≤ 4000) (hn : a.name.length ≤ 1000) (w : World) (T : Tab w) :
    Calls Tryd.prog 20 #[.string ⟨k.toArray⟩, a.val] w fun e w' => e = .returned (signE k a).val ∧ Below w.heap.size w w' := by
  have T0 := Lib.hid T
  have HN := Lib.hid hn
  have HKL := Lib.hid hk
  have BL := Lib.hid (show (bodyL a).length ≤ 1020 by rw [bodyL_length]; omega)
  have hv : a.val = .agg a.cells := rfl
  have HS : Hid (signE k a = { a with tag := macL k (bodyL a) }) := Lib.hid rfl
  obtain ⟨M, hM⟩ : ∃ M, M = macL k (bodyL a) := ⟨_, rfl⟩
  have HM := Lib.hid hM
  rw [← hM] at HS
  obtain ⟨S, hS⟩ : ∃ S, S = signE k a := ⟨_, rfl⟩
  rw [← hS] at HS ⊢
  rw [hv]
  clear hk hn hv hM hS T
  go_enter Tryd.func20, Tryd.ntmps20
  go_wp2_with (refine wpList_box_row rfl 29 (.tmp 1) rfl a.cells rfl ?_)
  intro w1 b1 x1 z1
  have X1 : Hid (EntAt w1 w.heap.size a) := Lib.hid x1
  have B1 := Lib.hid b1
  clear b1 x1 z1
  go_wp2_with (refine wpList_alloc_row rfl 29 rfl ent0.cells ent_zero ?_)
  intro w2 b2 x2 z2
  have X2 : Hid (EntAt w2 w.heap.size a) := Lib.hid (Whole.below X1.out b2 X1.out.lt)
  have R2 : Hid (Whole w2 w1.heap.size 29 ent0.cells) := Lib.hid x2
  have B2 := Lib.hid (B1.out.trans (b2.mono B1.out.size))
  have Z2 := Lib.hid (And.intro B1.out.size X1.out.lt)
  obtain ⟨g, hg⟩ : ∃ g, g = w.heap.size := ⟨_, rfl⟩
  have GG := Lib.hid hg
  rw [← hg] at X2 Z2 ⊢
  obtain ⟨x, hx⟩ : ∃ x, x = w1.heap.size := ⟨_, rfl⟩
  rw [← hx] at R2 Z2 ⊢
  clear b2 x2 z2 X1 B1 hg hx
  obtain ⟨vs, w3, r3, y3, b3⟩ := conv_str w2 ⟨k.toArray⟩
  have X3 : Hid (EntAt w3 g a) := Lib.hid (Whole.below X2.out b3 X2.out.lt)
  have R3 : Hid (Whole w3 x 29 ent0.cells) := Lib.hid (Whole.below R2.out b3 R2.out.lt)
  have B3 := Lib.hid (B2.out.trans (b3.mono B2.out.size))
  have Y3 : Hid (BytesAt w3 vs k) := Lib.hid (by simpa using y3)
  clear b3 y3 X2 R2 B2
  go_wp2_with (with_reducible refine wpList_load_ent rfl _ rfl g (by with_unfolding_all exact rfl) a X3.out ?_)
  refine (body_any a HN.out w3).mono ?_
  rintro e w4 ⟨v4, rfl, o4, b4⟩
  have Y4 := Lib.hid (BytesAt.of_own o4)
  have X4 : Hid (EntAt w4 g a) := Lib.hid (Whole.below X3.out b4 X3.out.lt)
  have R4 : Hid (Whole w4 x 29 ent0.cells) := Lib.hid (Whole.below R3.out b4 R3.out.lt)
  have B4 := Lib.hid (B3.out.trans (b4.mono (by rw [← GG.out]; exact Nat.le_of_lt X3.out.lt)))
  have C := Lib.hid (mac_any vs v4 k (bodyL a) w4 (Y3.out.below b4) Y4.out (by have := HKL.out; omega) (by have := BL.out; omega) (T0.out.below B4.out T0.out.pos))
  rw [← HM.out] at C
  clear o4 b4 X3 R3 B3 r3 Y3
  go_wp2_with fail
  refine C.out.mono ?_
  rintro e w5 ⟨v5, rfl, y5, b5⟩
  have r5 := conv_bytes y5
  have X5 : Hid (EntAt w5 g a) := Lib.hid (Whole.below X4.out b5 X4.out.lt)
  have R5 : Hid (Whole w5 x 29 ent0.cells) := Lib.hid (Whole.below R4.out b5 R4.out.lt)
  have B5 := Lib.hid (B4.out.trans (b5.mono B4.out.size))
  have f5 := X5.out.free 5
  have c5 := (EntAt.six X5.out).2.2.2.2.2
  have X6 : Hid (EntAt (w5.setCell ⟨g, 5, none⟩ (.string ⟨M.toArray⟩)) g S) := Lib.hid (by rw [HS.out]; exact X5.out.tag M)
  have R6 : Hid (Whole (w5.setCell ⟨g, 5, none⟩ (.string ⟨M.toArray⟩)) x 29 ent0.cells) := Lib.hid (R5.out.far (by have := Z2.out; simp; omega) _)
  have B6 : Hid (Below w.heap.size w (w5.setCell ⟨g, 5, none⟩ (.string ⟨M.toArray⟩))) := Lib.hid (B5.out.grown (grown_store w5 g 5 _) B5.out.size (fun k hk => by injection hk with hk; have := GG.out; omega))
  clear y5 b5 X4 R4 B4 C
  go_wp2_with (first | (with_reducible refine wpList_load_ent rfl _ rfl g (by with_unfolding_all exact rfl) S X6.out ?_) | (with_reducible refine wpList_store_whole rfl 29 _ _ rfl x S.cells (by with_unfolding_all exact rfl) (by with_unfolding_all exact rfl) _ _ R6.out (ent_size' _) rfl (Ent.cells_one _) ?_))
  intro w7 g7 x7 z7
  have R7 : Hid (EntAt w7 x S) := Lib.hid x7
  have B7 := Lib.hid (B6.out.grown g7 B6.out.size (fun k hk => by injection hk with hk; have := GG.out; have := Z2.out; omega))
  clear g7 x7 z7 X6 R6 B6 X5 R5 B5 f5 c5 r5
  go_wp2
  exact bodyPost_ret (results_ent rfl _ _ _ _ rfl R7.out) rfl ⟨rfl, B7.out⟩

set_option maxRecDepth 100000 in
set_option maxHeartbeats 2000000 in
theorem tkCheck_any (k : List UInt8) (a : Ent) (hk : k.length ≤ 4000) (hn : a.name.length ≤ 1000) (ht : a.tag.length ≤ 1000) (w : World) (T : Tab w) :
    Calls Tryd.prog 18 #[.string ⟨k.toArray⟩, a.val] w fun e w' => e = .returned (.bool (checkT k a)) ∧ Below w.heap.size w w' := by
  have T0 := Lib.hid T
  have CB := fun w => Lib.hid (body_any a hn w)
  have HB := Lib.hid (show (bodyL a).length ≤ 1020 by rw [bodyL_length]; omega)
  have HK := Lib.hid hk
  have HT := Lib.hid ht
  have HQ : Hid (checkT k a = decide (macL k (bodyL a) = a.tag)) := Lib.hid rfl
  obtain ⟨q, hq⟩ : ∃ q, q = checkT k a := ⟨_, rfl⟩
  rw [← hq] at HQ ⊢
  have hv : a.val = .agg a.cells := rfl
  rw [hv]
  clear hk hn ht hq hv T
  go_enter Tryd.func18, Tryd.ntmps18
  go_wp2_with (refine wpList_box_row rfl 29 (.tmp 1) rfl a.cells rfl ?_)
  intro w1 b1 x1 z1
  have X1 : Hid (EntAt w1 w.heap.size a) := x1
  have B1 := Lib.hid b1
  have Z1 := Lib.hid z1
  clear b1 x1 z1
  go_wp2_with fail
  refine regS_begin (fun w' => EntAt w' w.heap.size a ∧ Below w.heap.size w w' ∧ w.heap.size < w'.heap.size) (by kernel_rfl) ⟨X1.out, B1.out.drew, by have := Z1.out; simpa using (by omega : w.heap.size < w1.heap.size)⟩ ?_
  have hS : EntAt w1.drew w.heap.size a ∧ Below w.heap.size w w1.drew ∧ w.heap.size < w1.drew.heap.size := ⟨X1.out, B1.out.drew, by have := Z1.out; simpa using (by omega : w.heap.size < w1.heap.size)⟩
  generalize w1.drew = w2 at *
  clear X1 B1 Z1
  refine regS_take (i := 0) (v := ?_) rfl (by kernel_rfl) (by kernel_rfl) (by kernel_rfl) (fun _ _ _ h => h) (by rfl) hS ?hy0 ?_
  case hy0 => intro w' hw'; go_simp; (try with_reducible rfl)
  simp only [Act.put, List.setIfInBounds_toArray, List.set_cons_zero, List.set_cons_succ]
  refine regS_take (i := 2) (v := a.val) rfl (by kernel_rfl) (by kernel_rfl) (by kernel_rfl) (fun _ _ _ h => h) (by rfl) hS ?hy2 ?_
  case hy2 => intro w' hw'; exact exec_load_ent _ rfl w.heap.size rfl a w' hw'.1
  simp only [Act.put, List.setIfInBounds_toArray, List.set_cons_zero, List.set_cons_succ]
  refine regS_take (i := 4) (v := ?_) rfl (by kernel_rfl) (by kernel_rfl) (by kernel_rfl) (fun _ _ _ h => h) (by rfl) hS ?hy4 ?_
  case hy4 => intro w' hw'; go_simp; (try with_reducible rfl)
  simp only [Act.put, List.setIfInBounds_toArray, List.set_cons_zero, List.set_cons_succ]
  refine regS_take (i := 5) (v := .string ⟨a.tag.toArray⟩) rfl (by kernel_rfl) (by kernel_rfl) (by kernel_rfl) (fun _ _ _ h => h) (by rfl) hS ?hy5 ?_
  case hy5 => intro w' hw'; have c := hw'.1.at_ 5; simp [Ent.cells] at c; go_simp; (try with_reducible rfl)
  simp only [Act.put, List.setIfInBounds_toArray, List.set_cons_zero, List.set_cons_succ]
  have s2 := hS
  clear hS
  refine regS_three (i := 1) (j := 3) (k := 6) rfl rfl rfl (by kernel_rfl) (fun K' hK => ?_) (fun K' hK => ?_) (fun K' hK => ?_)
  · obtain ⟨v1, w3, r1, y1, b1⟩ := conv_str w2 ⟨(k).toArray⟩
    have y1 : BytesAt w3 v1 (k) := by simpa using y1
    go_simp
    have s3 : EntAt w3 w.heap.size a ∧ Below w.heap.size w w3 ∧ w.heap.size < w3.heap.size := ⟨s2.1.below b1 s2.2.2, s2.2.1.trans (b1.mono s2.2.1.size), Nat.lt_of_lt_of_le s2.2.2 b1.size⟩
    refine hK.out _ _ s3 ?_
    clear hK K' b1 r1
    refine regS_two (i := 3) (j := 6) rfl rfl (by kernel_rfl) (fun K' hK => ?_) (fun K' hK => ?_)
    · go_simp
      refine (CB w3).out.mono ?_
      rintro e w4 ⟨v3, rfl, o3, b3⟩
      have y3 := BytesAt.of_own o3
      clear o3
      have s4 : EntAt w4 w.heap.size a ∧ Below w.heap.size w w4 ∧ w.heap.size < w4.heap.size := ⟨s3.1.below b3 s3.2.2, s3.2.1.trans (b3.mono s3.2.1.size), Nat.lt_of_lt_of_le s3.2.2 b3.size⟩
      have y1 := y1.below b3
      refine hK.out _ _ s4 ?_
      clear hK K' b3
      refine regS_do (i := 6) rfl (by kernel_rfl) (fun K' hK => ?_)
      obtain ⟨v6, w5, r6, y6, b6⟩ := conv_str w4 ⟨(a.tag).toArray⟩
      have y6 : BytesAt w5 v6 (a.tag) := by simpa using y6
      go_simp
      have s5 : EntAt w5 w.heap.size a ∧ Below w.heap.size w w5 ∧ w.heap.size < w5.heap.size := ⟨s4.1.below b6 s4.2.2, s4.2.1.trans (b6.mono s4.2.1.size), Nat.lt_of_lt_of_le s4.2.2 b6.size⟩
      have y1 := y1.below b6
      have y3 := y3.below b6
      refine hK.out _ _ s5 ?_
      clear hK K' b6 r6
      refine regS_do (i := 7) rfl (by kernel_rfl) (fun K' hK => ?_)
      go_simp
      refine (check_any v1 v3 v6 k (bodyL a) a.tag w5 y1 y3 y6 (by have := HK.out; omega) (by have := HB.out; omega) (by have := HT.out; omega) (T0.out.below s5.2.1 T0.out.pos)).mono ?_
      rintro e w9 ⟨rfl, b9⟩
      have hS : EntAt w9 w.heap.size a ∧ Below w.heap.size w w9 ∧ w.heap.size < w9.heap.size := ⟨s5.1.below b9 s5.2.2, s5.2.1.trans (b9.mono s5.2.1.size), Nat.lt_of_lt_of_le s5.2.2 b9.size⟩
      refine hK.out _ _ hS ?_
      clear hK K' b9
      refine regS_take (i := 8) (v := ?_) rfl (by kernel_rfl) (by kernel_rfl) (by kernel_rfl) (fun _ _ _ h => h) (by rfl) hS ?hy8 ?_
      case hy8 => intro w' hw'; go_simp; (try with_reducible rfl)
      simp only [Act.put, List.setIfInBounds_toArray, List.set_cons_zero, List.set_cons_succ]
      refine regS_end (by kernel_rfl) ?_
      have B9 := Lib.hid hS.2.1
      rw [← HQ.out]
      clear hS s2 s3 s4 s5 y1 y3 y6
      go_wp2
      go_ret
      exact ⟨rfl, B9.out⟩
    · obtain ⟨v6, w4, r6, y6, b6⟩ := conv_str w3 ⟨(a.tag).toArray⟩
      have y6 : BytesAt w4 v6 (a.tag) := by simpa using y6
      go_simp
      have s4 : EntAt w4 w.heap.size a ∧ Below w.heap.size w w4 ∧ w.heap.size < w4.heap.size := ⟨s3.1.below b6 s3.2.2, s3.2.1.trans (b6.mono s3.2.1.size), Nat.lt_of_lt_of_le s3.2.2 b6.size⟩
      have y1 := y1.below b6
      refine hK.out _ _ s4 ?_
      clear hK K' b6 r6
      refine regS_do (i := 3) rfl (by kernel_rfl) (fun K' hK => ?_)
      go_simp
      refine (CB w4).out.mono ?_
      rintro e w5 ⟨v3, rfl, o3, b3⟩
      have y3 := BytesAt.of_own o3
      clear o3
      have s5 : EntAt w5 w.heap.size a ∧ Below w.heap.size w w5 ∧ w.heap.size < w5.heap.size := ⟨s4.1.below b3 s4.2.2, s4.2.1.trans (b3.mono s4.2.1.size), Nat.lt_of_lt_of_le s4.2.2 b3.size⟩
      have y1 := y1.below b3
      have y6 := y6.below b3
      refine hK.out _ _ s5 ?_
      clear hK K' b3
      refine regS_do (i := 7) rfl (by kernel_rfl) (fun K' hK => ?_)
      go_simp
      refine (check_any v1 v3 v6 k (bodyL a) a.tag w5 y1 y3 y6 (by have := HK.out; omega) (by have := HB.out; omega) (by have := HT.out; omega) (T0.out.below s5.2.1 T0.out.pos)).mono ?_
      rintro e w9 ⟨rfl, b9⟩
      have hS : EntAt w9 w.heap.size a ∧ Below w.heap.size w w9 ∧ w.heap.size < w9.heap.size := ⟨s5.1.below b9 s5.2.2, s5.2.1.trans (b9.mono s5.2.1.size), Nat.lt_of_lt_of_le s5.2.2 b9.size⟩
      refine hK.out _ _ hS ?_
      clear hK K' b9
      refine regS_take (i := 8) (v := ?_) rfl (by kernel_rfl) (by kernel_rfl) (by kernel_rfl) (fun _ _ _ h => h) (by rfl) hS ?hy8 ?_
      case hy8 => intro w' hw'; go_simp; (try with_reducible rfl)
      simp only [Act.put, List.setIfInBounds_toArray, List.set_cons_zero, List.set_cons_succ]
      refine regS_end (by kernel_rfl) ?_
      have B9 := Lib.hid hS.2.1
      rw [← HQ.out]
      clear hS s2 s3 s4 s5 y1 y3 y6
      go_wp2
      go_ret
      exact ⟨rfl, B9.out⟩
  · go_simp
    refine (CB w2).out.mono ?_
    rintro e w3 ⟨v3, rfl, o3, b3⟩
    have y3 := BytesAt.of_own o3
    clear o3
    have s3 : EntAt w3 w.heap.size a ∧ Below w.heap.size w w3 ∧ w.heap.size < w3.heap.size := ⟨s2.1.below b3 s2.2.2, s2.2.1.trans (b3.mono s2.2.1.size), Nat.lt_of_lt_of_le s2.2.2 b3.size⟩
    refine hK.out _ _ s3 ?_
    clear hK K' b3
    refine regS_two (i := 1) (j := 6) rfl rfl (by kernel_rfl) (fun K' hK => ?_) (fun K' hK => ?_)
    · obtain ⟨v1, w4, r1, y1, b1⟩ := conv_str w3 ⟨(k).toArray⟩
      have y1 : BytesAt w4 v1 (k) := by simpa using y1
      go_simp
      have s4 : EntAt w4 w.heap.size a ∧ Below w.heap.size w w4 ∧ w.heap.size < w4.heap.size := ⟨s3.1.below b1 s3.2.2, s3.2.1.trans (b1.mono s3.2.1.size), Nat.lt_of_lt_of_le s3.2.2 b1.size⟩
      have y3 := y3.below b1
      refine hK.out _ _ s4 ?_
      clear hK K' b1 r1
      refine regS_do (i := 6) rfl (by kernel_rfl) (fun K' hK => ?_)
      obtain ⟨v6, w5, r6, y6, b6⟩ := conv_str w4 ⟨(a.tag).toArray⟩
      have y6 : BytesAt w5 v6 (a.tag) := by simpa using y6
      go_simp
      have s5 : EntAt w5 w.heap.size a ∧ Below w.heap.size w w5 ∧ w.heap.size < w5.heap.size := ⟨s4.1.below b6 s4.2.2, s4.2.1.trans (b6.mono s4.2.1.size), Nat.lt_of_lt_of_le s4.2.2 b6.size⟩
      have y3 := y3.below b6
      have y1 := y1.below b6
      refine hK.out _ _ s5 ?_
      clear hK K' b6 r6
      refine regS_do (i := 7) rfl (by kernel_rfl) (fun K' hK => ?_)
      go_simp
      refine (check_any v1 v3 v6 k (bodyL a) a.tag w5 y1 y3 y6 (by have := HK.out; omega) (by have := HB.out; omega) (by have := HT.out; omega) (T0.out.below s5.2.1 T0.out.pos)).mono ?_
      rintro e w9 ⟨rfl, b9⟩
      have hS : EntAt w9 w.heap.size a ∧ Below w.heap.size w w9 ∧ w.heap.size < w9.heap.size := ⟨s5.1.below b9 s5.2.2, s5.2.1.trans (b9.mono s5.2.1.size), Nat.lt_of_lt_of_le s5.2.2 b9.size⟩
      refine hK.out _ _ hS ?_
      clear hK K' b9
      refine regS_take (i := 8) (v := ?_) rfl (by kernel_rfl) (by kernel_rfl) (by kernel_rfl) (fun _ _ _ h => h) (by rfl) hS ?hy8 ?_
      case hy8 => intro w' hw'; go_simp; (try with_reducible rfl)
      simp only [Act.put, List.setIfInBounds_toArray, List.set_cons_zero, List.set_cons_succ]
      refine regS_end (by kernel_rfl) ?_
      have B9 := Lib.hid hS.2.1
      rw [← HQ.out]
      clear hS s2 s3 s4 s5 y1 y3 y6
      go_wp2
      go_ret
      exact ⟨rfl, B9.out⟩
    · obtain ⟨v6, w4, r6, y6, b6⟩ := conv_str w3 ⟨(a.tag).toArray⟩
      have y6 : BytesAt w4 v6 (a.tag) := by simpa using y6
      go_simp
      have s4 : EntAt w4 w.heap.size a ∧ Below w.heap.size w w4 ∧ w.heap.size < w4.heap.size := ⟨s3.1.below b6 s3.2.2, s3.2.1.trans (b6.mono s3.2.1.size), Nat.lt_of_lt_of_le s3.2.2 b6.size⟩
      have y3 := y3.below b6
      refine hK.out _ _ s4 ?_
      clear hK K' b6 r6
      refine regS_do (i := 1) rfl (by kernel_rfl) (fun K' hK => ?_)
      obtain ⟨v1, w5, r1, y1, b1⟩ := conv_str w4 ⟨(k).toArray⟩
      have y1 : BytesAt w5 v1 (k) := by simpa using y1
      go_simp
      have s5 : EntAt w5 w.heap.size a ∧ Below w.heap.size w w5 ∧ w.heap.size < w5.heap.size := ⟨s4.1.below b1 s4.2.2, s4.2.1.trans (b1.mono s4.2.1.size), Nat.lt_of_lt_of_le s4.2.2 b1.size⟩
      have y3 := y3.below b1
      have y6 := y6.below b1
      refine hK.out _ _ s5 ?_
      clear hK K' b1 r1
      refine regS_do (i := 7) rfl (by kernel_rfl) (fun K' hK => ?_)
      go_simp
      refine (check_any v1 v3 v6 k (bodyL a) a.tag w5 y1 y3 y6 (by have := HK.out; omega) (by have := HB.out; omega) (by have := HT.out; omega) (T0.out.below s5.2.1 T0.out.pos)).mono ?_
      rintro e w9 ⟨rfl, b9⟩
      have hS : EntAt w9 w.heap.size a ∧ Below w.heap.size w w9 ∧ w.heap.size < w9.heap.size := ⟨s5.1.below b9 s5.2.2, s5.2.1.trans (b9.mono s5.2.1.size), Nat.lt_of_lt_of_le s5.2.2 b9.size⟩
      refine hK.out _ _ hS ?_
      clear hK K' b9
      refine regS_take (i := 8) (v := ?_) rfl (by kernel_rfl) (by kernel_rfl) (by kernel_rfl) (fun _ _ _ h => h) (by rfl) hS ?hy8 ?_
      case hy8 => intro w' hw'; go_simp; (try with_reducible rfl)
      simp only [Act.put, List.setIfInBounds_toArray, List.set_cons_zero, List.set_cons_succ]
      refine regS_end (by kernel_rfl) ?_
      have B9 := Lib.hid hS.2.1
      rw [← HQ.out]
      clear hS s2 s3 s4 s5 y1 y3 y6
      go_wp2
      go_ret
      exact ⟨rfl, B9.out⟩
  · obtain ⟨v6, w3, r6, y6, b6⟩ := conv_str w2 ⟨(a.tag).toArray⟩
    have y6 : BytesAt w3 v6 (a.tag) := by simpa using y6
    go_simp
    have s3 : EntAt w3 w.heap.size a ∧ Below w.heap.size w w3 ∧ w.heap.size < w3.heap.size := ⟨s2.1.below b6 s2.2.2, s2.2.1.trans (b6.mono s2.2.1.size), Nat.lt_of_lt_of_le s2.2.2 b6.size⟩
    refine hK.out _ _ s3 ?_
    clear hK K' b6 r6
    refine regS_two (i := 1) (j := 3) rfl rfl (by kernel_rfl) (fun K' hK => ?_) (fun K' hK => ?_)
    · obtain ⟨v1, w4, r1, y1, b1⟩ := conv_str w3 ⟨(k).toArray⟩
      have y1 : BytesAt w4 v1 (k) := by simpa using y1
      go_simp
      have s4 : EntAt w4 w.heap.size a ∧ Below w.heap.size w w4 ∧ w.heap.size < w4.heap.size := ⟨s3.1.below b1 s3.2.2, s3.2.1.trans (b1.mono s3.2.1.size), Nat.lt_of_lt_of_le s3.2.2 b1.size⟩
      have y6 := y6.below b1
      refine hK.out _ _ s4 ?_
      clear hK K' b1 r1
      refine regS_do (i := 3) rfl (by kernel_rfl) (fun K' hK => ?_)
      go_simp
      refine (CB w4).out.mono ?_
      rintro e w5 ⟨v3, rfl, o3, b3⟩
      have y3 := BytesAt.of_own o3
      clear o3
      have s5 : EntAt w5 w.heap.size a ∧ Below w.heap.size w w5 ∧ w.heap.size < w5.heap.size := ⟨s4.1.below b3 s4.2.2, s4.2.1.trans (b3.mono s4.2.1.size), Nat.lt_of_lt_of_le s4.2.2 b3.size⟩
      have y6 := y6.below b3
      have y1 := y1.below b3
      refine hK.out _ _ s5 ?_
      clear hK K' b3
      refine regS_do (i := 7) rfl (by kernel_rfl) (fun K' hK => ?_)
      go_simp
      refine (check_any v1 v3 v6 k (bodyL a) a.tag w5 y1 y3 y6 (by have := HK.out; omega) (by have := HB.out; omega) (by have := HT.out; omega) (T0.out.below s5.2.1 T0.out.pos)).mono ?_
      rintro e w9 ⟨rfl, b9⟩
      have hS : EntAt w9 w.heap.size a ∧ Below w.heap.size w w9 ∧ w.heap.size < w9.heap.size := ⟨s5.1.below b9 s5.2.2, s5.2.1.trans (b9.mono s5.2.1.size), Nat.lt_of_lt_of_le s5.2.2 b9.size⟩
      refine hK.out _ _ hS ?_
      clear hK K' b9
      refine regS_take (i := 8) (v := ?_) rfl (by kernel_rfl) (by kernel_rfl) (by kernel_rfl) (fun _ _ _ h => h) (by rfl) hS ?hy8 ?_
      case hy8 => intro w' hw'; go_simp; (try with_reducible rfl)
      simp only [Act.put, List.setIfInBounds_toArray, List.set_cons_zero, List.set_cons_succ]
      refine regS_end (by kernel_rfl) ?_
      have B9 := Lib.hid hS.2.1
      rw [← HQ.out]
      clear hS s2 s3 s4 s5 y1 y3 y6
      go_wp2
      go_ret
      exact ⟨rfl, B9.out⟩
    · go_simp
      refine (CB w3).out.mono ?_
      rintro e w4 ⟨v3, rfl, o3, b3⟩
      have y3 := BytesAt.of_own o3
      clear o3
      have s4 : EntAt w4 w.heap.size a ∧ Below w.heap.size w w4 ∧ w.heap.size < w4.heap.size := ⟨s3.1.below b3 s3.2.2, s3.2.1.trans (b3.mono s3.2.1.size), Nat.lt_of_lt_of_le s3.2.2 b3.size⟩
      have y6 := y6.below b3
      refine hK.out _ _ s4 ?_
      clear hK K' b3
      refine regS_do (i := 1) rfl (by kernel_rfl) (fun K' hK => ?_)
      obtain ⟨v1, w5, r1, y1, b1⟩ := conv_str w4 ⟨(k).toArray⟩
      have y1 : BytesAt w5 v1 (k) := by simpa using y1
      go_simp
      have s5 : EntAt w5 w.heap.size a ∧ Below w.heap.size w w5 ∧ w.heap.size < w5.heap.size := ⟨s4.1.below b1 s4.2.2, s4.2.1.trans (b1.mono s4.2.1.size), Nat.lt_of_lt_of_le s4.2.2 b1.size⟩
      have y6 := y6.below b1
      have y3 := y3.below b1
      refine hK.out _ _ s5 ?_
      clear hK K' b1 r1
      refine regS_do (i := 7) rfl (by kernel_rfl) (fun K' hK => ?_)
      go_simp
      refine (check_any v1 v3 v6 k (bodyL a) a.tag w5 y1 y3 y6 (by have := HK.out; omega) (by have := HB.out; omega) (by have := HT.out; omega) (T0.out.below s5.2.1 T0.out.pos)).mono ?_
      rintro e w9 ⟨rfl, b9⟩
      have hS : EntAt w9 w.heap.size a ∧ Below w.heap.size w w9 ∧ w.heap.size < w9.heap.size := ⟨s5.1.below b9 s5.2.2, s5.2.1.trans (b9.mono s5.2.1.size), Nat.lt_of_lt_of_le s5.2.2 b9.size⟩
      refine hK.out _ _ hS ?_
      clear hK K' b9
      refine regS_take (i := 8) (v := ?_) rfl (by kernel_rfl) (by kernel_rfl) (by kernel_rfl) (fun _ _ _ h => h) (by rfl) hS ?hy8 ?_
      case hy8 => intro w' hw'; go_simp; (try with_reducible rfl)
      simp only [Act.put, List.setIfInBounds_toArray, List.set_cons_zero, List.set_cons_succ]
      refine regS_end (by kernel_rfl) ?_
      have B9 := Lib.hid hS.2.1
      rw [← HQ.out]
      clear hS s2 s3 s4 s5 y1 y3 y6
      go_wp2
      go_ret
      exact ⟨rfl, B9.out⟩

set_option maxRecDepth 100000 in
set_option maxHeartbeats 2000000 in
theorem tkValid_any (gi : Int) (gk : List UInt8) (a : Ent) (now : Int) (hk : gk.length ≤ 4000) (hn : a.name.length ≤ 1000) (ht : a.tag.length ≤ 1000) (w : World) (T : Tab w) :
    Calls Tryd.prog 21 #[gateV gi gk, a.val, .int .i64 now] w fun e w' => e = .returned (.int .i64 (validX gi gk a now)) ∧ Below w.heap.size w w' := by
  have T0 := Lib.hid T
  have CC := Lib.hid (fun w T => tkCheck_any gk a hk hn ht w T)
  have CR := Lib.hid (fun w => right_any a w)
  have hv : a.val = .agg a.cells := rfl
  have hg0 : gateV gi gk = .agg (gateC gi gk) := rfl
  have HX : Hid (validX gi gk a now = if entR a = false then 11 else if a.index < gi then 33 else if gi < a.index then 34 else if checkT gk a = false then 20 else if now < a.since ∨ a.till < now then 32 else 0) := Lib.hid rfl
  obtain ⟨X, hX⟩ : ∃ X, X = validX gi gk a now := ⟨_, rfl⟩
  obtain ⟨qr, hqr⟩ : ∃ q, q = entR a := ⟨_, rfl⟩
  obtain ⟨qc, hqc⟩ : ∃ q, q = checkT gk a := ⟨_, rfl⟩
  rw [← hX, ← hqr, ← hqc] at HX
  simp only [← hqr] at CR
  simp only [← hqc] at CC
  rw [← hX, hv, hg0]
  clear hX hqr hqc hv hg0 hk hn ht T
  go_enter Tryd.func21, Tryd.ntmps21
  go_wp2_with (refine wpList_box_row rfl 23 (.tmp 0) rfl (gateC gi gk) rfl ?_)
  intro w1 b1 x1 z1
  have X1 : Hid (GateAt w1 w.heap.size gi gk) := Lib.hid x1
  have B1 := Lib.hid b1
  clear b1 x1 z1
  go_wp2_with (refine wpList_box_row rfl 29 _ rfl a.cells rfl ?_)
  intro w2 b2 x2 z2
  have X2 : Hid (GateAt w2 w.heap.size gi gk) := Lib.hid (Whole.below X1.out b2 X1.out.lt)
  have Y2 : Hid (EntAt w2 w1.heap.size a) := Lib.hid x2
  have B2 := Lib.hid (B1.out.trans (b2.mono B1.out.size))
  obtain ⟨g, hg⟩ : ∃ g, g = w.heap.size := ⟨_, rfl⟩
  rw [← hg] at X2 ⊢
  obtain ⟨x, hx⟩ : ∃ x, x = w1.heap.size := ⟨_, rfl⟩
  rw [← hx] at Y2 ⊢
  clear b2 x2 z2 X1 B1 hg hx
  go_wp2_with (with_reducible refine wpList_load_ent rfl _ rfl x (by with_unfolding_all exact rfl) a Y2.out ?_)
  refine (CR.out w2).mono ?_
  rintro e w3 ⟨rfl, b3⟩
  have X3 : Hid (GateAt w3 g gi gk) := Lib.hid (Whole.below X2.out b3 X2.out.lt)
  have Y3 : Hid (EntAt w3 x a) := Lib.hid (Whole.below Y2.out b3 Y2.out.lt)
  have B3 := Lib.hid (B2.out.trans (b3.mono B2.out.size))
  clear b3 X2 Y2 B2 CR
  cases qr with
  | false =>
    have HF : Hid (X = 11) := Lib.hid (by have q := HX.out; rw [if_pos rfl] at q; exact q)
    go_wp2
    go_ret
    exact ⟨by rw [HF.out]; rfl, B3.out⟩
  | true =>
    have HX2 : Hid (X = if a.index < gi then 33 else if gi < a.index then 34 else if qc = false then 20 else if now < a.since ∨ a.till < now then 32 else 0) := Lib.hid (by have q := HX.out; rw [if_neg (by decide)] at q; exact q)
    obtain ⟨g0, g1⟩ := X3.out.two
    obtain ⟨a0, a1, a2, a3, a4, a5⟩ := Y3.out.six
    clear HX
    by_cases h1 : a.index < gi
    · have d1 : decide (a.index < gi) = true := by simpa using h1
      have HF : Hid (X = 33) := Lib.hid (by have q := HX2.out; rw [if_pos h1] at q; exact q)
      clear h1
      go_wp2
      go_ret
      exact ⟨by rw [HF.out]; rfl, B3.out⟩
    have d1 : decide (a.index < gi) = false := by simpa using h1
    by_cases h2 : gi < a.index
    · have d2 : decide (gi < a.index) = true := by simpa using h2
      have HF : Hid (X = 34) := Lib.hid (by have q := HX2.out; rw [if_neg h1, if_pos h2] at q; exact q)
      clear h1 h2
      go_wp2
      go_ret
      exact ⟨by rw [HF.out]; rfl, B3.out⟩
    have d2 : decide (gi < a.index) = false := by simpa using h2
    have HX3 : Hid (X = if qc = false then 20 else if now < a.since ∨ a.till < now then 32 else 0) := Lib.hid (by have q := HX2.out; rw [if_neg h1, if_neg h2] at q; exact q)
    have C := Lib.hid (CC.out w3 (T0.out.below B3.out T0.out.pos))
    clear HX2 h1 h2
    by_cases h3 : now < a.since
    · have d3 : decide (now < a.since) = true := by simpa using h3
      have HP : Hid (now < a.since ∨ a.till < now) := Lib.hid (.inl h3)
      clear h3
      go_wp2_with fail
      refine C.out.mono ?_
      rintro e w4 ⟨rfl, b4⟩
      have B4 := Lib.hid (B3.out.trans (b4.mono B3.out.size))
      clear b4 X3 Y3 B3 CC C g0 g1 a0 a1 a2 a3 a4 a5
      cases qc with
      | false =>
        have HF : Hid (X = 20) := Lib.hid (by have q := HX3.out; rw [if_pos rfl] at q; exact q)
        go_wp2
        go_ret
        exact ⟨by rw [HF.out]; rfl, B4.out⟩
      | true =>
        have HF : Hid (X = 32) := Lib.hid (by have q := HX3.out; rw [if_neg (by decide)] at q; rw [q]; exact if_pos HP.out)
        go_wp2
        go_ret
        exact ⟨by rw [HF.out]; rfl, B4.out⟩
    have d3 : decide (now < a.since) = false := by simpa using h3
    by_cases h4 : a.till < now
    · have d4 : decide (a.till < now) = true := by simpa using h4
      have HP : Hid (now < a.since ∨ a.till < now) := Lib.hid (.inr h4)
      clear h3 h4
      go_wp2_with fail
      refine C.out.mono ?_
      rintro e w4 ⟨rfl, b4⟩
      have B4 := Lib.hid (B3.out.trans (b4.mono B3.out.size))
      clear b4 X3 Y3 B3 CC C g0 g1 a0 a1 a2 a3 a4 a5
      cases qc with
      | false =>
        have HF : Hid (X = 20) := Lib.hid (by have q := HX3.out; rw [if_pos rfl] at q; exact q)
        go_wp2
        go_ret
        exact ⟨by rw [HF.out]; rfl, B4.out⟩
      | true =>
        have HF : Hid (X = 32) := Lib.hid (by have q := HX3.out; rw [if_neg (by decide)] at q; rw [q]; exact if_pos HP.out)
        go_wp2
        go_ret
        exact ⟨by rw [HF.out]; rfl, B4.out⟩
    · have d4 : decide (a.till < now) = false := by simpa using h4
      have HP : Hid (¬ (now < a.since ∨ a.till < now)) := Lib.hid (by omega)
      clear h3 h4
      go_wp2_with fail
      refine C.out.mono ?_
      rintro e w4 ⟨rfl, b4⟩
      have B4 := Lib.hid (B3.out.trans (b4.mono B3.out.size))
      clear b4 X3 Y3 B3 CC C g0 g1 a0 a1 a2 a3 a4 a5
      cases qc with
      | false =>
        have HF : Hid (X = 20) := Lib.hid (by have q := HX3.out; rw [if_pos rfl] at q; exact q)
        go_wp2
        go_ret
        exact ⟨by rw [HF.out]; rfl, B4.out⟩
      | true =>
        have HF : Hid (X = 0) := Lib.hid (by have q := HX3.out; rw [if_neg (by decide)] at q; rw [q]; exact if_neg HP.out)
        go_wp2
        go_ret
        exact ⟨by rw [HF.out]; rfl, B4.out⟩

theorem token_is : TokenIs where
  sign := fun k a w hk hn _ T => tkSign_any k a hk hn w T
  check := fun k a w hk hn ht _ T => tkCheck_any k a hk hn ht w T
  valid := fun gi gk a now w hk hn ht _ T => tkValid_any gi gk a now hk hn ht w T
end Go.Proofs.YtehalcopkjfdkaaDoor
