/- EntryWrites' core: over what package entry answers. -/
import Derived.Test.YtkhiejdceefgfaaEnK
import Derived.Test.YtkhiejdceefgfaaEnG
import Derived.Test.YtkhiejdceefgfaaGenR
namespace Go.Proofs.Ytkhiejdceefgfaa
open Go.RowKit

theorem cut_great {e : Ent} (h : greatB e = false) : e.name.length ≤ 1000 ∧ e.tag.length ≤ 1000 := by
  simp only [greatB, Bool.or_eq_false_iff, decide_eq_false_iff_not] at h
  omega

set_option maxHeartbeats 2000000 in
set_option maxRecDepth 100000 in
theorem entWrites_core (H : EntryIs) (a : Ent) (hi : a.id < 18446744073709551616) (w : World) :
    Calls Try.prog 3 #[a.val] w fun e w' => e = .returned (.bool true) ∧ Below w.heap.size w w' := by
  have HH := Lib.hid H
  have HI := Lib.hid hi
  have HV := Lib.hid (Ent.val_cells a)
  clear H hi
  cases hg : greatB a with
  | true =>
    go_enter Try.func3, Try.ntmps3
    go_wp2_with (refine wpList_box_row rfl 24 _ rfl a.cells rfl ?_)
    intro w1 b1 x1 z1
    have X1 : Hid (EntAt w1 w.heap.size a) := Lib.hid x1
    have B1 := Lib.hid b1
    clear b1 x1 z1
    have CG := Lib.hid (great_any a w1)
    rw [hg] at CG
    clear hg
    go_wp2_with (with_reducible refine wpList_load_ent rfl _ rfl w.heap.size (by with_unfolding_all exact rfl) a X1.out ?_)
    refine CG.out.mono ?_
    rintro e w2 ⟨rfl, b2⟩
    have B2 := Lib.hid (B1.out.trans (b2.mono B1.out.size))
    clear b2 CG
    go_wp2_with fail
    refine (works11 HH.out w2).mono ?_
    rintro e w3 ⟨rfl, b3⟩
    have B3 := Lib.hid (B2.out.trans (b3.mono B2.out.size))
    clear b3
    go_wp2
    go_ret
    exact ⟨rfl, B3.out⟩
  | false =>
    have GL := Lib.hid (cut_great hg)
    go_enter Try.func3, Try.ntmps3
    go_wp2_with (refine wpList_box_row rfl 24 _ rfl a.cells rfl ?_)
    intro w1 b1 x1 z1
    have X1 : Hid (EntAt w1 w.heap.size a) := Lib.hid x1
    have B1 := Lib.hid b1
    have Z1 := Lib.hid (show w.heap.size < w1.heap.size by omega)
    obtain ⟨g, hgg⟩ : ∃ g, g = w.heap.size := ⟨_, rfl⟩
    have GG := Lib.hid hgg
    rw [← hgg] at X1 ⊢
    clear b1 x1 z1 hgg
    have CG := Lib.hid (great_any a w1)
    rw [hg] at CG
    clear hg
    go_wp2_with (with_reducible refine wpList_load_ent rfl _ rfl g (by with_unfolding_all exact rfl) a X1.out ?_)
    refine CG.out.mono ?_
    rintro e w2 ⟨rfl, b2⟩
    have X2 : Hid (EntAt w2 g a) := Lib.hid (Whole.below X1.out b2 X1.out.lt)
    have B2 := Lib.hid (B1.out.trans (b2.mono B1.out.size))
    clear b2 CG X1 B1 Z1
    go_wp2_with fail
    refine reg_begin (by kernel_rfl) fun w3 hb hz => ?_
    have X3 : Hid (EntAt w3 g a) := Lib.hid (Whole.below X2.out hb X2.out.lt)
    have B3 := Lib.hid (B2.out.trans (hb.mono B2.out.size))
    clear hb hz X2 B2
    refine reg_take (i := 0) (v := a.val) rfl (by kernel_rfl) (by kernel_rfl) (by kernel_rfl) (fun _ _ _ h => h) (by rfl) ?hy0 ?_
    case hy0 => intro w' hw'; exact exec_load_ent _ rfl g rfl a w' (Whole.below X3.out hw' X3.out.lt)
    simp only [Act.put, List.setIfInBounds_toArray, List.set_cons_zero, List.set_cons_succ]
    refine reg_take (i := 2) (v := a.val) rfl (by kernel_rfl) (by kernel_rfl) (by kernel_rfl) (fun _ _ _ h => h) (by rfl) ?hy2 ?_
    case hy2 => intro w' hw'; exact exec_load_ent _ rfl g rfl a w' (Whole.below X3.out hw' X3.out.lt)
    simp only [Act.put, List.setIfInBounds_toArray, List.set_cons_zero, List.set_cons_succ]
    refine reg_call (i := 1) rfl (by kernel_rfl) (fun K' hK => ?_)
    go_simp
    refine (HH.out.right a w3).mono ?_
    rintro e w4 ⟨rfl, hb⟩
    have X4 : Hid (EntAt w4 g a) := Lib.hid (Whole.below X3.out hb X3.out.lt)
    have B4 := Lib.hid (B3.out.trans (hb.mono B3.out.size))
    refine hK.out _ _ hb ?_
    clear hK K' hb X3 B3
    refine reg_call (i := 3) rfl (by kernel_rfl) (fun K' hK => ?_)
    go_simp
    refine (refRight_any a w4).mono ?_
    rintro e w5 ⟨rfl, hb⟩
    have X5 : Hid (EntAt w5 g a) := Lib.hid (Whole.below X4.out hb X4.out.lt)
    have B5 := Lib.hid (B4.out.trans (hb.mono B4.out.size))
    refine hK.out _ _ hb ?_
    clear hK K' hb X4 B4
    refine reg_take (i := 4) (v := ?_) rfl (by kernel_rfl) (by kernel_rfl) (by kernel_rfl) (fun _ _ _ h => h) (by rfl) ?hy4 ?_
    case hy4 => intro w' hw'; go_simp; (try with_reducible rfl)
    simp only [Act.put, List.setIfInBounds_toArray, List.set_cons_zero, List.set_cons_succ]
    refine reg_take (i := 5) (v := ?_) rfl (by kernel_rfl) (by kernel_rfl) (by kernel_rfl) (fun _ _ _ h => h) (by rfl) ?hy5 ?_
    case hy5 => intro w' hw'; go_simp; (try with_reducible rfl)
    simp only [Act.put, List.setIfInBounds_toArray, List.set_cons_zero, List.set_cons_succ]
    refine reg_take (i := 6) (v := a.val) rfl (by kernel_rfl) (by kernel_rfl) (by kernel_rfl) (fun _ _ _ h => h) (by rfl) ?hy6 ?_
    case hy6 => intro w' hw'; exact exec_load_ent _ rfl g rfl a w' (Whole.below X5.out hw' X5.out.lt)
    simp only [Act.put, List.setIfInBounds_toArray, List.set_cons_zero, List.set_cons_succ]
    refine reg_take (i := 9) (v := a.val) rfl (by kernel_rfl) (by kernel_rfl) (by kernel_rfl) (fun _ _ _ h => h) (by rfl) ?hy9 ?_
    case hy9 => intro w' hw'; exact exec_load_ent _ rfl g rfl a w' (Whole.below X5.out hw' X5.out.lt)
    simp only [Act.put, List.setIfInBounds_toArray, List.set_cons_zero, List.set_cons_succ]
    refine reg_call (i := 7) rfl (by kernel_rfl) (fun K' hK => ?_)
    go_simp
    refine (HH.out.body a w5 GL.out.1 HI.out).mono ?_
    rintro e w6 ⟨v6, rfl, y6, hb⟩
    have X6 : Hid (EntAt w6 g a) := Lib.hid (Whole.below X5.out hb X5.out.lt)
    have B6 := Lib.hid (B5.out.trans (hb.mono B5.out.size))
    have Y6 := Lib.hid y6
    refine hK.out _ _ hb ?_
    clear hK K' hb X5 B5 y6
    have r6 : ∀ w', Below w6.heap.size w6 w' → (convert 27 9 v6).run Try.prog w' = .ok (.string ⟨(bodyL a).toArray⟩) w' := fun w' h => conv_bytes (Y6.out.below h)
    refine reg_take (i := 8) (v := ?_) rfl (by kernel_rfl) (by kernel_rfl) (by kernel_rfl) (fun _ _ _ h => h) (by rfl) ?hy8 ?_
    case hy8 => intro w' hw'; go_simp; (try with_reducible rfl)
    simp only [Act.put, List.setIfInBounds_toArray, List.set_cons_zero, List.set_cons_succ]
    refine reg_call (i := 10) rfl (by kernel_rfl) (fun K' hK => ?_)
    go_simp
    refine (refBody_any a GL.out.1 HI.out w6).mono ?_
    rintro e w7 ⟨v7, rfl, o7, hb⟩
    have X7 : Hid (EntAt w7 g a) := Lib.hid (Whole.below X6.out hb X6.out.lt)
    have B7 := Lib.hid (B6.out.trans (hb.mono B6.out.size))
    have Y7 := Lib.hid (BytesAt.of_own o7)
    refine hK.out _ _ hb ?_
    clear hK K' hb X6 B6 o7 r6 Y6
    have r7 : ∀ w', Below w7.heap.size w7 w' → (convert 27 9 v7).run Try.prog w' = .ok (.string ⟨(bodyL a).toArray⟩) w' := fun w' h => conv_bytes (Y7.out.below h)
    refine reg_take (i := 11) (v := ?_) rfl (by kernel_rfl) (by kernel_rfl) (by kernel_rfl) (fun _ _ _ h => h) (by rfl) ?hy11 ?_
    case hy11 => intro w' hw'; go_simp; (try with_reducible rfl)
    simp only [Act.put, List.setIfInBounds_toArray, List.set_cons_zero, List.set_cons_succ]
    refine reg_take (i := 12) (v := ?_) rfl (by kernel_rfl) (by kernel_rfl) (by kernel_rfl) (fun _ _ _ h => h) (by rfl) ?hy12 ?_
    case hy12 => intro w' hw'; go_simp; (try with_reducible rfl)
    simp only [Act.put, List.setIfInBounds_toArray, List.set_cons_zero, List.set_cons_succ]
    refine reg_take (i := 13) (v := ?_) rfl (by kernel_rfl) (by kernel_rfl) (by kernel_rfl) (fun _ _ _ h => h) (by rfl) ?hy13 ?_
    case hy13 => intro w' hw'; go_simp; (try with_reducible rfl)
    simp only [Act.put, List.setIfInBounds_toArray, List.set_cons_zero, List.set_cons_succ]
    refine reg_take (i := 14) (v := ?_) rfl (by kernel_rfl) (by kernel_rfl) (by kernel_rfl) (fun _ _ _ h => h) (by rfl) ?hy14 ?_
    case hy14 => intro w' hw'; go_simp; (try with_reducible rfl)
    simp only [Act.put, List.setIfInBounds_toArray, List.set_cons_zero, List.set_cons_succ]
    refine reg_take (i := 15) (v := a.val) rfl (by kernel_rfl) (by kernel_rfl) (by kernel_rfl) (fun _ _ _ h => h) (by rfl) ?hy15 ?_
    case hy15 => intro w' hw'; exact exec_load_ent _ rfl g rfl a w' (Whole.below X7.out hw' X7.out.lt)
    simp only [Act.put, List.setIfInBounds_toArray, List.set_cons_zero, List.set_cons_succ]
    refine reg_take (i := 18) (v := a.val) rfl (by kernel_rfl) (by kernel_rfl) (by kernel_rfl) (fun _ _ _ h => h) (by rfl) ?hy18 ?_
    case hy18 => intro w' hw'; exact exec_load_ent _ rfl g rfl a w' (Whole.below X7.out hw' X7.out.lt)
    simp only [Act.put, List.setIfInBounds_toArray, List.set_cons_zero, List.set_cons_succ]
    refine reg_call (i := 16) rfl (by kernel_rfl) (fun K' hK => ?_)
    go_simp
    refine (HH.out.bytes a w7 GL.out.1 GL.out.2 HI.out).mono ?_
    rintro e w8 ⟨v8, rfl, y8, hb⟩
    have B8 := Lib.hid (B7.out.trans (hb.mono B7.out.size))
    have Y8 := Lib.hid y8
    refine hK.out _ _ hb ?_
    clear hK K' hb X7 B7 y8 r7 Y7
    have r8 : ∀ w', Below w8.heap.size w8 w' → (convert 27 9 v8).run Try.prog w' = .ok (.string ⟨(bytesE a).toArray⟩) w' := fun w' h => conv_bytes (Y8.out.below h)
    refine reg_take (i := 17) (v := ?_) rfl (by kernel_rfl) (by kernel_rfl) (by kernel_rfl) (fun _ _ _ h => h) (by rfl) ?hy17 ?_
    case hy17 => intro w' hw'; go_simp; (try with_reducible rfl)
    simp only [Act.put, List.setIfInBounds_toArray, List.set_cons_zero, List.set_cons_succ]
    refine reg_call (i := 19) rfl (by kernel_rfl) (fun K' hK => ?_)
    go_simp
    refine (refBytes_any a GL.out.1 GL.out.2 HI.out w8).mono ?_
    rintro e w9 ⟨v9, rfl, y9, hb⟩
    have B9 := Lib.hid (B8.out.trans (hb.mono B8.out.size))
    have Y9 := Lib.hid y9
    refine hK.out _ _ hb ?_
    clear hK K' hb B8 y9 r8 Y8
    have r9 : ∀ w', Below w9.heap.size w9 w' → (convert 27 9 v9).run Try.prog w' = .ok (.string ⟨(bytesE a).toArray⟩) w' := fun w' h => conv_bytes (Y9.out.below h)
    refine reg_take (i := 20) (v := ?_) rfl (by kernel_rfl) (by kernel_rfl) (by kernel_rfl) (fun _ _ _ h => h) (by rfl) ?hy20 ?_
    case hy20 => intro w' hw'; go_simp; (try with_reducible rfl)
    simp only [Act.put, List.setIfInBounds_toArray, List.set_cons_zero, List.set_cons_succ]
    refine reg_take (i := 21) (v := ?_) rfl (by kernel_rfl) (by kernel_rfl) (by kernel_rfl) (fun _ _ _ h => h) (by rfl) ?hy21 ?_
    case hy21 => intro w' hw'; go_simp; (try with_reducible rfl)
    simp only [Act.put, List.setIfInBounds_toArray, List.set_cons_zero, List.set_cons_succ]
    refine reg_take (i := 22) (v := ?_) rfl (by kernel_rfl) (by kernel_rfl) (by kernel_rfl) (fun _ _ _ h => h) (by rfl) ?hy22 ?_
    case hy22 => intro w' hw'; go_simp; (try with_reducible rfl)
    simp only [Act.put, List.setIfInBounds_toArray, List.set_cons_zero, List.set_cons_succ]
    refine reg_take (i := 23) (v := ?_) rfl (by kernel_rfl) (by kernel_rfl) (by kernel_rfl) (fun _ _ _ h => h) (by rfl) ?hy23 ?_
    case hy23 => intro w' hw'; go_simp; (try with_reducible rfl)
    simp only [Act.put, List.setIfInBounds_toArray, List.set_cons_zero, List.set_cons_succ]
    refine reg_call (i := 24) rfl (by kernel_rfl) (fun K' hK => ?_)
    go_simp
    refine (works11 HH.out w9).mono ?_
    rintro e w10 ⟨rfl, hb⟩
    have B10 := Lib.hid (B9.out.trans (hb.mono B9.out.size))
    refine hK.out _ _ hb ?_
    clear hK K' hb B9 r9 Y9
    refine reg_take (i := 25) (v := ?_) rfl (by kernel_rfl) (by kernel_rfl) (by kernel_rfl) (fun _ _ _ h => h) (by rfl) ?hy25 ?_
    case hy25 => intro w' hw'; go_simp; (try with_reducible rfl)
    simp only [Act.put, List.setIfInBounds_toArray, List.set_cons_zero, List.set_cons_succ]
    refine reg_take (i := 26) (v := ?_) rfl (by kernel_rfl) (by kernel_rfl) (by kernel_rfl) (fun _ _ _ h => h) (by rfl) ?hy26 ?_
    case hy26 => intro w' hw'; go_simp; (try with_reducible rfl)
    simp only [Act.put, List.setIfInBounds_toArray, List.set_cons_zero, List.set_cons_succ]
    refine reg_end (by kernel_rfl) ?_
    go_wp2
    go_ret
    exact ⟨rfl, B10.out⟩
end Go.Proofs.Ytkhiejdceefgfaa
