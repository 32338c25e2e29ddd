/- Package label, as landed: Name (a loop with a label that is gone on from within). -/
import Derived.Test.YtpcdbpijgmninaaDoorGz
import Derived.Test.YtpcdbpijgmninaaDoorGk
namespace Go.Proofs.YtpcdbpijgmninaaDoor
set_option maxRecDepth 100000
open Go.RowKit

def letS : Span := ⟨97, 122⟩
def figS : Span := ⟨48, 57⟩
def dashS : Span := ⟨45, 45⟩
theorem low_is (c : UInt8) : inB lowL c = letS.hasB c := by
  have : ∀ i : Fin 256, inB lowL (UInt8.ofNat i.val) = letS.hasB (UInt8.ofNat i.val) := by decide +kernel
  have h := this ⟨c.toNat, c.toNat_lt⟩
  simpa using h
theorem name_is (c : UInt8) : inB nameC c = (letS.hasB c || figS.hasB c || dashS.hasB c) := by
  have : ∀ i : Fin 256, inB nameC (UInt8.ofNat i.val) = (letS.hasB (UInt8.ofNat i.val) || figS.hasB (UInt8.ofNat i.val) || dashS.hasB (UInt8.ofNat i.val)) := by decide +kernel
  have h := this ⟨c.toNat, c.toNat_lt⟩
  simpa using h

theorem index_0 (w : World) : (Instr.index 109 (Value.agg #[Value.int .u8 97, Value.int .u8 122, Value.int .u8 48, Value.int .u8 57, Value.int .u8 45, Value.int .u8 45]) (.int .i64 0)).run Tryd.prog w = .ok (.agg #[.int .u8 97, .int .u8 122]) w := by kernel_rfl
theorem index_1 (w : World) : (Instr.index 109 (Value.agg #[Value.int .u8 97, Value.int .u8 122, Value.int .u8 48, Value.int .u8 57, Value.int .u8 45, Value.int .u8 45]) (.int .i64 1)).run Tryd.prog w = .ok (.agg #[.int .u8 48, .int .u8 57]) w := by kernel_rfl
theorem index_2 (w : World) : (Instr.index 109 (Value.agg #[Value.int .u8 97, Value.int .u8 122, Value.int .u8 48, Value.int .u8 57, Value.int .u8 45, Value.int .u8 45]) (.int .i64 2)).run Tryd.prog w = .ok (.agg #[.int .u8 45, .int .u8 45]) w := by kernel_rfl

set_option maxRecDepth 100000 in
set_option maxHeartbeats 2000000 in
theorem labelName_any (l : List UInt8) (w : World) :
    Calls Tryd.prog 62 #[.string ⟨l.toArray⟩] w fun e w' => e = .returned (.bool (nameB l)) ∧ Below w.heap.size w w' := by
  by_cases h1 : l.length < 1
  · have HN : Hid (nameB l = false) := Lib.hid (by rw [nameB, decide_eq_false (by omega)]; rfl)
    have y1 : decide ((l.length : Int) < 1) = true := by simp; omega
    go_enter Tryd.func62, Tryd.ntmps62
    go_wp2
    go_step3
    go_wp2_with (refine wpList_alloc_row rfl 107 rfl Span.zero.enc.toArray Span.zero_is ?_)
    intro w1 b1 x1 z1
    obtain ⟨gL, hgL⟩ : ∃ g, g = w.heap.size := ⟨_, rfl⟩
    have M_L := Lib.hid (show w.heap.size ≤ gL from by rw [hgL]; exact Nat.le_refl _)
    have B1 := Lib.hid b1
    rw [← hgL] at x1 ⊢
    have L1 : Hid (Span.At w1 gL Span.zero) := Lib.hid x1
    clear b1 x1 z1 hgL 
    go_wp2_with (first | (with_reducible refine wpList_load_whole Span.isRec rfl _ rfl gL (by with_unfolding_all exact rfl) _ _ (Span.len _) L1.out ?_) | (refine wpList_alloc_row rfl 107 rfl Span.zero.enc.toArray Span.zero_is ?_))
    intro w2 b2 x2 z2
    obtain ⟨gF, hgF⟩ : ∃ g, g = w1.heap.size := ⟨_, rfl⟩
    have N_L_F := Lib.hid (show gL < gF from by rw [hgF]; exact L1.out.lt)
    have M_F := Lib.hid (show w.heap.size ≤ gF from by rw [hgF]; exact B1.out.size)
    have L2 : Hid (Span.At w2 gL Span.zero) := Lib.hid (Whole.below L1.out b2 L1.out.lt)
    have B2 := Lib.hid (B1.out.trans (b2.mono B1.out.size))
    rw [← hgF] at x2 ⊢
    have F2 : Hid (Span.At w2 gF Span.zero) := Lib.hid x2
    clear b2 x2 z2 hgF L1 B1
    go_wp2_with (first | (with_reducible refine wpList_load_whole Span.isRec rfl _ rfl gL (by with_unfolding_all exact rfl) _ _ (Span.len _) L2.out ?_) | (with_reducible refine wpList_load_whole Span.isRec rfl _ rfl gF (by with_unfolding_all exact rfl) _ _ (Span.len _) F2.out ?_) | (refine wpList_alloc_row rfl 107 rfl Span.zero.enc.toArray Span.zero_is ?_))
    intro w3 b3 x3 z3
    obtain ⟨gD, hgD⟩ : ∃ g, g = w2.heap.size := ⟨_, rfl⟩
    have N_L_D := Lib.hid (show gL < gD from by rw [hgD]; exact L2.out.lt)
    have N_F_D := Lib.hid (show gF < gD from by rw [hgD]; exact F2.out.lt)
    have M_D := Lib.hid (show w.heap.size ≤ gD from by rw [hgD]; exact B2.out.size)
    have L3 : Hid (Span.At w3 gL Span.zero) := Lib.hid (Whole.below L2.out b3 L2.out.lt)
    have F3 : Hid (Span.At w3 gF Span.zero) := Lib.hid (Whole.below F2.out b3 F2.out.lt)
    have B3 := Lib.hid (B2.out.trans (b3.mono B2.out.size))
    rw [← hgD] at x3 ⊢
    have D3 : Hid (Span.At w3 gD Span.zero) := Lib.hid x3
    clear b3 x3 z3 hgD L2 F2 B2
    go_wp2_with (first | (with_reducible refine wpList_load_whole Span.isRec rfl _ rfl gL (by with_unfolding_all exact rfl) _ _ (Span.len _) L3.out ?_) | (with_reducible refine wpList_load_whole Span.isRec rfl _ rfl gF (by with_unfolding_all exact rfl) _ _ (Span.len _) F3.out ?_) | (with_reducible refine wpList_load_whole Span.isRec rfl _ rfl gD (by with_unfolding_all exact rfl) _ _ (Span.len _) D3.out ?_) | (with_reducible refine wpList_store_whole rfl 107 _ _ rfl gL letS.enc.toArray (by with_unfolding_all exact rfl) (by with_unfolding_all exact rfl) _ _ L3.out (Span.size _) rfl (Span.one _) ?_))
    intro w4 q4 x4 z4
    have L4 : Hid (Span.At w4 gL letS) := Lib.hid x4
    have F4 : Hid (Span.At w4 gF Span.zero) := Lib.hid (grown_far F3.out q4 (by have := N_L_F.out; omega))
    have D4 : Hid (Span.At w4 gD Span.zero) := Lib.hid (grown_far D3.out q4 (by have := N_L_D.out; omega))
    have B4 := Lib.hid (B3.out.grown q4 B3.out.size (fun k hk => by injection hk with hk; have := M_L.out; omega))
    clear q4 x4 z4 L3 F3 D3 B3
    go_wp2_with (first | (with_reducible refine wpList_load_whole Span.isRec rfl _ rfl gL (by with_unfolding_all exact rfl) _ _ (Span.len _) L4.out ?_) | (with_reducible refine wpList_load_whole Span.isRec rfl _ rfl gF (by with_unfolding_all exact rfl) _ _ (Span.len _) F4.out ?_) | (with_reducible refine wpList_load_whole Span.isRec rfl _ rfl gD (by with_unfolding_all exact rfl) _ _ (Span.len _) D4.out ?_) | (with_reducible refine wpList_store_whole rfl 107 _ _ rfl gF figS.enc.toArray (by with_unfolding_all exact rfl) (by with_unfolding_all exact rfl) _ _ F4.out (Span.size _) rfl (Span.one _) ?_))
    intro w5 q5 x5 z5
    have F5 : Hid (Span.At w5 gF figS) := Lib.hid x5
    have L5 : Hid (Span.At w5 gL letS) := Lib.hid (grown_far L4.out q5 (by have := N_L_F.out; omega))
    have D5 : Hid (Span.At w5 gD Span.zero) := Lib.hid (grown_far D4.out q5 (by have := N_F_D.out; omega))
    have B5 := Lib.hid (B4.out.grown q5 B4.out.size (fun k hk => by injection hk with hk; have := M_F.out; omega))
    clear q5 x5 z5 F4 L4 D4 B4
    go_wp2_with (first | (with_reducible refine wpList_load_whole Span.isRec rfl _ rfl gL (by with_unfolding_all exact rfl) _ _ (Span.len _) L5.out ?_) | (with_reducible refine wpList_load_whole Span.isRec rfl _ rfl gF (by with_unfolding_all exact rfl) _ _ (Span.len _) F5.out ?_) | (with_reducible refine wpList_load_whole Span.isRec rfl _ rfl gD (by with_unfolding_all exact rfl) _ _ (Span.len _) D5.out ?_) | (with_reducible refine wpList_store_whole rfl 107 _ _ rfl gD dashS.enc.toArray (by with_unfolding_all exact rfl) (by with_unfolding_all exact rfl) _ _ D5.out (Span.size _) rfl (Span.one _) ?_))
    intro w6 q6 x6 z6
    have D6 : Hid (Span.At w6 gD dashS) := Lib.hid x6
    have L6 : Hid (Span.At w6 gL letS) := Lib.hid (grown_far L5.out q6 (by have := N_L_D.out; omega))
    have F6 : Hid (Span.At w6 gF figS) := Lib.hid (grown_far F5.out q6 (by have := N_F_D.out; omega))
    have B6 := Lib.hid (B5.out.grown q6 B5.out.size (fun k hk => by injection hk with hk; have := M_D.out; omega))
    clear q6 x6 z6 D5 L5 F5 B5
    go_wp2_with (first | (with_reducible refine wpList_load_whole Span.isRec rfl _ rfl gL (by with_unfolding_all exact rfl) _ _ (Span.len _) L6.out ?_) | (with_reducible refine wpList_load_whole Span.isRec rfl _ rfl gF (by with_unfolding_all exact rfl) _ _ (Span.len _) F6.out ?_) | (with_reducible refine wpList_load_whole Span.isRec rfl _ rfl gD (by with_unfolding_all exact rfl) _ _ (Span.len _) D6.out ?_))
    refine reg_begin (by kernel_rfl) fun w7 b7 z7 => ?_
    have L7 : Hid (Span.At w7 gL letS) := Lib.hid (Whole.below L6.out b7 L6.out.lt)
    have F7 : Hid (Span.At w7 gF figS) := Lib.hid (Whole.below F6.out b7 F6.out.lt)
    have D7 : Hid (Span.At w7 gD dashS) := Lib.hid (Whole.below D6.out b7 D6.out.lt)
    have B7 := Lib.hid (B6.out.trans (b7.mono B6.out.size))
    clear b7 z7 L6 F6 D6 B6
    refine reg_take (i := 0) (v := ?_) rfl (by kernel_rfl) (by kernel_rfl) (by kernel_rfl) (fun _ _ _ h => h) (by rfl) ?hy0 ?_
    case hy0 => intro w' hw'; go_simp; (try with_reducible rfl)
    simp only [Act.put, List.setIfInBounds_toArray, List.set_cons_zero, List.set_cons_succ]
    refine reg_take (i := 1) (v := ?_) rfl (by kernel_rfl) (by kernel_rfl) (by kernel_rfl) (fun _ _ _ h => h) (by rfl) ?hy1 ?_
    case hy1 => intro w' hw'; go_simp; (try with_reducible rfl)
    simp only [Act.put, List.setIfInBounds_toArray, List.set_cons_zero, List.set_cons_succ]
    refine reg_take (i := 2) (v := ?_) rfl (by kernel_rfl) (by kernel_rfl) (by kernel_rfl) (fun _ _ _ h => h) (by rfl) ?hy2 ?_
    case hy2 => intro w' hw'; go_simp; (try with_reducible rfl)
    simp only [Act.put, List.setIfInBounds_toArray, List.set_cons_zero, List.set_cons_succ]
    refine reg_take (i := 3) (v := ?_) rfl (by kernel_rfl) (by kernel_rfl) (by kernel_rfl) (fun _ _ _ h => h) (by rfl) ?hy3 ?_
    case hy3 => intro w' hw'; go_simp; (try with_reducible rfl)
    simp only [Act.put, List.setIfInBounds_toArray, List.set_cons_zero, List.set_cons_succ]
    refine reg_skip (i := 4) rfl (by kernel_rfl) (by kernel_rfl) (by kernel_rfl) (fun _ _ _ h => h) (by rfl) ?_
    simp only [Act.put, List.setIfInBounds_toArray, List.set_cons_zero, List.set_cons_succ]
    refine reg_skip (i := 5) rfl (by kernel_rfl) (by kernel_rfl) (by kernel_rfl) (fun _ _ _ h => h) (by rfl) ?_
    simp only [Act.put, List.setIfInBounds_toArray, List.set_cons_zero, List.set_cons_succ]
    refine reg_skip (i := 6) rfl (by kernel_rfl) (by kernel_rfl) (by kernel_rfl) (fun _ _ _ h => h) (by rfl) ?_
    simp only [Act.put, List.setIfInBounds_toArray, List.set_cons_zero, List.set_cons_succ]
    refine reg_take (i := 7) (v := ?_) rfl (by kernel_rfl) (by kernel_rfl) (by kernel_rfl) (fun _ _ _ h => h) (by rfl) ?hy7 ?_
    case hy7 => intro w' hw'; go_simp; (try with_reducible rfl)
    simp only [Act.put, List.setIfInBounds_toArray, List.set_cons_zero, List.set_cons_succ]
    refine reg_take (i := 8) (v := ?_) rfl (by kernel_rfl) (by kernel_rfl) (by kernel_rfl) (fun _ _ _ h => h) (by rfl) ?hy8 ?_
    case hy8 => intro w' hw'; go_simp; (try with_reducible rfl)
    simp only [Act.put, List.setIfInBounds_toArray, List.set_cons_zero, List.set_cons_succ]
    refine reg_skip (i := 9) rfl (by kernel_rfl) (by kernel_rfl) (by kernel_rfl) (fun _ _ _ h => h) (by rfl) ?_
    simp only [Act.put, List.setIfInBounds_toArray, List.set_cons_zero, List.set_cons_succ]
    refine reg_skip (i := 10) rfl (by kernel_rfl) (by kernel_rfl) (by kernel_rfl) (fun _ _ _ h => h) (by rfl) ?_
    simp only [Act.put, List.setIfInBounds_toArray, List.set_cons_zero, List.set_cons_succ]
    refine reg_skip (i := 11) rfl (by kernel_rfl) (by kernel_rfl) (by kernel_rfl) (fun _ _ _ h => h) (by rfl) ?_
    simp only [Act.put, List.setIfInBounds_toArray, List.set_cons_zero, List.set_cons_succ]
    refine reg_skip (i := 12) rfl (by kernel_rfl) (by kernel_rfl) (by kernel_rfl) (fun _ _ _ h => h) (by rfl) ?_
    simp only [Act.put, List.setIfInBounds_toArray, List.set_cons_zero, List.set_cons_succ]
    refine reg_skip (i := 13) rfl (by kernel_rfl) (by kernel_rfl) (by kernel_rfl) (fun _ _ _ h => h) (by rfl) ?_
    simp only [Act.put, List.setIfInBounds_toArray, List.set_cons_zero, List.set_cons_succ]
    refine reg_take (i := 14) (v := ?_) rfl (by kernel_rfl) (by kernel_rfl) (by kernel_rfl) (fun _ _ _ h => h) (by rfl) ?hy14 ?_
    case hy14 => intro w' hw'; go_simp; (try with_reducible rfl)
    simp only [Act.put, List.setIfInBounds_toArray, List.set_cons_zero, List.set_cons_succ]
    refine reg_end (by kernel_rfl) ?_
    go_wp2
    rw [Exit.noGoto_ret]
    go_ret
    exact ⟨by rw [HN.out]; rfl, B7.out⟩
  have y1 : decide ((l.length : Int) < 1) = false := by simp; omega
  by_cases h2 : 16 < l.length
  · have HN : Hid (nameB l = false) := Lib.hid (by rw [nameB, decide_eq_false (show ¬ l.length ≤ 16 by omega)]; simp)
    have y2 : decide (16 < (l.length : Int)) = true := by simp; omega
    have y2n : decide (16 < l.length) = true := by simp; omega
    clear h1
    go_enter Tryd.func62, Tryd.ntmps62
    go_wp2
    go_step3
    go_wp2_with (refine wpList_alloc_row rfl 107 rfl Span.zero.enc.toArray Span.zero_is ?_)
    intro w1 b1 x1 z1
    obtain ⟨gL, hgL⟩ : ∃ g, g = w.heap.size := ⟨_, rfl⟩
    have M_L := Lib.hid (show w.heap.size ≤ gL from by rw [hgL]; exact Nat.le_refl _)
    have B1 := Lib.hid b1
    rw [← hgL] at x1 ⊢
    have L1 : Hid (Span.At w1 gL Span.zero) := Lib.hid x1
    clear b1 x1 z1 hgL 
    go_wp2_with (first | (with_reducible refine wpList_load_whole Span.isRec rfl _ rfl gL (by with_unfolding_all exact rfl) _ _ (Span.len _) L1.out ?_) | (refine wpList_alloc_row rfl 107 rfl Span.zero.enc.toArray Span.zero_is ?_))
    intro w2 b2 x2 z2
    obtain ⟨gF, hgF⟩ : ∃ g, g = w1.heap.size := ⟨_, rfl⟩
    have N_L_F := Lib.hid (show gL < gF from by rw [hgF]; exact L1.out.lt)
    have M_F := Lib.hid (show w.heap.size ≤ gF from by rw [hgF]; exact B1.out.size)
    have L2 : Hid (Span.At w2 gL Span.zero) := Lib.hid (Whole.below L1.out b2 L1.out.lt)
    have B2 := Lib.hid (B1.out.trans (b2.mono B1.out.size))
    rw [← hgF] at x2 ⊢
    have F2 : Hid (Span.At w2 gF Span.zero) := Lib.hid x2
    clear b2 x2 z2 hgF L1 B1
    go_wp2_with (first | (with_reducible refine wpList_load_whole Span.isRec rfl _ rfl gL (by with_unfolding_all exact rfl) _ _ (Span.len _) L2.out ?_) | (with_reducible refine wpList_load_whole Span.isRec rfl _ rfl gF (by with_unfolding_all exact rfl) _ _ (Span.len _) F2.out ?_) | (refine wpList_alloc_row rfl 107 rfl Span.zero.enc.toArray Span.zero_is ?_))
    intro w3 b3 x3 z3
    obtain ⟨gD, hgD⟩ : ∃ g, g = w2.heap.size := ⟨_, rfl⟩
    have N_L_D := Lib.hid (show gL < gD from by rw [hgD]; exact L2.out.lt)
    have N_F_D := Lib.hid (show gF < gD from by rw [hgD]; exact F2.out.lt)
    have M_D := Lib.hid (show w.heap.size ≤ gD from by rw [hgD]; exact B2.out.size)
    have L3 : Hid (Span.At w3 gL Span.zero) := Lib.hid (Whole.below L2.out b3 L2.out.lt)
    have F3 : Hid (Span.At w3 gF Span.zero) := Lib.hid (Whole.below F2.out b3 F2.out.lt)
    have B3 := Lib.hid (B2.out.trans (b3.mono B2.out.size))
    rw [← hgD] at x3 ⊢
    have D3 : Hid (Span.At w3 gD Span.zero) := Lib.hid x3
    clear b3 x3 z3 hgD L2 F2 B2
    go_wp2_with (first | (with_reducible refine wpList_load_whole Span.isRec rfl _ rfl gL (by with_unfolding_all exact rfl) _ _ (Span.len _) L3.out ?_) | (with_reducible refine wpList_load_whole Span.isRec rfl _ rfl gF (by with_unfolding_all exact rfl) _ _ (Span.len _) F3.out ?_) | (with_reducible refine wpList_load_whole Span.isRec rfl _ rfl gD (by with_unfolding_all exact rfl) _ _ (Span.len _) D3.out ?_) | (with_reducible refine wpList_store_whole rfl 107 _ _ rfl gL letS.enc.toArray (by with_unfolding_all exact rfl) (by with_unfolding_all exact rfl) _ _ L3.out (Span.size _) rfl (Span.one _) ?_))
    intro w4 q4 x4 z4
    have L4 : Hid (Span.At w4 gL letS) := Lib.hid x4
    have F4 : Hid (Span.At w4 gF Span.zero) := Lib.hid (grown_far F3.out q4 (by have := N_L_F.out; omega))
    have D4 : Hid (Span.At w4 gD Span.zero) := Lib.hid (grown_far D3.out q4 (by have := N_L_D.out; omega))
    have B4 := Lib.hid (B3.out.grown q4 B3.out.size (fun k hk => by injection hk with hk; have := M_L.out; omega))
    clear q4 x4 z4 L3 F3 D3 B3
    go_wp2_with (first | (with_reducible refine wpList_load_whole Span.isRec rfl _ rfl gL (by with_unfolding_all exact rfl) _ _ (Span.len _) L4.out ?_) | (with_reducible refine wpList_load_whole Span.isRec rfl _ rfl gF (by with_unfolding_all exact rfl) _ _ (Span.len _) F4.out ?_) | (with_reducible refine wpList_load_whole Span.isRec rfl _ rfl gD (by with_unfolding_all exact rfl) _ _ (Span.len _) D4.out ?_) | (with_reducible refine wpList_store_whole rfl 107 _ _ rfl gF figS.enc.toArray (by with_unfolding_all exact rfl) (by with_unfolding_all exact rfl) _ _ F4.out (Span.size _) rfl (Span.one _) ?_))
    intro w5 q5 x5 z5
    have F5 : Hid (Span.At w5 gF figS) := Lib.hid x5
    have L5 : Hid (Span.At w5 gL letS) := Lib.hid (grown_far L4.out q5 (by have := N_L_F.out; omega))
    have D5 : Hid (Span.At w5 gD Span.zero) := Lib.hid (grown_far D4.out q5 (by have := N_F_D.out; omega))
    have B5 := Lib.hid (B4.out.grown q5 B4.out.size (fun k hk => by injection hk with hk; have := M_F.out; omega))
    clear q5 x5 z5 F4 L4 D4 B4
    go_wp2_with (first | (with_reducible refine wpList_load_whole Span.isRec rfl _ rfl gL (by with_unfolding_all exact rfl) _ _ (Span.len _) L5.out ?_) | (with_reducible refine wpList_load_whole Span.isRec rfl _ rfl gF (by with_unfolding_all exact rfl) _ _ (Span.len _) F5.out ?_) | (with_reducible refine wpList_load_whole Span.isRec rfl _ rfl gD (by with_unfolding_all exact rfl) _ _ (Span.len _) D5.out ?_) | (with_reducible refine wpList_store_whole rfl 107 _ _ rfl gD dashS.enc.toArray (by with_unfolding_all exact rfl) (by with_unfolding_all exact rfl) _ _ D5.out (Span.size _) rfl (Span.one _) ?_))
    intro w6 q6 x6 z6
    have D6 : Hid (Span.At w6 gD dashS) := Lib.hid x6
    have L6 : Hid (Span.At w6 gL letS) := Lib.hid (grown_far L5.out q6 (by have := N_L_D.out; omega))
    have F6 : Hid (Span.At w6 gF figS) := Lib.hid (grown_far F5.out q6 (by have := N_F_D.out; omega))
    have B6 := Lib.hid (B5.out.grown q6 B5.out.size (fun k hk => by injection hk with hk; have := M_D.out; omega))
    clear q6 x6 z6 D5 L5 F5 B5
    go_wp2_with (first | (with_reducible refine wpList_load_whole Span.isRec rfl _ rfl gL (by with_unfolding_all exact rfl) _ _ (Span.len _) L6.out ?_) | (with_reducible refine wpList_load_whole Span.isRec rfl _ rfl gF (by with_unfolding_all exact rfl) _ _ (Span.len _) F6.out ?_) | (with_reducible refine wpList_load_whole Span.isRec rfl _ rfl gD (by with_unfolding_all exact rfl) _ _ (Span.len _) D6.out ?_))
    refine reg_begin (by kernel_rfl) fun w7 b7 z7 => ?_
    have L7 : Hid (Span.At w7 gL letS) := Lib.hid (Whole.below L6.out b7 L6.out.lt)
    have F7 : Hid (Span.At w7 gF figS) := Lib.hid (Whole.below F6.out b7 F6.out.lt)
    have D7 : Hid (Span.At w7 gD dashS) := Lib.hid (Whole.below D6.out b7 D6.out.lt)
    have B7 := Lib.hid (B6.out.trans (b7.mono B6.out.size))
    clear b7 z7 L6 F6 D6 B6
    refine reg_take (i := 0) (v := ?_) rfl (by kernel_rfl) (by kernel_rfl) (by kernel_rfl) (fun _ _ _ h => h) (by rfl) ?hy0 ?_
    case hy0 => intro w' hw'; go_simp; (try with_reducible rfl)
    simp only [Act.put, List.setIfInBounds_toArray, List.set_cons_zero, List.set_cons_succ]
    refine reg_take (i := 1) (v := ?_) rfl (by kernel_rfl) (by kernel_rfl) (by kernel_rfl) (fun _ _ _ h => h) (by rfl) ?hy1 ?_
    case hy1 => intro w' hw'; go_simp; (try with_reducible rfl)
    simp only [Act.put, List.setIfInBounds_toArray, List.set_cons_zero, List.set_cons_succ]
    refine reg_take (i := 2) (v := ?_) rfl (by kernel_rfl) (by kernel_rfl) (by kernel_rfl) (fun _ _ _ h => h) (by rfl) ?hy2 ?_
    case hy2 => intro w' hw'; go_simp; (try with_reducible rfl)
    simp only [Act.put, List.setIfInBounds_toArray, List.set_cons_zero, List.set_cons_succ]
    refine reg_take (i := 3) (v := ?_) rfl (by kernel_rfl) (by kernel_rfl) (by kernel_rfl) (fun _ _ _ h => h) (by rfl) ?hy3 ?_
    case hy3 => intro w' hw'; go_simp; (try with_reducible rfl)
    simp only [Act.put, List.setIfInBounds_toArray, List.set_cons_zero, List.set_cons_succ]
    refine reg_take (i := 4) (v := ?_) rfl (by kernel_rfl) (by kernel_rfl) (by kernel_rfl) (fun _ _ _ h => h) (by rfl) ?hy4 ?_
    case hy4 => intro w' hw'; go_simp; (try with_reducible rfl)
    simp only [Act.put, List.setIfInBounds_toArray, List.set_cons_zero, List.set_cons_succ]
    refine reg_take (i := 5) (v := ?_) rfl (by kernel_rfl) (by kernel_rfl) (by kernel_rfl) (fun _ _ _ h => h) (by rfl) ?hy5 ?_
    case hy5 => intro w' hw'; go_simp; (try with_reducible rfl)
    simp only [Act.put, List.setIfInBounds_toArray, List.set_cons_zero, List.set_cons_succ]
    refine reg_take (i := 6) (v := ?_) rfl (by kernel_rfl) (by kernel_rfl) (by kernel_rfl) (fun _ _ _ h => h) (by rfl) ?hy6 ?_
    case hy6 => intro w' hw'; go_simp; (try with_reducible rfl)
    simp only [Act.put, List.setIfInBounds_toArray, List.set_cons_zero, List.set_cons_succ]
    refine reg_take (i := 7) (v := ?_) rfl (by kernel_rfl) (by kernel_rfl) (by kernel_rfl) (fun _ _ _ h => h) (by rfl) ?hy7 ?_
    case hy7 => intro w' hw'; go_simp; (try with_reducible rfl)
    simp only [Act.put, List.setIfInBounds_toArray, List.set_cons_zero, List.set_cons_succ]
    refine reg_take (i := 8) (v := ?_) rfl (by kernel_rfl) (by kernel_rfl) (by kernel_rfl) (fun _ _ _ h => h) (by rfl) ?hy8 ?_
    case hy8 => intro w' hw'; go_simp; (try with_reducible rfl)
    simp only [Act.put, List.setIfInBounds_toArray, List.set_cons_zero, List.set_cons_succ]
    refine reg_skip (i := 9) rfl (by kernel_rfl) (by kernel_rfl) (by kernel_rfl) (fun _ _ _ h => h) (by rfl) ?_
    simp only [Act.put, List.setIfInBounds_toArray, List.set_cons_zero, List.set_cons_succ]
    refine reg_skip (i := 10) rfl (by kernel_rfl) (by kernel_rfl) (by kernel_rfl) (fun _ _ _ h => h) (by rfl) ?_
    simp only [Act.put, List.setIfInBounds_toArray, List.set_cons_zero, List.set_cons_succ]
    refine reg_skip (i := 11) rfl (by kernel_rfl) (by kernel_rfl) (by kernel_rfl) (fun _ _ _ h => h) (by rfl) ?_
    simp only [Act.put, List.setIfInBounds_toArray, List.set_cons_zero, List.set_cons_succ]
    refine reg_skip (i := 12) rfl (by kernel_rfl) (by kernel_rfl) (by kernel_rfl) (fun _ _ _ h => h) (by rfl) ?_
    simp only [Act.put, List.setIfInBounds_toArray, List.set_cons_zero, List.set_cons_succ]
    refine reg_skip (i := 13) rfl (by kernel_rfl) (by kernel_rfl) (by kernel_rfl) (fun _ _ _ h => h) (by rfl) ?_
    simp only [Act.put, List.setIfInBounds_toArray, List.set_cons_zero, List.set_cons_succ]
    refine reg_take (i := 14) (v := ?_) rfl (by kernel_rfl) (by kernel_rfl) (by kernel_rfl) (fun _ _ _ h => h) (by rfl) ?hy14 ?_
    case hy14 => intro w' hw'; go_simp; (try with_reducible rfl)
    simp only [Act.put, List.setIfInBounds_toArray, List.set_cons_zero, List.set_cons_succ]
    refine reg_end (by kernel_rfl) ?_
    go_wp2
    rw [Exit.noGoto_ret]
    go_ret
    exact ⟨by rw [HN.out]; rfl, B7.out⟩
  have y2 : decide (16 < (l.length : Int)) = false := by simp; omega
  have y2n : decide (16 < l.length) = false := by simp; omega
  have HB := Lib.hid (show 1 ≤ l.length ∧ l.length ≤ 16 by omega)
  obtain ⟨c0, hc0⟩ : ∃ c, l[0]? = some c := ⟨_, List.getElem?_eq_getElem (by omega)⟩
  have rat := str_at l 0 c0 hc0
  have jk0 : (0 : Int) < (l.length : Int) := by omega
  have jk0n : 0 < l.length := by omega
  have HH := Lib.hid (show l.head?.any (inB lowL) = inB lowL c0 by rw [List.head?_eq_getElem?, hc0]; rfl)
  have C0 := fun w => Lib.hid (has_any letS c0 w)
  rw [low_is] at HH
  obtain ⟨q0, hq0⟩ : ∃ q, q = letS.hasB c0 := ⟨_, rfl⟩
  simp only [← hq0] at C0
  rw [← hq0] at HH
  clear h1 h2 hc0 hq0
  go_enter Tryd.func62, Tryd.ntmps62
  go_wp2
  go_step3
  go_wp2_with (refine wpList_alloc_row rfl 107 rfl Span.zero.enc.toArray Span.zero_is ?_)
  intro w1 b1 x1 z1
  obtain ⟨gL, hgL⟩ : ∃ g, g = w.heap.size := ⟨_, rfl⟩
  have M_L := Lib.hid (show w.heap.size ≤ gL from by rw [hgL]; exact Nat.le_refl _)
  have B1 := Lib.hid b1
  rw [← hgL] at x1 ⊢
  have L1 : Hid (Span.At w1 gL Span.zero) := Lib.hid x1
  clear b1 x1 z1 hgL 
  go_wp2_with (first | (with_reducible refine wpList_load_whole Span.isRec rfl _ rfl gL (by with_unfolding_all exact rfl) _ _ (Span.len _) L1.out ?_) | (refine wpList_alloc_row rfl 107 rfl Span.zero.enc.toArray Span.zero_is ?_))
  intro w2 b2 x2 z2
  obtain ⟨gF, hgF⟩ : ∃ g, g = w1.heap.size := ⟨_, rfl⟩
  have N_L_F := Lib.hid (show gL < gF from by rw [hgF]; exact L1.out.lt)
  have M_F := Lib.hid (show w.heap.size ≤ gF from by rw [hgF]; exact B1.out.size)
  have L2 : Hid (Span.At w2 gL Span.zero) := Lib.hid (Whole.below L1.out b2 L1.out.lt)
  have B2 := Lib.hid (B1.out.trans (b2.mono B1.out.size))
  rw [← hgF] at x2 ⊢
  have F2 : Hid (Span.At w2 gF Span.zero) := Lib.hid x2
  clear b2 x2 z2 hgF L1 B1
  go_wp2_with (first | (with_reducible refine wpList_load_whole Span.isRec rfl _ rfl gL (by with_unfolding_all exact rfl) _ _ (Span.len _) L2.out ?_) | (with_reducible refine wpList_load_whole Span.isRec rfl _ rfl gF (by with_unfolding_all exact rfl) _ _ (Span.len _) F2.out ?_) | (refine wpList_alloc_row rfl 107 rfl Span.zero.enc.toArray Span.zero_is ?_))
  intro w3 b3 x3 z3
  obtain ⟨gD, hgD⟩ : ∃ g, g = w2.heap.size := ⟨_, rfl⟩
  have N_L_D := Lib.hid (show gL < gD from by rw [hgD]; exact L2.out.lt)
  have N_F_D := Lib.hid (show gF < gD from by rw [hgD]; exact F2.out.lt)
  have M_D := Lib.hid (show w.heap.size ≤ gD from by rw [hgD]; exact B2.out.size)
  have L3 : Hid (Span.At w3 gL Span.zero) := Lib.hid (Whole.below L2.out b3 L2.out.lt)
  have F3 : Hid (Span.At w3 gF Span.zero) := Lib.hid (Whole.below F2.out b3 F2.out.lt)
  have B3 := Lib.hid (B2.out.trans (b3.mono B2.out.size))
  rw [← hgD] at x3 ⊢
  have D3 : Hid (Span.At w3 gD Span.zero) := Lib.hid x3
  clear b3 x3 z3 hgD L2 F2 B2
  go_wp2_with (first | (with_reducible refine wpList_load_whole Span.isRec rfl _ rfl gL (by with_unfolding_all exact rfl) _ _ (Span.len _) L3.out ?_) | (with_reducible refine wpList_load_whole Span.isRec rfl _ rfl gF (by with_unfolding_all exact rfl) _ _ (Span.len _) F3.out ?_) | (with_reducible refine wpList_load_whole Span.isRec rfl _ rfl gD (by with_unfolding_all exact rfl) _ _ (Span.len _) D3.out ?_) | (with_reducible refine wpList_store_whole rfl 107 _ _ rfl gL letS.enc.toArray (by with_unfolding_all exact rfl) (by with_unfolding_all exact rfl) _ _ L3.out (Span.size _) rfl (Span.one _) ?_))
  intro w4 q4 x4 z4
  have L4 : Hid (Span.At w4 gL letS) := Lib.hid x4
  have F4 : Hid (Span.At w4 gF Span.zero) := Lib.hid (grown_far F3.out q4 (by have := N_L_F.out; omega))
  have D4 : Hid (Span.At w4 gD Span.zero) := Lib.hid (grown_far D3.out q4 (by have := N_L_D.out; omega))
  have B4 := Lib.hid (B3.out.grown q4 B3.out.size (fun k hk => by injection hk with hk; have := M_L.out; omega))
  clear q4 x4 z4 L3 F3 D3 B3
  go_wp2_with (first | (with_reducible refine wpList_load_whole Span.isRec rfl _ rfl gL (by with_unfolding_all exact rfl) _ _ (Span.len _) L4.out ?_) | (with_reducible refine wpList_load_whole Span.isRec rfl _ rfl gF (by with_unfolding_all exact rfl) _ _ (Span.len _) F4.out ?_) | (with_reducible refine wpList_load_whole Span.isRec rfl _ rfl gD (by with_unfolding_all exact rfl) _ _ (Span.len _) D4.out ?_) | (with_reducible refine wpList_store_whole rfl 107 _ _ rfl gF figS.enc.toArray (by with_unfolding_all exact rfl) (by with_unfolding_all exact rfl) _ _ F4.out (Span.size _) rfl (Span.one _) ?_))
  intro w5 q5 x5 z5
  have F5 : Hid (Span.At w5 gF figS) := Lib.hid x5
  have L5 : Hid (Span.At w5 gL letS) := Lib.hid (grown_far L4.out q5 (by have := N_L_F.out; omega))
  have D5 : Hid (Span.At w5 gD Span.zero) := Lib.hid (grown_far D4.out q5 (by have := N_F_D.out; omega))
  have B5 := Lib.hid (B4.out.grown q5 B4.out.size (fun k hk => by injection hk with hk; have := M_F.out; omega))
  clear q5 x5 z5 F4 L4 D4 B4
  go_wp2_with (first | (with_reducible refine wpList_load_whole Span.isRec rfl _ rfl gL (by with_unfolding_all exact rfl) _ _ (Span.len _) L5.out ?_) | (with_reducible refine wpList_load_whole Span.isRec rfl _ rfl gF (by with_unfolding_all exact rfl) _ _ (Span.len _) F5.out ?_) | (with_reducible refine wpList_load_whole Span.isRec rfl _ rfl gD (by with_unfolding_all exact rfl) _ _ (Span.len _) D5.out ?_) | (with_reducible refine wpList_store_whole rfl 107 _ _ rfl gD dashS.enc.toArray (by with_unfolding_all exact rfl) (by with_unfolding_all exact rfl) _ _ D5.out (Span.size _) rfl (Span.one _) ?_))
  intro w6 q6 x6 z6
  have D6 : Hid (Span.At w6 gD dashS) := Lib.hid x6
  have L6 : Hid (Span.At w6 gL letS) := Lib.hid (grown_far L5.out q6 (by have := N_L_D.out; omega))
  have F6 : Hid (Span.At w6 gF figS) := Lib.hid (grown_far F5.out q6 (by have := N_F_D.out; omega))
  have B6 := Lib.hid (B5.out.grown q6 B5.out.size (fun k hk => by injection hk with hk; have := M_D.out; omega))
  clear q6 x6 z6 D5 L5 F5 B5
  go_wp2_with (first | (with_reducible refine wpList_load_whole Span.isRec rfl _ rfl gL (by with_unfolding_all exact rfl) _ _ (Span.len _) L6.out ?_) | (with_reducible refine wpList_load_whole Span.isRec rfl _ rfl gF (by with_unfolding_all exact rfl) _ _ (Span.len _) F6.out ?_) | (with_reducible refine wpList_load_whole Span.isRec rfl _ rfl gD (by with_unfolding_all exact rfl) _ _ (Span.len _) D6.out ?_))
  refine reg_begin (by kernel_rfl) fun w7 b7 z7 => ?_
  have L7 : Hid (Span.At w7 gL letS) := Lib.hid (Whole.below L6.out b7 L6.out.lt)
  have F7 : Hid (Span.At w7 gF figS) := Lib.hid (Whole.below F6.out b7 F6.out.lt)
  have D7 : Hid (Span.At w7 gD dashS) := Lib.hid (Whole.below D6.out b7 D6.out.lt)
  have B7 := Lib.hid (B6.out.trans (b7.mono B6.out.size))
  clear b7 z7 L6 F6 D6 B6
  refine reg_take (i := 0) (v := ?_) rfl (by kernel_rfl) (by kernel_rfl) (by kernel_rfl) (fun _ _ _ h => h) (by rfl) ?hy0 ?_
  case hy0 => intro w' hw'; go_simp; (try with_reducible rfl)
  simp only [Act.put, List.setIfInBounds_toArray, List.set_cons_zero, List.set_cons_succ]
  refine reg_take (i := 1) (v := ?_) rfl (by kernel_rfl) (by kernel_rfl) (by kernel_rfl) (fun _ _ _ h => h) (by rfl) ?hy1 ?_
  case hy1 => intro w' hw'; go_simp; (try with_reducible rfl)
  simp only [Act.put, List.setIfInBounds_toArray, List.set_cons_zero, List.set_cons_succ]
  refine reg_take (i := 2) (v := ?_) rfl (by kernel_rfl) (by kernel_rfl) (by kernel_rfl) (fun _ _ _ h => h) (by rfl) ?hy2 ?_
  case hy2 => intro w' hw'; go_simp; (try with_reducible rfl)
  simp only [Act.put, List.setIfInBounds_toArray, List.set_cons_zero, List.set_cons_succ]
  refine reg_take (i := 3) (v := ?_) rfl (by kernel_rfl) (by kernel_rfl) (by kernel_rfl) (fun _ _ _ h => h) (by rfl) ?hy3 ?_
  case hy3 => intro w' hw'; go_simp; (try with_reducible rfl)
  simp only [Act.put, List.setIfInBounds_toArray, List.set_cons_zero, List.set_cons_succ]
  refine reg_take (i := 4) (v := ?_) rfl (by kernel_rfl) (by kernel_rfl) (by kernel_rfl) (fun _ _ _ h => h) (by rfl) ?hy4 ?_
  case hy4 => intro w' hw'; go_simp; (try with_reducible rfl)
  simp only [Act.put, List.setIfInBounds_toArray, List.set_cons_zero, List.set_cons_succ]
  refine reg_take (i := 5) (v := ?_) rfl (by kernel_rfl) (by kernel_rfl) (by kernel_rfl) (fun _ _ _ h => h) (by rfl) ?hy5 ?_
  case hy5 => intro w' hw'; go_simp; (try with_reducible rfl)
  simp only [Act.put, List.setIfInBounds_toArray, List.set_cons_zero, List.set_cons_succ]
  refine reg_take (i := 6) (v := ?_) rfl (by kernel_rfl) (by kernel_rfl) (by kernel_rfl) (fun _ _ _ h => h) (by rfl) ?hy6 ?_
  case hy6 => intro w' hw'; go_simp; (try with_reducible rfl)
  simp only [Act.put, List.setIfInBounds_toArray, List.set_cons_zero, List.set_cons_succ]
  refine reg_take (i := 7) (v := ?_) rfl (by kernel_rfl) (by kernel_rfl) (by kernel_rfl) (fun _ _ _ h => h) (by rfl) ?hy7 ?_
  case hy7 => intro w' hw'; go_simp; (try with_reducible rfl)
  simp only [Act.put, List.setIfInBounds_toArray, List.set_cons_zero, List.set_cons_succ]
  refine reg_take (i := 8) (v := ?_) rfl (by kernel_rfl) (by kernel_rfl) (by kernel_rfl) (fun _ _ _ h => h) (by rfl) ?hy8 ?_
  case hy8 => intro w' hw'; go_simp; (try with_reducible rfl)
  simp only [Act.put, List.setIfInBounds_toArray, List.set_cons_zero, List.set_cons_succ]
  refine reg_take (i := 9) (v := Span.val (letS)) rfl (by kernel_rfl) (by kernel_rfl) (by kernel_rfl) (fun _ _ _ h => h) (by rfl) ?hy9 ?_
  case hy9 => intro w' hw'; exact exec_load_whole Span.isRec _ rfl gL rfl _ _ (Span.len _) w' (Whole.below L7.out hw' L7.out.lt)
  simp only [Act.put, List.setIfInBounds_toArray, List.set_cons_zero, List.set_cons_succ]
  refine reg_take (i := 10) (v := ?_) rfl (by kernel_rfl) (by kernel_rfl) (by kernel_rfl) (fun _ _ _ h => h) (by rfl) ?hy10 ?_
  case hy10 => intro w' hw'; go_simp; (try with_reducible rfl)
  simp only [Act.put, List.setIfInBounds_toArray, List.set_cons_zero, List.set_cons_succ]
  refine reg_take (i := 11) (v := ?_) rfl (by kernel_rfl) (by kernel_rfl) (by kernel_rfl) (fun _ _ _ h => h) (by rfl) ?hy11 ?_
  case hy11 => intro w' hw'; go_simp; (try with_reducible rfl)
  simp only [Act.put, List.setIfInBounds_toArray, List.set_cons_zero, List.set_cons_succ]
  refine reg_call (i := 12) rfl (by kernel_rfl) (fun K' hK => ?_)
  go_simp
  refine ((C0 w7).out).mono ?_
  rintro e8 w8 ⟨rfl, b8⟩
  have L8 : Hid (Span.At w8 gL letS) := Lib.hid (Whole.below L7.out b8 L7.out.lt)
  have F8 : Hid (Span.At w8 gF figS) := Lib.hid (Whole.below F7.out b8 F7.out.lt)
  have D8 : Hid (Span.At w8 gD dashS) := Lib.hid (Whole.below D7.out b8 D7.out.lt)
  have B8 := Lib.hid (B7.out.trans (b8.mono B7.out.size))
  refine hK.out _ _ b8 ?_
  clear hK K' b8 L7 F7 D7 B7
  refine reg_take (i := 13) (v := ?_) rfl (by kernel_rfl) (by kernel_rfl) (by kernel_rfl) (fun _ _ _ h => h) (by rfl) ?hy13 ?_
  case hy13 => intro w' hw'; go_simp; (try with_reducible rfl)
  simp only [Act.put, List.setIfInBounds_toArray, List.set_cons_zero, List.set_cons_succ]
  refine reg_take (i := 14) (v := ?_) rfl (by kernel_rfl) (by kernel_rfl) (by kernel_rfl) (fun _ _ _ h => h) (by rfl) ?hy14 ?_
  case hy14 => intro w' hw'; go_simp; (try with_reducible rfl)
  simp only [Act.put, List.setIfInBounds_toArray, List.set_cons_zero, List.set_cons_succ]
  refine reg_end (by kernel_rfl) ?_
  clear rat C0
  cases q0 with
  | false =>
    have HN : Hid (nameB l = false) := Lib.hid (by rw [nameB, HH.out]; simp)
    go_wp2
    rw [Exit.noGoto_ret]
    go_ret
    exact ⟨by rw [HN.out]; rfl, B8.out⟩
  | true =>
    go_wp2
    go_step3
    go_wp2
    clear y1 y2 y2n jk0 jk0n
    go_loopg [29] l.length (fun g s29 wr => ∃ k : Nat, k + g = l.length ∧ s29 = .int .i64 (k : Int) ∧ (l.take k).all (inB nameC) = true ∧ Span.At wr gL letS ∧ Span.At wr gF figS ∧ Span.At wr gD dashS ∧ Below w.heap.size w wr)
    case atStart => exact ⟨0, by omega, rfl, rfl, L8.out, F8.out, D8.out, B8.out⟩
    case round =>
      obtain ⟨k, hk, rfl, ha, hL, hF, hD, hb⟩ := hrel
      have HA := Lib.hid ha
      have HL := Lib.hid hL
      have HFg := Lib.hid hF
      have HD := Lib.hid hD
      have HBr := Lib.hid hb
      clear ha hL hF hD hb
      obtain ⟨wo, hwo⟩ : ∃ wo, wo = wr := ⟨_, rfl⟩
      obtain ⟨go, hgo⟩ : ∃ go, go = gk := ⟨_, rfl⟩
      subst hwo hgo
      by_cases hlt : k < l.length
      · have dk : decide ((k : Int) < (l.length : Int)) = true := by simp; omega
        have dkn : decide (k < l.length) = true := by simp; omega
        obtain ⟨c, hc⟩ : ∃ c, l[k]? = some c := ⟨_, List.getElem?_eq_getElem hlt⟩
        have jk : (k : Int) < (l.length : Int) := by omega
        have r := str_at l k c hc
        have r4 : IntKind.i64.wrap ((k : Int) + 1) = ((k + 1 : Nat) : Int) := by have := HB.out; rw [IntWalk.i64_in _ (by omega)]; omega
        have HT := Lib.hid (all_take (inB nameC) l k c hc)
        have HF := Lib.hid (all_not (inB nameC) l k c hc)
        rw [name_is] at HT HF
        have C1 := Lib.hid (fun w => has_any letS c w)
        have C2 := Lib.hid (fun w => has_any figS c w)
        have C3 := Lib.hid (fun w => has_any dashS c w)
        obtain ⟨q1, hq1⟩ : ∃ q, q = letS.hasB c := ⟨_, rfl⟩
        obtain ⟨q2, hq2⟩ : ∃ q, q = figS.hasB c := ⟨_, rfl⟩
        obtain ⟨q3, hq3⟩ : ∃ q, q = dashS.hasB c := ⟨_, rfl⟩
        simp only [← hq1] at C1
        simp only [← hq2] at C2
        simp only [← hq3] at C3
        rw [← hq1, ← hq2, ← hq3] at HT HF
        clear hc hq1 hq2 hq3
        have a1 : wo.cell? ⟨gL, 0, none⟩ = some (.int .u8 97) := HL.out.at_ 0
        have a2 : wo.cell? ⟨gL, 1, none⟩ = some (.int .u8 122) := HL.out.at_ 1
        have a3 : wo.cell? ⟨gF, 0, none⟩ = some (.int .u8 48) := HFg.out.at_ 0
        have a4 : wo.cell? ⟨gF, 1, none⟩ = some (.int .u8 57) := HFg.out.at_ 1
        have a5 : wo.cell? ⟨gD, 0, none⟩ = some (.int .u8 45) := HD.out.at_ 0
        have a6 : wo.cell? ⟨gD, 1, none⟩ = some (.int .u8 45) := HD.out.at_ 1
        go_wp2
        clear a1 a2 a3 a4 a5 a6
        go_loopg [36] 3 (fun g s36 wy => ∃ j : Nat, j + g = 3 ∧ s36 = .int .i64 (j : Int) ∧ Hid ((1 ≤ j → q1 = false) ∧ (2 ≤ j → q2 = false) ∧ (3 ≤ j → q3 = false)) ∧ Span.At wy gL letS ∧ Span.At wy gF figS ∧ Span.At wy gD dashS ∧ Below w.heap.size w wy)
        case atStart => exact ⟨0, rfl, rfl, Lib.hid ⟨fun h => by omega, fun h => by omega, fun h => by omega⟩, HL.out, HFg.out, HD.out, HBr.out⟩
        case round =>
          obtain ⟨j, hj, rfl, HQ, hL, hF, hD, hb⟩ := hrel
          have HL2 := Lib.hid hL
          have HF2 := Lib.hid hF
          have HD2 := Lib.hid hD
          have HB2 := Lib.hid hb
          clear hL hF hD hb HL HFg HD HBr
          rcases (show j = 0 ∨ j = 1 ∨ j = 2 ∨ j = 3 by omega) with rfl | rfl | rfl | rfl
          · have ix := index_0 wr
            go_wp2_with (first | (with_reducible refine wpList_load_whole Span.isRec rfl _ rfl gL (by with_unfolding_all exact rfl) _ _ (Span.len _) HL2.out ?_) | (with_reducible refine wpList_load_whole Span.isRec rfl _ rfl gF (by with_unfolding_all exact rfl) _ _ (Span.len _) HF2.out ?_) | (with_reducible refine wpList_load_whole Span.isRec rfl _ rfl gD (by with_unfolding_all exact rfl) _ _ (Span.len _) HD2.out ?_) | (refine wpList_alloc_row rfl 107 rfl Span.zero.enc.toArray Span.zero_is ?_))
            intro w9 b9 x9 z9
            obtain ⟨gX, hgX⟩ : ∃ g, g = wr.heap.size := ⟨_, rfl⟩
            have N_L_X := Lib.hid (show gL < gX from by rw [hgX]; exact HL2.out.lt)
            have N_F_X := Lib.hid (show gF < gX from by rw [hgX]; exact HF2.out.lt)
            have N_D_X := Lib.hid (show gD < gX from by rw [hgX]; exact HD2.out.lt)
            have M_X := Lib.hid (show w.heap.size ≤ gX from by rw [hgX]; exact HB2.out.size)
            have L9 : Hid (Span.At w9 gL letS) := Lib.hid (Whole.below HL2.out b9 HL2.out.lt)
            have F9 : Hid (Span.At w9 gF figS) := Lib.hid (Whole.below HF2.out b9 HF2.out.lt)
            have D9 : Hid (Span.At w9 gD dashS) := Lib.hid (Whole.below HD2.out b9 HD2.out.lt)
            have B9 := Lib.hid (HB2.out.trans (b9.mono HB2.out.size))
            rw [← hgX] at x9 ⊢
            have X9 : Hid (Span.At w9 gX Span.zero) := Lib.hid x9
            clear b9 x9 z9 hgX HL2 HF2 HD2 HB2
            go_wp2_with (first | (with_reducible refine wpList_load_whole Span.isRec rfl _ rfl gL (by with_unfolding_all exact rfl) _ _ (Span.len _) L9.out ?_) | (with_reducible refine wpList_load_whole Span.isRec rfl _ rfl gF (by with_unfolding_all exact rfl) _ _ (Span.len _) F9.out ?_) | (with_reducible refine wpList_load_whole Span.isRec rfl _ rfl gD (by with_unfolding_all exact rfl) _ _ (Span.len _) D9.out ?_) | (with_reducible refine wpList_load_whole Span.isRec rfl _ rfl gX (by with_unfolding_all exact rfl) _ _ (Span.len _) X9.out ?_) | (with_reducible refine wpList_store_whole rfl 107 _ _ rfl gX letS.enc.toArray (by with_unfolding_all exact rfl) (by with_unfolding_all exact rfl) _ _ X9.out (Span.size _) rfl (Span.one _) ?_))
            intro w10 q10 x10 z10
            have X10 : Hid (Span.At w10 gX letS) := Lib.hid x10
            have L10 : Hid (Span.At w10 gL letS) := Lib.hid (grown_far L9.out q10 (by have := N_L_X.out; omega))
            have F10 : Hid (Span.At w10 gF figS) := Lib.hid (grown_far F9.out q10 (by have := N_F_X.out; omega))
            have D10 : Hid (Span.At w10 gD dashS) := Lib.hid (grown_far D9.out q10 (by have := N_D_X.out; omega))
            have B10 := Lib.hid (B9.out.grown q10 B9.out.size (fun k hk => by injection hk with hk; have := M_X.out; omega))
            clear q10 x10 z10 X9 L9 F9 D9 B9
            go_wp2_with (first | (with_reducible refine wpList_load_whole Span.isRec rfl _ rfl gL (by with_unfolding_all exact rfl) _ _ (Span.len _) L10.out ?_) | (with_reducible refine wpList_load_whole Span.isRec rfl _ rfl gF (by with_unfolding_all exact rfl) _ _ (Span.len _) F10.out ?_) | (with_reducible refine wpList_load_whole Span.isRec rfl _ rfl gD (by with_unfolding_all exact rfl) _ _ (Span.len _) D10.out ?_) | (with_reducible refine wpList_load_whole Span.isRec rfl _ rfl gX (by with_unfolding_all exact rfl) _ _ (Span.len _) X10.out ?_))
            refine reg_begin (by kernel_rfl) fun w11 b11 z11 => ?_
            have L11 : Hid (Span.At w11 gL letS) := Lib.hid (Whole.below L10.out b11 L10.out.lt)
            have F11 : Hid (Span.At w11 gF figS) := Lib.hid (Whole.below F10.out b11 F10.out.lt)
            have D11 : Hid (Span.At w11 gD dashS) := Lib.hid (Whole.below D10.out b11 D10.out.lt)
            have X11 : Hid (Span.At w11 gX letS) := Lib.hid (Whole.below X10.out b11 X10.out.lt)
            have B11 := Lib.hid (B10.out.trans (b11.mono B10.out.size))
            clear b11 z11 L10 F10 D10 X10 B10
            refine reg_take (i := 0) (v := Span.val (letS)) rfl (by kernel_rfl) (by kernel_rfl) (by kernel_rfl) (fun _ _ _ h => h) (by rfl) ?hy0 ?_
            case hy0 => intro w' hw'; exact exec_load_whole Span.isRec _ rfl gX rfl _ _ (Span.len _) w' (Whole.below X11.out hw' X11.out.lt)
            simp only [Act.put, List.setIfInBounds_toArray, List.set_cons_zero, List.set_cons_succ]
            refine reg_take (i := 1) (v := ?_) rfl (by kernel_rfl) (by kernel_rfl) (by kernel_rfl) (fun _ _ _ h => h) (by rfl) ?hy1 ?_
            case hy1 => intro w' hw'; go_simp; (try with_reducible rfl)
            simp only [Act.put, List.setIfInBounds_toArray, List.set_cons_zero, List.set_cons_succ]
            refine reg_take (i := 2) (v := ?_) rfl (by kernel_rfl) (by kernel_rfl) (by kernel_rfl) (fun _ _ _ h => h) (by rfl) ?hy2 ?_
            case hy2 => intro w' hw'; go_simp; (try with_reducible rfl)
            simp only [Act.put, List.setIfInBounds_toArray, List.set_cons_zero, List.set_cons_succ]
            refine reg_take (i := 3) (v := ?_) rfl (by kernel_rfl) (by kernel_rfl) (by kernel_rfl) (fun _ _ _ h => h) (by rfl) ?hy3 ?_
            case hy3 => intro w' hw'; go_simp; (try with_reducible rfl)
            simp only [Act.put, List.setIfInBounds_toArray, List.set_cons_zero, List.set_cons_succ]
            refine reg_call (i := 4) rfl (by kernel_rfl) (fun K' hK => ?_)
            go_simp
            refine (C1.out w11).mono ?_
            rintro e12 w12 ⟨rfl, b12⟩
            have L12 : Hid (Span.At w12 gL letS) := Lib.hid (Whole.below L11.out b12 L11.out.lt)
            have F12 : Hid (Span.At w12 gF figS) := Lib.hid (Whole.below F11.out b12 F11.out.lt)
            have D12 : Hid (Span.At w12 gD dashS) := Lib.hid (Whole.below D11.out b12 D11.out.lt)
            have X12 : Hid (Span.At w12 gX letS) := Lib.hid (Whole.below X11.out b12 X11.out.lt)
            have B12 := Lib.hid (B11.out.trans (b12.mono B11.out.size))
            refine hK.out _ _ b12 ?_
            clear hK K' b12 L11 F11 D11 X11 B11
            refine reg_end (by kernel_rfl) ?_
            clear C1 C2 C3
            cases q1 with
            | false =>
              go_wp2
              go_roundg (gk - 1)
              case rel => exact ⟨1, by omega, rfl, Lib.hid ⟨fun _ => by first | rfl | trivial, fun h => by omega, fun h => by omega⟩, L12.out, F12.out, D12.out, B12.out⟩
              case measure => omega
            | true =>
              have HT2 : Hid ((l.take (k + 1)).all (inB nameC) = true) := Lib.hid (by rw [HT.out, HA.out]; simp)
              go_wp2
              go_roundg (go - 1)
              case rel => exact ⟨k + 1, by omega, by go_num, HT2.out, L12.out, F12.out, D12.out, B12.out⟩
              case measure => omega
          · have ix := index_1 wr
            go_wp2_with (first | (with_reducible refine wpList_load_whole Span.isRec rfl _ rfl gL (by with_unfolding_all exact rfl) _ _ (Span.len _) HL2.out ?_) | (with_reducible refine wpList_load_whole Span.isRec rfl _ rfl gF (by with_unfolding_all exact rfl) _ _ (Span.len _) HF2.out ?_) | (with_reducible refine wpList_load_whole Span.isRec rfl _ rfl gD (by with_unfolding_all exact rfl) _ _ (Span.len _) HD2.out ?_) | (refine wpList_alloc_row rfl 107 rfl Span.zero.enc.toArray Span.zero_is ?_))
            intro w13 b13 x13 z13
            obtain ⟨gX, hgX⟩ : ∃ g, g = wr.heap.size := ⟨_, rfl⟩
            have N_L_X := Lib.hid (show gL < gX from by rw [hgX]; exact HL2.out.lt)
            have N_F_X := Lib.hid (show gF < gX from by rw [hgX]; exact HF2.out.lt)
            have N_D_X := Lib.hid (show gD < gX from by rw [hgX]; exact HD2.out.lt)
            have M_X := Lib.hid (show w.heap.size ≤ gX from by rw [hgX]; exact HB2.out.size)
            have L13 : Hid (Span.At w13 gL letS) := Lib.hid (Whole.below HL2.out b13 HL2.out.lt)
            have F13 : Hid (Span.At w13 gF figS) := Lib.hid (Whole.below HF2.out b13 HF2.out.lt)
            have D13 : Hid (Span.At w13 gD dashS) := Lib.hid (Whole.below HD2.out b13 HD2.out.lt)
            have B13 := Lib.hid (HB2.out.trans (b13.mono HB2.out.size))
            rw [← hgX] at x13 ⊢
            have X13 : Hid (Span.At w13 gX Span.zero) := Lib.hid x13
            clear b13 x13 z13 hgX HL2 HF2 HD2 HB2
            go_wp2_with (first | (with_reducible refine wpList_load_whole Span.isRec rfl _ rfl gL (by with_unfolding_all exact rfl) _ _ (Span.len _) L13.out ?_) | (with_reducible refine wpList_load_whole Span.isRec rfl _ rfl gF (by with_unfolding_all exact rfl) _ _ (Span.len _) F13.out ?_) | (with_reducible refine wpList_load_whole Span.isRec rfl _ rfl gD (by with_unfolding_all exact rfl) _ _ (Span.len _) D13.out ?_) | (with_reducible refine wpList_load_whole Span.isRec rfl _ rfl gX (by with_unfolding_all exact rfl) _ _ (Span.len _) X13.out ?_) | (with_reducible refine wpList_store_whole rfl 107 _ _ rfl gX figS.enc.toArray (by with_unfolding_all exact rfl) (by with_unfolding_all exact rfl) _ _ X13.out (Span.size _) rfl (Span.one _) ?_))
            intro w14 q14 x14 z14
            have X14 : Hid (Span.At w14 gX figS) := Lib.hid x14
            have L14 : Hid (Span.At w14 gL letS) := Lib.hid (grown_far L13.out q14 (by have := N_L_X.out; omega))
            have F14 : Hid (Span.At w14 gF figS) := Lib.hid (grown_far F13.out q14 (by have := N_F_X.out; omega))
            have D14 : Hid (Span.At w14 gD dashS) := Lib.hid (grown_far D13.out q14 (by have := N_D_X.out; omega))
            have B14 := Lib.hid (B13.out.grown q14 B13.out.size (fun k hk => by injection hk with hk; have := M_X.out; omega))
            clear q14 x14 z14 X13 L13 F13 D13 B13
            go_wp2_with (first | (with_reducible refine wpList_load_whole Span.isRec rfl _ rfl gL (by with_unfolding_all exact rfl) _ _ (Span.len _) L14.out ?_) | (with_reducible refine wpList_load_whole Span.isRec rfl _ rfl gF (by with_unfolding_all exact rfl) _ _ (Span.len _) F14.out ?_) | (with_reducible refine wpList_load_whole Span.isRec rfl _ rfl gD (by with_unfolding_all exact rfl) _ _ (Span.len _) D14.out ?_) | (with_reducible refine wpList_load_whole Span.isRec rfl _ rfl gX (by with_unfolding_all exact rfl) _ _ (Span.len _) X14.out ?_))
            refine reg_begin (by kernel_rfl) fun w15 b15 z15 => ?_
            have L15 : Hid (Span.At w15 gL letS) := Lib.hid (Whole.below L14.out b15 L14.out.lt)
            have F15 : Hid (Span.At w15 gF figS) := Lib.hid (Whole.below F14.out b15 F14.out.lt)
            have D15 : Hid (Span.At w15 gD dashS) := Lib.hid (Whole.below D14.out b15 D14.out.lt)
            have X15 : Hid (Span.At w15 gX figS) := Lib.hid (Whole.below X14.out b15 X14.out.lt)
            have B15 := Lib.hid (B14.out.trans (b15.mono B14.out.size))
            clear b15 z15 L14 F14 D14 X14 B14
            refine reg_take (i := 0) (v := Span.val (figS)) rfl (by kernel_rfl) (by kernel_rfl) (by kernel_rfl) (fun _ _ _ h => h) (by rfl) ?hy0 ?_
            case hy0 => intro w' hw'; exact exec_load_whole Span.isRec _ rfl gX rfl _ _ (Span.len _) w' (Whole.below X15.out hw' X15.out.lt)
            simp only [Act.put, List.setIfInBounds_toArray, List.set_cons_zero, List.set_cons_succ]
            refine reg_take (i := 1) (v := ?_) rfl (by kernel_rfl) (by kernel_rfl) (by kernel_rfl) (fun _ _ _ h => h) (by rfl) ?hy1 ?_
            case hy1 => intro w' hw'; go_simp; (try with_reducible rfl)
            simp only [Act.put, List.setIfInBounds_toArray, List.set_cons_zero, List.set_cons_succ]
            refine reg_take (i := 2) (v := ?_) rfl (by kernel_rfl) (by kernel_rfl) (by kernel_rfl) (fun _ _ _ h => h) (by rfl) ?hy2 ?_
            case hy2 => intro w' hw'; go_simp; (try with_reducible rfl)
            simp only [Act.put, List.setIfInBounds_toArray, List.set_cons_zero, List.set_cons_succ]
            refine reg_take (i := 3) (v := ?_) rfl (by kernel_rfl) (by kernel_rfl) (by kernel_rfl) (fun _ _ _ h => h) (by rfl) ?hy3 ?_
            case hy3 => intro w' hw'; go_simp; (try with_reducible rfl)
            simp only [Act.put, List.setIfInBounds_toArray, List.set_cons_zero, List.set_cons_succ]
            refine reg_call (i := 4) rfl (by kernel_rfl) (fun K' hK => ?_)
            go_simp
            refine (C2.out w15).mono ?_
            rintro e16 w16 ⟨rfl, b16⟩
            have L16 : Hid (Span.At w16 gL letS) := Lib.hid (Whole.below L15.out b16 L15.out.lt)
            have F16 : Hid (Span.At w16 gF figS) := Lib.hid (Whole.below F15.out b16 F15.out.lt)
            have D16 : Hid (Span.At w16 gD dashS) := Lib.hid (Whole.below D15.out b16 D15.out.lt)
            have X16 : Hid (Span.At w16 gX figS) := Lib.hid (Whole.below X15.out b16 X15.out.lt)
            have B16 := Lib.hid (B15.out.trans (b16.mono B15.out.size))
            refine hK.out _ _ b16 ?_
            clear hK K' b16 L15 F15 D15 X15 B15
            refine reg_end (by kernel_rfl) ?_
            clear C1 C2 C3
            cases q2 with
            | false =>
              go_wp2
              go_roundg (gk - 1)
              case rel => exact ⟨2, by omega, rfl, Lib.hid ⟨fun _ => HQ.out.1 (by decide), fun _ => by first | rfl | trivial, fun h => by omega⟩, L16.out, F16.out, D16.out, B16.out⟩
              case measure => omega
            | true =>
              have HT2 : Hid ((l.take (k + 1)).all (inB nameC) = true) := Lib.hid (by rw [HT.out, HA.out]; simp)
              go_wp2
              go_roundg (go - 1)
              case rel => exact ⟨k + 1, by omega, by go_num, HT2.out, L16.out, F16.out, D16.out, B16.out⟩
              case measure => omega
          · have ix := index_2 wr
            go_wp2_with (first | (with_reducible refine wpList_load_whole Span.isRec rfl _ rfl gL (by with_unfolding_all exact rfl) _ _ (Span.len _) HL2.out ?_) | (with_reducible refine wpList_load_whole Span.isRec rfl _ rfl gF (by with_unfolding_all exact rfl) _ _ (Span.len _) HF2.out ?_) | (with_reducible refine wpList_load_whole Span.isRec rfl _ rfl gD (by with_unfolding_all exact rfl) _ _ (Span.len _) HD2.out ?_) | (refine wpList_alloc_row rfl 107 rfl Span.zero.enc.toArray Span.zero_is ?_))
            intro w17 b17 x17 z17
            obtain ⟨gX, hgX⟩ : ∃ g, g = wr.heap.size := ⟨_, rfl⟩
            have N_L_X := Lib.hid (show gL < gX from by rw [hgX]; exact HL2.out.lt)
            have N_F_X := Lib.hid (show gF < gX from by rw [hgX]; exact HF2.out.lt)
            have N_D_X := Lib.hid (show gD < gX from by rw [hgX]; exact HD2.out.lt)
            have M_X := Lib.hid (show w.heap.size ≤ gX from by rw [hgX]; exact HB2.out.size)
            have L17 : Hid (Span.At w17 gL letS) := Lib.hid (Whole.below HL2.out b17 HL2.out.lt)
            have F17 : Hid (Span.At w17 gF figS) := Lib.hid (Whole.below HF2.out b17 HF2.out.lt)
            have D17 : Hid (Span.At w17 gD dashS) := Lib.hid (Whole.below HD2.out b17 HD2.out.lt)
            have B17 := Lib.hid (HB2.out.trans (b17.mono HB2.out.size))
            rw [← hgX] at x17 ⊢
            have X17 : Hid (Span.At w17 gX Span.zero) := Lib.hid x17
            clear b17 x17 z17 hgX HL2 HF2 HD2 HB2
            go_wp2_with (first | (with_reducible refine wpList_load_whole Span.isRec rfl _ rfl gL (by with_unfolding_all exact rfl) _ _ (Span.len _) L17.out ?_) | (with_reducible refine wpList_load_whole Span.isRec rfl _ rfl gF (by with_unfolding_all exact rfl) _ _ (Span.len _) F17.out ?_) | (with_reducible refine wpList_load_whole Span.isRec rfl _ rfl gD (by with_unfolding_all exact rfl) _ _ (Span.len _) D17.out ?_) | (with_reducible refine wpList_load_whole Span.isRec rfl _ rfl gX (by with_unfolding_all exact rfl) _ _ (Span.len _) X17.out ?_) | (with_reducible refine wpList_store_whole rfl 107 _ _ rfl gX dashS.enc.toArray (by with_unfolding_all exact rfl) (by with_unfolding_all exact rfl) _ _ X17.out (Span.size _) rfl (Span.one _) ?_))
            intro w18 q18 x18 z18
            have X18 : Hid (Span.At w18 gX dashS) := Lib.hid x18
            have L18 : Hid (Span.At w18 gL letS) := Lib.hid (grown_far L17.out q18 (by have := N_L_X.out; omega))
            have F18 : Hid (Span.At w18 gF figS) := Lib.hid (grown_far F17.out q18 (by have := N_F_X.out; omega))
            have D18 : Hid (Span.At w18 gD dashS) := Lib.hid (grown_far D17.out q18 (by have := N_D_X.out; omega))
            have B18 := Lib.hid (B17.out.grown q18 B17.out.size (fun k hk => by injection hk with hk; have := M_X.out; omega))
            clear q18 x18 z18 X17 L17 F17 D17 B17
            go_wp2_with (first | (with_reducible refine wpList_load_whole Span.isRec rfl _ rfl gL (by with_unfolding_all exact rfl) _ _ (Span.len _) L18.out ?_) | (with_reducible refine wpList_load_whole Span.isRec rfl _ rfl gF (by with_unfolding_all exact rfl) _ _ (Span.len _) F18.out ?_) | (with_reducible refine wpList_load_whole Span.isRec rfl _ rfl gD (by with_unfolding_all exact rfl) _ _ (Span.len _) D18.out ?_) | (with_reducible refine wpList_load_whole Span.isRec rfl _ rfl gX (by with_unfolding_all exact rfl) _ _ (Span.len _) X18.out ?_))
            refine reg_begin (by kernel_rfl) fun w19 b19 z19 => ?_
            have L19 : Hid (Span.At w19 gL letS) := Lib.hid (Whole.below L18.out b19 L18.out.lt)
            have F19 : Hid (Span.At w19 gF figS) := Lib.hid (Whole.below F18.out b19 F18.out.lt)
            have D19 : Hid (Span.At w19 gD dashS) := Lib.hid (Whole.below D18.out b19 D18.out.lt)
            have X19 : Hid (Span.At w19 gX dashS) := Lib.hid (Whole.below X18.out b19 X18.out.lt)
            have B19 := Lib.hid (B18.out.trans (b19.mono B18.out.size))
            clear b19 z19 L18 F18 D18 X18 B18
            refine reg_take (i := 0) (v := Span.val (dashS)) rfl (by kernel_rfl) (by kernel_rfl) (by kernel_rfl) (fun _ _ _ h => h) (by rfl) ?hy0 ?_
            case hy0 => intro w' hw'; exact exec_load_whole Span.isRec _ rfl gX rfl _ _ (Span.len _) w' (Whole.below X19.out hw' X19.out.lt)
            simp only [Act.put, List.setIfInBounds_toArray, List.set_cons_zero, List.set_cons_succ]
            refine reg_take (i := 1) (v := ?_) rfl (by kernel_rfl) (by kernel_rfl) (by kernel_rfl) (fun _ _ _ h => h) (by rfl) ?hy1 ?_
            case hy1 => intro w' hw'; go_simp; (try with_reducible rfl)
            simp only [Act.put, List.setIfInBounds_toArray, List.set_cons_zero, List.set_cons_succ]
            refine reg_take (i := 2) (v := ?_) rfl (by kernel_rfl) (by kernel_rfl) (by kernel_rfl) (fun _ _ _ h => h) (by rfl) ?hy2 ?_
            case hy2 => intro w' hw'; go_simp; (try with_reducible rfl)
            simp only [Act.put, List.setIfInBounds_toArray, List.set_cons_zero, List.set_cons_succ]
            refine reg_take (i := 3) (v := ?_) rfl (by kernel_rfl) (by kernel_rfl) (by kernel_rfl) (fun _ _ _ h => h) (by rfl) ?hy3 ?_
            case hy3 => intro w' hw'; go_simp; (try with_reducible rfl)
            simp only [Act.put, List.setIfInBounds_toArray, List.set_cons_zero, List.set_cons_succ]
            refine reg_call (i := 4) rfl (by kernel_rfl) (fun K' hK => ?_)
            go_simp
            refine (C3.out w19).mono ?_
            rintro e20 w20 ⟨rfl, b20⟩
            have L20 : Hid (Span.At w20 gL letS) := Lib.hid (Whole.below L19.out b20 L19.out.lt)
            have F20 : Hid (Span.At w20 gF figS) := Lib.hid (Whole.below F19.out b20 F19.out.lt)
            have D20 : Hid (Span.At w20 gD dashS) := Lib.hid (Whole.below D19.out b20 D19.out.lt)
            have X20 : Hid (Span.At w20 gX dashS) := Lib.hid (Whole.below X19.out b20 X19.out.lt)
            have B20 := Lib.hid (B19.out.trans (b20.mono B19.out.size))
            refine hK.out _ _ b20 ?_
            clear hK K' b20 L19 F19 D19 X19 B19
            refine reg_end (by kernel_rfl) ?_
            clear C1 C2 C3
            cases q3 with
            | false =>
              go_wp2
              go_roundg (gk - 1)
              case rel => exact ⟨3, by omega, rfl, Lib.hid ⟨fun _ => HQ.out.1 (by decide), fun _ => HQ.out.2.1 (by decide), fun _ => by first | rfl | trivial⟩, L20.out, F20.out, D20.out, B20.out⟩
              case measure => omega
            | true =>
              have HT2 : Hid ((l.take (k + 1)).all (inB nameC) = true) := Lib.hid (by rw [HT.out, HA.out]; simp)
              go_wp2
              go_roundg (go - 1)
              case rel => exact ⟨k + 1, by omega, by go_num, HT2.out, L20.out, F20.out, D20.out, B20.out⟩
              case measure => omega
          · have HN : Hid (nameB l = false) := Lib.hid (by
              have h := HF.out
              rw [HQ.out.1 (by decide), HQ.out.2.1 (by decide), HQ.out.2.2 (by decide)] at h
              rw [nameB, h rfl]
              simp)
            go_wp2
            rw [Exit.noGoto_ret]
            go_ret
            exact ⟨by rw [HN.out]; rfl, HB2.out⟩
      · obtain rfl : k = l.length := by omega
        have dk : decide ((l.length : Int) < (l.length : Int)) = false := by simp
        have HI : Hid (nameB l = true) := Lib.hid (by
          have e := HA.out
          rw [List.take_length] at e
          rw [nameB, e, HH.out, decide_eq_true HB.out.1, decide_eq_true HB.out.2]
          rfl)
        go_wp2
        rw [Exit.noGoto_ret]
        go_ret
        exact ⟨by rw [HI.out]; rfl, HBr.out⟩
end Go.Proofs.YtpcdbpijgmninaaDoor
