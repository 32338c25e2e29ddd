/- The document's Bare: a message without what its kind does not have. (Written by tools/mkmrbare.py.) -/
import Derived.Test.YtnjeopgcpffkcaaMMrL
namespace Go.Proofs.Ytnjeopgcpffkcaa
set_option maxRecDepth 100000
open Go.RowKit

theorem fld_ways (k : Int) : fldK k = [] ∨ fldK k = [1, 7] ∨ fldK k = [3] ∨ fldK k = [7] ∨ fldK k = [2, 5, 6] ∨ fldK k = [0, 4] ∨ fldK k = [5] ∨ fldK k = [0, 1, 2, 4, 6] ∨ fldK k = [8] ∨ fldK k = [0] ∨ fldK k = [0, 8] := by
  rcases kinds k with rfl | rfl | rfl | rfl | rfl | rfl | rfl | rfl | rfl | rfl | rfl | rfl | rfl | rfl | rfl | rfl | hk
  all_goals first | (rw [fld_out hk]; exact .inl rfl) | decide

set_option maxHeartbeats 16000000 in
theorem refBare_any (m : Mg) (e t : Row) (w : World) (h : Lists w e t m) :
    Calls Try.prog 16 #[(m.raw e t).val] w fun x w' => ∃ e' t', x = .returned ((bareM m).raw e' t').val ∧ Lists w' e' t' (bareM m) ∧ Below w.heap.size w w' := by
  have H := Lib.hid h
  have C0 := fun w => Lib.hid (show Calls Try.prog 39 #[.int .i64 m.kind, .int .u8 114] w fun e w' => e = .returned (.bool (inK m.kind 0)) ∧ Below w.heap.size w w' from by have q := refMsIn_any m.kind (letC 0) w; rw [letters_in m.kind 0 (by decide)] at q; exact q)
  have C1 := fun w => Lib.hid (show Calls Try.prog 39 #[.int .i64 m.kind, .int .u8 104] w fun e w' => e = .returned (.bool (inK m.kind 1)) ∧ Below w.heap.size w w' from by have q := refMsIn_any m.kind (letC 1) w; rw [letters_in m.kind 1 (by decide)] at q; exact q)
  have C2 := fun w => Lib.hid (show Calls Try.prog 39 #[.int .i64 m.kind, .int .u8 103] w fun e w' => e = .returned (.bool (inK m.kind 2)) ∧ Below w.heap.size w w' from by have q := refMsIn_any m.kind (letC 2) w; rw [letters_in m.kind 2 (by decide)] at q; exact q)
  have C3 := fun w => Lib.hid (show Calls Try.prog 39 #[.int .i64 m.kind, .int .u8 105] w fun e w' => e = .returned (.bool (inK m.kind 3)) ∧ Below w.heap.size w w' from by have q := refMsIn_any m.kind (letC 3) w; rw [letters_in m.kind 3 (by decide)] at q; exact q)
  have C4 := fun w => Lib.hid (show Calls Try.prog 39 #[.int .i64 m.kind, .int .u8 110] w fun e w' => e = .returned (.bool (inK m.kind 4)) ∧ Below w.heap.size w w' from by have q := refMsIn_any m.kind (letC 4) w; rw [letters_in m.kind 4 (by decide)] at q; exact q)
  have C5 := fun w => Lib.hid (show Calls Try.prog 39 #[.int .i64 m.kind, .int .u8 107] w fun e w' => e = .returned (.bool (inK m.kind 5)) ∧ Below w.heap.size w w' from by have q := refMsIn_any m.kind (letC 5) w; rw [letters_in m.kind 5 (by decide)] at q; exact q)
  have C6 := fun w => Lib.hid (show Calls Try.prog 39 #[.int .i64 m.kind, .int .u8 118] w fun e w' => e = .returned (.bool (inK m.kind 6)) ∧ Below w.heap.size w w' from by have q := refMsIn_any m.kind (letC 6) w; rw [letters_in m.kind 6 (by decide)] at q; exact q)
  have C7 := fun w => Lib.hid (show Calls Try.prog 39 #[.int .i64 m.kind, .int .u8 101] w fun e w' => e = .returned (.bool (inK m.kind 7)) ∧ Below w.heap.size w w' from by have q := refMsIn_any m.kind (letC 7) w; rw [letters_in m.kind 7 (by decide)] at q; exact q)
  have C8 := fun w => Lib.hid (show Calls Try.prog 39 #[.int .i64 m.kind, .int .u8 116] w fun e w' => e = .returned (.bool (inK m.kind 8)) ∧ Below w.heap.size w w' from by have q := refMsIn_any m.kind (letC 8) w; rw [letters_in m.kind 8 (by decide)] at q; exact q)
  have HM : Hid (bareM m = ⟨m.kind, m.rid, if inK m.kind 4 then m.ver else 0, if inK m.kind 0 then m.error else 0, if inK m.kind 3 then m.id else 0, if inK m.kind 1 then m.has else false, if inK m.kind 2 then m.gone else false,
   if inK m.kind 5 then m.key else [], if inK m.kind 6 then m.val else [], if inK m.kind 7 then m.es else [], if inK m.kind 8 then m.its else []⟩) := Lib.hid rfl
  obtain ⟨BM, hBM⟩ : ∃ q, q = bareM m := ⟨_, rfl⟩
  rw [← hBM] at HM ⊢
  clear h hBM
  rcases fld_ways m.kind with hp | hp | hp | hp | hp | hp | hp | hp | hp | hp | hp
  · have d0 : inK m.kind 0 = false := by rw [inK, hp]; decide
    have d1 : inK m.kind 1 = false := by rw [inK, hp]; decide
    have d2 : inK m.kind 2 = false := by rw [inK, hp]; decide
    have d3 : inK m.kind 3 = false := by rw [inK, hp]; decide
    have d4 : inK m.kind 4 = false := by rw [inK, hp]; decide
    have d5 : inK m.kind 5 = false := by rw [inK, hp]; decide
    have d6 : inK m.kind 6 = false := by rw [inK, hp]; decide
    have d7 : inK m.kind 7 = false := by rw [inK, hp]; decide
    have d8 : inK m.kind 8 = false := by rw [inK, hp]; decide
    simp only [d0, d1, d2, d3, d4, d5, d6, d7, d8] at HM C0 C1 C2 C3 C4 C5 C6 C7 C8
    clear d0 d1 d2 d3 d4 d5 d6 d7 d8 hp
    go_enter Try.func16, Try.ntmps16
    go_wp2_with (refine wpList_box_row rfl 27 _ rfl (m.raw e t).enc.toArray (by with_unfolding_all exact rfl) ?_)
    intro w1 b1 x1 z1
    obtain ⟨gM, hgM⟩ : ∃ g, g = w.heap.size := ⟨_, rfl⟩
    have M_M := Lib.hid (show w.heap.size ≤ gM from by rw [hgM]; exact Nat.le_refl _)
    have B1 := Lib.hid b1
    rw [← hgM] at x1 ⊢
    have M1 : Hid (Mr.At w1 gM (m.raw e t)) := Lib.hid x1
    clear b1 x1 z1 hgM 
    go_wp2_with (first | (with_reducible refine wpList_load_whole_st Mr.isRec rfl _ rfl gM (by with_unfolding_all exact rfl) _ _ (Mr.len _) M1.out ?_) | (refine wpList_alloc_row rfl 27 rfl Mr.zero.enc.toArray Mr.zero_is ?_))
    intro w2 b2 x2 z2
    obtain ⟨gO, hgO⟩ : ∃ g, g = w1.heap.size := ⟨_, rfl⟩
    have N_M_O := Lib.hid (show gM < gO from by rw [hgO]; exact M1.out.lt)
    have M_O := Lib.hid (show w.heap.size ≤ gO from by rw [hgO]; exact B1.out.size)
    have M2 : Hid (Mr.At w2 gM (m.raw e t)) := Lib.hid (Whole.below M1.out b2 M1.out.lt)
    have B2 := Lib.hid (B1.out.trans (b2.mono B1.out.size))
    rw [← hgO] at x2 ⊢
    have O2 : Hid (Mr.At w2 gO Mr.zero) := Lib.hid x2
    clear b2 x2 z2 hgO M1 B1
    have c : w2.cell? ⟨gM, 0, none⟩ = some (.int .i64 m.kind) := M2.out.at_ 0
    go_wp2_with (first | (with_reducible refine wpList_load_whole_st Mr.isRec rfl _ rfl gM (by with_unfolding_all exact rfl) _ _ (Mr.len _) M2.out ?_) | (with_reducible refine wpList_load_whole_st Mr.isRec rfl _ rfl gO (by with_unfolding_all exact rfl) _ _ (Mr.len _) O2.out ?_))
    refine ((C0 w2).out).mono ?_
    rintro e3 w3 ⟨rfl, b3⟩
    have M3 : Hid (Mr.At w3 gM (m.raw e t)) := Lib.hid (Whole.below M2.out b3 M2.out.lt)
    have O3 : Hid (Mr.At w3 gO Mr.zero) := Lib.hid (Whole.below O2.out b3 O2.out.lt)
    have B3 := Lib.hid (B2.out.trans (b3.mono B2.out.size))
    clear b3 M2 O2 B2
    clear c
    go_wp2_with (first | (with_reducible refine wpList_load_whole_st Mr.isRec rfl _ rfl gM (by with_unfolding_all exact rfl) _ _ (Mr.len _) M3.out ?_) | (with_reducible refine wpList_load_whole_st Mr.isRec rfl _ rfl gO (by with_unfolding_all exact rfl) _ _ (Mr.len _) O3.out ?_) | (with_reducible refine wpList_put_cell 22 ⟨by kernel_rfl, by kernel_rfl⟩ rfl _ _ rfl gM 3 (by with_unfolding_all exact rfl) (.int .i64 0) (by with_unfolding_all exact rfl) (by with_unfolding_all exact rfl) (by with_unfolding_all exact rfl) _ _ M3.out _ (by with_unfolding_all exact rfl) ?_))
    intro w4 q4 x4 z4
    have M4 : Hid (Mr.At w4 gM (Mg.raw ⟨m.kind, m.rid, m.ver, 0, m.id, m.has, m.gone, m.key, m.val, m.es, m.its⟩ e t)) := Lib.hid x4
    have O4 : Hid (Mr.At w4 gO Mr.zero) := Lib.hid (grown_far O3.out q4 (by have := N_M_O.out; omega))
    have B4 := Lib.hid (B3.out.grown q4 B3.out.size (fun k hk => by injection hk with hk; have := M_M.out; omega))
    clear q4 x4 z4 M3 O3 B3
    have c : w4.cell? ⟨gM, 0, none⟩ = some (.int .i64 m.kind) := M4.out.at_ 0
    go_wp2_with (first | (with_reducible refine wpList_load_whole_st Mr.isRec rfl _ rfl gM (by with_unfolding_all exact rfl) _ _ (Mr.len _) M4.out ?_) | (with_reducible refine wpList_load_whole_st Mr.isRec rfl _ rfl gO (by with_unfolding_all exact rfl) _ _ (Mr.len _) O4.out ?_))
    refine ((C1 w4).out).mono ?_
    rintro e5 w5 ⟨rfl, b5⟩
    have M5 : Hid (Mr.At w5 gM (Mg.raw ⟨m.kind, m.rid, m.ver, 0, m.id, m.has, m.gone, m.key, m.val, m.es, m.its⟩ e t)) := Lib.hid (Whole.below M4.out b5 M4.out.lt)
    have O5 : Hid (Mr.At w5 gO Mr.zero) := Lib.hid (Whole.below O4.out b5 O4.out.lt)
    have B5 := Lib.hid (B4.out.trans (b5.mono B4.out.size))
    clear b5 M4 O4 B4
    clear c
    go_wp2_with (first | (with_reducible refine wpList_load_whole_st Mr.isRec rfl _ rfl gM (by with_unfolding_all exact rfl) _ _ (Mr.len _) M5.out ?_) | (with_reducible refine wpList_load_whole_st Mr.isRec rfl _ rfl gO (by with_unfolding_all exact rfl) _ _ (Mr.len _) O5.out ?_) | (with_reducible refine wpList_put_cell 4 ⟨by kernel_rfl, by kernel_rfl⟩ rfl _ _ rfl gM 5 (by with_unfolding_all exact rfl) (.bool false) (by with_unfolding_all exact rfl) (by with_unfolding_all exact rfl) (by with_unfolding_all exact rfl) _ _ M5.out _ (by with_unfolding_all exact rfl) ?_))
    intro w6 q6 x6 z6
    have M6 : Hid (Mr.At w6 gM (Mg.raw ⟨m.kind, m.rid, m.ver, 0, m.id, false, m.gone, m.key, m.val, m.es, m.its⟩ e t)) := Lib.hid x6
    have O6 : Hid (Mr.At w6 gO Mr.zero) := Lib.hid (grown_far O5.out q6 (by have := N_M_O.out; omega))
    have B6 := Lib.hid (B5.out.grown q6 B5.out.size (fun k hk => by injection hk with hk; have := M_M.out; omega))
    clear q6 x6 z6 M5 O5 B5
    have c : w6.cell? ⟨gM, 0, none⟩ = some (.int .i64 m.kind) := M6.out.at_ 0
    go_wp2_with (first | (with_reducible refine wpList_load_whole_st Mr.isRec rfl _ rfl gM (by with_unfolding_all exact rfl) _ _ (Mr.len _) M6.out ?_) | (with_reducible refine wpList_load_whole_st Mr.isRec rfl _ rfl gO (by with_unfolding_all exact rfl) _ _ (Mr.len _) O6.out ?_))
    refine ((C2 w6).out).mono ?_
    rintro e7 w7 ⟨rfl, b7⟩
    have M7 : Hid (Mr.At w7 gM (Mg.raw ⟨m.kind, m.rid, m.ver, 0, m.id, false, m.gone, m.key, m.val, m.es, m.its⟩ e t)) := Lib.hid (Whole.below M6.out b7 M6.out.lt)
    have O7 : Hid (Mr.At w7 gO Mr.zero) := Lib.hid (Whole.below O6.out b7 O6.out.lt)
    have B7 := Lib.hid (B6.out.trans (b7.mono B6.out.size))
    clear b7 M6 O6 B6
    clear c
    go_wp2_with (first | (with_reducible refine wpList_load_whole_st Mr.isRec rfl _ rfl gM (by with_unfolding_all exact rfl) _ _ (Mr.len _) M7.out ?_) | (with_reducible refine wpList_load_whole_st Mr.isRec rfl _ rfl gO (by with_unfolding_all exact rfl) _ _ (Mr.len _) O7.out ?_) | (with_reducible refine wpList_put_cell 4 ⟨by kernel_rfl, by kernel_rfl⟩ rfl _ _ rfl gM 6 (by with_unfolding_all exact rfl) (.bool false) (by with_unfolding_all exact rfl) (by with_unfolding_all exact rfl) (by with_unfolding_all exact rfl) _ _ M7.out _ (by with_unfolding_all exact rfl) ?_))
    intro w8 q8 x8 z8
    have M8 : Hid (Mr.At w8 gM (Mg.raw ⟨m.kind, m.rid, m.ver, 0, m.id, false, false, m.key, m.val, m.es, m.its⟩ e t)) := Lib.hid x8
    have O8 : Hid (Mr.At w8 gO Mr.zero) := Lib.hid (grown_far O7.out q8 (by have := N_M_O.out; omega))
    have B8 := Lib.hid (B7.out.grown q8 B7.out.size (fun k hk => by injection hk with hk; have := M_M.out; omega))
    clear q8 x8 z8 M7 O7 B7
    have c : w8.cell? ⟨gM, 0, none⟩ = some (.int .i64 m.kind) := M8.out.at_ 0
    go_wp2_with (first | (with_reducible refine wpList_load_whole_st Mr.isRec rfl _ rfl gM (by with_unfolding_all exact rfl) _ _ (Mr.len _) M8.out ?_) | (with_reducible refine wpList_load_whole_st Mr.isRec rfl _ rfl gO (by with_unfolding_all exact rfl) _ _ (Mr.len _) O8.out ?_))
    refine ((C3 w8).out).mono ?_
    rintro e9 w9 ⟨rfl, b9⟩
    have M9 : Hid (Mr.At w9 gM (Mg.raw ⟨m.kind, m.rid, m.ver, 0, m.id, false, false, m.key, m.val, m.es, m.its⟩ e t)) := Lib.hid (Whole.below M8.out b9 M8.out.lt)
    have O9 : Hid (Mr.At w9 gO Mr.zero) := Lib.hid (Whole.below O8.out b9 O8.out.lt)
    have B9 := Lib.hid (B8.out.trans (b9.mono B8.out.size))
    clear b9 M8 O8 B8
    clear c
    go_wp2_with (first | (with_reducible refine wpList_load_whole_st Mr.isRec rfl _ rfl gM (by with_unfolding_all exact rfl) _ _ (Mr.len _) M9.out ?_) | (with_reducible refine wpList_load_whole_st Mr.isRec rfl _ rfl gO (by with_unfolding_all exact rfl) _ _ (Mr.len _) O9.out ?_) | (with_reducible refine wpList_put_cell 23 ⟨by kernel_rfl, by kernel_rfl⟩ rfl _ _ rfl gM 4 (by with_unfolding_all exact rfl) (.int .u64 ((0 : Nat) : Int)) (by with_unfolding_all exact rfl) (by with_unfolding_all exact rfl) (by with_unfolding_all exact rfl) _ _ M9.out _ (by with_unfolding_all exact rfl) ?_))
    intro w10 q10 x10 z10
    have M10 : Hid (Mr.At w10 gM (Mg.raw ⟨m.kind, m.rid, m.ver, 0, 0, false, false, m.key, m.val, m.es, m.its⟩ e t)) := Lib.hid x10
    have O10 : Hid (Mr.At w10 gO Mr.zero) := Lib.hid (grown_far O9.out q10 (by have := N_M_O.out; omega))
    have B10 := Lib.hid (B9.out.grown q10 B9.out.size (fun k hk => by injection hk with hk; have := M_M.out; omega))
    clear q10 x10 z10 M9 O9 B9
    have c : w10.cell? ⟨gM, 0, none⟩ = some (.int .i64 m.kind) := M10.out.at_ 0
    go_wp2_with (first | (with_reducible refine wpList_load_whole_st Mr.isRec rfl _ rfl gM (by with_unfolding_all exact rfl) _ _ (Mr.len _) M10.out ?_) | (with_reducible refine wpList_load_whole_st Mr.isRec rfl _ rfl gO (by with_unfolding_all exact rfl) _ _ (Mr.len _) O10.out ?_))
    refine ((C4 w10).out).mono ?_
    rintro e11 w11 ⟨rfl, b11⟩
    have M11 : Hid (Mr.At w11 gM (Mg.raw ⟨m.kind, m.rid, m.ver, 0, 0, false, false, m.key, m.val, m.es, m.its⟩ e t)) := Lib.hid (Whole.below M10.out b11 M10.out.lt)
    have O11 : Hid (Mr.At w11 gO Mr.zero) := Lib.hid (Whole.below O10.out b11 O10.out.lt)
    have B11 := Lib.hid (B10.out.trans (b11.mono B10.out.size))
    clear b11 M10 O10 B10
    clear c
    go_wp2_with (first | (with_reducible refine wpList_load_whole_st Mr.isRec rfl _ rfl gM (by with_unfolding_all exact rfl) _ _ (Mr.len _) M11.out ?_) | (with_reducible refine wpList_load_whole_st Mr.isRec rfl _ rfl gO (by with_unfolding_all exact rfl) _ _ (Mr.len _) O11.out ?_) | (with_reducible refine wpList_put_cell 3 ⟨by kernel_rfl, by kernel_rfl⟩ rfl _ _ rfl gM 2 (by with_unfolding_all exact rfl) (.int .i64 0) (by with_unfolding_all exact rfl) (by with_unfolding_all exact rfl) (by with_unfolding_all exact rfl) _ _ M11.out _ (by with_unfolding_all exact rfl) ?_))
    intro w12 q12 x12 z12
    have M12 : Hid (Mr.At w12 gM (Mg.raw ⟨m.kind, m.rid, 0, 0, 0, false, false, m.key, m.val, m.es, m.its⟩ e t)) := Lib.hid x12
    have O12 : Hid (Mr.At w12 gO Mr.zero) := Lib.hid (grown_far O11.out q12 (by have := N_M_O.out; omega))
    have B12 := Lib.hid (B11.out.grown q12 B11.out.size (fun k hk => by injection hk with hk; have := M_M.out; omega))
    clear q12 x12 z12 M11 O11 B11
    have c : w12.cell? ⟨gM, 0, none⟩ = some (.int .i64 m.kind) := M12.out.at_ 0
    go_wp2_with (first | (with_reducible refine wpList_load_whole_st Mr.isRec rfl _ rfl gM (by with_unfolding_all exact rfl) _ _ (Mr.len _) M12.out ?_) | (with_reducible refine wpList_load_whole_st Mr.isRec rfl _ rfl gO (by with_unfolding_all exact rfl) _ _ (Mr.len _) O12.out ?_))
    refine ((C5 w12).out).mono ?_
    rintro e13 w13 ⟨rfl, b13⟩
    have M13 : Hid (Mr.At w13 gM (Mg.raw ⟨m.kind, m.rid, 0, 0, 0, false, false, m.key, m.val, m.es, m.its⟩ e t)) := Lib.hid (Whole.below M12.out b13 M12.out.lt)
    have O13 : Hid (Mr.At w13 gO Mr.zero) := Lib.hid (Whole.below O12.out b13 O12.out.lt)
    have B13 := Lib.hid (B12.out.trans (b13.mono B12.out.size))
    clear b13 M12 O12 B12
    clear c
    go_wp2_with (first | (with_reducible refine wpList_load_whole_st Mr.isRec rfl _ rfl gM (by with_unfolding_all exact rfl) _ _ (Mr.len _) M13.out ?_) | (with_reducible refine wpList_load_whole_st Mr.isRec rfl _ rfl gO (by with_unfolding_all exact rfl) _ _ (Mr.len _) O13.out ?_) | (with_reducible refine wpList_put_cell 9 ⟨by kernel_rfl, by kernel_rfl⟩ rfl _ _ rfl gM 7 (by with_unfolding_all exact rfl) (.string ⟨([] : List UInt8).toArray⟩) (by with_unfolding_all exact rfl) (by with_unfolding_all exact rfl) (by with_unfolding_all exact rfl) _ _ M13.out _ (by with_unfolding_all exact rfl) ?_))
    intro w14 q14 x14 z14
    have M14 : Hid (Mr.At w14 gM (Mg.raw ⟨m.kind, m.rid, 0, 0, 0, false, false, [], m.val, m.es, m.its⟩ e t)) := Lib.hid x14
    have O14 : Hid (Mr.At w14 gO Mr.zero) := Lib.hid (grown_far O13.out q14 (by have := N_M_O.out; omega))
    have B14 := Lib.hid (B13.out.grown q14 B13.out.size (fun k hk => by injection hk with hk; have := M_M.out; omega))
    clear q14 x14 z14 M13 O13 B13
    have c : w14.cell? ⟨gM, 0, none⟩ = some (.int .i64 m.kind) := M14.out.at_ 0
    go_wp2_with (first | (with_reducible refine wpList_load_whole_st Mr.isRec rfl _ rfl gM (by with_unfolding_all exact rfl) _ _ (Mr.len _) M14.out ?_) | (with_reducible refine wpList_load_whole_st Mr.isRec rfl _ rfl gO (by with_unfolding_all exact rfl) _ _ (Mr.len _) O14.out ?_))
    refine ((C6 w14).out).mono ?_
    rintro e15 w15 ⟨rfl, b15⟩
    have M15 : Hid (Mr.At w15 gM (Mg.raw ⟨m.kind, m.rid, 0, 0, 0, false, false, [], m.val, m.es, m.its⟩ e t)) := Lib.hid (Whole.below M14.out b15 M14.out.lt)
    have O15 : Hid (Mr.At w15 gO Mr.zero) := Lib.hid (Whole.below O14.out b15 O14.out.lt)
    have B15 := Lib.hid (B14.out.trans (b15.mono B14.out.size))
    clear b15 M14 O14 B14
    clear c
    go_wp2_with (first | (with_reducible refine wpList_load_whole_st Mr.isRec rfl _ rfl gM (by with_unfolding_all exact rfl) _ _ (Mr.len _) M15.out ?_) | (with_reducible refine wpList_load_whole_st Mr.isRec rfl _ rfl gO (by with_unfolding_all exact rfl) _ _ (Mr.len _) O15.out ?_) | (with_reducible refine wpList_put_cell 9 ⟨by kernel_rfl, by kernel_rfl⟩ rfl _ _ rfl gM 8 (by with_unfolding_all exact rfl) (.string ⟨([] : List UInt8).toArray⟩) (by with_unfolding_all exact rfl) (by with_unfolding_all exact rfl) (by with_unfolding_all exact rfl) _ _ M15.out _ (by with_unfolding_all exact rfl) ?_))
    intro w16 q16 x16 z16
    have M16 : Hid (Mr.At w16 gM (Mg.raw ⟨m.kind, m.rid, 0, 0, 0, false, false, [], [], m.es, m.its⟩ e t)) := Lib.hid x16
    have O16 : Hid (Mr.At w16 gO Mr.zero) := Lib.hid (grown_far O15.out q16 (by have := N_M_O.out; omega))
    have B16 := Lib.hid (B15.out.grown q16 B15.out.size (fun k hk => by injection hk with hk; have := M_M.out; omega))
    clear q16 x16 z16 M15 O15 B15
    have c : w16.cell? ⟨gM, 0, none⟩ = some (.int .i64 m.kind) := M16.out.at_ 0
    go_wp2_with (first | (with_reducible refine wpList_load_whole_st Mr.isRec rfl _ rfl gM (by with_unfolding_all exact rfl) _ _ (Mr.len _) M16.out ?_) | (with_reducible refine wpList_load_whole_st Mr.isRec rfl _ rfl gO (by with_unfolding_all exact rfl) _ _ (Mr.len _) O16.out ?_))
    refine ((C7 w16).out).mono ?_
    rintro e17 w17 ⟨rfl, b17⟩
    have M17 : Hid (Mr.At w17 gM (Mg.raw ⟨m.kind, m.rid, 0, 0, 0, false, false, [], [], m.es, m.its⟩ e t)) := Lib.hid (Whole.below M16.out b17 M16.out.lt)
    have O17 : Hid (Mr.At w17 gO Mr.zero) := Lib.hid (Whole.below O16.out b17 O16.out.lt)
    have B17 := Lib.hid (B16.out.trans (b17.mono B16.out.size))
    clear b17 M16 O16 B16
    clear c
    go_wp2_with (first | (with_reducible refine wpList_load_whole_st Mr.isRec rfl _ rfl gM (by with_unfolding_all exact rfl) _ _ (Mr.len _) M17.out ?_) | (with_reducible refine wpList_load_whole_st Mr.isRec rfl _ rfl gO (by with_unfolding_all exact rfl) _ _ (Mr.len _) O17.out ?_) | (with_reducible refine wpList_put_cell 24 ⟨by kernel_rfl, by kernel_rfl⟩ rfl _ _ rfl gM 9 (by with_unfolding_all exact rfl) (.slice none 0 0) (by with_unfolding_all exact rfl) (by with_unfolding_all exact rfl) (by with_unfolding_all exact rfl) _ _ M17.out _ (by with_unfolding_all exact rfl) ?_))
    intro w18 q18 x18 z18
    have M18 : Hid (Mr.At w18 gM (Mg.raw ⟨m.kind, m.rid, 0, 0, 0, false, false, [], [], [], m.its⟩ Row.nil t)) := Lib.hid x18
    have O18 : Hid (Mr.At w18 gO Mr.zero) := Lib.hid (grown_far O17.out q18 (by have := N_M_O.out; omega))
    have B18 := Lib.hid (B17.out.grown q18 B17.out.size (fun k hk => by injection hk with hk; have := M_M.out; omega))
    clear q18 x18 z18 M17 O17 B17
    have c : w18.cell? ⟨gM, 0, none⟩ = some (.int .i64 m.kind) := M18.out.at_ 0
    go_wp2_with (first | (with_reducible refine wpList_load_whole_st Mr.isRec rfl _ rfl gM (by with_unfolding_all exact rfl) _ _ (Mr.len _) M18.out ?_) | (with_reducible refine wpList_load_whole_st Mr.isRec rfl _ rfl gO (by with_unfolding_all exact rfl) _ _ (Mr.len _) O18.out ?_))
    refine ((C8 w18).out).mono ?_
    rintro e19 w19 ⟨rfl, b19⟩
    have M19 : Hid (Mr.At w19 gM (Mg.raw ⟨m.kind, m.rid, 0, 0, 0, false, false, [], [], [], m.its⟩ Row.nil t)) := Lib.hid (Whole.below M18.out b19 M18.out.lt)
    have O19 : Hid (Mr.At w19 gO Mr.zero) := Lib.hid (Whole.below O18.out b19 O18.out.lt)
    have B19 := Lib.hid (B18.out.trans (b19.mono B18.out.size))
    clear b19 M18 O18 B18
    clear c
    go_wp2_with (first | (with_reducible refine wpList_load_whole_st Mr.isRec rfl _ rfl gM (by with_unfolding_all exact rfl) _ _ (Mr.len _) M19.out ?_) | (with_reducible refine wpList_load_whole_st Mr.isRec rfl _ rfl gO (by with_unfolding_all exact rfl) _ _ (Mr.len _) O19.out ?_) | (with_reducible refine wpList_put_cell 25 ⟨by kernel_rfl, by kernel_rfl⟩ rfl _ _ rfl gM 10 (by with_unfolding_all exact rfl) (.slice none 0 0) (by with_unfolding_all exact rfl) (by with_unfolding_all exact rfl) (by with_unfolding_all exact rfl) _ _ M19.out _ (by with_unfolding_all exact rfl) ?_))
    intro w20 q20 x20 z20
    have M20 : Hid (Mr.At w20 gM (Mg.raw ⟨m.kind, m.rid, 0, 0, 0, false, false, [], [], [], []⟩ Row.nil Row.nil)) := Lib.hid x20
    have O20 : Hid (Mr.At w20 gO Mr.zero) := Lib.hid (grown_far O19.out q20 (by have := N_M_O.out; omega))
    have B20 := Lib.hid (B19.out.grown q20 B19.out.size (fun k hk => by injection hk with hk; have := M_M.out; omega))
    clear q20 x20 z20 M19 O19 B19
    go_wp2_with (first | (with_reducible refine wpList_load_whole_st Mr.isRec rfl _ rfl gM (by with_unfolding_all exact rfl) _ _ (Mr.len _) M20.out ?_) | (with_reducible refine wpList_load_whole_st Mr.isRec rfl _ rfl gO (by with_unfolding_all exact rfl) _ _ (Mr.len _) O20.out ?_) | (with_reducible refine wpList_store_whole rfl 27 _ _ rfl gO (Mg.raw ⟨m.kind, m.rid, 0, 0, 0, false, false, [], [], [], []⟩ Row.nil Row.nil).enc.toArray (by with_unfolding_all exact rfl) (by with_unfolding_all exact rfl) _ _ O20.out (Mr.size _) rfl (Mr.one _) ?_))
    intro w21 q21 x21 z21
    have O21 : Hid (Mr.At w21 gO (Mg.raw ⟨m.kind, m.rid, 0, 0, 0, false, false, [], [], [], []⟩ Row.nil Row.nil)) := Lib.hid x21
    have M21 : Hid (Mr.At w21 gM (Mg.raw ⟨m.kind, m.rid, 0, 0, 0, false, false, [], [], [], []⟩ Row.nil Row.nil)) := Lib.hid (grown_far M20.out q21 (by have := N_M_O.out; omega))
    have B21 := Lib.hid (B20.out.grown q21 B20.out.size (fun k hk => by injection hk with hk; have := M_O.out; omega))
    clear q21 x21 z21 O20 M20 B20
    go_wp2
    exact bodyPost_ret (results_st Mr.isRec rfl _ _ _ _ _ rfl rfl O21.out) rfl ⟨Row.nil, Row.nil, by rw [HM.out]; rfl, by rw [HM.out]; exact ⟨rows_nil _ 6, rows_nil _ 4⟩, B21.out⟩
  · have d0 : inK m.kind 0 = false := by rw [inK, hp]; decide
    have d1 : inK m.kind 1 = true := by rw [inK, hp]; decide
    have d2 : inK m.kind 2 = false := by rw [inK, hp]; decide
    have d3 : inK m.kind 3 = false := by rw [inK, hp]; decide
    have d4 : inK m.kind 4 = false := by rw [inK, hp]; decide
    have d5 : inK m.kind 5 = false := by rw [inK, hp]; decide
    have d6 : inK m.kind 6 = false := by rw [inK, hp]; decide
    have d7 : inK m.kind 7 = true := by rw [inK, hp]; decide
    have d8 : inK m.kind 8 = false := by rw [inK, hp]; decide
    simp only [d0, d1, d2, d3, d4, d5, d6, d7, d8] at HM C0 C1 C2 C3 C4 C5 C6 C7 C8
    clear d0 d1 d2 d3 d4 d5 d6 d7 d8 hp
    go_enter Try.func16, Try.ntmps16
    go_wp2_with (refine wpList_box_row rfl 27 _ rfl (m.raw e t).enc.toArray (by with_unfolding_all exact rfl) ?_)
    intro w1 b1 x1 z1
    obtain ⟨gM, hgM⟩ : ∃ g, g = w.heap.size := ⟨_, rfl⟩
    have M_M := Lib.hid (show w.heap.size ≤ gM from by rw [hgM]; exact Nat.le_refl _)
    have B1 := Lib.hid b1
    rw [← hgM] at x1 ⊢
    have M1 : Hid (Mr.At w1 gM (m.raw e t)) := Lib.hid x1
    clear b1 x1 z1 hgM 
    go_wp2_with (first | (with_reducible refine wpList_load_whole_st Mr.isRec rfl _ rfl gM (by with_unfolding_all exact rfl) _ _ (Mr.len _) M1.out ?_) | (refine wpList_alloc_row rfl 27 rfl Mr.zero.enc.toArray Mr.zero_is ?_))
    intro w2 b2 x2 z2
    obtain ⟨gO, hgO⟩ : ∃ g, g = w1.heap.size := ⟨_, rfl⟩
    have N_M_O := Lib.hid (show gM < gO from by rw [hgO]; exact M1.out.lt)
    have M_O := Lib.hid (show w.heap.size ≤ gO from by rw [hgO]; exact B1.out.size)
    have M2 : Hid (Mr.At w2 gM (m.raw e t)) := Lib.hid (Whole.below M1.out b2 M1.out.lt)
    have B2 := Lib.hid (B1.out.trans (b2.mono B1.out.size))
    rw [← hgO] at x2 ⊢
    have O2 : Hid (Mr.At w2 gO Mr.zero) := Lib.hid x2
    clear b2 x2 z2 hgO M1 B1
    have c : w2.cell? ⟨gM, 0, none⟩ = some (.int .i64 m.kind) := M2.out.at_ 0
    go_wp2_with (first | (with_reducible refine wpList_load_whole_st Mr.isRec rfl _ rfl gM (by with_unfolding_all exact rfl) _ _ (Mr.len _) M2.out ?_) | (with_reducible refine wpList_load_whole_st Mr.isRec rfl _ rfl gO (by with_unfolding_all exact rfl) _ _ (Mr.len _) O2.out ?_))
    refine ((C0 w2).out).mono ?_
    rintro e3 w3 ⟨rfl, b3⟩
    have M3 : Hid (Mr.At w3 gM (m.raw e t)) := Lib.hid (Whole.below M2.out b3 M2.out.lt)
    have O3 : Hid (Mr.At w3 gO Mr.zero) := Lib.hid (Whole.below O2.out b3 O2.out.lt)
    have B3 := Lib.hid (B2.out.trans (b3.mono B2.out.size))
    clear b3 M2 O2 B2
    clear c
    go_wp2_with (first | (with_reducible refine wpList_load_whole_st Mr.isRec rfl _ rfl gM (by with_unfolding_all exact rfl) _ _ (Mr.len _) M3.out ?_) | (with_reducible refine wpList_load_whole_st Mr.isRec rfl _ rfl gO (by with_unfolding_all exact rfl) _ _ (Mr.len _) O3.out ?_) | (with_reducible refine wpList_put_cell 22 ⟨by kernel_rfl, by kernel_rfl⟩ rfl _ _ rfl gM 3 (by with_unfolding_all exact rfl) (.int .i64 0) (by with_unfolding_all exact rfl) (by with_unfolding_all exact rfl) (by with_unfolding_all exact rfl) _ _ M3.out _ (by with_unfolding_all exact rfl) ?_))
    intro w4 q4 x4 z4
    have M4 : Hid (Mr.At w4 gM (Mg.raw ⟨m.kind, m.rid, m.ver, 0, m.id, m.has, m.gone, m.key, m.val, m.es, m.its⟩ e t)) := Lib.hid x4
    have O4 : Hid (Mr.At w4 gO Mr.zero) := Lib.hid (grown_far O3.out q4 (by have := N_M_O.out; omega))
    have B4 := Lib.hid (B3.out.grown q4 B3.out.size (fun k hk => by injection hk with hk; have := M_M.out; omega))
    clear q4 x4 z4 M3 O3 B3
    have c : w4.cell? ⟨gM, 0, none⟩ = some (.int .i64 m.kind) := M4.out.at_ 0
    go_wp2_with (first | (with_reducible refine wpList_load_whole_st Mr.isRec rfl _ rfl gM (by with_unfolding_all exact rfl) _ _ (Mr.len _) M4.out ?_) | (with_reducible refine wpList_load_whole_st Mr.isRec rfl _ rfl gO (by with_unfolding_all exact rfl) _ _ (Mr.len _) O4.out ?_))
    refine ((C1 w4).out).mono ?_
    rintro e5 w5 ⟨rfl, b5⟩
    have M5 : Hid (Mr.At w5 gM (Mg.raw ⟨m.kind, m.rid, m.ver, 0, m.id, m.has, m.gone, m.key, m.val, m.es, m.its⟩ e t)) := Lib.hid (Whole.below M4.out b5 M4.out.lt)
    have O5 : Hid (Mr.At w5 gO Mr.zero) := Lib.hid (Whole.below O4.out b5 O4.out.lt)
    have B5 := Lib.hid (B4.out.trans (b5.mono B4.out.size))
    clear b5 M4 O4 B4
    clear c
    have c : w5.cell? ⟨gM, 0, none⟩ = some (.int .i64 m.kind) := M5.out.at_ 0
    go_wp2_with (first | (with_reducible refine wpList_load_whole_st Mr.isRec rfl _ rfl gM (by with_unfolding_all exact rfl) _ _ (Mr.len _) M5.out ?_) | (with_reducible refine wpList_load_whole_st Mr.isRec rfl _ rfl gO (by with_unfolding_all exact rfl) _ _ (Mr.len _) O5.out ?_))
    refine ((C2 w5).out).mono ?_
    rintro e6 w6 ⟨rfl, b6⟩
    have M6 : Hid (Mr.At w6 gM (Mg.raw ⟨m.kind, m.rid, m.ver, 0, m.id, m.has, m.gone, m.key, m.val, m.es, m.its⟩ e t)) := Lib.hid (Whole.below M5.out b6 M5.out.lt)
    have O6 : Hid (Mr.At w6 gO Mr.zero) := Lib.hid (Whole.below O5.out b6 O5.out.lt)
    have B6 := Lib.hid (B5.out.trans (b6.mono B5.out.size))
    clear b6 M5 O5 B5
    clear c
    go_wp2_with (first | (with_reducible refine wpList_load_whole_st Mr.isRec rfl _ rfl gM (by with_unfolding_all exact rfl) _ _ (Mr.len _) M6.out ?_) | (with_reducible refine wpList_load_whole_st Mr.isRec rfl _ rfl gO (by with_unfolding_all exact rfl) _ _ (Mr.len _) O6.out ?_) | (with_reducible refine wpList_put_cell 4 ⟨by kernel_rfl, by kernel_rfl⟩ rfl _ _ rfl gM 6 (by with_unfolding_all exact rfl) (.bool false) (by with_unfolding_all exact rfl) (by with_unfolding_all exact rfl) (by with_unfolding_all exact rfl) _ _ M6.out _ (by with_unfolding_all exact rfl) ?_))
    intro w7 q7 x7 z7
    have M7 : Hid (Mr.At w7 gM (Mg.raw ⟨m.kind, m.rid, m.ver, 0, m.id, m.has, false, m.key, m.val, m.es, m.its⟩ e t)) := Lib.hid x7
    have O7 : Hid (Mr.At w7 gO Mr.zero) := Lib.hid (grown_far O6.out q7 (by have := N_M_O.out; omega))
    have B7 := Lib.hid (B6.out.grown q7 B6.out.size (fun k hk => by injection hk with hk; have := M_M.out; omega))
    clear q7 x7 z7 M6 O6 B6
    have c : w7.cell? ⟨gM, 0, none⟩ = some (.int .i64 m.kind) := M7.out.at_ 0
    go_wp2_with (first | (with_reducible refine wpList_load_whole_st Mr.isRec rfl _ rfl gM (by with_unfolding_all exact rfl) _ _ (Mr.len _) M7.out ?_) | (with_reducible refine wpList_load_whole_st Mr.isRec rfl _ rfl gO (by with_unfolding_all exact rfl) _ _ (Mr.len _) O7.out ?_))
    refine ((C3 w7).out).mono ?_
    rintro e8 w8 ⟨rfl, b8⟩
    have M8 : Hid (Mr.At w8 gM (Mg.raw ⟨m.kind, m.rid, m.ver, 0, m.id, m.has, false, m.key, m.val, m.es, m.its⟩ e t)) := Lib.hid (Whole.below M7.out b8 M7.out.lt)
    have O8 : Hid (Mr.At w8 gO Mr.zero) := Lib.hid (Whole.below O7.out b8 O7.out.lt)
    have B8 := Lib.hid (B7.out.trans (b8.mono B7.out.size))
    clear b8 M7 O7 B7
    clear c
    go_wp2_with (first | (with_reducible refine wpList_load_whole_st Mr.isRec rfl _ rfl gM (by with_unfolding_all exact rfl) _ _ (Mr.len _) M8.out ?_) | (with_reducible refine wpList_load_whole_st Mr.isRec rfl _ rfl gO (by with_unfolding_all exact rfl) _ _ (Mr.len _) O8.out ?_) | (with_reducible refine wpList_put_cell 23 ⟨by kernel_rfl, by kernel_rfl⟩ rfl _ _ rfl gM 4 (by with_unfolding_all exact rfl) (.int .u64 ((0 : Nat) : Int)) (by with_unfolding_all exact rfl) (by with_unfolding_all exact rfl) (by with_unfolding_all exact rfl) _ _ M8.out _ (by with_unfolding_all exact rfl) ?_))
    intro w9 q9 x9 z9
    have M9 : Hid (Mr.At w9 gM (Mg.raw ⟨m.kind, m.rid, m.ver, 0, 0, m.has, false, m.key, m.val, m.es, m.its⟩ e t)) := Lib.hid x9
    have O9 : Hid (Mr.At w9 gO Mr.zero) := Lib.hid (grown_far O8.out q9 (by have := N_M_O.out; omega))
    have B9 := Lib.hid (B8.out.grown q9 B8.out.size (fun k hk => by injection hk with hk; have := M_M.out; omega))
    clear q9 x9 z9 M8 O8 B8
    have c : w9.cell? ⟨gM, 0, none⟩ = some (.int .i64 m.kind) := M9.out.at_ 0
    go_wp2_with (first | (with_reducible refine wpList_load_whole_st Mr.isRec rfl _ rfl gM (by with_unfolding_all exact rfl) _ _ (Mr.len _) M9.out ?_) | (with_reducible refine wpList_load_whole_st Mr.isRec rfl _ rfl gO (by with_unfolding_all exact rfl) _ _ (Mr.len _) O9.out ?_))
    refine ((C4 w9).out).mono ?_
    rintro e10 w10 ⟨rfl, b10⟩
    have M10 : Hid (Mr.At w10 gM (Mg.raw ⟨m.kind, m.rid, m.ver, 0, 0, m.has, false, m.key, m.val, m.es, m.its⟩ e t)) := Lib.hid (Whole.below M9.out b10 M9.out.lt)
    have O10 : Hid (Mr.At w10 gO Mr.zero) := Lib.hid (Whole.below O9.out b10 O9.out.lt)
    have B10 := Lib.hid (B9.out.trans (b10.mono B9.out.size))
    clear b10 M9 O9 B9
    clear c
    go_wp2_with (first | (with_reducible refine wpList_load_whole_st Mr.isRec rfl _ rfl gM (by with_unfolding_all exact rfl) _ _ (Mr.len _) M10.out ?_) | (with_reducible refine wpList_load_whole_st Mr.isRec rfl _ rfl gO (by with_unfolding_all exact rfl) _ _ (Mr.len _) O10.out ?_) | (with_reducible refine wpList_put_cell 3 ⟨by kernel_rfl, by kernel_rfl⟩ rfl _ _ rfl gM 2 (by with_unfolding_all exact rfl) (.int .i64 0) (by with_unfolding_all exact rfl) (by with_unfolding_all exact rfl) (by with_unfolding_all exact rfl) _ _ M10.out _ (by with_unfolding_all exact rfl) ?_))
    intro w11 q11 x11 z11
    have M11 : Hid (Mr.At w11 gM (Mg.raw ⟨m.kind, m.rid, 0, 0, 0, m.has, false, m.key, m.val, m.es, m.its⟩ e t)) := Lib.hid x11
    have O11 : Hid (Mr.At w11 gO Mr.zero) := Lib.hid (grown_far O10.out q11 (by have := N_M_O.out; omega))
    have B11 := Lib.hid (B10.out.grown q11 B10.out.size (fun k hk => by injection hk with hk; have := M_M.out; omega))
    clear q11 x11 z11 M10 O10 B10
    have c : w11.cell? ⟨gM, 0, none⟩ = some (.int .i64 m.kind) := M11.out.at_ 0
    go_wp2_with (first | (with_reducible refine wpList_load_whole_st Mr.isRec rfl _ rfl gM (by with_unfolding_all exact rfl) _ _ (Mr.len _) M11.out ?_) | (with_reducible refine wpList_load_whole_st Mr.isRec rfl _ rfl gO (by with_unfolding_all exact rfl) _ _ (Mr.len _) O11.out ?_))
    refine ((C5 w11).out).mono ?_
    rintro e12 w12 ⟨rfl, b12⟩
    have M12 : Hid (Mr.At w12 gM (Mg.raw ⟨m.kind, m.rid, 0, 0, 0, m.has, false, m.key, m.val, m.es, m.its⟩ e t)) := Lib.hid (Whole.below M11.out b12 M11.out.lt)
    have O12 : Hid (Mr.At w12 gO Mr.zero) := Lib.hid (Whole.below O11.out b12 O11.out.lt)
    have B12 := Lib.hid (B11.out.trans (b12.mono B11.out.size))
    clear b12 M11 O11 B11
    clear c
    go_wp2_with (first | (with_reducible refine wpList_load_whole_st Mr.isRec rfl _ rfl gM (by with_unfolding_all exact rfl) _ _ (Mr.len _) M12.out ?_) | (with_reducible refine wpList_load_whole_st Mr.isRec rfl _ rfl gO (by with_unfolding_all exact rfl) _ _ (Mr.len _) O12.out ?_) | (with_reducible refine wpList_put_cell 9 ⟨by kernel_rfl, by kernel_rfl⟩ rfl _ _ rfl gM 7 (by with_unfolding_all exact rfl) (.string ⟨([] : List UInt8).toArray⟩) (by with_unfolding_all exact rfl) (by with_unfolding_all exact rfl) (by with_unfolding_all exact rfl) _ _ M12.out _ (by with_unfolding_all exact rfl) ?_))
    intro w13 q13 x13 z13
    have M13 : Hid (Mr.At w13 gM (Mg.raw ⟨m.kind, m.rid, 0, 0, 0, m.has, false, [], m.val, m.es, m.its⟩ e t)) := Lib.hid x13
    have O13 : Hid (Mr.At w13 gO Mr.zero) := Lib.hid (grown_far O12.out q13 (by have := N_M_O.out; omega))
    have B13 := Lib.hid (B12.out.grown q13 B12.out.size (fun k hk => by injection hk with hk; have := M_M.out; omega))
    clear q13 x13 z13 M12 O12 B12
    have c : w13.cell? ⟨gM, 0, none⟩ = some (.int .i64 m.kind) := M13.out.at_ 0
    go_wp2_with (first | (with_reducible refine wpList_load_whole_st Mr.isRec rfl _ rfl gM (by with_unfolding_all exact rfl) _ _ (Mr.len _) M13.out ?_) | (with_reducible refine wpList_load_whole_st Mr.isRec rfl _ rfl gO (by with_unfolding_all exact rfl) _ _ (Mr.len _) O13.out ?_))
    refine ((C6 w13).out).mono ?_
    rintro e14 w14 ⟨rfl, b14⟩
    have M14 : Hid (Mr.At w14 gM (Mg.raw ⟨m.kind, m.rid, 0, 0, 0, m.has, false, [], m.val, m.es, m.its⟩ e t)) := Lib.hid (Whole.below M13.out b14 M13.out.lt)
    have O14 : Hid (Mr.At w14 gO Mr.zero) := Lib.hid (Whole.below O13.out b14 O13.out.lt)
    have B14 := Lib.hid (B13.out.trans (b14.mono B13.out.size))
    clear b14 M13 O13 B13
    clear c
    go_wp2_with (first | (with_reducible refine wpList_load_whole_st Mr.isRec rfl _ rfl gM (by with_unfolding_all exact rfl) _ _ (Mr.len _) M14.out ?_) | (with_reducible refine wpList_load_whole_st Mr.isRec rfl _ rfl gO (by with_unfolding_all exact rfl) _ _ (Mr.len _) O14.out ?_) | (with_reducible refine wpList_put_cell 9 ⟨by kernel_rfl, by kernel_rfl⟩ rfl _ _ rfl gM 8 (by with_unfolding_all exact rfl) (.string ⟨([] : List UInt8).toArray⟩) (by with_unfolding_all exact rfl) (by with_unfolding_all exact rfl) (by with_unfolding_all exact rfl) _ _ M14.out _ (by with_unfolding_all exact rfl) ?_))
    intro w15 q15 x15 z15
    have M15 : Hid (Mr.At w15 gM (Mg.raw ⟨m.kind, m.rid, 0, 0, 0, m.has, false, [], [], m.es, m.its⟩ e t)) := Lib.hid x15
    have O15 : Hid (Mr.At w15 gO Mr.zero) := Lib.hid (grown_far O14.out q15 (by have := N_M_O.out; omega))
    have B15 := Lib.hid (B14.out.grown q15 B14.out.size (fun k hk => by injection hk with hk; have := M_M.out; omega))
    clear q15 x15 z15 M14 O14 B14
    have c : w15.cell? ⟨gM, 0, none⟩ = some (.int .i64 m.kind) := M15.out.at_ 0
    go_wp2_with (first | (with_reducible refine wpList_load_whole_st Mr.isRec rfl _ rfl gM (by with_unfolding_all exact rfl) _ _ (Mr.len _) M15.out ?_) | (with_reducible refine wpList_load_whole_st Mr.isRec rfl _ rfl gO (by with_unfolding_all exact rfl) _ _ (Mr.len _) O15.out ?_))
    refine ((C7 w15).out).mono ?_
    rintro e16 w16 ⟨rfl, b16⟩
    have M16 : Hid (Mr.At w16 gM (Mg.raw ⟨m.kind, m.rid, 0, 0, 0, m.has, false, [], [], m.es, m.its⟩ e t)) := Lib.hid (Whole.below M15.out b16 M15.out.lt)
    have O16 : Hid (Mr.At w16 gO Mr.zero) := Lib.hid (Whole.below O15.out b16 O15.out.lt)
    have B16 := Lib.hid (B15.out.trans (b16.mono B15.out.size))
    clear b16 M15 O15 B15
    clear c
    have c : w16.cell? ⟨gM, 0, none⟩ = some (.int .i64 m.kind) := M16.out.at_ 0
    go_wp2_with (first | (with_reducible refine wpList_load_whole_st Mr.isRec rfl _ rfl gM (by with_unfolding_all exact rfl) _ _ (Mr.len _) M16.out ?_) | (with_reducible refine wpList_load_whole_st Mr.isRec rfl _ rfl gO (by with_unfolding_all exact rfl) _ _ (Mr.len _) O16.out ?_))
    refine ((C8 w16).out).mono ?_
    rintro e17 w17 ⟨rfl, b17⟩
    have M17 : Hid (Mr.At w17 gM (Mg.raw ⟨m.kind, m.rid, 0, 0, 0, m.has, false, [], [], m.es, m.its⟩ e t)) := Lib.hid (Whole.below M16.out b17 M16.out.lt)
    have O17 : Hid (Mr.At w17 gO Mr.zero) := Lib.hid (Whole.below O16.out b17 O16.out.lt)
    have B17 := Lib.hid (B16.out.trans (b17.mono B16.out.size))
    clear b17 M16 O16 B16
    clear c
    go_wp2_with (first | (with_reducible refine wpList_load_whole_st Mr.isRec rfl _ rfl gM (by with_unfolding_all exact rfl) _ _ (Mr.len _) M17.out ?_) | (with_reducible refine wpList_load_whole_st Mr.isRec rfl _ rfl gO (by with_unfolding_all exact rfl) _ _ (Mr.len _) O17.out ?_) | (with_reducible refine wpList_put_cell 25 ⟨by kernel_rfl, by kernel_rfl⟩ rfl _ _ rfl gM 10 (by with_unfolding_all exact rfl) (.slice none 0 0) (by with_unfolding_all exact rfl) (by with_unfolding_all exact rfl) (by with_unfolding_all exact rfl) _ _ M17.out _ (by with_unfolding_all exact rfl) ?_))
    intro w18 q18 x18 z18
    have M18 : Hid (Mr.At w18 gM (Mg.raw ⟨m.kind, m.rid, 0, 0, 0, m.has, false, [], [], m.es, []⟩ e Row.nil)) := Lib.hid x18
    have O18 : Hid (Mr.At w18 gO Mr.zero) := Lib.hid (grown_far O17.out q18 (by have := N_M_O.out; omega))
    have B18 := Lib.hid (B17.out.grown q18 B17.out.size (fun k hk => by injection hk with hk; have := M_M.out; omega))
    clear q18 x18 z18 M17 O17 B17
    go_wp2_with (first | (with_reducible refine wpList_load_whole_st Mr.isRec rfl _ rfl gM (by with_unfolding_all exact rfl) _ _ (Mr.len _) M18.out ?_) | (with_reducible refine wpList_load_whole_st Mr.isRec rfl _ rfl gO (by with_unfolding_all exact rfl) _ _ (Mr.len _) O18.out ?_) | (with_reducible refine wpList_store_whole rfl 27 _ _ rfl gO (Mg.raw ⟨m.kind, m.rid, 0, 0, 0, m.has, false, [], [], m.es, []⟩ e Row.nil).enc.toArray (by with_unfolding_all exact rfl) (by with_unfolding_all exact rfl) _ _ O18.out (Mr.size _) rfl (Mr.one _) ?_))
    intro w19 q19 x19 z19
    have O19 : Hid (Mr.At w19 gO (Mg.raw ⟨m.kind, m.rid, 0, 0, 0, m.has, false, [], [], m.es, []⟩ e Row.nil)) := Lib.hid x19
    have M19 : Hid (Mr.At w19 gM (Mg.raw ⟨m.kind, m.rid, 0, 0, 0, m.has, false, [], [], m.es, []⟩ e Row.nil)) := Lib.hid (grown_far M18.out q19 (by have := N_M_O.out; omega))
    have B19 := Lib.hid (B18.out.grown q19 B18.out.size (fun k hk => by injection hk with hk; have := M_O.out; omega))
    clear q19 x19 z19 O18 M18 B18
    go_wp2
    exact bodyPost_ret (results_st Mr.isRec rfl _ _ _ _ _ rfl rfl O19.out) rfl ⟨e, Row.nil, by rw [HM.out]; rfl, by rw [HM.out]; exact ⟨(H.out.below B19.out).es, rows_nil _ 4⟩, B19.out⟩
  · have d0 : inK m.kind 0 = false := by rw [inK, hp]; decide
    have d1 : inK m.kind 1 = false := by rw [inK, hp]; decide
    have d2 : inK m.kind 2 = false := by rw [inK, hp]; decide
    have d3 : inK m.kind 3 = true := by rw [inK, hp]; decide
    have d4 : inK m.kind 4 = false := by rw [inK, hp]; decide
    have d5 : inK m.kind 5 = false := by rw [inK, hp]; decide
    have d6 : inK m.kind 6 = false := by rw [inK, hp]; decide
    have d7 : inK m.kind 7 = false := by rw [inK, hp]; decide
    have d8 : inK m.kind 8 = false := by rw [inK, hp]; decide
    simp only [d0, d1, d2, d3, d4, d5, d6, d7, d8] at HM C0 C1 C2 C3 C4 C5 C6 C7 C8
    clear d0 d1 d2 d3 d4 d5 d6 d7 d8 hp
    go_enter Try.func16, Try.ntmps16
    go_wp2_with (refine wpList_box_row rfl 27 _ rfl (m.raw e t).enc.toArray (by with_unfolding_all exact rfl) ?_)
    intro w1 b1 x1 z1
    obtain ⟨gM, hgM⟩ : ∃ g, g = w.heap.size := ⟨_, rfl⟩
    have M_M := Lib.hid (show w.heap.size ≤ gM from by rw [hgM]; exact Nat.le_refl _)
    have B1 := Lib.hid b1
    rw [← hgM] at x1 ⊢
    have M1 : Hid (Mr.At w1 gM (m.raw e t)) := Lib.hid x1
    clear b1 x1 z1 hgM 
    go_wp2_with (first | (with_reducible refine wpList_load_whole_st Mr.isRec rfl _ rfl gM (by with_unfolding_all exact rfl) _ _ (Mr.len _) M1.out ?_) | (refine wpList_alloc_row rfl 27 rfl Mr.zero.enc.toArray Mr.zero_is ?_))
    intro w2 b2 x2 z2
    obtain ⟨gO, hgO⟩ : ∃ g, g = w1.heap.size := ⟨_, rfl⟩
    have N_M_O := Lib.hid (show gM < gO from by rw [hgO]; exact M1.out.lt)
    have M_O := Lib.hid (show w.heap.size ≤ gO from by rw [hgO]; exact B1.out.size)
    have M2 : Hid (Mr.At w2 gM (m.raw e t)) := Lib.hid (Whole.below M1.out b2 M1.out.lt)
    have B2 := Lib.hid (B1.out.trans (b2.mono B1.out.size))
    rw [← hgO] at x2 ⊢
    have O2 : Hid (Mr.At w2 gO Mr.zero) := Lib.hid x2
    clear b2 x2 z2 hgO M1 B1
    have c : w2.cell? ⟨gM, 0, none⟩ = some (.int .i64 m.kind) := M2.out.at_ 0
    go_wp2_with (first | (with_reducible refine wpList_load_whole_st Mr.isRec rfl _ rfl gM (by with_unfolding_all exact rfl) _ _ (Mr.len _) M2.out ?_) | (with_reducible refine wpList_load_whole_st Mr.isRec rfl _ rfl gO (by with_unfolding_all exact rfl) _ _ (Mr.len _) O2.out ?_))
    refine ((C0 w2).out).mono ?_
    rintro e3 w3 ⟨rfl, b3⟩
    have M3 : Hid (Mr.At w3 gM (m.raw e t)) := Lib.hid (Whole.below M2.out b3 M2.out.lt)
    have O3 : Hid (Mr.At w3 gO Mr.zero) := Lib.hid (Whole.below O2.out b3 O2.out.lt)
    have B3 := Lib.hid (B2.out.trans (b3.mono B2.out.size))
    clear b3 M2 O2 B2
    clear c
    go_wp2_with (first | (with_reducible refine wpList_load_whole_st Mr.isRec rfl _ rfl gM (by with_unfolding_all exact rfl) _ _ (Mr.len _) M3.out ?_) | (with_reducible refine wpList_load_whole_st Mr.isRec rfl _ rfl gO (by with_unfolding_all exact rfl) _ _ (Mr.len _) O3.out ?_) | (with_reducible refine wpList_put_cell 22 ⟨by kernel_rfl, by kernel_rfl⟩ rfl _ _ rfl gM 3 (by with_unfolding_all exact rfl) (.int .i64 0) (by with_unfolding_all exact rfl) (by with_unfolding_all exact rfl) (by with_unfolding_all exact rfl) _ _ M3.out _ (by with_unfolding_all exact rfl) ?_))
    intro w4 q4 x4 z4
    have M4 : Hid (Mr.At w4 gM (Mg.raw ⟨m.kind, m.rid, m.ver, 0, m.id, m.has, m.gone, m.key, m.val, m.es, m.its⟩ e t)) := Lib.hid x4
    have O4 : Hid (Mr.At w4 gO Mr.zero) := Lib.hid (grown_far O3.out q4 (by have := N_M_O.out; omega))
    have B4 := Lib.hid (B3.out.grown q4 B3.out.size (fun k hk => by injection hk with hk; have := M_M.out; omega))
    clear q4 x4 z4 M3 O3 B3
    have c : w4.cell? ⟨gM, 0, none⟩ = some (.int .i64 m.kind) := M4.out.at_ 0
    go_wp2_with (first | (with_reducible refine wpList_load_whole_st Mr.isRec rfl _ rfl gM (by with_unfolding_all exact rfl) _ _ (Mr.len _) M4.out ?_) | (with_reducible refine wpList_load_whole_st Mr.isRec rfl _ rfl gO (by with_unfolding_all exact rfl) _ _ (Mr.len _) O4.out ?_))
    refine ((C1 w4).out).mono ?_
    rintro e5 w5 ⟨rfl, b5⟩
    have M5 : Hid (Mr.At w5 gM (Mg.raw ⟨m.kind, m.rid, m.ver, 0, m.id, m.has, m.gone, m.key, m.val, m.es, m.its⟩ e t)) := Lib.hid (Whole.below M4.out b5 M4.out.lt)
    have O5 : Hid (Mr.At w5 gO Mr.zero) := Lib.hid (Whole.below O4.out b5 O4.out.lt)
    have B5 := Lib.hid (B4.out.trans (b5.mono B4.out.size))
    clear b5 M4 O4 B4
    clear c
    go_wp2_with (first | (with_reducible refine wpList_load_whole_st Mr.isRec rfl _ rfl gM (by with_unfolding_all exact rfl) _ _ (Mr.len _) M5.out ?_) | (with_reducible refine wpList_load_whole_st Mr.isRec rfl _ rfl gO (by with_unfolding_all exact rfl) _ _ (Mr.len _) O5.out ?_) | (with_reducible refine wpList_put_cell 4 ⟨by kernel_rfl, by kernel_rfl⟩ rfl _ _ rfl gM 5 (by with_unfolding_all exact rfl) (.bool false) (by with_unfolding_all exact rfl) (by with_unfolding_all exact rfl) (by with_unfolding_all exact rfl) _ _ M5.out _ (by with_unfolding_all exact rfl) ?_))
    intro w6 q6 x6 z6
    have M6 : Hid (Mr.At w6 gM (Mg.raw ⟨m.kind, m.rid, m.ver, 0, m.id, false, m.gone, m.key, m.val, m.es, m.its⟩ e t)) := Lib.hid x6
    have O6 : Hid (Mr.At w6 gO Mr.zero) := Lib.hid (grown_far O5.out q6 (by have := N_M_O.out; omega))
    have B6 := Lib.hid (B5.out.grown q6 B5.out.size (fun k hk => by injection hk with hk; have := M_M.out; omega))
    clear q6 x6 z6 M5 O5 B5
    have c : w6.cell? ⟨gM, 0, none⟩ = some (.int .i64 m.kind) := M6.out.at_ 0
    go_wp2_with (first | (with_reducible refine wpList_load_whole_st Mr.isRec rfl _ rfl gM (by with_unfolding_all exact rfl) _ _ (Mr.len _) M6.out ?_) | (with_reducible refine wpList_load_whole_st Mr.isRec rfl _ rfl gO (by with_unfolding_all exact rfl) _ _ (Mr.len _) O6.out ?_))
    refine ((C2 w6).out).mono ?_
    rintro e7 w7 ⟨rfl, b7⟩
    have M7 : Hid (Mr.At w7 gM (Mg.raw ⟨m.kind, m.rid, m.ver, 0, m.id, false, m.gone, m.key, m.val, m.es, m.its⟩ e t)) := Lib.hid (Whole.below M6.out b7 M6.out.lt)
    have O7 : Hid (Mr.At w7 gO Mr.zero) := Lib.hid (Whole.below O6.out b7 O6.out.lt)
    have B7 := Lib.hid (B6.out.trans (b7.mono B6.out.size))
    clear b7 M6 O6 B6
    clear c
    go_wp2_with (first | (with_reducible refine wpList_load_whole_st Mr.isRec rfl _ rfl gM (by with_unfolding_all exact rfl) _ _ (Mr.len _) M7.out ?_) | (with_reducible refine wpList_load_whole_st Mr.isRec rfl _ rfl gO (by with_unfolding_all exact rfl) _ _ (Mr.len _) O7.out ?_) | (with_reducible refine wpList_put_cell 4 ⟨by kernel_rfl, by kernel_rfl⟩ rfl _ _ rfl gM 6 (by with_unfolding_all exact rfl) (.bool false) (by with_unfolding_all exact rfl) (by with_unfolding_all exact rfl) (by with_unfolding_all exact rfl) _ _ M7.out _ (by with_unfolding_all exact rfl) ?_))
    intro w8 q8 x8 z8
    have M8 : Hid (Mr.At w8 gM (Mg.raw ⟨m.kind, m.rid, m.ver, 0, m.id, false, false, m.key, m.val, m.es, m.its⟩ e t)) := Lib.hid x8
    have O8 : Hid (Mr.At w8 gO Mr.zero) := Lib.hid (grown_far O7.out q8 (by have := N_M_O.out; omega))
    have B8 := Lib.hid (B7.out.grown q8 B7.out.size (fun k hk => by injection hk with hk; have := M_M.out; omega))
    clear q8 x8 z8 M7 O7 B7
    have c : w8.cell? ⟨gM, 0, none⟩ = some (.int .i64 m.kind) := M8.out.at_ 0
    go_wp2_with (first | (with_reducible refine wpList_load_whole_st Mr.isRec rfl _ rfl gM (by with_unfolding_all exact rfl) _ _ (Mr.len _) M8.out ?_) | (with_reducible refine wpList_load_whole_st Mr.isRec rfl _ rfl gO (by with_unfolding_all exact rfl) _ _ (Mr.len _) O8.out ?_))
    refine ((C3 w8).out).mono ?_
    rintro e9 w9 ⟨rfl, b9⟩
    have M9 : Hid (Mr.At w9 gM (Mg.raw ⟨m.kind, m.rid, m.ver, 0, m.id, false, false, m.key, m.val, m.es, m.its⟩ e t)) := Lib.hid (Whole.below M8.out b9 M8.out.lt)
    have O9 : Hid (Mr.At w9 gO Mr.zero) := Lib.hid (Whole.below O8.out b9 O8.out.lt)
    have B9 := Lib.hid (B8.out.trans (b9.mono B8.out.size))
    clear b9 M8 O8 B8
    clear c
    have c : w9.cell? ⟨gM, 0, none⟩ = some (.int .i64 m.kind) := M9.out.at_ 0
    go_wp2_with (first | (with_reducible refine wpList_load_whole_st Mr.isRec rfl _ rfl gM (by with_unfolding_all exact rfl) _ _ (Mr.len _) M9.out ?_) | (with_reducible refine wpList_load_whole_st Mr.isRec rfl _ rfl gO (by with_unfolding_all exact rfl) _ _ (Mr.len _) O9.out ?_))
    refine ((C4 w9).out).mono ?_
    rintro e10 w10 ⟨rfl, b10⟩
    have M10 : Hid (Mr.At w10 gM (Mg.raw ⟨m.kind, m.rid, m.ver, 0, m.id, false, false, m.key, m.val, m.es, m.its⟩ e t)) := Lib.hid (Whole.below M9.out b10 M9.out.lt)
    have O10 : Hid (Mr.At w10 gO Mr.zero) := Lib.hid (Whole.below O9.out b10 O9.out.lt)
    have B10 := Lib.hid (B9.out.trans (b10.mono B9.out.size))
    clear b10 M9 O9 B9
    clear c
    go_wp2_with (first | (with_reducible refine wpList_load_whole_st Mr.isRec rfl _ rfl gM (by with_unfolding_all exact rfl) _ _ (Mr.len _) M10.out ?_) | (with_reducible refine wpList_load_whole_st Mr.isRec rfl _ rfl gO (by with_unfolding_all exact rfl) _ _ (Mr.len _) O10.out ?_) | (with_reducible refine wpList_put_cell 3 ⟨by kernel_rfl, by kernel_rfl⟩ rfl _ _ rfl gM 2 (by with_unfolding_all exact rfl) (.int .i64 0) (by with_unfolding_all exact rfl) (by with_unfolding_all exact rfl) (by with_unfolding_all exact rfl) _ _ M10.out _ (by with_unfolding_all exact rfl) ?_))
    intro w11 q11 x11 z11
    have M11 : Hid (Mr.At w11 gM (Mg.raw ⟨m.kind, m.rid, 0, 0, m.id, false, false, m.key, m.val, m.es, m.its⟩ e t)) := Lib.hid x11
    have O11 : Hid (Mr.At w11 gO Mr.zero) := Lib.hid (grown_far O10.out q11 (by have := N_M_O.out; omega))
    have B11 := Lib.hid (B10.out.grown q11 B10.out.size (fun k hk => by injection hk with hk; have := M_M.out; omega))
    clear q11 x11 z11 M10 O10 B10
    have c : w11.cell? ⟨gM, 0, none⟩ = some (.int .i64 m.kind) := M11.out.at_ 0
    go_wp2_with (first | (with_reducible refine wpList_load_whole_st Mr.isRec rfl _ rfl gM (by with_unfolding_all exact rfl) _ _ (Mr.len _) M11.out ?_) | (with_reducible refine wpList_load_whole_st Mr.isRec rfl _ rfl gO (by with_unfolding_all exact rfl) _ _ (Mr.len _) O11.out ?_))
    refine ((C5 w11).out).mono ?_
    rintro e12 w12 ⟨rfl, b12⟩
    have M12 : Hid (Mr.At w12 gM (Mg.raw ⟨m.kind, m.rid, 0, 0, m.id, false, false, m.key, m.val, m.es, m.its⟩ e t)) := Lib.hid (Whole.below M11.out b12 M11.out.lt)
    have O12 : Hid (Mr.At w12 gO Mr.zero) := Lib.hid (Whole.below O11.out b12 O11.out.lt)
    have B12 := Lib.hid (B11.out.trans (b12.mono B11.out.size))
    clear b12 M11 O11 B11
    clear c
    go_wp2_with (first | (with_reducible refine wpList_load_whole_st Mr.isRec rfl _ rfl gM (by with_unfolding_all exact rfl) _ _ (Mr.len _) M12.out ?_) | (with_reducible refine wpList_load_whole_st Mr.isRec rfl _ rfl gO (by with_unfolding_all exact rfl) _ _ (Mr.len _) O12.out ?_) | (with_reducible refine wpList_put_cell 9 ⟨by kernel_rfl, by kernel_rfl⟩ rfl _ _ rfl gM 7 (by with_unfolding_all exact rfl) (.string ⟨([] : List UInt8).toArray⟩) (by with_unfolding_all exact rfl) (by with_unfolding_all exact rfl) (by with_unfolding_all exact rfl) _ _ M12.out _ (by with_unfolding_all exact rfl) ?_))
    intro w13 q13 x13 z13
    have M13 : Hid (Mr.At w13 gM (Mg.raw ⟨m.kind, m.rid, 0, 0, m.id, false, false, [], m.val, m.es, m.its⟩ e t)) := Lib.hid x13
    have O13 : Hid (Mr.At w13 gO Mr.zero) := Lib.hid (grown_far O12.out q13 (by have := N_M_O.out; omega))
    have B13 := Lib.hid (B12.out.grown q13 B12.out.size (fun k hk => by injection hk with hk; have := M_M.out; omega))
    clear q13 x13 z13 M12 O12 B12
    have c : w13.cell? ⟨gM, 0, none⟩ = some (.int .i64 m.kind) := M13.out.at_ 0
    go_wp2_with (first | (with_reducible refine wpList_load_whole_st Mr.isRec rfl _ rfl gM (by with_unfolding_all exact rfl) _ _ (Mr.len _) M13.out ?_) | (with_reducible refine wpList_load_whole_st Mr.isRec rfl _ rfl gO (by with_unfolding_all exact rfl) _ _ (Mr.len _) O13.out ?_))
    refine ((C6 w13).out).mono ?_
    rintro e14 w14 ⟨rfl, b14⟩
    have M14 : Hid (Mr.At w14 gM (Mg.raw ⟨m.kind, m.rid, 0, 0, m.id, false, false, [], m.val, m.es, m.its⟩ e t)) := Lib.hid (Whole.below M13.out b14 M13.out.lt)
    have O14 : Hid (Mr.At w14 gO Mr.zero) := Lib.hid (Whole.below O13.out b14 O13.out.lt)
    have B14 := Lib.hid (B13.out.trans (b14.mono B13.out.size))
    clear b14 M13 O13 B13
    clear c
    go_wp2_with (first | (with_reducible refine wpList_load_whole_st Mr.isRec rfl _ rfl gM (by with_unfolding_all exact rfl) _ _ (Mr.len _) M14.out ?_) | (with_reducible refine wpList_load_whole_st Mr.isRec rfl _ rfl gO (by with_unfolding_all exact rfl) _ _ (Mr.len _) O14.out ?_) | (with_reducible refine wpList_put_cell 9 ⟨by kernel_rfl, by kernel_rfl⟩ rfl _ _ rfl gM 8 (by with_unfolding_all exact rfl) (.string ⟨([] : List UInt8).toArray⟩) (by with_unfolding_all exact rfl) (by with_unfolding_all exact rfl) (by with_unfolding_all exact rfl) _ _ M14.out _ (by with_unfolding_all exact rfl) ?_))
    intro w15 q15 x15 z15
    have M15 : Hid (Mr.At w15 gM (Mg.raw ⟨m.kind, m.rid, 0, 0, m.id, false, false, [], [], m.es, m.its⟩ e t)) := Lib.hid x15
    have O15 : Hid (Mr.At w15 gO Mr.zero) := Lib.hid (grown_far O14.out q15 (by have := N_M_O.out; omega))
    have B15 := Lib.hid (B14.out.grown q15 B14.out.size (fun k hk => by injection hk with hk; have := M_M.out; omega))
    clear q15 x15 z15 M14 O14 B14
    have c : w15.cell? ⟨gM, 0, none⟩ = some (.int .i64 m.kind) := M15.out.at_ 0
    go_wp2_with (first | (with_reducible refine wpList_load_whole_st Mr.isRec rfl _ rfl gM (by with_unfolding_all exact rfl) _ _ (Mr.len _) M15.out ?_) | (with_reducible refine wpList_load_whole_st Mr.isRec rfl _ rfl gO (by with_unfolding_all exact rfl) _ _ (Mr.len _) O15.out ?_))
    refine ((C7 w15).out).mono ?_
    rintro e16 w16 ⟨rfl, b16⟩
    have M16 : Hid (Mr.At w16 gM (Mg.raw ⟨m.kind, m.rid, 0, 0, m.id, false, false, [], [], m.es, m.its⟩ e t)) := Lib.hid (Whole.below M15.out b16 M15.out.lt)
    have O16 : Hid (Mr.At w16 gO Mr.zero) := Lib.hid (Whole.below O15.out b16 O15.out.lt)
    have B16 := Lib.hid (B15.out.trans (b16.mono B15.out.size))
    clear b16 M15 O15 B15
    clear c
    go_wp2_with (first | (with_reducible refine wpList_load_whole_st Mr.isRec rfl _ rfl gM (by with_unfolding_all exact rfl) _ _ (Mr.len _) M16.out ?_) | (with_reducible refine wpList_load_whole_st Mr.isRec rfl _ rfl gO (by with_unfolding_all exact rfl) _ _ (Mr.len _) O16.out ?_) | (with_reducible refine wpList_put_cell 24 ⟨by kernel_rfl, by kernel_rfl⟩ rfl _ _ rfl gM 9 (by with_unfolding_all exact rfl) (.slice none 0 0) (by with_unfolding_all exact rfl) (by with_unfolding_all exact rfl) (by with_unfolding_all exact rfl) _ _ M16.out _ (by with_unfolding_all exact rfl) ?_))
    intro w17 q17 x17 z17
    have M17 : Hid (Mr.At w17 gM (Mg.raw ⟨m.kind, m.rid, 0, 0, m.id, false, false, [], [], [], m.its⟩ Row.nil t)) := Lib.hid x17
    have O17 : Hid (Mr.At w17 gO Mr.zero) := Lib.hid (grown_far O16.out q17 (by have := N_M_O.out; omega))
    have B17 := Lib.hid (B16.out.grown q17 B16.out.size (fun k hk => by injection hk with hk; have := M_M.out; omega))
    clear q17 x17 z17 M16 O16 B16
    have c : w17.cell? ⟨gM, 0, none⟩ = some (.int .i64 m.kind) := M17.out.at_ 0
    go_wp2_with (first | (with_reducible refine wpList_load_whole_st Mr.isRec rfl _ rfl gM (by with_unfolding_all exact rfl) _ _ (Mr.len _) M17.out ?_) | (with_reducible refine wpList_load_whole_st Mr.isRec rfl _ rfl gO (by with_unfolding_all exact rfl) _ _ (Mr.len _) O17.out ?_))
    refine ((C8 w17).out).mono ?_
    rintro e18 w18 ⟨rfl, b18⟩
    have M18 : Hid (Mr.At w18 gM (Mg.raw ⟨m.kind, m.rid, 0, 0, m.id, false, false, [], [], [], m.its⟩ Row.nil t)) := Lib.hid (Whole.below M17.out b18 M17.out.lt)
    have O18 : Hid (Mr.At w18 gO Mr.zero) := Lib.hid (Whole.below O17.out b18 O17.out.lt)
    have B18 := Lib.hid (B17.out.trans (b18.mono B17.out.size))
    clear b18 M17 O17 B17
    clear c
    go_wp2_with (first | (with_reducible refine wpList_load_whole_st Mr.isRec rfl _ rfl gM (by with_unfolding_all exact rfl) _ _ (Mr.len _) M18.out ?_) | (with_reducible refine wpList_load_whole_st Mr.isRec rfl _ rfl gO (by with_unfolding_all exact rfl) _ _ (Mr.len _) O18.out ?_) | (with_reducible refine wpList_put_cell 25 ⟨by kernel_rfl, by kernel_rfl⟩ rfl _ _ rfl gM 10 (by with_unfolding_all exact rfl) (.slice none 0 0) (by with_unfolding_all exact rfl) (by with_unfolding_all exact rfl) (by with_unfolding_all exact rfl) _ _ M18.out _ (by with_unfolding_all exact rfl) ?_))
    intro w19 q19 x19 z19
    have M19 : Hid (Mr.At w19 gM (Mg.raw ⟨m.kind, m.rid, 0, 0, m.id, false, false, [], [], [], []⟩ Row.nil Row.nil)) := Lib.hid x19
    have O19 : Hid (Mr.At w19 gO Mr.zero) := Lib.hid (grown_far O18.out q19 (by have := N_M_O.out; omega))
    have B19 := Lib.hid (B18.out.grown q19 B18.out.size (fun k hk => by injection hk with hk; have := M_M.out; omega))
    clear q19 x19 z19 M18 O18 B18
    go_wp2_with (first | (with_reducible refine wpList_load_whole_st Mr.isRec rfl _ rfl gM (by with_unfolding_all exact rfl) _ _ (Mr.len _) M19.out ?_) | (with_reducible refine wpList_load_whole_st Mr.isRec rfl _ rfl gO (by with_unfolding_all exact rfl) _ _ (Mr.len _) O19.out ?_) | (with_reducible refine wpList_store_whole rfl 27 _ _ rfl gO (Mg.raw ⟨m.kind, m.rid, 0, 0, m.id, false, false, [], [], [], []⟩ Row.nil Row.nil).enc.toArray (by with_unfolding_all exact rfl) (by with_unfolding_all exact rfl) _ _ O19.out (Mr.size _) rfl (Mr.one _) ?_))
    intro w20 q20 x20 z20
    have O20 : Hid (Mr.At w20 gO (Mg.raw ⟨m.kind, m.rid, 0, 0, m.id, false, false, [], [], [], []⟩ Row.nil Row.nil)) := Lib.hid x20
    have M20 : Hid (Mr.At w20 gM (Mg.raw ⟨m.kind, m.rid, 0, 0, m.id, false, false, [], [], [], []⟩ Row.nil Row.nil)) := Lib.hid (grown_far M19.out q20 (by have := N_M_O.out; omega))
    have B20 := Lib.hid (B19.out.grown q20 B19.out.size (fun k hk => by injection hk with hk; have := M_O.out; omega))
    clear q20 x20 z20 O19 M19 B19
    go_wp2
    exact bodyPost_ret (results_st Mr.isRec rfl _ _ _ _ _ rfl rfl O20.out) rfl ⟨Row.nil, Row.nil, by rw [HM.out]; rfl, by rw [HM.out]; exact ⟨rows_nil _ 6, rows_nil _ 4⟩, B20.out⟩
  · have d0 : inK m.kind 0 = false := by rw [inK, hp]; decide
    have d1 : inK m.kind 1 = false := by rw [inK, hp]; decide
    have d2 : inK m.kind 2 = false := by rw [inK, hp]; decide
    have d3 : inK m.kind 3 = false := by rw [inK, hp]; decide
    have d4 : inK m.kind 4 = false := by rw [inK, hp]; decide
    have d5 : inK m.kind 5 = false := by rw [inK, hp]; decide
    have d6 : inK m.kind 6 = false := by rw [inK, hp]; decide
    have d7 : inK m.kind 7 = true := by rw [inK, hp]; decide
    have d8 : inK m.kind 8 = false := by rw [inK, hp]; decide
    simp only [d0, d1, d2, d3, d4, d5, d6, d7, d8] at HM C0 C1 C2 C3 C4 C5 C6 C7 C8
    clear d0 d1 d2 d3 d4 d5 d6 d7 d8 hp
    go_enter Try.func16, Try.ntmps16
    go_wp2_with (refine wpList_box_row rfl 27 _ rfl (m.raw e t).enc.toArray (by with_unfolding_all exact rfl) ?_)
    intro w1 b1 x1 z1
    obtain ⟨gM, hgM⟩ : ∃ g, g = w.heap.size := ⟨_, rfl⟩
    have M_M := Lib.hid (show w.heap.size ≤ gM from by rw [hgM]; exact Nat.le_refl _)
    have B1 := Lib.hid b1
    rw [← hgM] at x1 ⊢
    have M1 : Hid (Mr.At w1 gM (m.raw e t)) := Lib.hid x1
    clear b1 x1 z1 hgM 
    go_wp2_with (first | (with_reducible refine wpList_load_whole_st Mr.isRec rfl _ rfl gM (by with_unfolding_all exact rfl) _ _ (Mr.len _) M1.out ?_) | (refine wpList_alloc_row rfl 27 rfl Mr.zero.enc.toArray Mr.zero_is ?_))
    intro w2 b2 x2 z2
    obtain ⟨gO, hgO⟩ : ∃ g, g = w1.heap.size := ⟨_, rfl⟩
    have N_M_O := Lib.hid (show gM < gO from by rw [hgO]; exact M1.out.lt)
    have M_O := Lib.hid (show w.heap.size ≤ gO from by rw [hgO]; exact B1.out.size)
    have M2 : Hid (Mr.At w2 gM (m.raw e t)) := Lib.hid (Whole.below M1.out b2 M1.out.lt)
    have B2 := Lib.hid (B1.out.trans (b2.mono B1.out.size))
    rw [← hgO] at x2 ⊢
    have O2 : Hid (Mr.At w2 gO Mr.zero) := Lib.hid x2
    clear b2 x2 z2 hgO M1 B1
    have c : w2.cell? ⟨gM, 0, none⟩ = some (.int .i64 m.kind) := M2.out.at_ 0
    go_wp2_with (first | (with_reducible refine wpList_load_whole_st Mr.isRec rfl _ rfl gM (by with_unfolding_all exact rfl) _ _ (Mr.len _) M2.out ?_) | (with_reducible refine wpList_load_whole_st Mr.isRec rfl _ rfl gO (by with_unfolding_all exact rfl) _ _ (Mr.len _) O2.out ?_))
    refine ((C0 w2).out).mono ?_
    rintro e3 w3 ⟨rfl, b3⟩
    have M3 : Hid (Mr.At w3 gM (m.raw e t)) := Lib.hid (Whole.below M2.out b3 M2.out.lt)
    have O3 : Hid (Mr.At w3 gO Mr.zero) := Lib.hid (Whole.below O2.out b3 O2.out.lt)
    have B3 := Lib.hid (B2.out.trans (b3.mono B2.out.size))
    clear b3 M2 O2 B2
    clear c
    go_wp2_with (first | (with_reducible refine wpList_load_whole_st Mr.isRec rfl _ rfl gM (by with_unfolding_all exact rfl) _ _ (Mr.len _) M3.out ?_) | (with_reducible refine wpList_load_whole_st Mr.isRec rfl _ rfl gO (by with_unfolding_all exact rfl) _ _ (Mr.len _) O3.out ?_) | (with_reducible refine wpList_put_cell 22 ⟨by kernel_rfl, by kernel_rfl⟩ rfl _ _ rfl gM 3 (by with_unfolding_all exact rfl) (.int .i64 0) (by with_unfolding_all exact rfl) (by with_unfolding_all exact rfl) (by with_unfolding_all exact rfl) _ _ M3.out _ (by with_unfolding_all exact rfl) ?_))
    intro w4 q4 x4 z4
    have M4 : Hid (Mr.At w4 gM (Mg.raw ⟨m.kind, m.rid, m.ver, 0, m.id, m.has, m.gone, m.key, m.val, m.es, m.its⟩ e t)) := Lib.hid x4
    have O4 : Hid (Mr.At w4 gO Mr.zero) := Lib.hid (grown_far O3.out q4 (by have := N_M_O.out; omega))
    have B4 := Lib.hid (B3.out.grown q4 B3.out.size (fun k hk => by injection hk with hk; have := M_M.out; omega))
    clear q4 x4 z4 M3 O3 B3
    have c : w4.cell? ⟨gM, 0, none⟩ = some (.int .i64 m.kind) := M4.out.at_ 0
    go_wp2_with (first | (with_reducible refine wpList_load_whole_st Mr.isRec rfl _ rfl gM (by with_unfolding_all exact rfl) _ _ (Mr.len _) M4.out ?_) | (with_reducible refine wpList_load_whole_st Mr.isRec rfl _ rfl gO (by with_unfolding_all exact rfl) _ _ (Mr.len _) O4.out ?_))
    refine ((C1 w4).out).mono ?_
    rintro e5 w5 ⟨rfl, b5⟩
    have M5 : Hid (Mr.At w5 gM (Mg.raw ⟨m.kind, m.rid, m.ver, 0, m.id, m.has, m.gone, m.key, m.val, m.es, m.its⟩ e t)) := Lib.hid (Whole.below M4.out b5 M4.out.lt)
    have O5 : Hid (Mr.At w5 gO Mr.zero) := Lib.hid (Whole.below O4.out b5 O4.out.lt)
    have B5 := Lib.hid (B4.out.trans (b5.mono B4.out.size))
    clear b5 M4 O4 B4
    clear c
    go_wp2_with (first | (with_reducible refine wpList_load_whole_st Mr.isRec rfl _ rfl gM (by with_unfolding_all exact rfl) _ _ (Mr.len _) M5.out ?_) | (with_reducible refine wpList_load_whole_st Mr.isRec rfl _ rfl gO (by with_unfolding_all exact rfl) _ _ (Mr.len _) O5.out ?_) | (with_reducible refine wpList_put_cell 4 ⟨by kernel_rfl, by kernel_rfl⟩ rfl _ _ rfl gM 5 (by with_unfolding_all exact rfl) (.bool false) (by with_unfolding_all exact rfl) (by with_unfolding_all exact rfl) (by with_unfolding_all exact rfl) _ _ M5.out _ (by with_unfolding_all exact rfl) ?_))
    intro w6 q6 x6 z6
    have M6 : Hid (Mr.At w6 gM (Mg.raw ⟨m.kind, m.rid, m.ver, 0, m.id, false, m.gone, m.key, m.val, m.es, m.its⟩ e t)) := Lib.hid x6
    have O6 : Hid (Mr.At w6 gO Mr.zero) := Lib.hid (grown_far O5.out q6 (by have := N_M_O.out; omega))
    have B6 := Lib.hid (B5.out.grown q6 B5.out.size (fun k hk => by injection hk with hk; have := M_M.out; omega))
    clear q6 x6 z6 M5 O5 B5
    have c : w6.cell? ⟨gM, 0, none⟩ = some (.int .i64 m.kind) := M6.out.at_ 0
    go_wp2_with (first | (with_reducible refine wpList_load_whole_st Mr.isRec rfl _ rfl gM (by with_unfolding_all exact rfl) _ _ (Mr.len _) M6.out ?_) | (with_reducible refine wpList_load_whole_st Mr.isRec rfl _ rfl gO (by with_unfolding_all exact rfl) _ _ (Mr.len _) O6.out ?_))
    refine ((C2 w6).out).mono ?_
    rintro e7 w7 ⟨rfl, b7⟩
    have M7 : Hid (Mr.At w7 gM (Mg.raw ⟨m.kind, m.rid, m.ver, 0, m.id, false, m.gone, m.key, m.val, m.es, m.its⟩ e t)) := Lib.hid (Whole.below M6.out b7 M6.out.lt)
    have O7 : Hid (Mr.At w7 gO Mr.zero) := Lib.hid (Whole.below O6.out b7 O6.out.lt)
    have B7 := Lib.hid (B6.out.trans (b7.mono B6.out.size))
    clear b7 M6 O6 B6
    clear c
    go_wp2_with (first | (with_reducible refine wpList_load_whole_st Mr.isRec rfl _ rfl gM (by with_unfolding_all exact rfl) _ _ (Mr.len _) M7.out ?_) | (with_reducible refine wpList_load_whole_st Mr.isRec rfl _ rfl gO (by with_unfolding_all exact rfl) _ _ (Mr.len _) O7.out ?_) | (with_reducible refine wpList_put_cell 4 ⟨by kernel_rfl, by kernel_rfl⟩ rfl _ _ rfl gM 6 (by with_unfolding_all exact rfl) (.bool false) (by with_unfolding_all exact rfl) (by with_unfolding_all exact rfl) (by with_unfolding_all exact rfl) _ _ M7.out _ (by with_unfolding_all exact rfl) ?_))
    intro w8 q8 x8 z8
    have M8 : Hid (Mr.At w8 gM (Mg.raw ⟨m.kind, m.rid, m.ver, 0, m.id, false, false, m.key, m.val, m.es, m.its⟩ e t)) := Lib.hid x8
    have O8 : Hid (Mr.At w8 gO Mr.zero) := Lib.hid (grown_far O7.out q8 (by have := N_M_O.out; omega))
    have B8 := Lib.hid (B7.out.grown q8 B7.out.size (fun k hk => by injection hk with hk; have := M_M.out; omega))
    clear q8 x8 z8 M7 O7 B7
    have c : w8.cell? ⟨gM, 0, none⟩ = some (.int .i64 m.kind) := M8.out.at_ 0
    go_wp2_with (first | (with_reducible refine wpList_load_whole_st Mr.isRec rfl _ rfl gM (by with_unfolding_all exact rfl) _ _ (Mr.len _) M8.out ?_) | (with_reducible refine wpList_load_whole_st Mr.isRec rfl _ rfl gO (by with_unfolding_all exact rfl) _ _ (Mr.len _) O8.out ?_))
    refine ((C3 w8).out).mono ?_
    rintro e9 w9 ⟨rfl, b9⟩
    have M9 : Hid (Mr.At w9 gM (Mg.raw ⟨m.kind, m.rid, m.ver, 0, m.id, false, false, m.key, m.val, m.es, m.its⟩ e t)) := Lib.hid (Whole.below M8.out b9 M8.out.lt)
    have O9 : Hid (Mr.At w9 gO Mr.zero) := Lib.hid (Whole.below O8.out b9 O8.out.lt)
    have B9 := Lib.hid (B8.out.trans (b9.mono B8.out.size))
    clear b9 M8 O8 B8
    clear c
    go_wp2_with (first | (with_reducible refine wpList_load_whole_st Mr.isRec rfl _ rfl gM (by with_unfolding_all exact rfl) _ _ (Mr.len _) M9.out ?_) | (with_reducible refine wpList_load_whole_st Mr.isRec rfl _ rfl gO (by with_unfolding_all exact rfl) _ _ (Mr.len _) O9.out ?_) | (with_reducible refine wpList_put_cell 23 ⟨by kernel_rfl, by kernel_rfl⟩ rfl _ _ rfl gM 4 (by with_unfolding_all exact rfl) (.int .u64 ((0 : Nat) : Int)) (by with_unfolding_all exact rfl) (by with_unfolding_all exact rfl) (by with_unfolding_all exact rfl) _ _ M9.out _ (by with_unfolding_all exact rfl) ?_))
    intro w10 q10 x10 z10
    have M10 : Hid (Mr.At w10 gM (Mg.raw ⟨m.kind, m.rid, m.ver, 0, 0, false, false, m.key, m.val, m.es, m.its⟩ e t)) := Lib.hid x10
    have O10 : Hid (Mr.At w10 gO Mr.zero) := Lib.hid (grown_far O9.out q10 (by have := N_M_O.out; omega))
    have B10 := Lib.hid (B9.out.grown q10 B9.out.size (fun k hk => by injection hk with hk; have := M_M.out; omega))
    clear q10 x10 z10 M9 O9 B9
    have c : w10.cell? ⟨gM, 0, none⟩ = some (.int .i64 m.kind) := M10.out.at_ 0
    go_wp2_with (first | (with_reducible refine wpList_load_whole_st Mr.isRec rfl _ rfl gM (by with_unfolding_all exact rfl) _ _ (Mr.len _) M10.out ?_) | (with_reducible refine wpList_load_whole_st Mr.isRec rfl _ rfl gO (by with_unfolding_all exact rfl) _ _ (Mr.len _) O10.out ?_))
    refine ((C4 w10).out).mono ?_
    rintro e11 w11 ⟨rfl, b11⟩
    have M11 : Hid (Mr.At w11 gM (Mg.raw ⟨m.kind, m.rid, m.ver, 0, 0, false, false, m.key, m.val, m.es, m.its⟩ e t)) := Lib.hid (Whole.below M10.out b11 M10.out.lt)
    have O11 : Hid (Mr.At w11 gO Mr.zero) := Lib.hid (Whole.below O10.out b11 O10.out.lt)
    have B11 := Lib.hid (B10.out.trans (b11.mono B10.out.size))
    clear b11 M10 O10 B10
    clear c
    go_wp2_with (first | (with_reducible refine wpList_load_whole_st Mr.isRec rfl _ rfl gM (by with_unfolding_all exact rfl) _ _ (Mr.len _) M11.out ?_) | (with_reducible refine wpList_load_whole_st Mr.isRec rfl _ rfl gO (by with_unfolding_all exact rfl) _ _ (Mr.len _) O11.out ?_) | (with_reducible refine wpList_put_cell 3 ⟨by kernel_rfl, by kernel_rfl⟩ rfl _ _ rfl gM 2 (by with_unfolding_all exact rfl) (.int .i64 0) (by with_unfolding_all exact rfl) (by with_unfolding_all exact rfl) (by with_unfolding_all exact rfl) _ _ M11.out _ (by with_unfolding_all exact rfl) ?_))
    intro w12 q12 x12 z12
    have M12 : Hid (Mr.At w12 gM (Mg.raw ⟨m.kind, m.rid, 0, 0, 0, false, false, m.key, m.val, m.es, m.its⟩ e t)) := Lib.hid x12
    have O12 : Hid (Mr.At w12 gO Mr.zero) := Lib.hid (grown_far O11.out q12 (by have := N_M_O.out; omega))
    have B12 := Lib.hid (B11.out.grown q12 B11.out.size (fun k hk => by injection hk with hk; have := M_M.out; omega))
    clear q12 x12 z12 M11 O11 B11
    have c : w12.cell? ⟨gM, 0, none⟩ = some (.int .i64 m.kind) := M12.out.at_ 0
    go_wp2_with (first | (with_reducible refine wpList_load_whole_st Mr.isRec rfl _ rfl gM (by with_unfolding_all exact rfl) _ _ (Mr.len _) M12.out ?_) | (with_reducible refine wpList_load_whole_st Mr.isRec rfl _ rfl gO (by with_unfolding_all exact rfl) _ _ (Mr.len _) O12.out ?_))
    refine ((C5 w12).out).mono ?_
    rintro e13 w13 ⟨rfl, b13⟩
    have M13 : Hid (Mr.At w13 gM (Mg.raw ⟨m.kind, m.rid, 0, 0, 0, false, false, m.key, m.val, m.es, m.its⟩ e t)) := Lib.hid (Whole.below M12.out b13 M12.out.lt)
    have O13 : Hid (Mr.At w13 gO Mr.zero) := Lib.hid (Whole.below O12.out b13 O12.out.lt)
    have B13 := Lib.hid (B12.out.trans (b13.mono B12.out.size))
    clear b13 M12 O12 B12
    clear c
    go_wp2_with (first | (with_reducible refine wpList_load_whole_st Mr.isRec rfl _ rfl gM (by with_unfolding_all exact rfl) _ _ (Mr.len _) M13.out ?_) | (with_reducible refine wpList_load_whole_st Mr.isRec rfl _ rfl gO (by with_unfolding_all exact rfl) _ _ (Mr.len _) O13.out ?_) | (with_reducible refine wpList_put_cell 9 ⟨by kernel_rfl, by kernel_rfl⟩ rfl _ _ rfl gM 7 (by with_unfolding_all exact rfl) (.string ⟨([] : List UInt8).toArray⟩) (by with_unfolding_all exact rfl) (by with_unfolding_all exact rfl) (by with_unfolding_all exact rfl) _ _ M13.out _ (by with_unfolding_all exact rfl) ?_))
    intro w14 q14 x14 z14
    have M14 : Hid (Mr.At w14 gM (Mg.raw ⟨m.kind, m.rid, 0, 0, 0, false, false, [], m.val, m.es, m.its⟩ e t)) := Lib.hid x14
    have O14 : Hid (Mr.At w14 gO Mr.zero) := Lib.hid (grown_far O13.out q14 (by have := N_M_O.out; omega))
    have B14 := Lib.hid (B13.out.grown q14 B13.out.size (fun k hk => by injection hk with hk; have := M_M.out; omega))
    clear q14 x14 z14 M13 O13 B13
    have c : w14.cell? ⟨gM, 0, none⟩ = some (.int .i64 m.kind) := M14.out.at_ 0
    go_wp2_with (first | (with_reducible refine wpList_load_whole_st Mr.isRec rfl _ rfl gM (by with_unfolding_all exact rfl) _ _ (Mr.len _) M14.out ?_) | (with_reducible refine wpList_load_whole_st Mr.isRec rfl _ rfl gO (by with_unfolding_all exact rfl) _ _ (Mr.len _) O14.out ?_))
    refine ((C6 w14).out).mono ?_
    rintro e15 w15 ⟨rfl, b15⟩
    have M15 : Hid (Mr.At w15 gM (Mg.raw ⟨m.kind, m.rid, 0, 0, 0, false, false, [], m.val, m.es, m.its⟩ e t)) := Lib.hid (Whole.below M14.out b15 M14.out.lt)
    have O15 : Hid (Mr.At w15 gO Mr.zero) := Lib.hid (Whole.below O14.out b15 O14.out.lt)
    have B15 := Lib.hid (B14.out.trans (b15.mono B14.out.size))
    clear b15 M14 O14 B14
    clear c
    go_wp2_with (first | (with_reducible refine wpList_load_whole_st Mr.isRec rfl _ rfl gM (by with_unfolding_all exact rfl) _ _ (Mr.len _) M15.out ?_) | (with_reducible refine wpList_load_whole_st Mr.isRec rfl _ rfl gO (by with_unfolding_all exact rfl) _ _ (Mr.len _) O15.out ?_) | (with_reducible refine wpList_put_cell 9 ⟨by kernel_rfl, by kernel_rfl⟩ rfl _ _ rfl gM 8 (by with_unfolding_all exact rfl) (.string ⟨([] : List UInt8).toArray⟩) (by with_unfolding_all exact rfl) (by with_unfolding_all exact rfl) (by with_unfolding_all exact rfl) _ _ M15.out _ (by with_unfolding_all exact rfl) ?_))
    intro w16 q16 x16 z16
    have M16 : Hid (Mr.At w16 gM (Mg.raw ⟨m.kind, m.rid, 0, 0, 0, false, false, [], [], m.es, m.its⟩ e t)) := Lib.hid x16
    have O16 : Hid (Mr.At w16 gO Mr.zero) := Lib.hid (grown_far O15.out q16 (by have := N_M_O.out; omega))
    have B16 := Lib.hid (B15.out.grown q16 B15.out.size (fun k hk => by injection hk with hk; have := M_M.out; omega))
    clear q16 x16 z16 M15 O15 B15
    have c : w16.cell? ⟨gM, 0, none⟩ = some (.int .i64 m.kind) := M16.out.at_ 0
    go_wp2_with (first | (with_reducible refine wpList_load_whole_st Mr.isRec rfl _ rfl gM (by with_unfolding_all exact rfl) _ _ (Mr.len _) M16.out ?_) | (with_reducible refine wpList_load_whole_st Mr.isRec rfl _ rfl gO (by with_unfolding_all exact rfl) _ _ (Mr.len _) O16.out ?_))
    refine ((C7 w16).out).mono ?_
    rintro e17 w17 ⟨rfl, b17⟩
    have M17 : Hid (Mr.At w17 gM (Mg.raw ⟨m.kind, m.rid, 0, 0, 0, false, false, [], [], m.es, m.its⟩ e t)) := Lib.hid (Whole.below M16.out b17 M16.out.lt)
    have O17 : Hid (Mr.At w17 gO Mr.zero) := Lib.hid (Whole.below O16.out b17 O16.out.lt)
    have B17 := Lib.hid (B16.out.trans (b17.mono B16.out.size))
    clear b17 M16 O16 B16
    clear c
    have c : w17.cell? ⟨gM, 0, none⟩ = some (.int .i64 m.kind) := M17.out.at_ 0
    go_wp2_with (first | (with_reducible refine wpList_load_whole_st Mr.isRec rfl _ rfl gM (by with_unfolding_all exact rfl) _ _ (Mr.len _) M17.out ?_) | (with_reducible refine wpList_load_whole_st Mr.isRec rfl _ rfl gO (by with_unfolding_all exact rfl) _ _ (Mr.len _) O17.out ?_))
    refine ((C8 w17).out).mono ?_
    rintro e18 w18 ⟨rfl, b18⟩
    have M18 : Hid (Mr.At w18 gM (Mg.raw ⟨m.kind, m.rid, 0, 0, 0, false, false, [], [], m.es, m.its⟩ e t)) := Lib.hid (Whole.below M17.out b18 M17.out.lt)
    have O18 : Hid (Mr.At w18 gO Mr.zero) := Lib.hid (Whole.below O17.out b18 O17.out.lt)
    have B18 := Lib.hid (B17.out.trans (b18.mono B17.out.size))
    clear b18 M17 O17 B17
    clear c
    go_wp2_with (first | (with_reducible refine wpList_load_whole_st Mr.isRec rfl _ rfl gM (by with_unfolding_all exact rfl) _ _ (Mr.len _) M18.out ?_) | (with_reducible refine wpList_load_whole_st Mr.isRec rfl _ rfl gO (by with_unfolding_all exact rfl) _ _ (Mr.len _) O18.out ?_) | (with_reducible refine wpList_put_cell 25 ⟨by kernel_rfl, by kernel_rfl⟩ rfl _ _ rfl gM 10 (by with_unfolding_all exact rfl) (.slice none 0 0) (by with_unfolding_all exact rfl) (by with_unfolding_all exact rfl) (by with_unfolding_all exact rfl) _ _ M18.out _ (by with_unfolding_all exact rfl) ?_))
    intro w19 q19 x19 z19
    have M19 : Hid (Mr.At w19 gM (Mg.raw ⟨m.kind, m.rid, 0, 0, 0, false, false, [], [], m.es, []⟩ e Row.nil)) := Lib.hid x19
    have O19 : Hid (Mr.At w19 gO Mr.zero) := Lib.hid (grown_far O18.out q19 (by have := N_M_O.out; omega))
    have B19 := Lib.hid (B18.out.grown q19 B18.out.size (fun k hk => by injection hk with hk; have := M_M.out; omega))
    clear q19 x19 z19 M18 O18 B18
    go_wp2_with (first | (with_reducible refine wpList_load_whole_st Mr.isRec rfl _ rfl gM (by with_unfolding_all exact rfl) _ _ (Mr.len _) M19.out ?_) | (with_reducible refine wpList_load_whole_st Mr.isRec rfl _ rfl gO (by with_unfolding_all exact rfl) _ _ (Mr.len _) O19.out ?_) | (with_reducible refine wpList_store_whole rfl 27 _ _ rfl gO (Mg.raw ⟨m.kind, m.rid, 0, 0, 0, false, false, [], [], m.es, []⟩ e Row.nil).enc.toArray (by with_unfolding_all exact rfl) (by with_unfolding_all exact rfl) _ _ O19.out (Mr.size _) rfl (Mr.one _) ?_))
    intro w20 q20 x20 z20
    have O20 : Hid (Mr.At w20 gO (Mg.raw ⟨m.kind, m.rid, 0, 0, 0, false, false, [], [], m.es, []⟩ e Row.nil)) := Lib.hid x20
    have M20 : Hid (Mr.At w20 gM (Mg.raw ⟨m.kind, m.rid, 0, 0, 0, false, false, [], [], m.es, []⟩ e Row.nil)) := Lib.hid (grown_far M19.out q20 (by have := N_M_O.out; omega))
    have B20 := Lib.hid (B19.out.grown q20 B19.out.size (fun k hk => by injection hk with hk; have := M_O.out; omega))
    clear q20 x20 z20 O19 M19 B19
    go_wp2
    exact bodyPost_ret (results_st Mr.isRec rfl _ _ _ _ _ rfl rfl O20.out) rfl ⟨e, Row.nil, by rw [HM.out]; rfl, by rw [HM.out]; exact ⟨(H.out.below B20.out).es, rows_nil _ 4⟩, B20.out⟩
  · have d0 : inK m.kind 0 = false := by rw [inK, hp]; decide
    have d1 : inK m.kind 1 = false := by rw [inK, hp]; decide
    have d2 : inK m.kind 2 = true := by rw [inK, hp]; decide
    have d3 : inK m.kind 3 = false := by rw [inK, hp]; decide
    have d4 : inK m.kind 4 = false := by rw [inK, hp]; decide
    have d5 : inK m.kind 5 = true := by rw [inK, hp]; decide
    have d6 : inK m.kind 6 = true := by rw [inK, hp]; decide
    have d7 : inK m.kind 7 = false := by rw [inK, hp]; decide
    have d8 : inK m.kind 8 = false := by rw [inK, hp]; decide
    simp only [d0, d1, d2, d3, d4, d5, d6, d7, d8] at HM C0 C1 C2 C3 C4 C5 C6 C7 C8
    clear d0 d1 d2 d3 d4 d5 d6 d7 d8 hp
    go_enter Try.func16, Try.ntmps16
    go_wp2_with (refine wpList_box_row rfl 27 _ rfl (m.raw e t).enc.toArray (by with_unfolding_all exact rfl) ?_)
    intro w1 b1 x1 z1
    obtain ⟨gM, hgM⟩ : ∃ g, g = w.heap.size := ⟨_, rfl⟩
    have M_M := Lib.hid (show w.heap.size ≤ gM from by rw [hgM]; exact Nat.le_refl _)
    have B1 := Lib.hid b1
    rw [← hgM] at x1 ⊢
    have M1 : Hid (Mr.At w1 gM (m.raw e t)) := Lib.hid x1
    clear b1 x1 z1 hgM 
    go_wp2_with (first | (with_reducible refine wpList_load_whole_st Mr.isRec rfl _ rfl gM (by with_unfolding_all exact rfl) _ _ (Mr.len _) M1.out ?_) | (refine wpList_alloc_row rfl 27 rfl Mr.zero.enc.toArray Mr.zero_is ?_))
    intro w2 b2 x2 z2
    obtain ⟨gO, hgO⟩ : ∃ g, g = w1.heap.size := ⟨_, rfl⟩
    have N_M_O := Lib.hid (show gM < gO from by rw [hgO]; exact M1.out.lt)
    have M_O := Lib.hid (show w.heap.size ≤ gO from by rw [hgO]; exact B1.out.size)
    have M2 : Hid (Mr.At w2 gM (m.raw e t)) := Lib.hid (Whole.below M1.out b2 M1.out.lt)
    have B2 := Lib.hid (B1.out.trans (b2.mono B1.out.size))
    rw [← hgO] at x2 ⊢
    have O2 : Hid (Mr.At w2 gO Mr.zero) := Lib.hid x2
    clear b2 x2 z2 hgO M1 B1
    have c : w2.cell? ⟨gM, 0, none⟩ = some (.int .i64 m.kind) := M2.out.at_ 0
    go_wp2_with (first | (with_reducible refine wpList_load_whole_st Mr.isRec rfl _ rfl gM (by with_unfolding_all exact rfl) _ _ (Mr.len _) M2.out ?_) | (with_reducible refine wpList_load_whole_st Mr.isRec rfl _ rfl gO (by with_unfolding_all exact rfl) _ _ (Mr.len _) O2.out ?_))
    refine ((C0 w2).out).mono ?_
    rintro e3 w3 ⟨rfl, b3⟩
    have M3 : Hid (Mr.At w3 gM (m.raw e t)) := Lib.hid (Whole.below M2.out b3 M2.out.lt)
    have O3 : Hid (Mr.At w3 gO Mr.zero) := Lib.hid (Whole.below O2.out b3 O2.out.lt)
    have B3 := Lib.hid (B2.out.trans (b3.mono B2.out.size))
    clear b3 M2 O2 B2
    clear c
    go_wp2_with (first | (with_reducible refine wpList_load_whole_st Mr.isRec rfl _ rfl gM (by with_unfolding_all exact rfl) _ _ (Mr.len _) M3.out ?_) | (with_reducible refine wpList_load_whole_st Mr.isRec rfl _ rfl gO (by with_unfolding_all exact rfl) _ _ (Mr.len _) O3.out ?_) | (with_reducible refine wpList_put_cell 22 ⟨by kernel_rfl, by kernel_rfl⟩ rfl _ _ rfl gM 3 (by with_unfolding_all exact rfl) (.int .i64 0) (by with_unfolding_all exact rfl) (by with_unfolding_all exact rfl) (by with_unfolding_all exact rfl) _ _ M3.out _ (by with_unfolding_all exact rfl) ?_))
    intro w4 q4 x4 z4
    have M4 : Hid (Mr.At w4 gM (Mg.raw ⟨m.kind, m.rid, m.ver, 0, m.id, m.has, m.gone, m.key, m.val, m.es, m.its⟩ e t)) := Lib.hid x4
    have O4 : Hid (Mr.At w4 gO Mr.zero) := Lib.hid (grown_far O3.out q4 (by have := N_M_O.out; omega))
    have B4 := Lib.hid (B3.out.grown q4 B3.out.size (fun k hk => by injection hk with hk; have := M_M.out; omega))
    clear q4 x4 z4 M3 O3 B3
    have c : w4.cell? ⟨gM, 0, none⟩ = some (.int .i64 m.kind) := M4.out.at_ 0
    go_wp2_with (first | (with_reducible refine wpList_load_whole_st Mr.isRec rfl _ rfl gM (by with_unfolding_all exact rfl) _ _ (Mr.len _) M4.out ?_) | (with_reducible refine wpList_load_whole_st Mr.isRec rfl _ rfl gO (by with_unfolding_all exact rfl) _ _ (Mr.len _) O4.out ?_))
    refine ((C1 w4).out).mono ?_
    rintro e5 w5 ⟨rfl, b5⟩
    have M5 : Hid (Mr.At w5 gM (Mg.raw ⟨m.kind, m.rid, m.ver, 0, m.id, m.has, m.gone, m.key, m.val, m.es, m.its⟩ e t)) := Lib.hid (Whole.below M4.out b5 M4.out.lt)
    have O5 : Hid (Mr.At w5 gO Mr.zero) := Lib.hid (Whole.below O4.out b5 O4.out.lt)
    have B5 := Lib.hid (B4.out.trans (b5.mono B4.out.size))
    clear b5 M4 O4 B4
    clear c
    go_wp2_with (first | (with_reducible refine wpList_load_whole_st Mr.isRec rfl _ rfl gM (by with_unfolding_all exact rfl) _ _ (Mr.len _) M5.out ?_) | (with_reducible refine wpList_load_whole_st Mr.isRec rfl _ rfl gO (by with_unfolding_all exact rfl) _ _ (Mr.len _) O5.out ?_) | (with_reducible refine wpList_put_cell 4 ⟨by kernel_rfl, by kernel_rfl⟩ rfl _ _ rfl gM 5 (by with_unfolding_all exact rfl) (.bool false) (by with_unfolding_all exact rfl) (by with_unfolding_all exact rfl) (by with_unfolding_all exact rfl) _ _ M5.out _ (by with_unfolding_all exact rfl) ?_))
    intro w6 q6 x6 z6
    have M6 : Hid (Mr.At w6 gM (Mg.raw ⟨m.kind, m.rid, m.ver, 0, m.id, false, m.gone, m.key, m.val, m.es, m.its⟩ e t)) := Lib.hid x6
    have O6 : Hid (Mr.At w6 gO Mr.zero) := Lib.hid (grown_far O5.out q6 (by have := N_M_O.out; omega))
    have B6 := Lib.hid (B5.out.grown q6 B5.out.size (fun k hk => by injection hk with hk; have := M_M.out; omega))
    clear q6 x6 z6 M5 O5 B5
    have c : w6.cell? ⟨gM, 0, none⟩ = some (.int .i64 m.kind) := M6.out.at_ 0
    go_wp2_with (first | (with_reducible refine wpList_load_whole_st Mr.isRec rfl _ rfl gM (by with_unfolding_all exact rfl) _ _ (Mr.len _) M6.out ?_) | (with_reducible refine wpList_load_whole_st Mr.isRec rfl _ rfl gO (by with_unfolding_all exact rfl) _ _ (Mr.len _) O6.out ?_))
    refine ((C2 w6).out).mono ?_
    rintro e7 w7 ⟨rfl, b7⟩
    have M7 : Hid (Mr.At w7 gM (Mg.raw ⟨m.kind, m.rid, m.ver, 0, m.id, false, m.gone, m.key, m.val, m.es, m.its⟩ e t)) := Lib.hid (Whole.below M6.out b7 M6.out.lt)
    have O7 : Hid (Mr.At w7 gO Mr.zero) := Lib.hid (Whole.below O6.out b7 O6.out.lt)
    have B7 := Lib.hid (B6.out.trans (b7.mono B6.out.size))
    clear b7 M6 O6 B6
    clear c
    have c : w7.cell? ⟨gM, 0, none⟩ = some (.int .i64 m.kind) := M7.out.at_ 0
    go_wp2_with (first | (with_reducible refine wpList_load_whole_st Mr.isRec rfl _ rfl gM (by with_unfolding_all exact rfl) _ _ (Mr.len _) M7.out ?_) | (with_reducible refine wpList_load_whole_st Mr.isRec rfl _ rfl gO (by with_unfolding_all exact rfl) _ _ (Mr.len _) O7.out ?_))
    refine ((C3 w7).out).mono ?_
    rintro e8 w8 ⟨rfl, b8⟩
    have M8 : Hid (Mr.At w8 gM (Mg.raw ⟨m.kind, m.rid, m.ver, 0, m.id, false, m.gone, m.key, m.val, m.es, m.its⟩ e t)) := Lib.hid (Whole.below M7.out b8 M7.out.lt)
    have O8 : Hid (Mr.At w8 gO Mr.zero) := Lib.hid (Whole.below O7.out b8 O7.out.lt)
    have B8 := Lib.hid (B7.out.trans (b8.mono B7.out.size))
    clear b8 M7 O7 B7
    clear c
    go_wp2_with (first | (with_reducible refine wpList_load_whole_st Mr.isRec rfl _ rfl gM (by with_unfolding_all exact rfl) _ _ (Mr.len _) M8.out ?_) | (with_reducible refine wpList_load_whole_st Mr.isRec rfl _ rfl gO (by with_unfolding_all exact rfl) _ _ (Mr.len _) O8.out ?_) | (with_reducible refine wpList_put_cell 23 ⟨by kernel_rfl, by kernel_rfl⟩ rfl _ _ rfl gM 4 (by with_unfolding_all exact rfl) (.int .u64 ((0 : Nat) : Int)) (by with_unfolding_all exact rfl) (by with_unfolding_all exact rfl) (by with_unfolding_all exact rfl) _ _ M8.out _ (by with_unfolding_all exact rfl) ?_))
    intro w9 q9 x9 z9
    have M9 : Hid (Mr.At w9 gM (Mg.raw ⟨m.kind, m.rid, m.ver, 0, 0, false, m.gone, m.key, m.val, m.es, m.its⟩ e t)) := Lib.hid x9
    have O9 : Hid (Mr.At w9 gO Mr.zero) := Lib.hid (grown_far O8.out q9 (by have := N_M_O.out; omega))
    have B9 := Lib.hid (B8.out.grown q9 B8.out.size (fun k hk => by injection hk with hk; have := M_M.out; omega))
    clear q9 x9 z9 M8 O8 B8
    have c : w9.cell? ⟨gM, 0, none⟩ = some (.int .i64 m.kind) := M9.out.at_ 0
    go_wp2_with (first | (with_reducible refine wpList_load_whole_st Mr.isRec rfl _ rfl gM (by with_unfolding_all exact rfl) _ _ (Mr.len _) M9.out ?_) | (with_reducible refine wpList_load_whole_st Mr.isRec rfl _ rfl gO (by with_unfolding_all exact rfl) _ _ (Mr.len _) O9.out ?_))
    refine ((C4 w9).out).mono ?_
    rintro e10 w10 ⟨rfl, b10⟩
    have M10 : Hid (Mr.At w10 gM (Mg.raw ⟨m.kind, m.rid, m.ver, 0, 0, false, m.gone, m.key, m.val, m.es, m.its⟩ e t)) := Lib.hid (Whole.below M9.out b10 M9.out.lt)
    have O10 : Hid (Mr.At w10 gO Mr.zero) := Lib.hid (Whole.below O9.out b10 O9.out.lt)
    have B10 := Lib.hid (B9.out.trans (b10.mono B9.out.size))
    clear b10 M9 O9 B9
    clear c
    go_wp2_with (first | (with_reducible refine wpList_load_whole_st Mr.isRec rfl _ rfl gM (by with_unfolding_all exact rfl) _ _ (Mr.len _) M10.out ?_) | (with_reducible refine wpList_load_whole_st Mr.isRec rfl _ rfl gO (by with_unfolding_all exact rfl) _ _ (Mr.len _) O10.out ?_) | (with_reducible refine wpList_put_cell 3 ⟨by kernel_rfl, by kernel_rfl⟩ rfl _ _ rfl gM 2 (by with_unfolding_all exact rfl) (.int .i64 0) (by with_unfolding_all exact rfl) (by with_unfolding_all exact rfl) (by with_unfolding_all exact rfl) _ _ M10.out _ (by with_unfolding_all exact rfl) ?_))
    intro w11 q11 x11 z11
    have M11 : Hid (Mr.At w11 gM (Mg.raw ⟨m.kind, m.rid, 0, 0, 0, false, m.gone, m.key, m.val, m.es, m.its⟩ e t)) := Lib.hid x11
    have O11 : Hid (Mr.At w11 gO Mr.zero) := Lib.hid (grown_far O10.out q11 (by have := N_M_O.out; omega))
    have B11 := Lib.hid (B10.out.grown q11 B10.out.size (fun k hk => by injection hk with hk; have := M_M.out; omega))
    clear q11 x11 z11 M10 O10 B10
    have c : w11.cell? ⟨gM, 0, none⟩ = some (.int .i64 m.kind) := M11.out.at_ 0
    go_wp2_with (first | (with_reducible refine wpList_load_whole_st Mr.isRec rfl _ rfl gM (by with_unfolding_all exact rfl) _ _ (Mr.len _) M11.out ?_) | (with_reducible refine wpList_load_whole_st Mr.isRec rfl _ rfl gO (by with_unfolding_all exact rfl) _ _ (Mr.len _) O11.out ?_))
    refine ((C5 w11).out).mono ?_
    rintro e12 w12 ⟨rfl, b12⟩
    have M12 : Hid (Mr.At w12 gM (Mg.raw ⟨m.kind, m.rid, 0, 0, 0, false, m.gone, m.key, m.val, m.es, m.its⟩ e t)) := Lib.hid (Whole.below M11.out b12 M11.out.lt)
    have O12 : Hid (Mr.At w12 gO Mr.zero) := Lib.hid (Whole.below O11.out b12 O11.out.lt)
    have B12 := Lib.hid (B11.out.trans (b12.mono B11.out.size))
    clear b12 M11 O11 B11
    clear c
    have c : w12.cell? ⟨gM, 0, none⟩ = some (.int .i64 m.kind) := M12.out.at_ 0
    go_wp2_with (first | (with_reducible refine wpList_load_whole_st Mr.isRec rfl _ rfl gM (by with_unfolding_all exact rfl) _ _ (Mr.len _) M12.out ?_) | (with_reducible refine wpList_load_whole_st Mr.isRec rfl _ rfl gO (by with_unfolding_all exact rfl) _ _ (Mr.len _) O12.out ?_))
    refine ((C6 w12).out).mono ?_
    rintro e13 w13 ⟨rfl, b13⟩
    have M13 : Hid (Mr.At w13 gM (Mg.raw ⟨m.kind, m.rid, 0, 0, 0, false, m.gone, m.key, m.val, m.es, m.its⟩ e t)) := Lib.hid (Whole.below M12.out b13 M12.out.lt)
    have O13 : Hid (Mr.At w13 gO Mr.zero) := Lib.hid (Whole.below O12.out b13 O12.out.lt)
    have B13 := Lib.hid (B12.out.trans (b13.mono B12.out.size))
    clear b13 M12 O12 B12
    clear c
    have c : w13.cell? ⟨gM, 0, none⟩ = some (.int .i64 m.kind) := M13.out.at_ 0
    go_wp2_with (first | (with_reducible refine wpList_load_whole_st Mr.isRec rfl _ rfl gM (by with_unfolding_all exact rfl) _ _ (Mr.len _) M13.out ?_) | (with_reducible refine wpList_load_whole_st Mr.isRec rfl _ rfl gO (by with_unfolding_all exact rfl) _ _ (Mr.len _) O13.out ?_))
    refine ((C7 w13).out).mono ?_
    rintro e14 w14 ⟨rfl, b14⟩
    have M14 : Hid (Mr.At w14 gM (Mg.raw ⟨m.kind, m.rid, 0, 0, 0, false, m.gone, m.key, m.val, m.es, m.its⟩ e t)) := Lib.hid (Whole.below M13.out b14 M13.out.lt)
    have O14 : Hid (Mr.At w14 gO Mr.zero) := Lib.hid (Whole.below O13.out b14 O13.out.lt)
    have B14 := Lib.hid (B13.out.trans (b14.mono B13.out.size))
    clear b14 M13 O13 B13
    clear c
    go_wp2_with (first | (with_reducible refine wpList_load_whole_st Mr.isRec rfl _ rfl gM (by with_unfolding_all exact rfl) _ _ (Mr.len _) M14.out ?_) | (with_reducible refine wpList_load_whole_st Mr.isRec rfl _ rfl gO (by with_unfolding_all exact rfl) _ _ (Mr.len _) O14.out ?_) | (with_reducible refine wpList_put_cell 24 ⟨by kernel_rfl, by kernel_rfl⟩ rfl _ _ rfl gM 9 (by with_unfolding_all exact rfl) (.slice none 0 0) (by with_unfolding_all exact rfl) (by with_unfolding_all exact rfl) (by with_unfolding_all exact rfl) _ _ M14.out _ (by with_unfolding_all exact rfl) ?_))
    intro w15 q15 x15 z15
    have M15 : Hid (Mr.At w15 gM (Mg.raw ⟨m.kind, m.rid, 0, 0, 0, false, m.gone, m.key, m.val, [], m.its⟩ Row.nil t)) := Lib.hid x15
    have O15 : Hid (Mr.At w15 gO Mr.zero) := Lib.hid (grown_far O14.out q15 (by have := N_M_O.out; omega))
    have B15 := Lib.hid (B14.out.grown q15 B14.out.size (fun k hk => by injection hk with hk; have := M_M.out; omega))
    clear q15 x15 z15 M14 O14 B14
    have c : w15.cell? ⟨gM, 0, none⟩ = some (.int .i64 m.kind) := M15.out.at_ 0
    go_wp2_with (first | (with_reducible refine wpList_load_whole_st Mr.isRec rfl _ rfl gM (by with_unfolding_all exact rfl) _ _ (Mr.len _) M15.out ?_) | (with_reducible refine wpList_load_whole_st Mr.isRec rfl _ rfl gO (by with_unfolding_all exact rfl) _ _ (Mr.len _) O15.out ?_))
    refine ((C8 w15).out).mono ?_
    rintro e16 w16 ⟨rfl, b16⟩
    have M16 : Hid (Mr.At w16 gM (Mg.raw ⟨m.kind, m.rid, 0, 0, 0, false, m.gone, m.key, m.val, [], m.its⟩ Row.nil t)) := Lib.hid (Whole.below M15.out b16 M15.out.lt)
    have O16 : Hid (Mr.At w16 gO Mr.zero) := Lib.hid (Whole.below O15.out b16 O15.out.lt)
    have B16 := Lib.hid (B15.out.trans (b16.mono B15.out.size))
    clear b16 M15 O15 B15
    clear c
    go_wp2_with (first | (with_reducible refine wpList_load_whole_st Mr.isRec rfl _ rfl gM (by with_unfolding_all exact rfl) _ _ (Mr.len _) M16.out ?_) | (with_reducible refine wpList_load_whole_st Mr.isRec rfl _ rfl gO (by with_unfolding_all exact rfl) _ _ (Mr.len _) O16.out ?_) | (with_reducible refine wpList_put_cell 25 ⟨by kernel_rfl, by kernel_rfl⟩ rfl _ _ rfl gM 10 (by with_unfolding_all exact rfl) (.slice none 0 0) (by with_unfolding_all exact rfl) (by with_unfolding_all exact rfl) (by with_unfolding_all exact rfl) _ _ M16.out _ (by with_unfolding_all exact rfl) ?_))
    intro w17 q17 x17 z17
    have M17 : Hid (Mr.At w17 gM (Mg.raw ⟨m.kind, m.rid, 0, 0, 0, false, m.gone, m.key, m.val, [], []⟩ Row.nil Row.nil)) := Lib.hid x17
    have O17 : Hid (Mr.At w17 gO Mr.zero) := Lib.hid (grown_far O16.out q17 (by have := N_M_O.out; omega))
    have B17 := Lib.hid (B16.out.grown q17 B16.out.size (fun k hk => by injection hk with hk; have := M_M.out; omega))
    clear q17 x17 z17 M16 O16 B16
    go_wp2_with (first | (with_reducible refine wpList_load_whole_st Mr.isRec rfl _ rfl gM (by with_unfolding_all exact rfl) _ _ (Mr.len _) M17.out ?_) | (with_reducible refine wpList_load_whole_st Mr.isRec rfl _ rfl gO (by with_unfolding_all exact rfl) _ _ (Mr.len _) O17.out ?_) | (with_reducible refine wpList_store_whole rfl 27 _ _ rfl gO (Mg.raw ⟨m.kind, m.rid, 0, 0, 0, false, m.gone, m.key, m.val, [], []⟩ Row.nil Row.nil).enc.toArray (by with_unfolding_all exact rfl) (by with_unfolding_all exact rfl) _ _ O17.out (Mr.size _) rfl (Mr.one _) ?_))
    intro w18 q18 x18 z18
    have O18 : Hid (Mr.At w18 gO (Mg.raw ⟨m.kind, m.rid, 0, 0, 0, false, m.gone, m.key, m.val, [], []⟩ Row.nil Row.nil)) := Lib.hid x18
    have M18 : Hid (Mr.At w18 gM (Mg.raw ⟨m.kind, m.rid, 0, 0, 0, false, m.gone, m.key, m.val, [], []⟩ Row.nil Row.nil)) := Lib.hid (grown_far M17.out q18 (by have := N_M_O.out; omega))
    have B18 := Lib.hid (B17.out.grown q18 B17.out.size (fun k hk => by injection hk with hk; have := M_O.out; omega))
    clear q18 x18 z18 O17 M17 B17
    go_wp2
    exact bodyPost_ret (results_st Mr.isRec rfl _ _ _ _ _ rfl rfl O18.out) rfl ⟨Row.nil, Row.nil, by rw [HM.out]; rfl, by rw [HM.out]; exact ⟨rows_nil _ 6, rows_nil _ 4⟩, B18.out⟩
  · have d0 : inK m.kind 0 = true := by rw [inK, hp]; decide
    have d1 : inK m.kind 1 = false := by rw [inK, hp]; decide
    have d2 : inK m.kind 2 = false := by rw [inK, hp]; decide
    have d3 : inK m.kind 3 = false := by rw [inK, hp]; decide
    have d4 : inK m.kind 4 = true := by rw [inK, hp]; decide
    have d5 : inK m.kind 5 = false := by rw [inK, hp]; decide
    have d6 : inK m.kind 6 = false := by rw [inK, hp]; decide
    have d7 : inK m.kind 7 = false := by rw [inK, hp]; decide
    have d8 : inK m.kind 8 = false := by rw [inK, hp]; decide
    simp only [d0, d1, d2, d3, d4, d5, d6, d7, d8] at HM C0 C1 C2 C3 C4 C5 C6 C7 C8
    clear d0 d1 d2 d3 d4 d5 d6 d7 d8 hp
    go_enter Try.func16, Try.ntmps16
    go_wp2_with (refine wpList_box_row rfl 27 _ rfl (m.raw e t).enc.toArray (by with_unfolding_all exact rfl) ?_)
    intro w1 b1 x1 z1
    obtain ⟨gM, hgM⟩ : ∃ g, g = w.heap.size := ⟨_, rfl⟩
    have M_M := Lib.hid (show w.heap.size ≤ gM from by rw [hgM]; exact Nat.le_refl _)
    have B1 := Lib.hid b1
    rw [← hgM] at x1 ⊢
    have M1 : Hid (Mr.At w1 gM (m.raw e t)) := Lib.hid x1
    clear b1 x1 z1 hgM 
    go_wp2_with (first | (with_reducible refine wpList_load_whole_st Mr.isRec rfl _ rfl gM (by with_unfolding_all exact rfl) _ _ (Mr.len _) M1.out ?_) | (refine wpList_alloc_row rfl 27 rfl Mr.zero.enc.toArray Mr.zero_is ?_))
    intro w2 b2 x2 z2
    obtain ⟨gO, hgO⟩ : ∃ g, g = w1.heap.size := ⟨_, rfl⟩
    have N_M_O := Lib.hid (show gM < gO from by rw [hgO]; exact M1.out.lt)
    have M_O := Lib.hid (show w.heap.size ≤ gO from by rw [hgO]; exact B1.out.size)
    have M2 : Hid (Mr.At w2 gM (m.raw e t)) := Lib.hid (Whole.below M1.out b2 M1.out.lt)
    have B2 := Lib.hid (B1.out.trans (b2.mono B1.out.size))
    rw [← hgO] at x2 ⊢
    have O2 : Hid (Mr.At w2 gO Mr.zero) := Lib.hid x2
    clear b2 x2 z2 hgO M1 B1
    have c : w2.cell? ⟨gM, 0, none⟩ = some (.int .i64 m.kind) := M2.out.at_ 0
    go_wp2_with (first | (with_reducible refine wpList_load_whole_st Mr.isRec rfl _ rfl gM (by with_unfolding_all exact rfl) _ _ (Mr.len _) M2.out ?_) | (with_reducible refine wpList_load_whole_st Mr.isRec rfl _ rfl gO (by with_unfolding_all exact rfl) _ _ (Mr.len _) O2.out ?_))
    refine ((C0 w2).out).mono ?_
    rintro e3 w3 ⟨rfl, b3⟩
    have M3 : Hid (Mr.At w3 gM (m.raw e t)) := Lib.hid (Whole.below M2.out b3 M2.out.lt)
    have O3 : Hid (Mr.At w3 gO Mr.zero) := Lib.hid (Whole.below O2.out b3 O2.out.lt)
    have B3 := Lib.hid (B2.out.trans (b3.mono B2.out.size))
    clear b3 M2 O2 B2
    clear c
    have c : w3.cell? ⟨gM, 0, none⟩ = some (.int .i64 m.kind) := M3.out.at_ 0
    go_wp2_with (first | (with_reducible refine wpList_load_whole_st Mr.isRec rfl _ rfl gM (by with_unfolding_all exact rfl) _ _ (Mr.len _) M3.out ?_) | (with_reducible refine wpList_load_whole_st Mr.isRec rfl _ rfl gO (by with_unfolding_all exact rfl) _ _ (Mr.len _) O3.out ?_))
    refine ((C1 w3).out).mono ?_
    rintro e4 w4 ⟨rfl, b4⟩
    have M4 : Hid (Mr.At w4 gM (m.raw e t)) := Lib.hid (Whole.below M3.out b4 M3.out.lt)
    have O4 : Hid (Mr.At w4 gO Mr.zero) := Lib.hid (Whole.below O3.out b4 O3.out.lt)
    have B4 := Lib.hid (B3.out.trans (b4.mono B3.out.size))
    clear b4 M3 O3 B3
    clear c
    go_wp2_with (first | (with_reducible refine wpList_load_whole_st Mr.isRec rfl _ rfl gM (by with_unfolding_all exact rfl) _ _ (Mr.len _) M4.out ?_) | (with_reducible refine wpList_load_whole_st Mr.isRec rfl _ rfl gO (by with_unfolding_all exact rfl) _ _ (Mr.len _) O4.out ?_) | (with_reducible refine wpList_put_cell 4 ⟨by kernel_rfl, by kernel_rfl⟩ rfl _ _ rfl gM 5 (by with_unfolding_all exact rfl) (.bool false) (by with_unfolding_all exact rfl) (by with_unfolding_all exact rfl) (by with_unfolding_all exact rfl) _ _ M4.out _ (by with_unfolding_all exact rfl) ?_))
    intro w5 q5 x5 z5
    have M5 : Hid (Mr.At w5 gM (Mg.raw ⟨m.kind, m.rid, m.ver, m.error, m.id, false, m.gone, m.key, m.val, m.es, m.its⟩ e t)) := Lib.hid x5
    have O5 : Hid (Mr.At w5 gO Mr.zero) := Lib.hid (grown_far O4.out q5 (by have := N_M_O.out; omega))
    have B5 := Lib.hid (B4.out.grown q5 B4.out.size (fun k hk => by injection hk with hk; have := M_M.out; omega))
    clear q5 x5 z5 M4 O4 B4
    have c : w5.cell? ⟨gM, 0, none⟩ = some (.int .i64 m.kind) := M5.out.at_ 0
    go_wp2_with (first | (with_reducible refine wpList_load_whole_st Mr.isRec rfl _ rfl gM (by with_unfolding_all exact rfl) _ _ (Mr.len _) M5.out ?_) | (with_reducible refine wpList_load_whole_st Mr.isRec rfl _ rfl gO (by with_unfolding_all exact rfl) _ _ (Mr.len _) O5.out ?_))
    refine ((C2 w5).out).mono ?_
    rintro e6 w6 ⟨rfl, b6⟩
    have M6 : Hid (Mr.At w6 gM (Mg.raw ⟨m.kind, m.rid, m.ver, m.error, m.id, false, m.gone, m.key, m.val, m.es, m.its⟩ e t)) := Lib.hid (Whole.below M5.out b6 M5.out.lt)
    have O6 : Hid (Mr.At w6 gO Mr.zero) := Lib.hid (Whole.below O5.out b6 O5.out.lt)
    have B6 := Lib.hid (B5.out.trans (b6.mono B5.out.size))
    clear b6 M5 O5 B5
    clear c
    go_wp2_with (first | (with_reducible refine wpList_load_whole_st Mr.isRec rfl _ rfl gM (by with_unfolding_all exact rfl) _ _ (Mr.len _) M6.out ?_) | (with_reducible refine wpList_load_whole_st Mr.isRec rfl _ rfl gO (by with_unfolding_all exact rfl) _ _ (Mr.len _) O6.out ?_) | (with_reducible refine wpList_put_cell 4 ⟨by kernel_rfl, by kernel_rfl⟩ rfl _ _ rfl gM 6 (by with_unfolding_all exact rfl) (.bool false) (by with_unfolding_all exact rfl) (by with_unfolding_all exact rfl) (by with_unfolding_all exact rfl) _ _ M6.out _ (by with_unfolding_all exact rfl) ?_))
    intro w7 q7 x7 z7
    have M7 : Hid (Mr.At w7 gM (Mg.raw ⟨m.kind, m.rid, m.ver, m.error, m.id, false, false, m.key, m.val, m.es, m.its⟩ e t)) := Lib.hid x7
    have O7 : Hid (Mr.At w7 gO Mr.zero) := Lib.hid (grown_far O6.out q7 (by have := N_M_O.out; omega))
    have B7 := Lib.hid (B6.out.grown q7 B6.out.size (fun k hk => by injection hk with hk; have := M_M.out; omega))
    clear q7 x7 z7 M6 O6 B6
    have c : w7.cell? ⟨gM, 0, none⟩ = some (.int .i64 m.kind) := M7.out.at_ 0
    go_wp2_with (first | (with_reducible refine wpList_load_whole_st Mr.isRec rfl _ rfl gM (by with_unfolding_all exact rfl) _ _ (Mr.len _) M7.out ?_) | (with_reducible refine wpList_load_whole_st Mr.isRec rfl _ rfl gO (by with_unfolding_all exact rfl) _ _ (Mr.len _) O7.out ?_))
    refine ((C3 w7).out).mono ?_
    rintro e8 w8 ⟨rfl, b8⟩
    have M8 : Hid (Mr.At w8 gM (Mg.raw ⟨m.kind, m.rid, m.ver, m.error, m.id, false, false, m.key, m.val, m.es, m.its⟩ e t)) := Lib.hid (Whole.below M7.out b8 M7.out.lt)
    have O8 : Hid (Mr.At w8 gO Mr.zero) := Lib.hid (Whole.below O7.out b8 O7.out.lt)
    have B8 := Lib.hid (B7.out.trans (b8.mono B7.out.size))
    clear b8 M7 O7 B7
    clear c
    go_wp2_with (first | (with_reducible refine wpList_load_whole_st Mr.isRec rfl _ rfl gM (by with_unfolding_all exact rfl) _ _ (Mr.len _) M8.out ?_) | (with_reducible refine wpList_load_whole_st Mr.isRec rfl _ rfl gO (by with_unfolding_all exact rfl) _ _ (Mr.len _) O8.out ?_) | (with_reducible refine wpList_put_cell 23 ⟨by kernel_rfl, by kernel_rfl⟩ rfl _ _ rfl gM 4 (by with_unfolding_all exact rfl) (.int .u64 ((0 : Nat) : Int)) (by with_unfolding_all exact rfl) (by with_unfolding_all exact rfl) (by with_unfolding_all exact rfl) _ _ M8.out _ (by with_unfolding_all exact rfl) ?_))
    intro w9 q9 x9 z9
    have M9 : Hid (Mr.At w9 gM (Mg.raw ⟨m.kind, m.rid, m.ver, m.error, 0, false, false, m.key, m.val, m.es, m.its⟩ e t)) := Lib.hid x9
    have O9 : Hid (Mr.At w9 gO Mr.zero) := Lib.hid (grown_far O8.out q9 (by have := N_M_O.out; omega))
    have B9 := Lib.hid (B8.out.grown q9 B8.out.size (fun k hk => by injection hk with hk; have := M_M.out; omega))
    clear q9 x9 z9 M8 O8 B8
    have c : w9.cell? ⟨gM, 0, none⟩ = some (.int .i64 m.kind) := M9.out.at_ 0
    go_wp2_with (first | (with_reducible refine wpList_load_whole_st Mr.isRec rfl _ rfl gM (by with_unfolding_all exact rfl) _ _ (Mr.len _) M9.out ?_) | (with_reducible refine wpList_load_whole_st Mr.isRec rfl _ rfl gO (by with_unfolding_all exact rfl) _ _ (Mr.len _) O9.out ?_))
    refine ((C4 w9).out).mono ?_
    rintro e10 w10 ⟨rfl, b10⟩
    have M10 : Hid (Mr.At w10 gM (Mg.raw ⟨m.kind, m.rid, m.ver, m.error, 0, false, false, m.key, m.val, m.es, m.its⟩ e t)) := Lib.hid (Whole.below M9.out b10 M9.out.lt)
    have O10 : Hid (Mr.At w10 gO Mr.zero) := Lib.hid (Whole.below O9.out b10 O9.out.lt)
    have B10 := Lib.hid (B9.out.trans (b10.mono B9.out.size))
    clear b10 M9 O9 B9
    clear c
    have c : w10.cell? ⟨gM, 0, none⟩ = some (.int .i64 m.kind) := M10.out.at_ 0
    go_wp2_with (first | (with_reducible refine wpList_load_whole_st Mr.isRec rfl _ rfl gM (by with_unfolding_all exact rfl) _ _ (Mr.len _) M10.out ?_) | (with_reducible refine wpList_load_whole_st Mr.isRec rfl _ rfl gO (by with_unfolding_all exact rfl) _ _ (Mr.len _) O10.out ?_))
    refine ((C5 w10).out).mono ?_
    rintro e11 w11 ⟨rfl, b11⟩
    have M11 : Hid (Mr.At w11 gM (Mg.raw ⟨m.kind, m.rid, m.ver, m.error, 0, false, false, m.key, m.val, m.es, m.its⟩ e t)) := Lib.hid (Whole.below M10.out b11 M10.out.lt)
    have O11 : Hid (Mr.At w11 gO Mr.zero) := Lib.hid (Whole.below O10.out b11 O10.out.lt)
    have B11 := Lib.hid (B10.out.trans (b11.mono B10.out.size))
    clear b11 M10 O10 B10
    clear c
    go_wp2_with (first | (with_reducible refine wpList_load_whole_st Mr.isRec rfl _ rfl gM (by with_unfolding_all exact rfl) _ _ (Mr.len _) M11.out ?_) | (with_reducible refine wpList_load_whole_st Mr.isRec rfl _ rfl gO (by with_unfolding_all exact rfl) _ _ (Mr.len _) O11.out ?_) | (with_reducible refine wpList_put_cell 9 ⟨by kernel_rfl, by kernel_rfl⟩ rfl _ _ rfl gM 7 (by with_unfolding_all exact rfl) (.string ⟨([] : List UInt8).toArray⟩) (by with_unfolding_all exact rfl) (by with_unfolding_all exact rfl) (by with_unfolding_all exact rfl) _ _ M11.out _ (by with_unfolding_all exact rfl) ?_))
    intro w12 q12 x12 z12
    have M12 : Hid (Mr.At w12 gM (Mg.raw ⟨m.kind, m.rid, m.ver, m.error, 0, false, false, [], m.val, m.es, m.its⟩ e t)) := Lib.hid x12
    have O12 : Hid (Mr.At w12 gO Mr.zero) := Lib.hid (grown_far O11.out q12 (by have := N_M_O.out; omega))
    have B12 := Lib.hid (B11.out.grown q12 B11.out.size (fun k hk => by injection hk with hk; have := M_M.out; omega))
    clear q12 x12 z12 M11 O11 B11
    have c : w12.cell? ⟨gM, 0, none⟩ = some (.int .i64 m.kind) := M12.out.at_ 0
    go_wp2_with (first | (with_reducible refine wpList_load_whole_st Mr.isRec rfl _ rfl gM (by with_unfolding_all exact rfl) _ _ (Mr.len _) M12.out ?_) | (with_reducible refine wpList_load_whole_st Mr.isRec rfl _ rfl gO (by with_unfolding_all exact rfl) _ _ (Mr.len _) O12.out ?_))
    refine ((C6 w12).out).mono ?_
    rintro e13 w13 ⟨rfl, b13⟩
    have M13 : Hid (Mr.At w13 gM (Mg.raw ⟨m.kind, m.rid, m.ver, m.error, 0, false, false, [], m.val, m.es, m.its⟩ e t)) := Lib.hid (Whole.below M12.out b13 M12.out.lt)
    have O13 : Hid (Mr.At w13 gO Mr.zero) := Lib.hid (Whole.below O12.out b13 O12.out.lt)
    have B13 := Lib.hid (B12.out.trans (b13.mono B12.out.size))
    clear b13 M12 O12 B12
    clear c
    go_wp2_with (first | (with_reducible refine wpList_load_whole_st Mr.isRec rfl _ rfl gM (by with_unfolding_all exact rfl) _ _ (Mr.len _) M13.out ?_) | (with_reducible refine wpList_load_whole_st Mr.isRec rfl _ rfl gO (by with_unfolding_all exact rfl) _ _ (Mr.len _) O13.out ?_) | (with_reducible refine wpList_put_cell 9 ⟨by kernel_rfl, by kernel_rfl⟩ rfl _ _ rfl gM 8 (by with_unfolding_all exact rfl) (.string ⟨([] : List UInt8).toArray⟩) (by with_unfolding_all exact rfl) (by with_unfolding_all exact rfl) (by with_unfolding_all exact rfl) _ _ M13.out _ (by with_unfolding_all exact rfl) ?_))
    intro w14 q14 x14 z14
    have M14 : Hid (Mr.At w14 gM (Mg.raw ⟨m.kind, m.rid, m.ver, m.error, 0, false, false, [], [], m.es, m.its⟩ e t)) := Lib.hid x14
    have O14 : Hid (Mr.At w14 gO Mr.zero) := Lib.hid (grown_far O13.out q14 (by have := N_M_O.out; omega))
    have B14 := Lib.hid (B13.out.grown q14 B13.out.size (fun k hk => by injection hk with hk; have := M_M.out; omega))
    clear q14 x14 z14 M13 O13 B13
    have c : w14.cell? ⟨gM, 0, none⟩ = some (.int .i64 m.kind) := M14.out.at_ 0
    go_wp2_with (first | (with_reducible refine wpList_load_whole_st Mr.isRec rfl _ rfl gM (by with_unfolding_all exact rfl) _ _ (Mr.len _) M14.out ?_) | (with_reducible refine wpList_load_whole_st Mr.isRec rfl _ rfl gO (by with_unfolding_all exact rfl) _ _ (Mr.len _) O14.out ?_))
    refine ((C7 w14).out).mono ?_
    rintro e15 w15 ⟨rfl, b15⟩
    have M15 : Hid (Mr.At w15 gM (Mg.raw ⟨m.kind, m.rid, m.ver, m.error, 0, false, false, [], [], m.es, m.its⟩ e t)) := Lib.hid (Whole.below M14.out b15 M14.out.lt)
    have O15 : Hid (Mr.At w15 gO Mr.zero) := Lib.hid (Whole.below O14.out b15 O14.out.lt)
    have B15 := Lib.hid (B14.out.trans (b15.mono B14.out.size))
    clear b15 M14 O14 B14
    clear c
    go_wp2_with (first | (with_reducible refine wpList_load_whole_st Mr.isRec rfl _ rfl gM (by with_unfolding_all exact rfl) _ _ (Mr.len _) M15.out ?_) | (with_reducible refine wpList_load_whole_st Mr.isRec rfl _ rfl gO (by with_unfolding_all exact rfl) _ _ (Mr.len _) O15.out ?_) | (with_reducible refine wpList_put_cell 24 ⟨by kernel_rfl, by kernel_rfl⟩ rfl _ _ rfl gM 9 (by with_unfolding_all exact rfl) (.slice none 0 0) (by with_unfolding_all exact rfl) (by with_unfolding_all exact rfl) (by with_unfolding_all exact rfl) _ _ M15.out _ (by with_unfolding_all exact rfl) ?_))
    intro w16 q16 x16 z16
    have M16 : Hid (Mr.At w16 gM (Mg.raw ⟨m.kind, m.rid, m.ver, m.error, 0, false, false, [], [], [], m.its⟩ Row.nil t)) := Lib.hid x16
    have O16 : Hid (Mr.At w16 gO Mr.zero) := Lib.hid (grown_far O15.out q16 (by have := N_M_O.out; omega))
    have B16 := Lib.hid (B15.out.grown q16 B15.out.size (fun k hk => by injection hk with hk; have := M_M.out; omega))
    clear q16 x16 z16 M15 O15 B15
    have c : w16.cell? ⟨gM, 0, none⟩ = some (.int .i64 m.kind) := M16.out.at_ 0
    go_wp2_with (first | (with_reducible refine wpList_load_whole_st Mr.isRec rfl _ rfl gM (by with_unfolding_all exact rfl) _ _ (Mr.len _) M16.out ?_) | (with_reducible refine wpList_load_whole_st Mr.isRec rfl _ rfl gO (by with_unfolding_all exact rfl) _ _ (Mr.len _) O16.out ?_))
    refine ((C8 w16).out).mono ?_
    rintro e17 w17 ⟨rfl, b17⟩
    have M17 : Hid (Mr.At w17 gM (Mg.raw ⟨m.kind, m.rid, m.ver, m.error, 0, false, false, [], [], [], m.its⟩ Row.nil t)) := Lib.hid (Whole.below M16.out b17 M16.out.lt)
    have O17 : Hid (Mr.At w17 gO Mr.zero) := Lib.hid (Whole.below O16.out b17 O16.out.lt)
    have B17 := Lib.hid (B16.out.trans (b17.mono B16.out.size))
    clear b17 M16 O16 B16
    clear c
    go_wp2_with (first | (with_reducible refine wpList_load_whole_st Mr.isRec rfl _ rfl gM (by with_unfolding_all exact rfl) _ _ (Mr.len _) M17.out ?_) | (with_reducible refine wpList_load_whole_st Mr.isRec rfl _ rfl gO (by with_unfolding_all exact rfl) _ _ (Mr.len _) O17.out ?_) | (with_reducible refine wpList_put_cell 25 ⟨by kernel_rfl, by kernel_rfl⟩ rfl _ _ rfl gM 10 (by with_unfolding_all exact rfl) (.slice none 0 0) (by with_unfolding_all exact rfl) (by with_unfolding_all exact rfl) (by with_unfolding_all exact rfl) _ _ M17.out _ (by with_unfolding_all exact rfl) ?_))
    intro w18 q18 x18 z18
    have M18 : Hid (Mr.At w18 gM (Mg.raw ⟨m.kind, m.rid, m.ver, m.error, 0, false, false, [], [], [], []⟩ Row.nil Row.nil)) := Lib.hid x18
    have O18 : Hid (Mr.At w18 gO Mr.zero) := Lib.hid (grown_far O17.out q18 (by have := N_M_O.out; omega))
    have B18 := Lib.hid (B17.out.grown q18 B17.out.size (fun k hk => by injection hk with hk; have := M_M.out; omega))
    clear q18 x18 z18 M17 O17 B17
    go_wp2_with (first | (with_reducible refine wpList_load_whole_st Mr.isRec rfl _ rfl gM (by with_unfolding_all exact rfl) _ _ (Mr.len _) M18.out ?_) | (with_reducible refine wpList_load_whole_st Mr.isRec rfl _ rfl gO (by with_unfolding_all exact rfl) _ _ (Mr.len _) O18.out ?_) | (with_reducible refine wpList_store_whole rfl 27 _ _ rfl gO (Mg.raw ⟨m.kind, m.rid, m.ver, m.error, 0, false, false, [], [], [], []⟩ Row.nil Row.nil).enc.toArray (by with_unfolding_all exact rfl) (by with_unfolding_all exact rfl) _ _ O18.out (Mr.size _) rfl (Mr.one _) ?_))
    intro w19 q19 x19 z19
    have O19 : Hid (Mr.At w19 gO (Mg.raw ⟨m.kind, m.rid, m.ver, m.error, 0, false, false, [], [], [], []⟩ Row.nil Row.nil)) := Lib.hid x19
    have M19 : Hid (Mr.At w19 gM (Mg.raw ⟨m.kind, m.rid, m.ver, m.error, 0, false, false, [], [], [], []⟩ Row.nil Row.nil)) := Lib.hid (grown_far M18.out q19 (by have := N_M_O.out; omega))
    have B19 := Lib.hid (B18.out.grown q19 B18.out.size (fun k hk => by injection hk with hk; have := M_O.out; omega))
    clear q19 x19 z19 O18 M18 B18
    go_wp2
    exact bodyPost_ret (results_st Mr.isRec rfl _ _ _ _ _ rfl rfl O19.out) rfl ⟨Row.nil, Row.nil, by rw [HM.out]; rfl, by rw [HM.out]; exact ⟨rows_nil _ 6, rows_nil _ 4⟩, B19.out⟩
  · have d0 : inK m.kind 0 = false := by rw [inK, hp]; decide
    have d1 : inK m.kind 1 = false := by rw [inK, hp]; decide
    have d2 : inK m.kind 2 = false := by rw [inK, hp]; decide
    have d3 : inK m.kind 3 = false := by rw [inK, hp]; decide
    have d4 : inK m.kind 4 = false := by rw [inK, hp]; decide
    have d5 : inK m.kind 5 = true := by rw [inK, hp]; decide
    have d6 : inK m.kind 6 = false := by rw [inK, hp]; decide
    have d7 : inK m.kind 7 = false := by rw [inK, hp]; decide
    have d8 : inK m.kind 8 = false := by rw [inK, hp]; decide
    simp only [d0, d1, d2, d3, d4, d5, d6, d7, d8] at HM C0 C1 C2 C3 C4 C5 C6 C7 C8
    clear d0 d1 d2 d3 d4 d5 d6 d7 d8 hp
    go_enter Try.func16, Try.ntmps16
    go_wp2_with (refine wpList_box_row rfl 27 _ rfl (m.raw e t).enc.toArray (by with_unfolding_all exact rfl) ?_)
    intro w1 b1 x1 z1
    obtain ⟨gM, hgM⟩ : ∃ g, g = w.heap.size := ⟨_, rfl⟩
    have M_M := Lib.hid (show w.heap.size ≤ gM from by rw [hgM]; exact Nat.le_refl _)
    have B1 := Lib.hid b1
    rw [← hgM] at x1 ⊢
    have M1 : Hid (Mr.At w1 gM (m.raw e t)) := Lib.hid x1
    clear b1 x1 z1 hgM 
    go_wp2_with (first | (with_reducible refine wpList_load_whole_st Mr.isRec rfl _ rfl gM (by with_unfolding_all exact rfl) _ _ (Mr.len _) M1.out ?_) | (refine wpList_alloc_row rfl 27 rfl Mr.zero.enc.toArray Mr.zero_is ?_))
    intro w2 b2 x2 z2
    obtain ⟨gO, hgO⟩ : ∃ g, g = w1.heap.size := ⟨_, rfl⟩
    have N_M_O := Lib.hid (show gM < gO from by rw [hgO]; exact M1.out.lt)
    have M_O := Lib.hid (show w.heap.size ≤ gO from by rw [hgO]; exact B1.out.size)
    have M2 : Hid (Mr.At w2 gM (m.raw e t)) := Lib.hid (Whole.below M1.out b2 M1.out.lt)
    have B2 := Lib.hid (B1.out.trans (b2.mono B1.out.size))
    rw [← hgO] at x2 ⊢
    have O2 : Hid (Mr.At w2 gO Mr.zero) := Lib.hid x2
    clear b2 x2 z2 hgO M1 B1
    have c : w2.cell? ⟨gM, 0, none⟩ = some (.int .i64 m.kind) := M2.out.at_ 0
    go_wp2_with (first | (with_reducible refine wpList_load_whole_st Mr.isRec rfl _ rfl gM (by with_unfolding_all exact rfl) _ _ (Mr.len _) M2.out ?_) | (with_reducible refine wpList_load_whole_st Mr.isRec rfl _ rfl gO (by with_unfolding_all exact rfl) _ _ (Mr.len _) O2.out ?_))
    refine ((C0 w2).out).mono ?_
    rintro e3 w3 ⟨rfl, b3⟩
    have M3 : Hid (Mr.At w3 gM (m.raw e t)) := Lib.hid (Whole.below M2.out b3 M2.out.lt)
    have O3 : Hid (Mr.At w3 gO Mr.zero) := Lib.hid (Whole.below O2.out b3 O2.out.lt)
    have B3 := Lib.hid (B2.out.trans (b3.mono B2.out.size))
    clear b3 M2 O2 B2
    clear c
    go_wp2_with (first | (with_reducible refine wpList_load_whole_st Mr.isRec rfl _ rfl gM (by with_unfolding_all exact rfl) _ _ (Mr.len _) M3.out ?_) | (with_reducible refine wpList_load_whole_st Mr.isRec rfl _ rfl gO (by with_unfolding_all exact rfl) _ _ (Mr.len _) O3.out ?_) | (with_reducible refine wpList_put_cell 22 ⟨by kernel_rfl, by kernel_rfl⟩ rfl _ _ rfl gM 3 (by with_unfolding_all exact rfl) (.int .i64 0) (by with_unfolding_all exact rfl) (by with_unfolding_all exact rfl) (by with_unfolding_all exact rfl) _ _ M3.out _ (by with_unfolding_all exact rfl) ?_))
    intro w4 q4 x4 z4
    have M4 : Hid (Mr.At w4 gM (Mg.raw ⟨m.kind, m.rid, m.ver, 0, m.id, m.has, m.gone, m.key, m.val, m.es, m.its⟩ e t)) := Lib.hid x4
    have O4 : Hid (Mr.At w4 gO Mr.zero) := Lib.hid (grown_far O3.out q4 (by have := N_M_O.out; omega))
    have B4 := Lib.hid (B3.out.grown q4 B3.out.size (fun k hk => by injection hk with hk; have := M_M.out; omega))
    clear q4 x4 z4 M3 O3 B3
    have c : w4.cell? ⟨gM, 0, none⟩ = some (.int .i64 m.kind) := M4.out.at_ 0
    go_wp2_with (first | (with_reducible refine wpList_load_whole_st Mr.isRec rfl _ rfl gM (by with_unfolding_all exact rfl) _ _ (Mr.len _) M4.out ?_) | (with_reducible refine wpList_load_whole_st Mr.isRec rfl _ rfl gO (by with_unfolding_all exact rfl) _ _ (Mr.len _) O4.out ?_))
    refine ((C1 w4).out).mono ?_
    rintro e5 w5 ⟨rfl, b5⟩
    have M5 : Hid (Mr.At w5 gM (Mg.raw ⟨m.kind, m.rid, m.ver, 0, m.id, m.has, m.gone, m.key, m.val, m.es, m.its⟩ e t)) := Lib.hid (Whole.below M4.out b5 M4.out.lt)
    have O5 : Hid (Mr.At w5 gO Mr.zero) := Lib.hid (Whole.below O4.out b5 O4.out.lt)
    have B5 := Lib.hid (B4.out.trans (b5.mono B4.out.size))
    clear b5 M4 O4 B4
    clear c
    go_wp2_with (first | (with_reducible refine wpList_load_whole_st Mr.isRec rfl _ rfl gM (by with_unfolding_all exact rfl) _ _ (Mr.len _) M5.out ?_) | (with_reducible refine wpList_load_whole_st Mr.isRec rfl _ rfl gO (by with_unfolding_all exact rfl) _ _ (Mr.len _) O5.out ?_) | (with_reducible refine wpList_put_cell 4 ⟨by kernel_rfl, by kernel_rfl⟩ rfl _ _ rfl gM 5 (by with_unfolding_all exact rfl) (.bool false) (by with_unfolding_all exact rfl) (by with_unfolding_all exact rfl) (by with_unfolding_all exact rfl) _ _ M5.out _ (by with_unfolding_all exact rfl) ?_))
    intro w6 q6 x6 z6
    have M6 : Hid (Mr.At w6 gM (Mg.raw ⟨m.kind, m.rid, m.ver, 0, m.id, false, m.gone, m.key, m.val, m.es, m.its⟩ e t)) := Lib.hid x6
    have O6 : Hid (Mr.At w6 gO Mr.zero) := Lib.hid (grown_far O5.out q6 (by have := N_M_O.out; omega))
    have B6 := Lib.hid (B5.out.grown q6 B5.out.size (fun k hk => by injection hk with hk; have := M_M.out; omega))
    clear q6 x6 z6 M5 O5 B5
    have c : w6.cell? ⟨gM, 0, none⟩ = some (.int .i64 m.kind) := M6.out.at_ 0
    go_wp2_with (first | (with_reducible refine wpList_load_whole_st Mr.isRec rfl _ rfl gM (by with_unfolding_all exact rfl) _ _ (Mr.len _) M6.out ?_) | (with_reducible refine wpList_load_whole_st Mr.isRec rfl _ rfl gO (by with_unfolding_all exact rfl) _ _ (Mr.len _) O6.out ?_))
    refine ((C2 w6).out).mono ?_
    rintro e7 w7 ⟨rfl, b7⟩
    have M7 : Hid (Mr.At w7 gM (Mg.raw ⟨m.kind, m.rid, m.ver, 0, m.id, false, m.gone, m.key, m.val, m.es, m.its⟩ e t)) := Lib.hid (Whole.below M6.out b7 M6.out.lt)
    have O7 : Hid (Mr.At w7 gO Mr.zero) := Lib.hid (Whole.below O6.out b7 O6.out.lt)
    have B7 := Lib.hid (B6.out.trans (b7.mono B6.out.size))
    clear b7 M6 O6 B6
    clear c
    go_wp2_with (first | (with_reducible refine wpList_load_whole_st Mr.isRec rfl _ rfl gM (by with_unfolding_all exact rfl) _ _ (Mr.len _) M7.out ?_) | (with_reducible refine wpList_load_whole_st Mr.isRec rfl _ rfl gO (by with_unfolding_all exact rfl) _ _ (Mr.len _) O7.out ?_) | (with_reducible refine wpList_put_cell 4 ⟨by kernel_rfl, by kernel_rfl⟩ rfl _ _ rfl gM 6 (by with_unfolding_all exact rfl) (.bool false) (by with_unfolding_all exact rfl) (by with_unfolding_all exact rfl) (by with_unfolding_all exact rfl) _ _ M7.out _ (by with_unfolding_all exact rfl) ?_))
    intro w8 q8 x8 z8
    have M8 : Hid (Mr.At w8 gM (Mg.raw ⟨m.kind, m.rid, m.ver, 0, m.id, false, false, m.key, m.val, m.es, m.its⟩ e t)) := Lib.hid x8
    have O8 : Hid (Mr.At w8 gO Mr.zero) := Lib.hid (grown_far O7.out q8 (by have := N_M_O.out; omega))
    have B8 := Lib.hid (B7.out.grown q8 B7.out.size (fun k hk => by injection hk with hk; have := M_M.out; omega))
    clear q8 x8 z8 M7 O7 B7
    have c : w8.cell? ⟨gM, 0, none⟩ = some (.int .i64 m.kind) := M8.out.at_ 0
    go_wp2_with (first | (with_reducible refine wpList_load_whole_st Mr.isRec rfl _ rfl gM (by with_unfolding_all exact rfl) _ _ (Mr.len _) M8.out ?_) | (with_reducible refine wpList_load_whole_st Mr.isRec rfl _ rfl gO (by with_unfolding_all exact rfl) _ _ (Mr.len _) O8.out ?_))
    refine ((C3 w8).out).mono ?_
    rintro e9 w9 ⟨rfl, b9⟩
    have M9 : Hid (Mr.At w9 gM (Mg.raw ⟨m.kind, m.rid, m.ver, 0, m.id, false, false, m.key, m.val, m.es, m.its⟩ e t)) := Lib.hid (Whole.below M8.out b9 M8.out.lt)
    have O9 : Hid (Mr.At w9 gO Mr.zero) := Lib.hid (Whole.below O8.out b9 O8.out.lt)
    have B9 := Lib.hid (B8.out.trans (b9.mono B8.out.size))
    clear b9 M8 O8 B8
    clear c
    go_wp2_with (first | (with_reducible refine wpList_load_whole_st Mr.isRec rfl _ rfl gM (by with_unfolding_all exact rfl) _ _ (Mr.len _) M9.out ?_) | (with_reducible refine wpList_load_whole_st Mr.isRec rfl _ rfl gO (by with_unfolding_all exact rfl) _ _ (Mr.len _) O9.out ?_) | (with_reducible refine wpList_put_cell 23 ⟨by kernel_rfl, by kernel_rfl⟩ rfl _ _ rfl gM 4 (by with_unfolding_all exact rfl) (.int .u64 ((0 : Nat) : Int)) (by with_unfolding_all exact rfl) (by with_unfolding_all exact rfl) (by with_unfolding_all exact rfl) _ _ M9.out _ (by with_unfolding_all exact rfl) ?_))
    intro w10 q10 x10 z10
    have M10 : Hid (Mr.At w10 gM (Mg.raw ⟨m.kind, m.rid, m.ver, 0, 0, false, false, m.key, m.val, m.es, m.its⟩ e t)) := Lib.hid x10
    have O10 : Hid (Mr.At w10 gO Mr.zero) := Lib.hid (grown_far O9.out q10 (by have := N_M_O.out; omega))
    have B10 := Lib.hid (B9.out.grown q10 B9.out.size (fun k hk => by injection hk with hk; have := M_M.out; omega))
    clear q10 x10 z10 M9 O9 B9
    have c : w10.cell? ⟨gM, 0, none⟩ = some (.int .i64 m.kind) := M10.out.at_ 0
    go_wp2_with (first | (with_reducible refine wpList_load_whole_st Mr.isRec rfl _ rfl gM (by with_unfolding_all exact rfl) _ _ (Mr.len _) M10.out ?_) | (with_reducible refine wpList_load_whole_st Mr.isRec rfl _ rfl gO (by with_unfolding_all exact rfl) _ _ (Mr.len _) O10.out ?_))
    refine ((C4 w10).out).mono ?_
    rintro e11 w11 ⟨rfl, b11⟩
    have M11 : Hid (Mr.At w11 gM (Mg.raw ⟨m.kind, m.rid, m.ver, 0, 0, false, false, m.key, m.val, m.es, m.its⟩ e t)) := Lib.hid (Whole.below M10.out b11 M10.out.lt)
    have O11 : Hid (Mr.At w11 gO Mr.zero) := Lib.hid (Whole.below O10.out b11 O10.out.lt)
    have B11 := Lib.hid (B10.out.trans (b11.mono B10.out.size))
    clear b11 M10 O10 B10
    clear c
    go_wp2_with (first | (with_reducible refine wpList_load_whole_st Mr.isRec rfl _ rfl gM (by with_unfolding_all exact rfl) _ _ (Mr.len _) M11.out ?_) | (with_reducible refine wpList_load_whole_st Mr.isRec rfl _ rfl gO (by with_unfolding_all exact rfl) _ _ (Mr.len _) O11.out ?_) | (with_reducible refine wpList_put_cell 3 ⟨by kernel_rfl, by kernel_rfl⟩ rfl _ _ rfl gM 2 (by with_unfolding_all exact rfl) (.int .i64 0) (by with_unfolding_all exact rfl) (by with_unfolding_all exact rfl) (by with_unfolding_all exact rfl) _ _ M11.out _ (by with_unfolding_all exact rfl) ?_))
    intro w12 q12 x12 z12
    have M12 : Hid (Mr.At w12 gM (Mg.raw ⟨m.kind, m.rid, 0, 0, 0, false, false, m.key, m.val, m.es, m.its⟩ e t)) := Lib.hid x12
    have O12 : Hid (Mr.At w12 gO Mr.zero) := Lib.hid (grown_far O11.out q12 (by have := N_M_O.out; omega))
    have B12 := Lib.hid (B11.out.grown q12 B11.out.size (fun k hk => by injection hk with hk; have := M_M.out; omega))
    clear q12 x12 z12 M11 O11 B11
    have c : w12.cell? ⟨gM, 0, none⟩ = some (.int .i64 m.kind) := M12.out.at_ 0
    go_wp2_with (first | (with_reducible refine wpList_load_whole_st Mr.isRec rfl _ rfl gM (by with_unfolding_all exact rfl) _ _ (Mr.len _) M12.out ?_) | (with_reducible refine wpList_load_whole_st Mr.isRec rfl _ rfl gO (by with_unfolding_all exact rfl) _ _ (Mr.len _) O12.out ?_))
    refine ((C5 w12).out).mono ?_
    rintro e13 w13 ⟨rfl, b13⟩
    have M13 : Hid (Mr.At w13 gM (Mg.raw ⟨m.kind, m.rid, 0, 0, 0, false, false, m.key, m.val, m.es, m.its⟩ e t)) := Lib.hid (Whole.below M12.out b13 M12.out.lt)
    have O13 : Hid (Mr.At w13 gO Mr.zero) := Lib.hid (Whole.below O12.out b13 O12.out.lt)
    have B13 := Lib.hid (B12.out.trans (b13.mono B12.out.size))
    clear b13 M12 O12 B12
    clear c
    have c : w13.cell? ⟨gM, 0, none⟩ = some (.int .i64 m.kind) := M13.out.at_ 0
    go_wp2_with (first | (with_reducible refine wpList_load_whole_st Mr.isRec rfl _ rfl gM (by with_unfolding_all exact rfl) _ _ (Mr.len _) M13.out ?_) | (with_reducible refine wpList_load_whole_st Mr.isRec rfl _ rfl gO (by with_unfolding_all exact rfl) _ _ (Mr.len _) O13.out ?_))
    refine ((C6 w13).out).mono ?_
    rintro e14 w14 ⟨rfl, b14⟩
    have M14 : Hid (Mr.At w14 gM (Mg.raw ⟨m.kind, m.rid, 0, 0, 0, false, false, m.key, m.val, m.es, m.its⟩ e t)) := Lib.hid (Whole.below M13.out b14 M13.out.lt)
    have O14 : Hid (Mr.At w14 gO Mr.zero) := Lib.hid (Whole.below O13.out b14 O13.out.lt)
    have B14 := Lib.hid (B13.out.trans (b14.mono B13.out.size))
    clear b14 M13 O13 B13
    clear c
    go_wp2_with (first | (with_reducible refine wpList_load_whole_st Mr.isRec rfl _ rfl gM (by with_unfolding_all exact rfl) _ _ (Mr.len _) M14.out ?_) | (with_reducible refine wpList_load_whole_st Mr.isRec rfl _ rfl gO (by with_unfolding_all exact rfl) _ _ (Mr.len _) O14.out ?_) | (with_reducible refine wpList_put_cell 9 ⟨by kernel_rfl, by kernel_rfl⟩ rfl _ _ rfl gM 8 (by with_unfolding_all exact rfl) (.string ⟨([] : List UInt8).toArray⟩) (by with_unfolding_all exact rfl) (by with_unfolding_all exact rfl) (by with_unfolding_all exact rfl) _ _ M14.out _ (by with_unfolding_all exact rfl) ?_))
    intro w15 q15 x15 z15
    have M15 : Hid (Mr.At w15 gM (Mg.raw ⟨m.kind, m.rid, 0, 0, 0, false, false, m.key, [], m.es, m.its⟩ e t)) := Lib.hid x15
    have O15 : Hid (Mr.At w15 gO Mr.zero) := Lib.hid (grown_far O14.out q15 (by have := N_M_O.out; omega))
    have B15 := Lib.hid (B14.out.grown q15 B14.out.size (fun k hk => by injection hk with hk; have := M_M.out; omega))
    clear q15 x15 z15 M14 O14 B14
    have c : w15.cell? ⟨gM, 0, none⟩ = some (.int .i64 m.kind) := M15.out.at_ 0
    go_wp2_with (first | (with_reducible refine wpList_load_whole_st Mr.isRec rfl _ rfl gM (by with_unfolding_all exact rfl) _ _ (Mr.len _) M15.out ?_) | (with_reducible refine wpList_load_whole_st Mr.isRec rfl _ rfl gO (by with_unfolding_all exact rfl) _ _ (Mr.len _) O15.out ?_))
    refine ((C7 w15).out).mono ?_
    rintro e16 w16 ⟨rfl, b16⟩
    have M16 : Hid (Mr.At w16 gM (Mg.raw ⟨m.kind, m.rid, 0, 0, 0, false, false, m.key, [], m.es, m.its⟩ e t)) := Lib.hid (Whole.below M15.out b16 M15.out.lt)
    have O16 : Hid (Mr.At w16 gO Mr.zero) := Lib.hid (Whole.below O15.out b16 O15.out.lt)
    have B16 := Lib.hid (B15.out.trans (b16.mono B15.out.size))
    clear b16 M15 O15 B15
    clear c
    go_wp2_with (first | (with_reducible refine wpList_load_whole_st Mr.isRec rfl _ rfl gM (by with_unfolding_all exact rfl) _ _ (Mr.len _) M16.out ?_) | (with_reducible refine wpList_load_whole_st Mr.isRec rfl _ rfl gO (by with_unfolding_all exact rfl) _ _ (Mr.len _) O16.out ?_) | (with_reducible refine wpList_put_cell 24 ⟨by kernel_rfl, by kernel_rfl⟩ rfl _ _ rfl gM 9 (by with_unfolding_all exact rfl) (.slice none 0 0) (by with_unfolding_all exact rfl) (by with_unfolding_all exact rfl) (by with_unfolding_all exact rfl) _ _ M16.out _ (by with_unfolding_all exact rfl) ?_))
    intro w17 q17 x17 z17
    have M17 : Hid (Mr.At w17 gM (Mg.raw ⟨m.kind, m.rid, 0, 0, 0, false, false, m.key, [], [], m.its⟩ Row.nil t)) := Lib.hid x17
    have O17 : Hid (Mr.At w17 gO Mr.zero) := Lib.hid (grown_far O16.out q17 (by have := N_M_O.out; omega))
    have B17 := Lib.hid (B16.out.grown q17 B16.out.size (fun k hk => by injection hk with hk; have := M_M.out; omega))
    clear q17 x17 z17 M16 O16 B16
    have c : w17.cell? ⟨gM, 0, none⟩ = some (.int .i64 m.kind) := M17.out.at_ 0
    go_wp2_with (first | (with_reducible refine wpList_load_whole_st Mr.isRec rfl _ rfl gM (by with_unfolding_all exact rfl) _ _ (Mr.len _) M17.out ?_) | (with_reducible refine wpList_load_whole_st Mr.isRec rfl _ rfl gO (by with_unfolding_all exact rfl) _ _ (Mr.len _) O17.out ?_))
    refine ((C8 w17).out).mono ?_
    rintro e18 w18 ⟨rfl, b18⟩
    have M18 : Hid (Mr.At w18 gM (Mg.raw ⟨m.kind, m.rid, 0, 0, 0, false, false, m.key, [], [], m.its⟩ Row.nil t)) := Lib.hid (Whole.below M17.out b18 M17.out.lt)
    have O18 : Hid (Mr.At w18 gO Mr.zero) := Lib.hid (Whole.below O17.out b18 O17.out.lt)
    have B18 := Lib.hid (B17.out.trans (b18.mono B17.out.size))
    clear b18 M17 O17 B17
    clear c
    go_wp2_with (first | (with_reducible refine wpList_load_whole_st Mr.isRec rfl _ rfl gM (by with_unfolding_all exact rfl) _ _ (Mr.len _) M18.out ?_) | (with_reducible refine wpList_load_whole_st Mr.isRec rfl _ rfl gO (by with_unfolding_all exact rfl) _ _ (Mr.len _) O18.out ?_) | (with_reducible refine wpList_put_cell 25 ⟨by kernel_rfl, by kernel_rfl⟩ rfl _ _ rfl gM 10 (by with_unfolding_all exact rfl) (.slice none 0 0) (by with_unfolding_all exact rfl) (by with_unfolding_all exact rfl) (by with_unfolding_all exact rfl) _ _ M18.out _ (by with_unfolding_all exact rfl) ?_))
    intro w19 q19 x19 z19
    have M19 : Hid (Mr.At w19 gM (Mg.raw ⟨m.kind, m.rid, 0, 0, 0, false, false, m.key, [], [], []⟩ Row.nil Row.nil)) := Lib.hid x19
    have O19 : Hid (Mr.At w19 gO Mr.zero) := Lib.hid (grown_far O18.out q19 (by have := N_M_O.out; omega))
    have B19 := Lib.hid (B18.out.grown q19 B18.out.size (fun k hk => by injection hk with hk; have := M_M.out; omega))
    clear q19 x19 z19 M18 O18 B18
    go_wp2_with (first | (with_reducible refine wpList_load_whole_st Mr.isRec rfl _ rfl gM (by with_unfolding_all exact rfl) _ _ (Mr.len _) M19.out ?_) | (with_reducible refine wpList_load_whole_st Mr.isRec rfl _ rfl gO (by with_unfolding_all exact rfl) _ _ (Mr.len _) O19.out ?_) | (with_reducible refine wpList_store_whole rfl 27 _ _ rfl gO (Mg.raw ⟨m.kind, m.rid, 0, 0, 0, false, false, m.key, [], [], []⟩ Row.nil Row.nil).enc.toArray (by with_unfolding_all exact rfl) (by with_unfolding_all exact rfl) _ _ O19.out (Mr.size _) rfl (Mr.one _) ?_))
    intro w20 q20 x20 z20
    have O20 : Hid (Mr.At w20 gO (Mg.raw ⟨m.kind, m.rid, 0, 0, 0, false, false, m.key, [], [], []⟩ Row.nil Row.nil)) := Lib.hid x20
    have M20 : Hid (Mr.At w20 gM (Mg.raw ⟨m.kind, m.rid, 0, 0, 0, false, false, m.key, [], [], []⟩ Row.nil Row.nil)) := Lib.hid (grown_far M19.out q20 (by have := N_M_O.out; omega))
    have B20 := Lib.hid (B19.out.grown q20 B19.out.size (fun k hk => by injection hk with hk; have := M_O.out; omega))
    clear q20 x20 z20 O19 M19 B19
    go_wp2
    exact bodyPost_ret (results_st Mr.isRec rfl _ _ _ _ _ rfl rfl O20.out) rfl ⟨Row.nil, Row.nil, by rw [HM.out]; rfl, by rw [HM.out]; exact ⟨rows_nil _ 6, rows_nil _ 4⟩, B20.out⟩
  · have d0 : inK m.kind 0 = true := by rw [inK, hp]; decide
    have d1 : inK m.kind 1 = true := by rw [inK, hp]; decide
    have d2 : inK m.kind 2 = true := by rw [inK, hp]; decide
    have d3 : inK m.kind 3 = false := by rw [inK, hp]; decide
    have d4 : inK m.kind 4 = true := by rw [inK, hp]; decide
    have d5 : inK m.kind 5 = false := by rw [inK, hp]; decide
    have d6 : inK m.kind 6 = true := by rw [inK, hp]; decide
    have d7 : inK m.kind 7 = false := by rw [inK, hp]; decide
    have d8 : inK m.kind 8 = false := by rw [inK, hp]; decide
    simp only [d0, d1, d2, d3, d4, d5, d6, d7, d8] at HM C0 C1 C2 C3 C4 C5 C6 C7 C8
    clear d0 d1 d2 d3 d4 d5 d6 d7 d8 hp
    go_enter Try.func16, Try.ntmps16
    go_wp2_with (refine wpList_box_row rfl 27 _ rfl (m.raw e t).enc.toArray (by with_unfolding_all exact rfl) ?_)
    intro w1 b1 x1 z1
    obtain ⟨gM, hgM⟩ : ∃ g, g = w.heap.size := ⟨_, rfl⟩
    have M_M := Lib.hid (show w.heap.size ≤ gM from by rw [hgM]; exact Nat.le_refl _)
    have B1 := Lib.hid b1
    rw [← hgM] at x1 ⊢
    have M1 : Hid (Mr.At w1 gM (m.raw e t)) := Lib.hid x1
    clear b1 x1 z1 hgM 
    go_wp2_with (first | (with_reducible refine wpList_load_whole_st Mr.isRec rfl _ rfl gM (by with_unfolding_all exact rfl) _ _ (Mr.len _) M1.out ?_) | (refine wpList_alloc_row rfl 27 rfl Mr.zero.enc.toArray Mr.zero_is ?_))
    intro w2 b2 x2 z2
    obtain ⟨gO, hgO⟩ : ∃ g, g = w1.heap.size := ⟨_, rfl⟩
    have N_M_O := Lib.hid (show gM < gO from by rw [hgO]; exact M1.out.lt)
    have M_O := Lib.hid (show w.heap.size ≤ gO from by rw [hgO]; exact B1.out.size)
    have M2 : Hid (Mr.At w2 gM (m.raw e t)) := Lib.hid (Whole.below M1.out b2 M1.out.lt)
    have B2 := Lib.hid (B1.out.trans (b2.mono B1.out.size))
    rw [← hgO] at x2 ⊢
    have O2 : Hid (Mr.At w2 gO Mr.zero) := Lib.hid x2
    clear b2 x2 z2 hgO M1 B1
    have c : w2.cell? ⟨gM, 0, none⟩ = some (.int .i64 m.kind) := M2.out.at_ 0
    go_wp2_with (first | (with_reducible refine wpList_load_whole_st Mr.isRec rfl _ rfl gM (by with_unfolding_all exact rfl) _ _ (Mr.len _) M2.out ?_) | (with_reducible refine wpList_load_whole_st Mr.isRec rfl _ rfl gO (by with_unfolding_all exact rfl) _ _ (Mr.len _) O2.out ?_))
    refine ((C0 w2).out).mono ?_
    rintro e3 w3 ⟨rfl, b3⟩
    have M3 : Hid (Mr.At w3 gM (m.raw e t)) := Lib.hid (Whole.below M2.out b3 M2.out.lt)
    have O3 : Hid (Mr.At w3 gO Mr.zero) := Lib.hid (Whole.below O2.out b3 O2.out.lt)
    have B3 := Lib.hid (B2.out.trans (b3.mono B2.out.size))
    clear b3 M2 O2 B2
    clear c
    have c : w3.cell? ⟨gM, 0, none⟩ = some (.int .i64 m.kind) := M3.out.at_ 0
    go_wp2_with (first | (with_reducible refine wpList_load_whole_st Mr.isRec rfl _ rfl gM (by with_unfolding_all exact rfl) _ _ (Mr.len _) M3.out ?_) | (with_reducible refine wpList_load_whole_st Mr.isRec rfl _ rfl gO (by with_unfolding_all exact rfl) _ _ (Mr.len _) O3.out ?_))
    refine ((C1 w3).out).mono ?_
    rintro e4 w4 ⟨rfl, b4⟩
    have M4 : Hid (Mr.At w4 gM (m.raw e t)) := Lib.hid (Whole.below M3.out b4 M3.out.lt)
    have O4 : Hid (Mr.At w4 gO Mr.zero) := Lib.hid (Whole.below O3.out b4 O3.out.lt)
    have B4 := Lib.hid (B3.out.trans (b4.mono B3.out.size))
    clear b4 M3 O3 B3
    clear c
    have c : w4.cell? ⟨gM, 0, none⟩ = some (.int .i64 m.kind) := M4.out.at_ 0
    go_wp2_with (first | (with_reducible refine wpList_load_whole_st Mr.isRec rfl _ rfl gM (by with_unfolding_all exact rfl) _ _ (Mr.len _) M4.out ?_) | (with_reducible refine wpList_load_whole_st Mr.isRec rfl _ rfl gO (by with_unfolding_all exact rfl) _ _ (Mr.len _) O4.out ?_))
    refine ((C2 w4).out).mono ?_
    rintro e5 w5 ⟨rfl, b5⟩
    have M5 : Hid (Mr.At w5 gM (m.raw e t)) := Lib.hid (Whole.below M4.out b5 M4.out.lt)
    have O5 : Hid (Mr.At w5 gO Mr.zero) := Lib.hid (Whole.below O4.out b5 O4.out.lt)
    have B5 := Lib.hid (B4.out.trans (b5.mono B4.out.size))
    clear b5 M4 O4 B4
    clear c
    have c : w5.cell? ⟨gM, 0, none⟩ = some (.int .i64 m.kind) := M5.out.at_ 0
    go_wp2_with (first | (with_reducible refine wpList_load_whole_st Mr.isRec rfl _ rfl gM (by with_unfolding_all exact rfl) _ _ (Mr.len _) M5.out ?_) | (with_reducible refine wpList_load_whole_st Mr.isRec rfl _ rfl gO (by with_unfolding_all exact rfl) _ _ (Mr.len _) O5.out ?_))
    refine ((C3 w5).out).mono ?_
    rintro e6 w6 ⟨rfl, b6⟩
    have M6 : Hid (Mr.At w6 gM (m.raw e t)) := Lib.hid (Whole.below M5.out b6 M5.out.lt)
    have O6 : Hid (Mr.At w6 gO Mr.zero) := Lib.hid (Whole.below O5.out b6 O5.out.lt)
    have B6 := Lib.hid (B5.out.trans (b6.mono B5.out.size))
    clear b6 M5 O5 B5
    clear c
    go_wp2_with (first | (with_reducible refine wpList_load_whole_st Mr.isRec rfl _ rfl gM (by with_unfolding_all exact rfl) _ _ (Mr.len _) M6.out ?_) | (with_reducible refine wpList_load_whole_st Mr.isRec rfl _ rfl gO (by with_unfolding_all exact rfl) _ _ (Mr.len _) O6.out ?_) | (with_reducible refine wpList_put_cell 23 ⟨by kernel_rfl, by kernel_rfl⟩ rfl _ _ rfl gM 4 (by with_unfolding_all exact rfl) (.int .u64 ((0 : Nat) : Int)) (by with_unfolding_all exact rfl) (by with_unfolding_all exact rfl) (by with_unfolding_all exact rfl) _ _ M6.out _ (by with_unfolding_all exact rfl) ?_))
    intro w7 q7 x7 z7
    have M7 : Hid (Mr.At w7 gM (Mg.raw ⟨m.kind, m.rid, m.ver, m.error, 0, m.has, m.gone, m.key, m.val, m.es, m.its⟩ e t)) := Lib.hid x7
    have O7 : Hid (Mr.At w7 gO Mr.zero) := Lib.hid (grown_far O6.out q7 (by have := N_M_O.out; omega))
    have B7 := Lib.hid (B6.out.grown q7 B6.out.size (fun k hk => by injection hk with hk; have := M_M.out; omega))
    clear q7 x7 z7 M6 O6 B6
    have c : w7.cell? ⟨gM, 0, none⟩ = some (.int .i64 m.kind) := M7.out.at_ 0
    go_wp2_with (first | (with_reducible refine wpList_load_whole_st Mr.isRec rfl _ rfl gM (by with_unfolding_all exact rfl) _ _ (Mr.len _) M7.out ?_) | (with_reducible refine wpList_load_whole_st Mr.isRec rfl _ rfl gO (by with_unfolding_all exact rfl) _ _ (Mr.len _) O7.out ?_))
    refine ((C4 w7).out).mono ?_
    rintro e8 w8 ⟨rfl, b8⟩
    have M8 : Hid (Mr.At w8 gM (Mg.raw ⟨m.kind, m.rid, m.ver, m.error, 0, m.has, m.gone, m.key, m.val, m.es, m.its⟩ e t)) := Lib.hid (Whole.below M7.out b8 M7.out.lt)
    have O8 : Hid (Mr.At w8 gO Mr.zero) := Lib.hid (Whole.below O7.out b8 O7.out.lt)
    have B8 := Lib.hid (B7.out.trans (b8.mono B7.out.size))
    clear b8 M7 O7 B7
    clear c
    have c : w8.cell? ⟨gM, 0, none⟩ = some (.int .i64 m.kind) := M8.out.at_ 0
    go_wp2_with (first | (with_reducible refine wpList_load_whole_st Mr.isRec rfl _ rfl gM (by with_unfolding_all exact rfl) _ _ (Mr.len _) M8.out ?_) | (with_reducible refine wpList_load_whole_st Mr.isRec rfl _ rfl gO (by with_unfolding_all exact rfl) _ _ (Mr.len _) O8.out ?_))
    refine ((C5 w8).out).mono ?_
    rintro e9 w9 ⟨rfl, b9⟩
    have M9 : Hid (Mr.At w9 gM (Mg.raw ⟨m.kind, m.rid, m.ver, m.error, 0, m.has, m.gone, m.key, m.val, m.es, m.its⟩ e t)) := Lib.hid (Whole.below M8.out b9 M8.out.lt)
    have O9 : Hid (Mr.At w9 gO Mr.zero) := Lib.hid (Whole.below O8.out b9 O8.out.lt)
    have B9 := Lib.hid (B8.out.trans (b9.mono B8.out.size))
    clear b9 M8 O8 B8
    clear c
    go_wp2_with (first | (with_reducible refine wpList_load_whole_st Mr.isRec rfl _ rfl gM (by with_unfolding_all exact rfl) _ _ (Mr.len _) M9.out ?_) | (with_reducible refine wpList_load_whole_st Mr.isRec rfl _ rfl gO (by with_unfolding_all exact rfl) _ _ (Mr.len _) O9.out ?_) | (with_reducible refine wpList_put_cell 9 ⟨by kernel_rfl, by kernel_rfl⟩ rfl _ _ rfl gM 7 (by with_unfolding_all exact rfl) (.string ⟨([] : List UInt8).toArray⟩) (by with_unfolding_all exact rfl) (by with_unfolding_all exact rfl) (by with_unfolding_all exact rfl) _ _ M9.out _ (by with_unfolding_all exact rfl) ?_))
    intro w10 q10 x10 z10
    have M10 : Hid (Mr.At w10 gM (Mg.raw ⟨m.kind, m.rid, m.ver, m.error, 0, m.has, m.gone, [], m.val, m.es, m.its⟩ e t)) := Lib.hid x10
    have O10 : Hid (Mr.At w10 gO Mr.zero) := Lib.hid (grown_far O9.out q10 (by have := N_M_O.out; omega))
    have B10 := Lib.hid (B9.out.grown q10 B9.out.size (fun k hk => by injection hk with hk; have := M_M.out; omega))
    clear q10 x10 z10 M9 O9 B9
    have c : w10.cell? ⟨gM, 0, none⟩ = some (.int .i64 m.kind) := M10.out.at_ 0
    go_wp2_with (first | (with_reducible refine wpList_load_whole_st Mr.isRec rfl _ rfl gM (by with_unfolding_all exact rfl) _ _ (Mr.len _) M10.out ?_) | (with_reducible refine wpList_load_whole_st Mr.isRec rfl _ rfl gO (by with_unfolding_all exact rfl) _ _ (Mr.len _) O10.out ?_))
    refine ((C6 w10).out).mono ?_
    rintro e11 w11 ⟨rfl, b11⟩
    have M11 : Hid (Mr.At w11 gM (Mg.raw ⟨m.kind, m.rid, m.ver, m.error, 0, m.has, m.gone, [], m.val, m.es, m.its⟩ e t)) := Lib.hid (Whole.below M10.out b11 M10.out.lt)
    have O11 : Hid (Mr.At w11 gO Mr.zero) := Lib.hid (Whole.below O10.out b11 O10.out.lt)
    have B11 := Lib.hid (B10.out.trans (b11.mono B10.out.size))
    clear b11 M10 O10 B10
    clear c
    have c : w11.cell? ⟨gM, 0, none⟩ = some (.int .i64 m.kind) := M11.out.at_ 0
    go_wp2_with (first | (with_reducible refine wpList_load_whole_st Mr.isRec rfl _ rfl gM (by with_unfolding_all exact rfl) _ _ (Mr.len _) M11.out ?_) | (with_reducible refine wpList_load_whole_st Mr.isRec rfl _ rfl gO (by with_unfolding_all exact rfl) _ _ (Mr.len _) O11.out ?_))
    refine ((C7 w11).out).mono ?_
    rintro e12 w12 ⟨rfl, b12⟩
    have M12 : Hid (Mr.At w12 gM (Mg.raw ⟨m.kind, m.rid, m.ver, m.error, 0, m.has, m.gone, [], m.val, m.es, m.its⟩ e t)) := Lib.hid (Whole.below M11.out b12 M11.out.lt)
    have O12 : Hid (Mr.At w12 gO Mr.zero) := Lib.hid (Whole.below O11.out b12 O11.out.lt)
    have B12 := Lib.hid (B11.out.trans (b12.mono B11.out.size))
    clear b12 M11 O11 B11
    clear c
    go_wp2_with (first | (with_reducible refine wpList_load_whole_st Mr.isRec rfl _ rfl gM (by with_unfolding_all exact rfl) _ _ (Mr.len _) M12.out ?_) | (with_reducible refine wpList_load_whole_st Mr.isRec rfl _ rfl gO (by with_unfolding_all exact rfl) _ _ (Mr.len _) O12.out ?_) | (with_reducible refine wpList_put_cell 24 ⟨by kernel_rfl, by kernel_rfl⟩ rfl _ _ rfl gM 9 (by with_unfolding_all exact rfl) (.slice none 0 0) (by with_unfolding_all exact rfl) (by with_unfolding_all exact rfl) (by with_unfolding_all exact rfl) _ _ M12.out _ (by with_unfolding_all exact rfl) ?_))
    intro w13 q13 x13 z13
    have M13 : Hid (Mr.At w13 gM (Mg.raw ⟨m.kind, m.rid, m.ver, m.error, 0, m.has, m.gone, [], m.val, [], m.its⟩ Row.nil t)) := Lib.hid x13
    have O13 : Hid (Mr.At w13 gO Mr.zero) := Lib.hid (grown_far O12.out q13 (by have := N_M_O.out; omega))
    have B13 := Lib.hid (B12.out.grown q13 B12.out.size (fun k hk => by injection hk with hk; have := M_M.out; omega))
    clear q13 x13 z13 M12 O12 B12
    have c : w13.cell? ⟨gM, 0, none⟩ = some (.int .i64 m.kind) := M13.out.at_ 0
    go_wp2_with (first | (with_reducible refine wpList_load_whole_st Mr.isRec rfl _ rfl gM (by with_unfolding_all exact rfl) _ _ (Mr.len _) M13.out ?_) | (with_reducible refine wpList_load_whole_st Mr.isRec rfl _ rfl gO (by with_unfolding_all exact rfl) _ _ (Mr.len _) O13.out ?_))
    refine ((C8 w13).out).mono ?_
    rintro e14 w14 ⟨rfl, b14⟩
    have M14 : Hid (Mr.At w14 gM (Mg.raw ⟨m.kind, m.rid, m.ver, m.error, 0, m.has, m.gone, [], m.val, [], m.its⟩ Row.nil t)) := Lib.hid (Whole.below M13.out b14 M13.out.lt)
    have O14 : Hid (Mr.At w14 gO Mr.zero) := Lib.hid (Whole.below O13.out b14 O13.out.lt)
    have B14 := Lib.hid (B13.out.trans (b14.mono B13.out.size))
    clear b14 M13 O13 B13
    clear c
    go_wp2_with (first | (with_reducible refine wpList_load_whole_st Mr.isRec rfl _ rfl gM (by with_unfolding_all exact rfl) _ _ (Mr.len _) M14.out ?_) | (with_reducible refine wpList_load_whole_st Mr.isRec rfl _ rfl gO (by with_unfolding_all exact rfl) _ _ (Mr.len _) O14.out ?_) | (with_reducible refine wpList_put_cell 25 ⟨by kernel_rfl, by kernel_rfl⟩ rfl _ _ rfl gM 10 (by with_unfolding_all exact rfl) (.slice none 0 0) (by with_unfolding_all exact rfl) (by with_unfolding_all exact rfl) (by with_unfolding_all exact rfl) _ _ M14.out _ (by with_unfolding_all exact rfl) ?_))
    intro w15 q15 x15 z15
    have M15 : Hid (Mr.At w15 gM (Mg.raw ⟨m.kind, m.rid, m.ver, m.error, 0, m.has, m.gone, [], m.val, [], []⟩ Row.nil Row.nil)) := Lib.hid x15
    have O15 : Hid (Mr.At w15 gO Mr.zero) := Lib.hid (grown_far O14.out q15 (by have := N_M_O.out; omega))
    have B15 := Lib.hid (B14.out.grown q15 B14.out.size (fun k hk => by injection hk with hk; have := M_M.out; omega))
    clear q15 x15 z15 M14 O14 B14
    go_wp2_with (first | (with_reducible refine wpList_load_whole_st Mr.isRec rfl _ rfl gM (by with_unfolding_all exact rfl) _ _ (Mr.len _) M15.out ?_) | (with_reducible refine wpList_load_whole_st Mr.isRec rfl _ rfl gO (by with_unfolding_all exact rfl) _ _ (Mr.len _) O15.out ?_) | (with_reducible refine wpList_store_whole rfl 27 _ _ rfl gO (Mg.raw ⟨m.kind, m.rid, m.ver, m.error, 0, m.has, m.gone, [], m.val, [], []⟩ Row.nil Row.nil).enc.toArray (by with_unfolding_all exact rfl) (by with_unfolding_all exact rfl) _ _ O15.out (Mr.size _) rfl (Mr.one _) ?_))
    intro w16 q16 x16 z16
    have O16 : Hid (Mr.At w16 gO (Mg.raw ⟨m.kind, m.rid, m.ver, m.error, 0, m.has, m.gone, [], m.val, [], []⟩ Row.nil Row.nil)) := Lib.hid x16
    have M16 : Hid (Mr.At w16 gM (Mg.raw ⟨m.kind, m.rid, m.ver, m.error, 0, m.has, m.gone, [], m.val, [], []⟩ Row.nil Row.nil)) := Lib.hid (grown_far M15.out q16 (by have := N_M_O.out; omega))
    have B16 := Lib.hid (B15.out.grown q16 B15.out.size (fun k hk => by injection hk with hk; have := M_O.out; omega))
    clear q16 x16 z16 O15 M15 B15
    go_wp2
    exact bodyPost_ret (results_st Mr.isRec rfl _ _ _ _ _ rfl rfl O16.out) rfl ⟨Row.nil, Row.nil, by rw [HM.out]; rfl, by rw [HM.out]; exact ⟨rows_nil _ 6, rows_nil _ 4⟩, B16.out⟩
  · have d0 : inK m.kind 0 = false := by rw [inK, hp]; decide
    have d1 : inK m.kind 1 = false := by rw [inK, hp]; decide
    have d2 : inK m.kind 2 = false := by rw [inK, hp]; decide
    have d3 : inK m.kind 3 = false := by rw [inK, hp]; decide
    have d4 : inK m.kind 4 = false := by rw [inK, hp]; decide
    have d5 : inK m.kind 5 = false := by rw [inK, hp]; decide
    have d6 : inK m.kind 6 = false := by rw [inK, hp]; decide
    have d7 : inK m.kind 7 = false := by rw [inK, hp]; decide
    have d8 : inK m.kind 8 = true := by rw [inK, hp]; decide
    simp only [d0, d1, d2, d3, d4, d5, d6, d7, d8] at HM C0 C1 C2 C3 C4 C5 C6 C7 C8
    clear d0 d1 d2 d3 d4 d5 d6 d7 d8 hp
    go_enter Try.func16, Try.ntmps16
    go_wp2_with (refine wpList_box_row rfl 27 _ rfl (m.raw e t).enc.toArray (by with_unfolding_all exact rfl) ?_)
    intro w1 b1 x1 z1
    obtain ⟨gM, hgM⟩ : ∃ g, g = w.heap.size := ⟨_, rfl⟩
    have M_M := Lib.hid (show w.heap.size ≤ gM from by rw [hgM]; exact Nat.le_refl _)
    have B1 := Lib.hid b1
    rw [← hgM] at x1 ⊢
    have M1 : Hid (Mr.At w1 gM (m.raw e t)) := Lib.hid x1
    clear b1 x1 z1 hgM 
    go_wp2_with (first | (with_reducible refine wpList_load_whole_st Mr.isRec rfl _ rfl gM (by with_unfolding_all exact rfl) _ _ (Mr.len _) M1.out ?_) | (refine wpList_alloc_row rfl 27 rfl Mr.zero.enc.toArray Mr.zero_is ?_))
    intro w2 b2 x2 z2
    obtain ⟨gO, hgO⟩ : ∃ g, g = w1.heap.size := ⟨_, rfl⟩
    have N_M_O := Lib.hid (show gM < gO from by rw [hgO]; exact M1.out.lt)
    have M_O := Lib.hid (show w.heap.size ≤ gO from by rw [hgO]; exact B1.out.size)
    have M2 : Hid (Mr.At w2 gM (m.raw e t)) := Lib.hid (Whole.below M1.out b2 M1.out.lt)
    have B2 := Lib.hid (B1.out.trans (b2.mono B1.out.size))
    rw [← hgO] at x2 ⊢
    have O2 : Hid (Mr.At w2 gO Mr.zero) := Lib.hid x2
    clear b2 x2 z2 hgO M1 B1
    have c : w2.cell? ⟨gM, 0, none⟩ = some (.int .i64 m.kind) := M2.out.at_ 0
    go_wp2_with (first | (with_reducible refine wpList_load_whole_st Mr.isRec rfl _ rfl gM (by with_unfolding_all exact rfl) _ _ (Mr.len _) M2.out ?_) | (with_reducible refine wpList_load_whole_st Mr.isRec rfl _ rfl gO (by with_unfolding_all exact rfl) _ _ (Mr.len _) O2.out ?_))
    refine ((C0 w2).out).mono ?_
    rintro e3 w3 ⟨rfl, b3⟩
    have M3 : Hid (Mr.At w3 gM (m.raw e t)) := Lib.hid (Whole.below M2.out b3 M2.out.lt)
    have O3 : Hid (Mr.At w3 gO Mr.zero) := Lib.hid (Whole.below O2.out b3 O2.out.lt)
    have B3 := Lib.hid (B2.out.trans (b3.mono B2.out.size))
    clear b3 M2 O2 B2
    clear c
    go_wp2_with (first | (with_reducible refine wpList_load_whole_st Mr.isRec rfl _ rfl gM (by with_unfolding_all exact rfl) _ _ (Mr.len _) M3.out ?_) | (with_reducible refine wpList_load_whole_st Mr.isRec rfl _ rfl gO (by with_unfolding_all exact rfl) _ _ (Mr.len _) O3.out ?_) | (with_reducible refine wpList_put_cell 22 ⟨by kernel_rfl, by kernel_rfl⟩ rfl _ _ rfl gM 3 (by with_unfolding_all exact rfl) (.int .i64 0) (by with_unfolding_all exact rfl) (by with_unfolding_all exact rfl) (by with_unfolding_all exact rfl) _ _ M3.out _ (by with_unfolding_all exact rfl) ?_))
    intro w4 q4 x4 z4
    have M4 : Hid (Mr.At w4 gM (Mg.raw ⟨m.kind, m.rid, m.ver, 0, m.id, m.has, m.gone, m.key, m.val, m.es, m.its⟩ e t)) := Lib.hid x4
    have O4 : Hid (Mr.At w4 gO Mr.zero) := Lib.hid (grown_far O3.out q4 (by have := N_M_O.out; omega))
    have B4 := Lib.hid (B3.out.grown q4 B3.out.size (fun k hk => by injection hk with hk; have := M_M.out; omega))
    clear q4 x4 z4 M3 O3 B3
    have c : w4.cell? ⟨gM, 0, none⟩ = some (.int .i64 m.kind) := M4.out.at_ 0
    go_wp2_with (first | (with_reducible refine wpList_load_whole_st Mr.isRec rfl _ rfl gM (by with_unfolding_all exact rfl) _ _ (Mr.len _) M4.out ?_) | (with_reducible refine wpList_load_whole_st Mr.isRec rfl _ rfl gO (by with_unfolding_all exact rfl) _ _ (Mr.len _) O4.out ?_))
    refine ((C1 w4).out).mono ?_
    rintro e5 w5 ⟨rfl, b5⟩
    have M5 : Hid (Mr.At w5 gM (Mg.raw ⟨m.kind, m.rid, m.ver, 0, m.id, m.has, m.gone, m.key, m.val, m.es, m.its⟩ e t)) := Lib.hid (Whole.below M4.out b5 M4.out.lt)
    have O5 : Hid (Mr.At w5 gO Mr.zero) := Lib.hid (Whole.below O4.out b5 O4.out.lt)
    have B5 := Lib.hid (B4.out.trans (b5.mono B4.out.size))
    clear b5 M4 O4 B4
    clear c
    go_wp2_with (first | (with_reducible refine wpList_load_whole_st Mr.isRec rfl _ rfl gM (by with_unfolding_all exact rfl) _ _ (Mr.len _) M5.out ?_) | (with_reducible refine wpList_load_whole_st Mr.isRec rfl _ rfl gO (by with_unfolding_all exact rfl) _ _ (Mr.len _) O5.out ?_) | (with_reducible refine wpList_put_cell 4 ⟨by kernel_rfl, by kernel_rfl⟩ rfl _ _ rfl gM 5 (by with_unfolding_all exact rfl) (.bool false) (by with_unfolding_all exact rfl) (by with_unfolding_all exact rfl) (by with_unfolding_all exact rfl) _ _ M5.out _ (by with_unfolding_all exact rfl) ?_))
    intro w6 q6 x6 z6
    have M6 : Hid (Mr.At w6 gM (Mg.raw ⟨m.kind, m.rid, m.ver, 0, m.id, false, m.gone, m.key, m.val, m.es, m.its⟩ e t)) := Lib.hid x6
    have O6 : Hid (Mr.At w6 gO Mr.zero) := Lib.hid (grown_far O5.out q6 (by have := N_M_O.out; omega))
    have B6 := Lib.hid (B5.out.grown q6 B5.out.size (fun k hk => by injection hk with hk; have := M_M.out; omega))
    clear q6 x6 z6 M5 O5 B5
    have c : w6.cell? ⟨gM, 0, none⟩ = some (.int .i64 m.kind) := M6.out.at_ 0
    go_wp2_with (first | (with_reducible refine wpList_load_whole_st Mr.isRec rfl _ rfl gM (by with_unfolding_all exact rfl) _ _ (Mr.len _) M6.out ?_) | (with_reducible refine wpList_load_whole_st Mr.isRec rfl _ rfl gO (by with_unfolding_all exact rfl) _ _ (Mr.len _) O6.out ?_))
    refine ((C2 w6).out).mono ?_
    rintro e7 w7 ⟨rfl, b7⟩
    have M7 : Hid (Mr.At w7 gM (Mg.raw ⟨m.kind, m.rid, m.ver, 0, m.id, false, m.gone, m.key, m.val, m.es, m.its⟩ e t)) := Lib.hid (Whole.below M6.out b7 M6.out.lt)
    have O7 : Hid (Mr.At w7 gO Mr.zero) := Lib.hid (Whole.below O6.out b7 O6.out.lt)
    have B7 := Lib.hid (B6.out.trans (b7.mono B6.out.size))
    clear b7 M6 O6 B6
    clear c
    go_wp2_with (first | (with_reducible refine wpList_load_whole_st Mr.isRec rfl _ rfl gM (by with_unfolding_all exact rfl) _ _ (Mr.len _) M7.out ?_) | (with_reducible refine wpList_load_whole_st Mr.isRec rfl _ rfl gO (by with_unfolding_all exact rfl) _ _ (Mr.len _) O7.out ?_) | (with_reducible refine wpList_put_cell 4 ⟨by kernel_rfl, by kernel_rfl⟩ rfl _ _ rfl gM 6 (by with_unfolding_all exact rfl) (.bool false) (by with_unfolding_all exact rfl) (by with_unfolding_all exact rfl) (by with_unfolding_all exact rfl) _ _ M7.out _ (by with_unfolding_all exact rfl) ?_))
    intro w8 q8 x8 z8
    have M8 : Hid (Mr.At w8 gM (Mg.raw ⟨m.kind, m.rid, m.ver, 0, m.id, false, false, m.key, m.val, m.es, m.its⟩ e t)) := Lib.hid x8
    have O8 : Hid (Mr.At w8 gO Mr.zero) := Lib.hid (grown_far O7.out q8 (by have := N_M_O.out; omega))
    have B8 := Lib.hid (B7.out.grown q8 B7.out.size (fun k hk => by injection hk with hk; have := M_M.out; omega))
    clear q8 x8 z8 M7 O7 B7
    have c : w8.cell? ⟨gM, 0, none⟩ = some (.int .i64 m.kind) := M8.out.at_ 0
    go_wp2_with (first | (with_reducible refine wpList_load_whole_st Mr.isRec rfl _ rfl gM (by with_unfolding_all exact rfl) _ _ (Mr.len _) M8.out ?_) | (with_reducible refine wpList_load_whole_st Mr.isRec rfl _ rfl gO (by with_unfolding_all exact rfl) _ _ (Mr.len _) O8.out ?_))
    refine ((C3 w8).out).mono ?_
    rintro e9 w9 ⟨rfl, b9⟩
    have M9 : Hid (Mr.At w9 gM (Mg.raw ⟨m.kind, m.rid, m.ver, 0, m.id, false, false, m.key, m.val, m.es, m.its⟩ e t)) := Lib.hid (Whole.below M8.out b9 M8.out.lt)
    have O9 : Hid (Mr.At w9 gO Mr.zero) := Lib.hid (Whole.below O8.out b9 O8.out.lt)
    have B9 := Lib.hid (B8.out.trans (b9.mono B8.out.size))
    clear b9 M8 O8 B8
    clear c
    go_wp2_with (first | (with_reducible refine wpList_load_whole_st Mr.isRec rfl _ rfl gM (by with_unfolding_all exact rfl) _ _ (Mr.len _) M9.out ?_) | (with_reducible refine wpList_load_whole_st Mr.isRec rfl _ rfl gO (by with_unfolding_all exact rfl) _ _ (Mr.len _) O9.out ?_) | (with_reducible refine wpList_put_cell 23 ⟨by kernel_rfl, by kernel_rfl⟩ rfl _ _ rfl gM 4 (by with_unfolding_all exact rfl) (.int .u64 ((0 : Nat) : Int)) (by with_unfolding_all exact rfl) (by with_unfolding_all exact rfl) (by with_unfolding_all exact rfl) _ _ M9.out _ (by with_unfolding_all exact rfl) ?_))
    intro w10 q10 x10 z10
    have M10 : Hid (Mr.At w10 gM (Mg.raw ⟨m.kind, m.rid, m.ver, 0, 0, false, false, m.key, m.val, m.es, m.its⟩ e t)) := Lib.hid x10
    have O10 : Hid (Mr.At w10 gO Mr.zero) := Lib.hid (grown_far O9.out q10 (by have := N_M_O.out; omega))
    have B10 := Lib.hid (B9.out.grown q10 B9.out.size (fun k hk => by injection hk with hk; have := M_M.out; omega))
    clear q10 x10 z10 M9 O9 B9
    have c : w10.cell? ⟨gM, 0, none⟩ = some (.int .i64 m.kind) := M10.out.at_ 0
    go_wp2_with (first | (with_reducible refine wpList_load_whole_st Mr.isRec rfl _ rfl gM (by with_unfolding_all exact rfl) _ _ (Mr.len _) M10.out ?_) | (with_reducible refine wpList_load_whole_st Mr.isRec rfl _ rfl gO (by with_unfolding_all exact rfl) _ _ (Mr.len _) O10.out ?_))
    refine ((C4 w10).out).mono ?_
    rintro e11 w11 ⟨rfl, b11⟩
    have M11 : Hid (Mr.At w11 gM (Mg.raw ⟨m.kind, m.rid, m.ver, 0, 0, false, false, m.key, m.val, m.es, m.its⟩ e t)) := Lib.hid (Whole.below M10.out b11 M10.out.lt)
    have O11 : Hid (Mr.At w11 gO Mr.zero) := Lib.hid (Whole.below O10.out b11 O10.out.lt)
    have B11 := Lib.hid (B10.out.trans (b11.mono B10.out.size))
    clear b11 M10 O10 B10
    clear c
    go_wp2_with (first | (with_reducible refine wpList_load_whole_st Mr.isRec rfl _ rfl gM (by with_unfolding_all exact rfl) _ _ (Mr.len _) M11.out ?_) | (with_reducible refine wpList_load_whole_st Mr.isRec rfl _ rfl gO (by with_unfolding_all exact rfl) _ _ (Mr.len _) O11.out ?_) | (with_reducible refine wpList_put_cell 3 ⟨by kernel_rfl, by kernel_rfl⟩ rfl _ _ rfl gM 2 (by with_unfolding_all exact rfl) (.int .i64 0) (by with_unfolding_all exact rfl) (by with_unfolding_all exact rfl) (by with_unfolding_all exact rfl) _ _ M11.out _ (by with_unfolding_all exact rfl) ?_))
    intro w12 q12 x12 z12
    have M12 : Hid (Mr.At w12 gM (Mg.raw ⟨m.kind, m.rid, 0, 0, 0, false, false, m.key, m.val, m.es, m.its⟩ e t)) := Lib.hid x12
    have O12 : Hid (Mr.At w12 gO Mr.zero) := Lib.hid (grown_far O11.out q12 (by have := N_M_O.out; omega))
    have B12 := Lib.hid (B11.out.grown q12 B11.out.size (fun k hk => by injection hk with hk; have := M_M.out; omega))
    clear q12 x12 z12 M11 O11 B11
    have c : w12.cell? ⟨gM, 0, none⟩ = some (.int .i64 m.kind) := M12.out.at_ 0
    go_wp2_with (first | (with_reducible refine wpList_load_whole_st Mr.isRec rfl _ rfl gM (by with_unfolding_all exact rfl) _ _ (Mr.len _) M12.out ?_) | (with_reducible refine wpList_load_whole_st Mr.isRec rfl _ rfl gO (by with_unfolding_all exact rfl) _ _ (Mr.len _) O12.out ?_))
    refine ((C5 w12).out).mono ?_
    rintro e13 w13 ⟨rfl, b13⟩
    have M13 : Hid (Mr.At w13 gM (Mg.raw ⟨m.kind, m.rid, 0, 0, 0, false, false, m.key, m.val, m.es, m.its⟩ e t)) := Lib.hid (Whole.below M12.out b13 M12.out.lt)
    have O13 : Hid (Mr.At w13 gO Mr.zero) := Lib.hid (Whole.below O12.out b13 O12.out.lt)
    have B13 := Lib.hid (B12.out.trans (b13.mono B12.out.size))
    clear b13 M12 O12 B12
    clear c
    go_wp2_with (first | (with_reducible refine wpList_load_whole_st Mr.isRec rfl _ rfl gM (by with_unfolding_all exact rfl) _ _ (Mr.len _) M13.out ?_) | (with_reducible refine wpList_load_whole_st Mr.isRec rfl _ rfl gO (by with_unfolding_all exact rfl) _ _ (Mr.len _) O13.out ?_) | (with_reducible refine wpList_put_cell 9 ⟨by kernel_rfl, by kernel_rfl⟩ rfl _ _ rfl gM 7 (by with_unfolding_all exact rfl) (.string ⟨([] : List UInt8).toArray⟩) (by with_unfolding_all exact rfl) (by with_unfolding_all exact rfl) (by with_unfolding_all exact rfl) _ _ M13.out _ (by with_unfolding_all exact rfl) ?_))
    intro w14 q14 x14 z14
    have M14 : Hid (Mr.At w14 gM (Mg.raw ⟨m.kind, m.rid, 0, 0, 0, false, false, [], m.val, m.es, m.its⟩ e t)) := Lib.hid x14
    have O14 : Hid (Mr.At w14 gO Mr.zero) := Lib.hid (grown_far O13.out q14 (by have := N_M_O.out; omega))
    have B14 := Lib.hid (B13.out.grown q14 B13.out.size (fun k hk => by injection hk with hk; have := M_M.out; omega))
    clear q14 x14 z14 M13 O13 B13
    have c : w14.cell? ⟨gM, 0, none⟩ = some (.int .i64 m.kind) := M14.out.at_ 0
    go_wp2_with (first | (with_reducible refine wpList_load_whole_st Mr.isRec rfl _ rfl gM (by with_unfolding_all exact rfl) _ _ (Mr.len _) M14.out ?_) | (with_reducible refine wpList_load_whole_st Mr.isRec rfl _ rfl gO (by with_unfolding_all exact rfl) _ _ (Mr.len _) O14.out ?_))
    refine ((C6 w14).out).mono ?_
    rintro e15 w15 ⟨rfl, b15⟩
    have M15 : Hid (Mr.At w15 gM (Mg.raw ⟨m.kind, m.rid, 0, 0, 0, false, false, [], m.val, m.es, m.its⟩ e t)) := Lib.hid (Whole.below M14.out b15 M14.out.lt)
    have O15 : Hid (Mr.At w15 gO Mr.zero) := Lib.hid (Whole.below O14.out b15 O14.out.lt)
    have B15 := Lib.hid (B14.out.trans (b15.mono B14.out.size))
    clear b15 M14 O14 B14
    clear c
    go_wp2_with (first | (with_reducible refine wpList_load_whole_st Mr.isRec rfl _ rfl gM (by with_unfolding_all exact rfl) _ _ (Mr.len _) M15.out ?_) | (with_reducible refine wpList_load_whole_st Mr.isRec rfl _ rfl gO (by with_unfolding_all exact rfl) _ _ (Mr.len _) O15.out ?_) | (with_reducible refine wpList_put_cell 9 ⟨by kernel_rfl, by kernel_rfl⟩ rfl _ _ rfl gM 8 (by with_unfolding_all exact rfl) (.string ⟨([] : List UInt8).toArray⟩) (by with_unfolding_all exact rfl) (by with_unfolding_all exact rfl) (by with_unfolding_all exact rfl) _ _ M15.out _ (by with_unfolding_all exact rfl) ?_))
    intro w16 q16 x16 z16
    have M16 : Hid (Mr.At w16 gM (Mg.raw ⟨m.kind, m.rid, 0, 0, 0, false, false, [], [], m.es, m.its⟩ e t)) := Lib.hid x16
    have O16 : Hid (Mr.At w16 gO Mr.zero) := Lib.hid (grown_far O15.out q16 (by have := N_M_O.out; omega))
    have B16 := Lib.hid (B15.out.grown q16 B15.out.size (fun k hk => by injection hk with hk; have := M_M.out; omega))
    clear q16 x16 z16 M15 O15 B15
    have c : w16.cell? ⟨gM, 0, none⟩ = some (.int .i64 m.kind) := M16.out.at_ 0
    go_wp2_with (first | (with_reducible refine wpList_load_whole_st Mr.isRec rfl _ rfl gM (by with_unfolding_all exact rfl) _ _ (Mr.len _) M16.out ?_) | (with_reducible refine wpList_load_whole_st Mr.isRec rfl _ rfl gO (by with_unfolding_all exact rfl) _ _ (Mr.len _) O16.out ?_))
    refine ((C7 w16).out).mono ?_
    rintro e17 w17 ⟨rfl, b17⟩
    have M17 : Hid (Mr.At w17 gM (Mg.raw ⟨m.kind, m.rid, 0, 0, 0, false, false, [], [], m.es, m.its⟩ e t)) := Lib.hid (Whole.below M16.out b17 M16.out.lt)
    have O17 : Hid (Mr.At w17 gO Mr.zero) := Lib.hid (Whole.below O16.out b17 O16.out.lt)
    have B17 := Lib.hid (B16.out.trans (b17.mono B16.out.size))
    clear b17 M16 O16 B16
    clear c
    go_wp2_with (first | (with_reducible refine wpList_load_whole_st Mr.isRec rfl _ rfl gM (by with_unfolding_all exact rfl) _ _ (Mr.len _) M17.out ?_) | (with_reducible refine wpList_load_whole_st Mr.isRec rfl _ rfl gO (by with_unfolding_all exact rfl) _ _ (Mr.len _) O17.out ?_) | (with_reducible refine wpList_put_cell 24 ⟨by kernel_rfl, by kernel_rfl⟩ rfl _ _ rfl gM 9 (by with_unfolding_all exact rfl) (.slice none 0 0) (by with_unfolding_all exact rfl) (by with_unfolding_all exact rfl) (by with_unfolding_all exact rfl) _ _ M17.out _ (by with_unfolding_all exact rfl) ?_))
    intro w18 q18 x18 z18
    have M18 : Hid (Mr.At w18 gM (Mg.raw ⟨m.kind, m.rid, 0, 0, 0, false, false, [], [], [], m.its⟩ Row.nil t)) := Lib.hid x18
    have O18 : Hid (Mr.At w18 gO Mr.zero) := Lib.hid (grown_far O17.out q18 (by have := N_M_O.out; omega))
    have B18 := Lib.hid (B17.out.grown q18 B17.out.size (fun k hk => by injection hk with hk; have := M_M.out; omega))
    clear q18 x18 z18 M17 O17 B17
    have c : w18.cell? ⟨gM, 0, none⟩ = some (.int .i64 m.kind) := M18.out.at_ 0
    go_wp2_with (first | (with_reducible refine wpList_load_whole_st Mr.isRec rfl _ rfl gM (by with_unfolding_all exact rfl) _ _ (Mr.len _) M18.out ?_) | (with_reducible refine wpList_load_whole_st Mr.isRec rfl _ rfl gO (by with_unfolding_all exact rfl) _ _ (Mr.len _) O18.out ?_))
    refine ((C8 w18).out).mono ?_
    rintro e19 w19 ⟨rfl, b19⟩
    have M19 : Hid (Mr.At w19 gM (Mg.raw ⟨m.kind, m.rid, 0, 0, 0, false, false, [], [], [], m.its⟩ Row.nil t)) := Lib.hid (Whole.below M18.out b19 M18.out.lt)
    have O19 : Hid (Mr.At w19 gO Mr.zero) := Lib.hid (Whole.below O18.out b19 O18.out.lt)
    have B19 := Lib.hid (B18.out.trans (b19.mono B18.out.size))
    clear b19 M18 O18 B18
    clear c
    go_wp2_with (first | (with_reducible refine wpList_load_whole_st Mr.isRec rfl _ rfl gM (by with_unfolding_all exact rfl) _ _ (Mr.len _) M19.out ?_) | (with_reducible refine wpList_load_whole_st Mr.isRec rfl _ rfl gO (by with_unfolding_all exact rfl) _ _ (Mr.len _) O19.out ?_) | (with_reducible refine wpList_store_whole rfl 27 _ _ rfl gO (Mg.raw ⟨m.kind, m.rid, 0, 0, 0, false, false, [], [], [], m.its⟩ Row.nil t).enc.toArray (by with_unfolding_all exact rfl) (by with_unfolding_all exact rfl) _ _ O19.out (Mr.size _) rfl (Mr.one _) ?_))
    intro w20 q20 x20 z20
    have O20 : Hid (Mr.At w20 gO (Mg.raw ⟨m.kind, m.rid, 0, 0, 0, false, false, [], [], [], m.its⟩ Row.nil t)) := Lib.hid x20
    have M20 : Hid (Mr.At w20 gM (Mg.raw ⟨m.kind, m.rid, 0, 0, 0, false, false, [], [], [], m.its⟩ Row.nil t)) := Lib.hid (grown_far M19.out q20 (by have := N_M_O.out; omega))
    have B20 := Lib.hid (B19.out.grown q20 B19.out.size (fun k hk => by injection hk with hk; have := M_O.out; omega))
    clear q20 x20 z20 O19 M19 B19
    go_wp2
    exact bodyPost_ret (results_st Mr.isRec rfl _ _ _ _ _ rfl rfl O20.out) rfl ⟨Row.nil, t, by rw [HM.out]; rfl, by rw [HM.out]; exact ⟨rows_nil _ 6, (H.out.below B20.out).its⟩, B20.out⟩
  · have d0 : inK m.kind 0 = true := by rw [inK, hp]; decide
    have d1 : inK m.kind 1 = false := by rw [inK, hp]; decide
    have d2 : inK m.kind 2 = false := by rw [inK, hp]; decide
    have d3 : inK m.kind 3 = false := by rw [inK, hp]; decide
    have d4 : inK m.kind 4 = false := by rw [inK, hp]; decide
    have d5 : inK m.kind 5 = false := by rw [inK, hp]; decide
    have d6 : inK m.kind 6 = false := by rw [inK, hp]; decide
    have d7 : inK m.kind 7 = false := by rw [inK, hp]; decide
    have d8 : inK m.kind 8 = false := by rw [inK, hp]; decide
    simp only [d0, d1, d2, d3, d4, d5, d6, d7, d8] at HM C0 C1 C2 C3 C4 C5 C6 C7 C8
    clear d0 d1 d2 d3 d4 d5 d6 d7 d8 hp
    go_enter Try.func16, Try.ntmps16
    go_wp2_with (refine wpList_box_row rfl 27 _ rfl (m.raw e t).enc.toArray (by with_unfolding_all exact rfl) ?_)
    intro w1 b1 x1 z1
    obtain ⟨gM, hgM⟩ : ∃ g, g = w.heap.size := ⟨_, rfl⟩
    have M_M := Lib.hid (show w.heap.size ≤ gM from by rw [hgM]; exact Nat.le_refl _)
    have B1 := Lib.hid b1
    rw [← hgM] at x1 ⊢
    have M1 : Hid (Mr.At w1 gM (m.raw e t)) := Lib.hid x1
    clear b1 x1 z1 hgM 
    go_wp2_with (first | (with_reducible refine wpList_load_whole_st Mr.isRec rfl _ rfl gM (by with_unfolding_all exact rfl) _ _ (Mr.len _) M1.out ?_) | (refine wpList_alloc_row rfl 27 rfl Mr.zero.enc.toArray Mr.zero_is ?_))
    intro w2 b2 x2 z2
    obtain ⟨gO, hgO⟩ : ∃ g, g = w1.heap.size := ⟨_, rfl⟩
    have N_M_O := Lib.hid (show gM < gO from by rw [hgO]; exact M1.out.lt)
    have M_O := Lib.hid (show w.heap.size ≤ gO from by rw [hgO]; exact B1.out.size)
    have M2 : Hid (Mr.At w2 gM (m.raw e t)) := Lib.hid (Whole.below M1.out b2 M1.out.lt)
    have B2 := Lib.hid (B1.out.trans (b2.mono B1.out.size))
    rw [← hgO] at x2 ⊢
    have O2 : Hid (Mr.At w2 gO Mr.zero) := Lib.hid x2
    clear b2 x2 z2 hgO M1 B1
    have c : w2.cell? ⟨gM, 0, none⟩ = some (.int .i64 m.kind) := M2.out.at_ 0
    go_wp2_with (first | (with_reducible refine wpList_load_whole_st Mr.isRec rfl _ rfl gM (by with_unfolding_all exact rfl) _ _ (Mr.len _) M2.out ?_) | (with_reducible refine wpList_load_whole_st Mr.isRec rfl _ rfl gO (by with_unfolding_all exact rfl) _ _ (Mr.len _) O2.out ?_))
    refine ((C0 w2).out).mono ?_
    rintro e3 w3 ⟨rfl, b3⟩
    have M3 : Hid (Mr.At w3 gM (m.raw e t)) := Lib.hid (Whole.below M2.out b3 M2.out.lt)
    have O3 : Hid (Mr.At w3 gO Mr.zero) := Lib.hid (Whole.below O2.out b3 O2.out.lt)
    have B3 := Lib.hid (B2.out.trans (b3.mono B2.out.size))
    clear b3 M2 O2 B2
    clear c
    have c : w3.cell? ⟨gM, 0, none⟩ = some (.int .i64 m.kind) := M3.out.at_ 0
    go_wp2_with (first | (with_reducible refine wpList_load_whole_st Mr.isRec rfl _ rfl gM (by with_unfolding_all exact rfl) _ _ (Mr.len _) M3.out ?_) | (with_reducible refine wpList_load_whole_st Mr.isRec rfl _ rfl gO (by with_unfolding_all exact rfl) _ _ (Mr.len _) O3.out ?_))
    refine ((C1 w3).out).mono ?_
    rintro e4 w4 ⟨rfl, b4⟩
    have M4 : Hid (Mr.At w4 gM (m.raw e t)) := Lib.hid (Whole.below M3.out b4 M3.out.lt)
    have O4 : Hid (Mr.At w4 gO Mr.zero) := Lib.hid (Whole.below O3.out b4 O3.out.lt)
    have B4 := Lib.hid (B3.out.trans (b4.mono B3.out.size))
    clear b4 M3 O3 B3
    clear c
    go_wp2_with (first | (with_reducible refine wpList_load_whole_st Mr.isRec rfl _ rfl gM (by with_unfolding_all exact rfl) _ _ (Mr.len _) M4.out ?_) | (with_reducible refine wpList_load_whole_st Mr.isRec rfl _ rfl gO (by with_unfolding_all exact rfl) _ _ (Mr.len _) O4.out ?_) | (with_reducible refine wpList_put_cell 4 ⟨by kernel_rfl, by kernel_rfl⟩ rfl _ _ rfl gM 5 (by with_unfolding_all exact rfl) (.bool false) (by with_unfolding_all exact rfl) (by with_unfolding_all exact rfl) (by with_unfolding_all exact rfl) _ _ M4.out _ (by with_unfolding_all exact rfl) ?_))
    intro w5 q5 x5 z5
    have M5 : Hid (Mr.At w5 gM (Mg.raw ⟨m.kind, m.rid, m.ver, m.error, m.id, false, m.gone, m.key, m.val, m.es, m.its⟩ e t)) := Lib.hid x5
    have O5 : Hid (Mr.At w5 gO Mr.zero) := Lib.hid (grown_far O4.out q5 (by have := N_M_O.out; omega))
    have B5 := Lib.hid (B4.out.grown q5 B4.out.size (fun k hk => by injection hk with hk; have := M_M.out; omega))
    clear q5 x5 z5 M4 O4 B4
    have c : w5.cell? ⟨gM, 0, none⟩ = some (.int .i64 m.kind) := M5.out.at_ 0
    go_wp2_with (first | (with_reducible refine wpList_load_whole_st Mr.isRec rfl _ rfl gM (by with_unfolding_all exact rfl) _ _ (Mr.len _) M5.out ?_) | (with_reducible refine wpList_load_whole_st Mr.isRec rfl _ rfl gO (by with_unfolding_all exact rfl) _ _ (Mr.len _) O5.out ?_))
    refine ((C2 w5).out).mono ?_
    rintro e6 w6 ⟨rfl, b6⟩
    have M6 : Hid (Mr.At w6 gM (Mg.raw ⟨m.kind, m.rid, m.ver, m.error, m.id, false, m.gone, m.key, m.val, m.es, m.its⟩ e t)) := Lib.hid (Whole.below M5.out b6 M5.out.lt)
    have O6 : Hid (Mr.At w6 gO Mr.zero) := Lib.hid (Whole.below O5.out b6 O5.out.lt)
    have B6 := Lib.hid (B5.out.trans (b6.mono B5.out.size))
    clear b6 M5 O5 B5
    clear c
    go_wp2_with (first | (with_reducible refine wpList_load_whole_st Mr.isRec rfl _ rfl gM (by with_unfolding_all exact rfl) _ _ (Mr.len _) M6.out ?_) | (with_reducible refine wpList_load_whole_st Mr.isRec rfl _ rfl gO (by with_unfolding_all exact rfl) _ _ (Mr.len _) O6.out ?_) | (with_reducible refine wpList_put_cell 4 ⟨by kernel_rfl, by kernel_rfl⟩ rfl _ _ rfl gM 6 (by with_unfolding_all exact rfl) (.bool false) (by with_unfolding_all exact rfl) (by with_unfolding_all exact rfl) (by with_unfolding_all exact rfl) _ _ M6.out _ (by with_unfolding_all exact rfl) ?_))
    intro w7 q7 x7 z7
    have M7 : Hid (Mr.At w7 gM (Mg.raw ⟨m.kind, m.rid, m.ver, m.error, m.id, false, false, m.key, m.val, m.es, m.its⟩ e t)) := Lib.hid x7
    have O7 : Hid (Mr.At w7 gO Mr.zero) := Lib.hid (grown_far O6.out q7 (by have := N_M_O.out; omega))
    have B7 := Lib.hid (B6.out.grown q7 B6.out.size (fun k hk => by injection hk with hk; have := M_M.out; omega))
    clear q7 x7 z7 M6 O6 B6
    have c : w7.cell? ⟨gM, 0, none⟩ = some (.int .i64 m.kind) := M7.out.at_ 0
    go_wp2_with (first | (with_reducible refine wpList_load_whole_st Mr.isRec rfl _ rfl gM (by with_unfolding_all exact rfl) _ _ (Mr.len _) M7.out ?_) | (with_reducible refine wpList_load_whole_st Mr.isRec rfl _ rfl gO (by with_unfolding_all exact rfl) _ _ (Mr.len _) O7.out ?_))
    refine ((C3 w7).out).mono ?_
    rintro e8 w8 ⟨rfl, b8⟩
    have M8 : Hid (Mr.At w8 gM (Mg.raw ⟨m.kind, m.rid, m.ver, m.error, m.id, false, false, m.key, m.val, m.es, m.its⟩ e t)) := Lib.hid (Whole.below M7.out b8 M7.out.lt)
    have O8 : Hid (Mr.At w8 gO Mr.zero) := Lib.hid (Whole.below O7.out b8 O7.out.lt)
    have B8 := Lib.hid (B7.out.trans (b8.mono B7.out.size))
    clear b8 M7 O7 B7
    clear c
    go_wp2_with (first | (with_reducible refine wpList_load_whole_st Mr.isRec rfl _ rfl gM (by with_unfolding_all exact rfl) _ _ (Mr.len _) M8.out ?_) | (with_reducible refine wpList_load_whole_st Mr.isRec rfl _ rfl gO (by with_unfolding_all exact rfl) _ _ (Mr.len _) O8.out ?_) | (with_reducible refine wpList_put_cell 23 ⟨by kernel_rfl, by kernel_rfl⟩ rfl _ _ rfl gM 4 (by with_unfolding_all exact rfl) (.int .u64 ((0 : Nat) : Int)) (by with_unfolding_all exact rfl) (by with_unfolding_all exact rfl) (by with_unfolding_all exact rfl) _ _ M8.out _ (by with_unfolding_all exact rfl) ?_))
    intro w9 q9 x9 z9
    have M9 : Hid (Mr.At w9 gM (Mg.raw ⟨m.kind, m.rid, m.ver, m.error, 0, false, false, m.key, m.val, m.es, m.its⟩ e t)) := Lib.hid x9
    have O9 : Hid (Mr.At w9 gO Mr.zero) := Lib.hid (grown_far O8.out q9 (by have := N_M_O.out; omega))
    have B9 := Lib.hid (B8.out.grown q9 B8.out.size (fun k hk => by injection hk with hk; have := M_M.out; omega))
    clear q9 x9 z9 M8 O8 B8
    have c : w9.cell? ⟨gM, 0, none⟩ = some (.int .i64 m.kind) := M9.out.at_ 0
    go_wp2_with (first | (with_reducible refine wpList_load_whole_st Mr.isRec rfl _ rfl gM (by with_unfolding_all exact rfl) _ _ (Mr.len _) M9.out ?_) | (with_reducible refine wpList_load_whole_st Mr.isRec rfl _ rfl gO (by with_unfolding_all exact rfl) _ _ (Mr.len _) O9.out ?_))
    refine ((C4 w9).out).mono ?_
    rintro e10 w10 ⟨rfl, b10⟩
    have M10 : Hid (Mr.At w10 gM (Mg.raw ⟨m.kind, m.rid, m.ver, m.error, 0, false, false, m.key, m.val, m.es, m.its⟩ e t)) := Lib.hid (Whole.below M9.out b10 M9.out.lt)
    have O10 : Hid (Mr.At w10 gO Mr.zero) := Lib.hid (Whole.below O9.out b10 O9.out.lt)
    have B10 := Lib.hid (B9.out.trans (b10.mono B9.out.size))
    clear b10 M9 O9 B9
    clear c
    go_wp2_with (first | (with_reducible refine wpList_load_whole_st Mr.isRec rfl _ rfl gM (by with_unfolding_all exact rfl) _ _ (Mr.len _) M10.out ?_) | (with_reducible refine wpList_load_whole_st Mr.isRec rfl _ rfl gO (by with_unfolding_all exact rfl) _ _ (Mr.len _) O10.out ?_) | (with_reducible refine wpList_put_cell 3 ⟨by kernel_rfl, by kernel_rfl⟩ rfl _ _ rfl gM 2 (by with_unfolding_all exact rfl) (.int .i64 0) (by with_unfolding_all exact rfl) (by with_unfolding_all exact rfl) (by with_unfolding_all exact rfl) _ _ M10.out _ (by with_unfolding_all exact rfl) ?_))
    intro w11 q11 x11 z11
    have M11 : Hid (Mr.At w11 gM (Mg.raw ⟨m.kind, m.rid, 0, m.error, 0, false, false, m.key, m.val, m.es, m.its⟩ e t)) := Lib.hid x11
    have O11 : Hid (Mr.At w11 gO Mr.zero) := Lib.hid (grown_far O10.out q11 (by have := N_M_O.out; omega))
    have B11 := Lib.hid (B10.out.grown q11 B10.out.size (fun k hk => by injection hk with hk; have := M_M.out; omega))
    clear q11 x11 z11 M10 O10 B10
    have c : w11.cell? ⟨gM, 0, none⟩ = some (.int .i64 m.kind) := M11.out.at_ 0
    go_wp2_with (first | (with_reducible refine wpList_load_whole_st Mr.isRec rfl _ rfl gM (by with_unfolding_all exact rfl) _ _ (Mr.len _) M11.out ?_) | (with_reducible refine wpList_load_whole_st Mr.isRec rfl _ rfl gO (by with_unfolding_all exact rfl) _ _ (Mr.len _) O11.out ?_))
    refine ((C5 w11).out).mono ?_
    rintro e12 w12 ⟨rfl, b12⟩
    have M12 : Hid (Mr.At w12 gM (Mg.raw ⟨m.kind, m.rid, 0, m.error, 0, false, false, m.key, m.val, m.es, m.its⟩ e t)) := Lib.hid (Whole.below M11.out b12 M11.out.lt)
    have O12 : Hid (Mr.At w12 gO Mr.zero) := Lib.hid (Whole.below O11.out b12 O11.out.lt)
    have B12 := Lib.hid (B11.out.trans (b12.mono B11.out.size))
    clear b12 M11 O11 B11
    clear c
    go_wp2_with (first | (with_reducible refine wpList_load_whole_st Mr.isRec rfl _ rfl gM (by with_unfolding_all exact rfl) _ _ (Mr.len _) M12.out ?_) | (with_reducible refine wpList_load_whole_st Mr.isRec rfl _ rfl gO (by with_unfolding_all exact rfl) _ _ (Mr.len _) O12.out ?_) | (with_reducible refine wpList_put_cell 9 ⟨by kernel_rfl, by kernel_rfl⟩ rfl _ _ rfl gM 7 (by with_unfolding_all exact rfl) (.string ⟨([] : List UInt8).toArray⟩) (by with_unfolding_all exact rfl) (by with_unfolding_all exact rfl) (by with_unfolding_all exact rfl) _ _ M12.out _ (by with_unfolding_all exact rfl) ?_))
    intro w13 q13 x13 z13
    have M13 : Hid (Mr.At w13 gM (Mg.raw ⟨m.kind, m.rid, 0, m.error, 0, false, false, [], m.val, m.es, m.its⟩ e t)) := Lib.hid x13
    have O13 : Hid (Mr.At w13 gO Mr.zero) := Lib.hid (grown_far O12.out q13 (by have := N_M_O.out; omega))
    have B13 := Lib.hid (B12.out.grown q13 B12.out.size (fun k hk => by injection hk with hk; have := M_M.out; omega))
    clear q13 x13 z13 M12 O12 B12
    have c : w13.cell? ⟨gM, 0, none⟩ = some (.int .i64 m.kind) := M13.out.at_ 0
    go_wp2_with (first | (with_reducible refine wpList_load_whole_st Mr.isRec rfl _ rfl gM (by with_unfolding_all exact rfl) _ _ (Mr.len _) M13.out ?_) | (with_reducible refine wpList_load_whole_st Mr.isRec rfl _ rfl gO (by with_unfolding_all exact rfl) _ _ (Mr.len _) O13.out ?_))
    refine ((C6 w13).out).mono ?_
    rintro e14 w14 ⟨rfl, b14⟩
    have M14 : Hid (Mr.At w14 gM (Mg.raw ⟨m.kind, m.rid, 0, m.error, 0, false, false, [], m.val, m.es, m.its⟩ e t)) := Lib.hid (Whole.below M13.out b14 M13.out.lt)
    have O14 : Hid (Mr.At w14 gO Mr.zero) := Lib.hid (Whole.below O13.out b14 O13.out.lt)
    have B14 := Lib.hid (B13.out.trans (b14.mono B13.out.size))
    clear b14 M13 O13 B13
    clear c
    go_wp2_with (first | (with_reducible refine wpList_load_whole_st Mr.isRec rfl _ rfl gM (by with_unfolding_all exact rfl) _ _ (Mr.len _) M14.out ?_) | (with_reducible refine wpList_load_whole_st Mr.isRec rfl _ rfl gO (by with_unfolding_all exact rfl) _ _ (Mr.len _) O14.out ?_) | (with_reducible refine wpList_put_cell 9 ⟨by kernel_rfl, by kernel_rfl⟩ rfl _ _ rfl gM 8 (by with_unfolding_all exact rfl) (.string ⟨([] : List UInt8).toArray⟩) (by with_unfolding_all exact rfl) (by with_unfolding_all exact rfl) (by with_unfolding_all exact rfl) _ _ M14.out _ (by with_unfolding_all exact rfl) ?_))
    intro w15 q15 x15 z15
    have M15 : Hid (Mr.At w15 gM (Mg.raw ⟨m.kind, m.rid, 0, m.error, 0, false, false, [], [], m.es, m.its⟩ e t)) := Lib.hid x15
    have O15 : Hid (Mr.At w15 gO Mr.zero) := Lib.hid (grown_far O14.out q15 (by have := N_M_O.out; omega))
    have B15 := Lib.hid (B14.out.grown q15 B14.out.size (fun k hk => by injection hk with hk; have := M_M.out; omega))
    clear q15 x15 z15 M14 O14 B14
    have c : w15.cell? ⟨gM, 0, none⟩ = some (.int .i64 m.kind) := M15.out.at_ 0
    go_wp2_with (first | (with_reducible refine wpList_load_whole_st Mr.isRec rfl _ rfl gM (by with_unfolding_all exact rfl) _ _ (Mr.len _) M15.out ?_) | (with_reducible refine wpList_load_whole_st Mr.isRec rfl _ rfl gO (by with_unfolding_all exact rfl) _ _ (Mr.len _) O15.out ?_))
    refine ((C7 w15).out).mono ?_
    rintro e16 w16 ⟨rfl, b16⟩
    have M16 : Hid (Mr.At w16 gM (Mg.raw ⟨m.kind, m.rid, 0, m.error, 0, false, false, [], [], m.es, m.its⟩ e t)) := Lib.hid (Whole.below M15.out b16 M15.out.lt)
    have O16 : Hid (Mr.At w16 gO Mr.zero) := Lib.hid (Whole.below O15.out b16 O15.out.lt)
    have B16 := Lib.hid (B15.out.trans (b16.mono B15.out.size))
    clear b16 M15 O15 B15
    clear c
    go_wp2_with (first | (with_reducible refine wpList_load_whole_st Mr.isRec rfl _ rfl gM (by with_unfolding_all exact rfl) _ _ (Mr.len _) M16.out ?_) | (with_reducible refine wpList_load_whole_st Mr.isRec rfl _ rfl gO (by with_unfolding_all exact rfl) _ _ (Mr.len _) O16.out ?_) | (with_reducible refine wpList_put_cell 24 ⟨by kernel_rfl, by kernel_rfl⟩ rfl _ _ rfl gM 9 (by with_unfolding_all exact rfl) (.slice none 0 0) (by with_unfolding_all exact rfl) (by with_unfolding_all exact rfl) (by with_unfolding_all exact rfl) _ _ M16.out _ (by with_unfolding_all exact rfl) ?_))
    intro w17 q17 x17 z17
    have M17 : Hid (Mr.At w17 gM (Mg.raw ⟨m.kind, m.rid, 0, m.error, 0, false, false, [], [], [], m.its⟩ Row.nil t)) := Lib.hid x17
    have O17 : Hid (Mr.At w17 gO Mr.zero) := Lib.hid (grown_far O16.out q17 (by have := N_M_O.out; omega))
    have B17 := Lib.hid (B16.out.grown q17 B16.out.size (fun k hk => by injection hk with hk; have := M_M.out; omega))
    clear q17 x17 z17 M16 O16 B16
    have c : w17.cell? ⟨gM, 0, none⟩ = some (.int .i64 m.kind) := M17.out.at_ 0
    go_wp2_with (first | (with_reducible refine wpList_load_whole_st Mr.isRec rfl _ rfl gM (by with_unfolding_all exact rfl) _ _ (Mr.len _) M17.out ?_) | (with_reducible refine wpList_load_whole_st Mr.isRec rfl _ rfl gO (by with_unfolding_all exact rfl) _ _ (Mr.len _) O17.out ?_))
    refine ((C8 w17).out).mono ?_
    rintro e18 w18 ⟨rfl, b18⟩
    have M18 : Hid (Mr.At w18 gM (Mg.raw ⟨m.kind, m.rid, 0, m.error, 0, false, false, [], [], [], m.its⟩ Row.nil t)) := Lib.hid (Whole.below M17.out b18 M17.out.lt)
    have O18 : Hid (Mr.At w18 gO Mr.zero) := Lib.hid (Whole.below O17.out b18 O17.out.lt)
    have B18 := Lib.hid (B17.out.trans (b18.mono B17.out.size))
    clear b18 M17 O17 B17
    clear c
    go_wp2_with (first | (with_reducible refine wpList_load_whole_st Mr.isRec rfl _ rfl gM (by with_unfolding_all exact rfl) _ _ (Mr.len _) M18.out ?_) | (with_reducible refine wpList_load_whole_st Mr.isRec rfl _ rfl gO (by with_unfolding_all exact rfl) _ _ (Mr.len _) O18.out ?_) | (with_reducible refine wpList_put_cell 25 ⟨by kernel_rfl, by kernel_rfl⟩ rfl _ _ rfl gM 10 (by with_unfolding_all exact rfl) (.slice none 0 0) (by with_unfolding_all exact rfl) (by with_unfolding_all exact rfl) (by with_unfolding_all exact rfl) _ _ M18.out _ (by with_unfolding_all exact rfl) ?_))
    intro w19 q19 x19 z19
    have M19 : Hid (Mr.At w19 gM (Mg.raw ⟨m.kind, m.rid, 0, m.error, 0, false, false, [], [], [], []⟩ Row.nil Row.nil)) := Lib.hid x19
    have O19 : Hid (Mr.At w19 gO Mr.zero) := Lib.hid (grown_far O18.out q19 (by have := N_M_O.out; omega))
    have B19 := Lib.hid (B18.out.grown q19 B18.out.size (fun k hk => by injection hk with hk; have := M_M.out; omega))
    clear q19 x19 z19 M18 O18 B18
    go_wp2_with (first | (with_reducible refine wpList_load_whole_st Mr.isRec rfl _ rfl gM (by with_unfolding_all exact rfl) _ _ (Mr.len _) M19.out ?_) | (with_reducible refine wpList_load_whole_st Mr.isRec rfl _ rfl gO (by with_unfolding_all exact rfl) _ _ (Mr.len _) O19.out ?_) | (with_reducible refine wpList_store_whole rfl 27 _ _ rfl gO (Mg.raw ⟨m.kind, m.rid, 0, m.error, 0, false, false, [], [], [], []⟩ Row.nil Row.nil).enc.toArray (by with_unfolding_all exact rfl) (by with_unfolding_all exact rfl) _ _ O19.out (Mr.size _) rfl (Mr.one _) ?_))
    intro w20 q20 x20 z20
    have O20 : Hid (Mr.At w20 gO (Mg.raw ⟨m.kind, m.rid, 0, m.error, 0, false, false, [], [], [], []⟩ Row.nil Row.nil)) := Lib.hid x20
    have M20 : Hid (Mr.At w20 gM (Mg.raw ⟨m.kind, m.rid, 0, m.error, 0, false, false, [], [], [], []⟩ Row.nil Row.nil)) := Lib.hid (grown_far M19.out q20 (by have := N_M_O.out; omega))
    have B20 := Lib.hid (B19.out.grown q20 B19.out.size (fun k hk => by injection hk with hk; have := M_O.out; omega))
    clear q20 x20 z20 O19 M19 B19
    go_wp2
    exact bodyPost_ret (results_st Mr.isRec rfl _ _ _ _ _ rfl rfl O20.out) rfl ⟨Row.nil, Row.nil, by rw [HM.out]; rfl, by rw [HM.out]; exact ⟨rows_nil _ 6, rows_nil _ 4⟩, B20.out⟩
  · have d0 : inK m.kind 0 = true := by rw [inK, hp]; decide
    have d1 : inK m.kind 1 = false := by rw [inK, hp]; decide
    have d2 : inK m.kind 2 = false := by rw [inK, hp]; decide
    have d3 : inK m.kind 3 = false := by rw [inK, hp]; decide
    have d4 : inK m.kind 4 = false := by rw [inK, hp]; decide
    have d5 : inK m.kind 5 = false := by rw [inK, hp]; decide
    have d6 : inK m.kind 6 = false := by rw [inK, hp]; decide
    have d7 : inK m.kind 7 = false := by rw [inK, hp]; decide
    have d8 : inK m.kind 8 = true := by rw [inK, hp]; decide
    simp only [d0, d1, d2, d3, d4, d5, d6, d7, d8] at HM C0 C1 C2 C3 C4 C5 C6 C7 C8
    clear d0 d1 d2 d3 d4 d5 d6 d7 d8 hp
    go_enter Try.func16, Try.ntmps16
    go_wp2_with (refine wpList_box_row rfl 27 _ rfl (m.raw e t).enc.toArray (by with_unfolding_all exact rfl) ?_)
    intro w1 b1 x1 z1
    obtain ⟨gM, hgM⟩ : ∃ g, g = w.heap.size := ⟨_, rfl⟩
    have M_M := Lib.hid (show w.heap.size ≤ gM from by rw [hgM]; exact Nat.le_refl _)
    have B1 := Lib.hid b1
    rw [← hgM] at x1 ⊢
    have M1 : Hid (Mr.At w1 gM (m.raw e t)) := Lib.hid x1
    clear b1 x1 z1 hgM 
    go_wp2_with (first | (with_reducible refine wpList_load_whole_st Mr.isRec rfl _ rfl gM (by with_unfolding_all exact rfl) _ _ (Mr.len _) M1.out ?_) | (refine wpList_alloc_row rfl 27 rfl Mr.zero.enc.toArray Mr.zero_is ?_))
    intro w2 b2 x2 z2
    obtain ⟨gO, hgO⟩ : ∃ g, g = w1.heap.size := ⟨_, rfl⟩
    have N_M_O := Lib.hid (show gM < gO from by rw [hgO]; exact M1.out.lt)
    have M_O := Lib.hid (show w.heap.size ≤ gO from by rw [hgO]; exact B1.out.size)
    have M2 : Hid (Mr.At w2 gM (m.raw e t)) := Lib.hid (Whole.below M1.out b2 M1.out.lt)
    have B2 := Lib.hid (B1.out.trans (b2.mono B1.out.size))
    rw [← hgO] at x2 ⊢
    have O2 : Hid (Mr.At w2 gO Mr.zero) := Lib.hid x2
    clear b2 x2 z2 hgO M1 B1
    have c : w2.cell? ⟨gM, 0, none⟩ = some (.int .i64 m.kind) := M2.out.at_ 0
    go_wp2_with (first | (with_reducible refine wpList_load_whole_st Mr.isRec rfl _ rfl gM (by with_unfolding_all exact rfl) _ _ (Mr.len _) M2.out ?_) | (with_reducible refine wpList_load_whole_st Mr.isRec rfl _ rfl gO (by with_unfolding_all exact rfl) _ _ (Mr.len _) O2.out ?_))
    refine ((C0 w2).out).mono ?_
    rintro e3 w3 ⟨rfl, b3⟩
    have M3 : Hid (Mr.At w3 gM (m.raw e t)) := Lib.hid (Whole.below M2.out b3 M2.out.lt)
    have O3 : Hid (Mr.At w3 gO Mr.zero) := Lib.hid (Whole.below O2.out b3 O2.out.lt)
    have B3 := Lib.hid (B2.out.trans (b3.mono B2.out.size))
    clear b3 M2 O2 B2
    clear c
    have c : w3.cell? ⟨gM, 0, none⟩ = some (.int .i64 m.kind) := M3.out.at_ 0
    go_wp2_with (first | (with_reducible refine wpList_load_whole_st Mr.isRec rfl _ rfl gM (by with_unfolding_all exact rfl) _ _ (Mr.len _) M3.out ?_) | (with_reducible refine wpList_load_whole_st Mr.isRec rfl _ rfl gO (by with_unfolding_all exact rfl) _ _ (Mr.len _) O3.out ?_))
    refine ((C1 w3).out).mono ?_
    rintro e4 w4 ⟨rfl, b4⟩
    have M4 : Hid (Mr.At w4 gM (m.raw e t)) := Lib.hid (Whole.below M3.out b4 M3.out.lt)
    have O4 : Hid (Mr.At w4 gO Mr.zero) := Lib.hid (Whole.below O3.out b4 O3.out.lt)
    have B4 := Lib.hid (B3.out.trans (b4.mono B3.out.size))
    clear b4 M3 O3 B3
    clear c
    go_wp2_with (first | (with_reducible refine wpList_load_whole_st Mr.isRec rfl _ rfl gM (by with_unfolding_all exact rfl) _ _ (Mr.len _) M4.out ?_) | (with_reducible refine wpList_load_whole_st Mr.isRec rfl _ rfl gO (by with_unfolding_all exact rfl) _ _ (Mr.len _) O4.out ?_) | (with_reducible refine wpList_put_cell 4 ⟨by kernel_rfl, by kernel_rfl⟩ rfl _ _ rfl gM 5 (by with_unfolding_all exact rfl) (.bool false) (by with_unfolding_all exact rfl) (by with_unfolding_all exact rfl) (by with_unfolding_all exact rfl) _ _ M4.out _ (by with_unfolding_all exact rfl) ?_))
    intro w5 q5 x5 z5
    have M5 : Hid (Mr.At w5 gM (Mg.raw ⟨m.kind, m.rid, m.ver, m.error, m.id, false, m.gone, m.key, m.val, m.es, m.its⟩ e t)) := Lib.hid x5
    have O5 : Hid (Mr.At w5 gO Mr.zero) := Lib.hid (grown_far O4.out q5 (by have := N_M_O.out; omega))
    have B5 := Lib.hid (B4.out.grown q5 B4.out.size (fun k hk => by injection hk with hk; have := M_M.out; omega))
    clear q5 x5 z5 M4 O4 B4
    have c : w5.cell? ⟨gM, 0, none⟩ = some (.int .i64 m.kind) := M5.out.at_ 0
    go_wp2_with (first | (with_reducible refine wpList_load_whole_st Mr.isRec rfl _ rfl gM (by with_unfolding_all exact rfl) _ _ (Mr.len _) M5.out ?_) | (with_reducible refine wpList_load_whole_st Mr.isRec rfl _ rfl gO (by with_unfolding_all exact rfl) _ _ (Mr.len _) O5.out ?_))
    refine ((C2 w5).out).mono ?_
    rintro e6 w6 ⟨rfl, b6⟩
    have M6 : Hid (Mr.At w6 gM (Mg.raw ⟨m.kind, m.rid, m.ver, m.error, m.id, false, m.gone, m.key, m.val, m.es, m.its⟩ e t)) := Lib.hid (Whole.below M5.out b6 M5.out.lt)
    have O6 : Hid (Mr.At w6 gO Mr.zero) := Lib.hid (Whole.below O5.out b6 O5.out.lt)
    have B6 := Lib.hid (B5.out.trans (b6.mono B5.out.size))
    clear b6 M5 O5 B5
    clear c
    go_wp2_with (first | (with_reducible refine wpList_load_whole_st Mr.isRec rfl _ rfl gM (by with_unfolding_all exact rfl) _ _ (Mr.len _) M6.out ?_) | (with_reducible refine wpList_load_whole_st Mr.isRec rfl _ rfl gO (by with_unfolding_all exact rfl) _ _ (Mr.len _) O6.out ?_) | (with_reducible refine wpList_put_cell 4 ⟨by kernel_rfl, by kernel_rfl⟩ rfl _ _ rfl gM 6 (by with_unfolding_all exact rfl) (.bool false) (by with_unfolding_all exact rfl) (by with_unfolding_all exact rfl) (by with_unfolding_all exact rfl) _ _ M6.out _ (by with_unfolding_all exact rfl) ?_))
    intro w7 q7 x7 z7
    have M7 : Hid (Mr.At w7 gM (Mg.raw ⟨m.kind, m.rid, m.ver, m.error, m.id, false, false, m.key, m.val, m.es, m.its⟩ e t)) := Lib.hid x7
    have O7 : Hid (Mr.At w7 gO Mr.zero) := Lib.hid (grown_far O6.out q7 (by have := N_M_O.out; omega))
    have B7 := Lib.hid (B6.out.grown q7 B6.out.size (fun k hk => by injection hk with hk; have := M_M.out; omega))
    clear q7 x7 z7 M6 O6 B6
    have c : w7.cell? ⟨gM, 0, none⟩ = some (.int .i64 m.kind) := M7.out.at_ 0
    go_wp2_with (first | (with_reducible refine wpList_load_whole_st Mr.isRec rfl _ rfl gM (by with_unfolding_all exact rfl) _ _ (Mr.len _) M7.out ?_) | (with_reducible refine wpList_load_whole_st Mr.isRec rfl _ rfl gO (by with_unfolding_all exact rfl) _ _ (Mr.len _) O7.out ?_))
    refine ((C3 w7).out).mono ?_
    rintro e8 w8 ⟨rfl, b8⟩
    have M8 : Hid (Mr.At w8 gM (Mg.raw ⟨m.kind, m.rid, m.ver, m.error, m.id, false, false, m.key, m.val, m.es, m.its⟩ e t)) := Lib.hid (Whole.below M7.out b8 M7.out.lt)
    have O8 : Hid (Mr.At w8 gO Mr.zero) := Lib.hid (Whole.below O7.out b8 O7.out.lt)
    have B8 := Lib.hid (B7.out.trans (b8.mono B7.out.size))
    clear b8 M7 O7 B7
    clear c
    go_wp2_with (first | (with_reducible refine wpList_load_whole_st Mr.isRec rfl _ rfl gM (by with_unfolding_all exact rfl) _ _ (Mr.len _) M8.out ?_) | (with_reducible refine wpList_load_whole_st Mr.isRec rfl _ rfl gO (by with_unfolding_all exact rfl) _ _ (Mr.len _) O8.out ?_) | (with_reducible refine wpList_put_cell 23 ⟨by kernel_rfl, by kernel_rfl⟩ rfl _ _ rfl gM 4 (by with_unfolding_all exact rfl) (.int .u64 ((0 : Nat) : Int)) (by with_unfolding_all exact rfl) (by with_unfolding_all exact rfl) (by with_unfolding_all exact rfl) _ _ M8.out _ (by with_unfolding_all exact rfl) ?_))
    intro w9 q9 x9 z9
    have M9 : Hid (Mr.At w9 gM (Mg.raw ⟨m.kind, m.rid, m.ver, m.error, 0, false, false, m.key, m.val, m.es, m.its⟩ e t)) := Lib.hid x9
    have O9 : Hid (Mr.At w9 gO Mr.zero) := Lib.hid (grown_far O8.out q9 (by have := N_M_O.out; omega))
    have B9 := Lib.hid (B8.out.grown q9 B8.out.size (fun k hk => by injection hk with hk; have := M_M.out; omega))
    clear q9 x9 z9 M8 O8 B8
    have c : w9.cell? ⟨gM, 0, none⟩ = some (.int .i64 m.kind) := M9.out.at_ 0
    go_wp2_with (first | (with_reducible refine wpList_load_whole_st Mr.isRec rfl _ rfl gM (by with_unfolding_all exact rfl) _ _ (Mr.len _) M9.out ?_) | (with_reducible refine wpList_load_whole_st Mr.isRec rfl _ rfl gO (by with_unfolding_all exact rfl) _ _ (Mr.len _) O9.out ?_))
    refine ((C4 w9).out).mono ?_
    rintro e10 w10 ⟨rfl, b10⟩
    have M10 : Hid (Mr.At w10 gM (Mg.raw ⟨m.kind, m.rid, m.ver, m.error, 0, false, false, m.key, m.val, m.es, m.its⟩ e t)) := Lib.hid (Whole.below M9.out b10 M9.out.lt)
    have O10 : Hid (Mr.At w10 gO Mr.zero) := Lib.hid (Whole.below O9.out b10 O9.out.lt)
    have B10 := Lib.hid (B9.out.trans (b10.mono B9.out.size))
    clear b10 M9 O9 B9
    clear c
    go_wp2_with (first | (with_reducible refine wpList_load_whole_st Mr.isRec rfl _ rfl gM (by with_unfolding_all exact rfl) _ _ (Mr.len _) M10.out ?_) | (with_reducible refine wpList_load_whole_st Mr.isRec rfl _ rfl gO (by with_unfolding_all exact rfl) _ _ (Mr.len _) O10.out ?_) | (with_reducible refine wpList_put_cell 3 ⟨by kernel_rfl, by kernel_rfl⟩ rfl _ _ rfl gM 2 (by with_unfolding_all exact rfl) (.int .i64 0) (by with_unfolding_all exact rfl) (by with_unfolding_all exact rfl) (by with_unfolding_all exact rfl) _ _ M10.out _ (by with_unfolding_all exact rfl) ?_))
    intro w11 q11 x11 z11
    have M11 : Hid (Mr.At w11 gM (Mg.raw ⟨m.kind, m.rid, 0, m.error, 0, false, false, m.key, m.val, m.es, m.its⟩ e t)) := Lib.hid x11
    have O11 : Hid (Mr.At w11 gO Mr.zero) := Lib.hid (grown_far O10.out q11 (by have := N_M_O.out; omega))
    have B11 := Lib.hid (B10.out.grown q11 B10.out.size (fun k hk => by injection hk with hk; have := M_M.out; omega))
    clear q11 x11 z11 M10 O10 B10
    have c : w11.cell? ⟨gM, 0, none⟩ = some (.int .i64 m.kind) := M11.out.at_ 0
    go_wp2_with (first | (with_reducible refine wpList_load_whole_st Mr.isRec rfl _ rfl gM (by with_unfolding_all exact rfl) _ _ (Mr.len _) M11.out ?_) | (with_reducible refine wpList_load_whole_st Mr.isRec rfl _ rfl gO (by with_unfolding_all exact rfl) _ _ (Mr.len _) O11.out ?_))
    refine ((C5 w11).out).mono ?_
    rintro e12 w12 ⟨rfl, b12⟩
    have M12 : Hid (Mr.At w12 gM (Mg.raw ⟨m.kind, m.rid, 0, m.error, 0, false, false, m.key, m.val, m.es, m.its⟩ e t)) := Lib.hid (Whole.below M11.out b12 M11.out.lt)
    have O12 : Hid (Mr.At w12 gO Mr.zero) := Lib.hid (Whole.below O11.out b12 O11.out.lt)
    have B12 := Lib.hid (B11.out.trans (b12.mono B11.out.size))
    clear b12 M11 O11 B11
    clear c
    go_wp2_with (first | (with_reducible refine wpList_load_whole_st Mr.isRec rfl _ rfl gM (by with_unfolding_all exact rfl) _ _ (Mr.len _) M12.out ?_) | (with_reducible refine wpList_load_whole_st Mr.isRec rfl _ rfl gO (by with_unfolding_all exact rfl) _ _ (Mr.len _) O12.out ?_) | (with_reducible refine wpList_put_cell 9 ⟨by kernel_rfl, by kernel_rfl⟩ rfl _ _ rfl gM 7 (by with_unfolding_all exact rfl) (.string ⟨([] : List UInt8).toArray⟩) (by with_unfolding_all exact rfl) (by with_unfolding_all exact rfl) (by with_unfolding_all exact rfl) _ _ M12.out _ (by with_unfolding_all exact rfl) ?_))
    intro w13 q13 x13 z13
    have M13 : Hid (Mr.At w13 gM (Mg.raw ⟨m.kind, m.rid, 0, m.error, 0, false, false, [], m.val, m.es, m.its⟩ e t)) := Lib.hid x13
    have O13 : Hid (Mr.At w13 gO Mr.zero) := Lib.hid (grown_far O12.out q13 (by have := N_M_O.out; omega))
    have B13 := Lib.hid (B12.out.grown q13 B12.out.size (fun k hk => by injection hk with hk; have := M_M.out; omega))
    clear q13 x13 z13 M12 O12 B12
    have c : w13.cell? ⟨gM, 0, none⟩ = some (.int .i64 m.kind) := M13.out.at_ 0
    go_wp2_with (first | (with_reducible refine wpList_load_whole_st Mr.isRec rfl _ rfl gM (by with_unfolding_all exact rfl) _ _ (Mr.len _) M13.out ?_) | (with_reducible refine wpList_load_whole_st Mr.isRec rfl _ rfl gO (by with_unfolding_all exact rfl) _ _ (Mr.len _) O13.out ?_))
    refine ((C6 w13).out).mono ?_
    rintro e14 w14 ⟨rfl, b14⟩
    have M14 : Hid (Mr.At w14 gM (Mg.raw ⟨m.kind, m.rid, 0, m.error, 0, false, false, [], m.val, m.es, m.its⟩ e t)) := Lib.hid (Whole.below M13.out b14 M13.out.lt)
    have O14 : Hid (Mr.At w14 gO Mr.zero) := Lib.hid (Whole.below O13.out b14 O13.out.lt)
    have B14 := Lib.hid (B13.out.trans (b14.mono B13.out.size))
    clear b14 M13 O13 B13
    clear c
    go_wp2_with (first | (with_reducible refine wpList_load_whole_st Mr.isRec rfl _ rfl gM (by with_unfolding_all exact rfl) _ _ (Mr.len _) M14.out ?_) | (with_reducible refine wpList_load_whole_st Mr.isRec rfl _ rfl gO (by with_unfolding_all exact rfl) _ _ (Mr.len _) O14.out ?_) | (with_reducible refine wpList_put_cell 9 ⟨by kernel_rfl, by kernel_rfl⟩ rfl _ _ rfl gM 8 (by with_unfolding_all exact rfl) (.string ⟨([] : List UInt8).toArray⟩) (by with_unfolding_all exact rfl) (by with_unfolding_all exact rfl) (by with_unfolding_all exact rfl) _ _ M14.out _ (by with_unfolding_all exact rfl) ?_))
    intro w15 q15 x15 z15
    have M15 : Hid (Mr.At w15 gM (Mg.raw ⟨m.kind, m.rid, 0, m.error, 0, false, false, [], [], m.es, m.its⟩ e t)) := Lib.hid x15
    have O15 : Hid (Mr.At w15 gO Mr.zero) := Lib.hid (grown_far O14.out q15 (by have := N_M_O.out; omega))
    have B15 := Lib.hid (B14.out.grown q15 B14.out.size (fun k hk => by injection hk with hk; have := M_M.out; omega))
    clear q15 x15 z15 M14 O14 B14
    have c : w15.cell? ⟨gM, 0, none⟩ = some (.int .i64 m.kind) := M15.out.at_ 0
    go_wp2_with (first | (with_reducible refine wpList_load_whole_st Mr.isRec rfl _ rfl gM (by with_unfolding_all exact rfl) _ _ (Mr.len _) M15.out ?_) | (with_reducible refine wpList_load_whole_st Mr.isRec rfl _ rfl gO (by with_unfolding_all exact rfl) _ _ (Mr.len _) O15.out ?_))
    refine ((C7 w15).out).mono ?_
    rintro e16 w16 ⟨rfl, b16⟩
    have M16 : Hid (Mr.At w16 gM (Mg.raw ⟨m.kind, m.rid, 0, m.error, 0, false, false, [], [], m.es, m.its⟩ e t)) := Lib.hid (Whole.below M15.out b16 M15.out.lt)
    have O16 : Hid (Mr.At w16 gO Mr.zero) := Lib.hid (Whole.below O15.out b16 O15.out.lt)
    have B16 := Lib.hid (B15.out.trans (b16.mono B15.out.size))
    clear b16 M15 O15 B15
    clear c
    go_wp2_with (first | (with_reducible refine wpList_load_whole_st Mr.isRec rfl _ rfl gM (by with_unfolding_all exact rfl) _ _ (Mr.len _) M16.out ?_) | (with_reducible refine wpList_load_whole_st Mr.isRec rfl _ rfl gO (by with_unfolding_all exact rfl) _ _ (Mr.len _) O16.out ?_) | (with_reducible refine wpList_put_cell 24 ⟨by kernel_rfl, by kernel_rfl⟩ rfl _ _ rfl gM 9 (by with_unfolding_all exact rfl) (.slice none 0 0) (by with_unfolding_all exact rfl) (by with_unfolding_all exact rfl) (by with_unfolding_all exact rfl) _ _ M16.out _ (by with_unfolding_all exact rfl) ?_))
    intro w17 q17 x17 z17
    have M17 : Hid (Mr.At w17 gM (Mg.raw ⟨m.kind, m.rid, 0, m.error, 0, false, false, [], [], [], m.its⟩ Row.nil t)) := Lib.hid x17
    have O17 : Hid (Mr.At w17 gO Mr.zero) := Lib.hid (grown_far O16.out q17 (by have := N_M_O.out; omega))
    have B17 := Lib.hid (B16.out.grown q17 B16.out.size (fun k hk => by injection hk with hk; have := M_M.out; omega))
    clear q17 x17 z17 M16 O16 B16
    have c : w17.cell? ⟨gM, 0, none⟩ = some (.int .i64 m.kind) := M17.out.at_ 0
    go_wp2_with (first | (with_reducible refine wpList_load_whole_st Mr.isRec rfl _ rfl gM (by with_unfolding_all exact rfl) _ _ (Mr.len _) M17.out ?_) | (with_reducible refine wpList_load_whole_st Mr.isRec rfl _ rfl gO (by with_unfolding_all exact rfl) _ _ (Mr.len _) O17.out ?_))
    refine ((C8 w17).out).mono ?_
    rintro e18 w18 ⟨rfl, b18⟩
    have M18 : Hid (Mr.At w18 gM (Mg.raw ⟨m.kind, m.rid, 0, m.error, 0, false, false, [], [], [], m.its⟩ Row.nil t)) := Lib.hid (Whole.below M17.out b18 M17.out.lt)
    have O18 : Hid (Mr.At w18 gO Mr.zero) := Lib.hid (Whole.below O17.out b18 O17.out.lt)
    have B18 := Lib.hid (B17.out.trans (b18.mono B17.out.size))
    clear b18 M17 O17 B17
    clear c
    go_wp2_with (first | (with_reducible refine wpList_load_whole_st Mr.isRec rfl _ rfl gM (by with_unfolding_all exact rfl) _ _ (Mr.len _) M18.out ?_) | (with_reducible refine wpList_load_whole_st Mr.isRec rfl _ rfl gO (by with_unfolding_all exact rfl) _ _ (Mr.len _) O18.out ?_) | (with_reducible refine wpList_store_whole rfl 27 _ _ rfl gO (Mg.raw ⟨m.kind, m.rid, 0, m.error, 0, false, false, [], [], [], m.its⟩ Row.nil t).enc.toArray (by with_unfolding_all exact rfl) (by with_unfolding_all exact rfl) _ _ O18.out (Mr.size _) rfl (Mr.one _) ?_))
    intro w19 q19 x19 z19
    have O19 : Hid (Mr.At w19 gO (Mg.raw ⟨m.kind, m.rid, 0, m.error, 0, false, false, [], [], [], m.its⟩ Row.nil t)) := Lib.hid x19
    have M19 : Hid (Mr.At w19 gM (Mg.raw ⟨m.kind, m.rid, 0, m.error, 0, false, false, [], [], [], m.its⟩ Row.nil t)) := Lib.hid (grown_far M18.out q19 (by have := N_M_O.out; omega))
    have B19 := Lib.hid (B18.out.grown q19 B18.out.size (fun k hk => by injection hk with hk; have := M_O.out; omega))
    clear q19 x19 z19 O18 M18 B18
    go_wp2
    exact bodyPost_ret (results_st Mr.isRec rfl _ _ _ _ _ rfl rfl O19.out) rfl ⟨Row.nil, t, by rw [HM.out]; rfl, by rw [HM.out]; exact ⟨rows_nil _ 6, (H.out.below B19.out).its⟩, B19.out⟩
end Go.Proofs.Ytnjeopgcpffkcaa
