/- Layer 23: TableMoves' core. -/
import Derived.Test.YtjohlnpalcmhbaaTbS
import Derived.Test.YtjohlnpalcmhbaaTbD
import Derived.Test.YtjohlnpalcmhbaaTbH
import Derived.Test.YtjohlnpalcmhbaaTbW
namespace Go.Proofs.Ytjohlnpalcmhbaa
set_option maxRecDepth 100000
open Go.RowKit

theorem as_rows {F : FuncId} {args : Array Value} {w : World} {base : Nat} {L : List Ses} {B : World → Prop} (h : Calls Try.prog F args w fun e w' => ∃ v, e = .returned v ∧ OwnRows w' base 36 20 v (L.map Ses.enc) ∧ B w') :
    Calls Try.prog F args w fun e w' => ∃ v, e = .returned v ∧ RowsAt w' v 20 (L.map Ses.enc) ∧ B w' :=
  h.mono fun _ _ ⟨v, he, ho, hb⟩ => ⟨v, he, ho.rows, hb⟩
theorem refSameV_any (v v' : Value) (l : List Ses) (w : World) (hl : l.length ≤ 1000000) (h : RowsAt w v 20 (l.map Ses.enc)) (h' : RowsAt w v' 20 (l.map Ses.enc)) :
    Calls Try.prog 21 #[v, v'] w fun e w' => e = .returned (.bool true) ∧ Below w.heap.size w w' := by
  obtain ⟨A, cap, rfl, -, -⟩ := id h
  obtain ⟨A', cap', rfl, -, -⟩ := id h'
  exact refSameT_any _ _ _ _ _ _ l w hl h h'
theorem putS_length (l : List Ses) (i : Int) (s : Ses) : (putS l i s).length = l.length := by rw [putS]; split <;> simp
theorem closeS_length (l : List Ses) (n : List UInt8) : (closeS l n).length ≤ l.length := List.length_filter_le _ _
set_option maxRecDepth 100000 in
set_option maxHeartbeats 2000000 in
theorem moves_core (A : Option Addr) (m cap : Nat) (l : List Ses) (i : Int) (s : Ses) (n : List UInt8) (w : World) (h : RowsAt w (.slice A m cap) 20 (l.map Ses.enc)) :
    Calls Try.prog 5 #[.slice A m cap, .int .i64 i, s.val, .string ⟨n.toArray⟩] w fun e w' => e = .returned (.bool true) ∧ Below w.heap.size w w' := by
  have hlen := h.size.1
  rw [List.length_map] at hlen
  subst hlen
  have CG := Lib.hid (fun w h => greatSs_any A l.length cap l w h)
  have CE := Lib.hid (fun w => greatSes_any s w)
  have HN : greatSs l = false → l.length ≤ 60 := greatSs_no
  obtain ⟨g1, hg1⟩ : ∃ g, g = greatSs l := ⟨_, rfl⟩
  obtain ⟨g2, hg2⟩ : ∃ g, g = greatSes s := ⟨_, rfl⟩
  simp only [← hg1, ← hg2] at CG CE HN
  have HN := Lib.hid HN
  obtain ⟨g3, hg3⟩ : ∃ g, g = decide (1000 < n.length) := ⟨_, rfl⟩
  have r1 : decide ((1000 : Int) < (n.length : Int)) = g3 := by rw [hg3]; congr 1; apply propext; omega
  have r2 := hg3.symm
  clear hg1 hg2 hg3
  go_enter Try.func5, Try.ntmps5
  have L0 : Hid (RowsAt w (.slice A l.length cap) 20 (l.map Ses.enc)) := Lib.hid (h)
  clear h
  go_wp2_with (refine wpList_box_row rfl 36 _ rfl s.enc.toArray (by with_unfolding_all exact rfl) ?_)
  intro w1 b1 x1 z1
  obtain ⟨gS, hgS⟩ : ∃ g, g = w.heap.size := ⟨_, rfl⟩
  have M_S := Lib.hid (show w.heap.size ≤ gS from by rw [hgS]; exact Nat.le_refl _)
  have L1 : Hid (RowsAt w1 (.slice A l.length cap) 20 (l.map Ses.enc)) := Lib.hid (L0.out.below b1)
  have B1 := Lib.hid b1
  rw [← hgS] at x1 ⊢
  have S1 : Hid (Ses.At w1 gS s) := Lib.hid x1
  clear b1 x1 z1 hgS L0
  go_wp2_with (first | (with_reducible refine wpList_load_whole Ses.isRec rfl _ rfl gS (by with_unfolding_all exact rfl) _ _ (Ses.len _) S1.out ?_) | (with_reducible refine wpList_load_rec Ent.isRec rfl _ rfl gS 2 (by with_unfolding_all exact rfl) _ (Ent.len _) (Ses.At.part_peer S1.out) ?_) | (with_reducible refine wpList_load_rec Win.isRec rfl _ rfl gS 16 (by with_unfolding_all exact rfl) _ (Win.len _) (Ses.At.part_seen S1.out) ?_))
  refine (CG.out w1 L1.out).mono ?_
  rintro e2 w2 ⟨rfl, b2⟩
  have L2 : Hid (RowsAt w2 (.slice A l.length cap) 20 (l.map Ses.enc)) := Lib.hid (L1.out.below b2)
  have S2 : Hid (Ses.At w2 gS s) := Lib.hid (Whole.below S1.out b2 S1.out.lt)
  have B2 := Lib.hid (B1.out.trans (b2.mono B1.out.size))
  clear b2 L1 S1 B1
  cases g1 with
  | true =>
    go_wp2_with (first | (with_reducible refine wpList_load_whole Ses.isRec rfl _ rfl gS (by with_unfolding_all exact rfl) _ _ (Ses.len _) S2.out ?_) | (with_reducible refine wpList_load_rec Ent.isRec rfl _ rfl gS 2 (by with_unfolding_all exact rfl) _ (Ent.len _) (Ses.At.part_peer S2.out) ?_) | (with_reducible refine wpList_load_rec Win.isRec rfl _ rfl gS 16 (by with_unfolding_all exact rfl) _ (Win.len _) (Ses.At.part_seen S2.out) ?_))
    refine (works23 w2).mono ?_
    rintro e3 w3 ⟨rfl, b3⟩
    have L3 : Hid (RowsAt w3 (.slice A l.length cap) 20 (l.map Ses.enc)) := Lib.hid (L2.out.below b3)
    have S3 : Hid (Ses.At w3 gS s) := Lib.hid (Whole.below S2.out b3 S2.out.lt)
    have B3 := Lib.hid (B2.out.trans (b3.mono B2.out.size))
    clear b3 L2 S2 B2
    go_wp2
    go_ret
    exact ⟨rfl, B3.out⟩
  | false =>
    have hl := HN.out rfl
    have HL := Lib.hid hl
    have H1 := Lib.hid (Nat.le_trans (Nat.le_of_eq (putS_length l i s)) (Nat.le_trans hl (by decide)) : (putS l i s).length ≤ 1000000)
    have H2 := Lib.hid (Nat.le_trans (dropS_length l i) (Nat.le_trans hl (by decide)) : (dropS l i).length ≤ 1000000)
    have H3 := Lib.hid (Nat.le_trans (closeS_length l n) (Nat.le_trans hl (by decide)) : (closeS l n).length ≤ 1000000)
    have C1 := Lib.hid (fun w h => as_rows (tbPut_any A l.length cap l i s w.heap.size w (Nat.le_refl _) (by omega) h))
    have C2 := Lib.hid (fun w h => as_rows (refPut_any A l.length cap l i s w.heap.size w (Nat.le_refl _) (by omega) h))
    have C3 := Lib.hid (fun w h => as_rows (tbDrop_any A l.length cap l i w.heap.size w (Nat.le_refl _) (by omega) h))
    have C4 := Lib.hid (fun w h => as_rows (refDrop_any A l.length cap l i w.heap.size w (Nat.le_refl _) (by omega) h))
    have C5 := Lib.hid (fun w h => as_rows (tbClose_any A l.length cap l n w.heap.size w (Nat.le_refl _) (by omega) h))
    have C6 := Lib.hid (fun w h => as_rows (refClose_any A l.length cap l n w.heap.size w (Nat.le_refl _) (by omega) h))
    clear hl HN CG
    go_wp2_with (first | (with_reducible refine wpList_load_whole Ses.isRec rfl _ rfl gS (by with_unfolding_all exact rfl) _ _ (Ses.len _) S2.out ?_) | (with_reducible refine wpList_load_rec Ent.isRec rfl _ rfl gS 2 (by with_unfolding_all exact rfl) _ (Ent.len _) (Ses.At.part_peer S2.out) ?_) | (with_reducible refine wpList_load_rec Win.isRec rfl _ rfl gS 16 (by with_unfolding_all exact rfl) _ (Win.len _) (Ses.At.part_seen S2.out) ?_) | (with_reducible refine wpList_load_whole_w Ses.isRec (by kernel_rfl) _ rfl gS (by with_unfolding_all exact rfl) _ _ (Ses.len _) S2.out ?_))
    refine (CE.out w2).mono ?_
    rintro e3 w3 ⟨rfl, b3⟩
    have L3 : Hid (RowsAt w3 (.slice A l.length cap) 20 (l.map Ses.enc)) := Lib.hid (L2.out.below b3)
    have S3 : Hid (Ses.At w3 gS s) := Lib.hid (Whole.below S2.out b3 S2.out.lt)
    have B3 := Lib.hid (B2.out.trans (b3.mono B2.out.size))
    clear b3 L2 S2 B2
    cases g2 with
    | true =>
      go_wp2_with (first | (with_reducible refine wpList_load_whole Ses.isRec rfl _ rfl gS (by with_unfolding_all exact rfl) _ _ (Ses.len _) S3.out ?_) | (with_reducible refine wpList_load_rec Ent.isRec rfl _ rfl gS 2 (by with_unfolding_all exact rfl) _ (Ent.len _) (Ses.At.part_peer S3.out) ?_) | (with_reducible refine wpList_load_rec Win.isRec rfl _ rfl gS 16 (by with_unfolding_all exact rfl) _ (Win.len _) (Ses.At.part_seen S3.out) ?_))
      refine (works23 w3).mono ?_
      rintro e4 w4 ⟨rfl, b4⟩
      have L4 : Hid (RowsAt w4 (.slice A l.length cap) 20 (l.map Ses.enc)) := Lib.hid (L3.out.below b4)
      have S4 : Hid (Ses.At w4 gS s) := Lib.hid (Whole.below S3.out b4 S3.out.lt)
      have B4 := Lib.hid (B3.out.trans (b4.mono B3.out.size))
      clear b4 L3 S3 B3
      go_wp2
      go_ret
      exact ⟨rfl, B4.out⟩
    | false =>
      cases g3 with
      | true =>
        go_wp2_with (first | (with_reducible refine wpList_load_whole Ses.isRec rfl _ rfl gS (by with_unfolding_all exact rfl) _ _ (Ses.len _) S3.out ?_) | (with_reducible refine wpList_load_rec Ent.isRec rfl _ rfl gS 2 (by with_unfolding_all exact rfl) _ (Ent.len _) (Ses.At.part_peer S3.out) ?_) | (with_reducible refine wpList_load_rec Win.isRec rfl _ rfl gS 16 (by with_unfolding_all exact rfl) _ (Win.len _) (Ses.At.part_seen S3.out) ?_))
        refine (works23 w3).mono ?_
        rintro e4 w4 ⟨rfl, b4⟩
        have L4 : Hid (RowsAt w4 (.slice A l.length cap) 20 (l.map Ses.enc)) := Lib.hid (L3.out.below b4)
        have S4 : Hid (Ses.At w4 gS s) := Lib.hid (Whole.below S3.out b4 S3.out.lt)
        have B4 := Lib.hid (B3.out.trans (b4.mono B3.out.size))
        clear b4 L3 S3 B3
        go_wp2
        go_ret
        exact ⟨rfl, B4.out⟩
      | false =>
        go_wp2_with (first | (with_reducible refine wpList_load_whole Ses.isRec rfl _ rfl gS (by with_unfolding_all exact rfl) _ _ (Ses.len _) S3.out ?_) | (with_reducible refine wpList_load_rec Ent.isRec rfl _ rfl gS 2 (by with_unfolding_all exact rfl) _ (Ent.len _) (Ses.At.part_peer S3.out) ?_) | (with_reducible refine wpList_load_rec Win.isRec rfl _ rfl gS 16 (by with_unfolding_all exact rfl) _ (Win.len _) (Ses.At.part_seen S3.out) ?_))
        refine reg_begin (by kernel_rfl) fun w4 b4 z4 => ?_
        have L4 : Hid (RowsAt w4 (.slice A l.length cap) 20 (l.map Ses.enc)) := Lib.hid (L3.out.below b4)
        have S4 : Hid (Ses.At w4 gS s) := Lib.hid (Whole.below S3.out b4 S3.out.lt)
        have B4 := Lib.hid (B3.out.trans (b4.mono B3.out.size))
        clear b4 z4 L3 S3 B3
        refine reg_take (i := 0) (v := ?_) rfl (by kernel_rfl) (by kernel_rfl) (by kernel_rfl) (fun _ _ _ h => h) (by rfl) ?hy0 ?_
        case hy0 => intro w' hw'; go_simp; (try with_reducible rfl)
        simp only [Act.put, List.setIfInBounds_toArray, List.set_cons_zero, List.set_cons_succ]
        refine reg_take (i := 1) (v := ?_) rfl (by kernel_rfl) (by kernel_rfl) (by kernel_rfl) (fun _ _ _ h => h) (by rfl) ?hy1 ?_
        case hy1 => intro w' hw'; go_simp; (try with_reducible rfl)
        simp only [Act.put, List.setIfInBounds_toArray, List.set_cons_zero, List.set_cons_succ]
        refine reg_take (i := 2) (v := Ses.val (s)) rfl (by kernel_rfl) (by kernel_rfl) (by kernel_rfl) (fun _ _ _ h => h) (by rfl) ?hy2 ?_
        case hy2 => intro w' hw'; exact exec_load_whole Ses.isRec _ rfl gS rfl _ _ (Ses.len _) w' (Whole.below S4.out hw' S4.out.lt)
        simp only [Act.put, List.setIfInBounds_toArray, List.set_cons_zero, List.set_cons_succ]
        refine reg_take (i := 4) (v := ?_) rfl (by kernel_rfl) (by kernel_rfl) (by kernel_rfl) (fun _ _ _ h => h) (by rfl) ?hy4 ?_
        case hy4 => intro w' hw'; go_simp; (try with_reducible rfl)
        simp only [Act.put, List.setIfInBounds_toArray, List.set_cons_zero, List.set_cons_succ]
        refine reg_take (i := 5) (v := ?_) rfl (by kernel_rfl) (by kernel_rfl) (by kernel_rfl) (fun _ _ _ h => h) (by rfl) ?hy5 ?_
        case hy5 => intro w' hw'; go_simp; (try with_reducible rfl)
        simp only [Act.put, List.setIfInBounds_toArray, List.set_cons_zero, List.set_cons_succ]
        refine reg_take (i := 6) (v := Ses.val (s)) rfl (by kernel_rfl) (by kernel_rfl) (by kernel_rfl) (fun _ _ _ h => h) (by rfl) ?hy6 ?_
        case hy6 => intro w' hw'; exact exec_load_whole Ses.isRec _ rfl gS rfl _ _ (Ses.len _) w' (Whole.below S4.out hw' S4.out.lt)
        simp only [Act.put, List.setIfInBounds_toArray, List.set_cons_zero, List.set_cons_succ]
        refine reg_call (i := 3) rfl (by kernel_rfl) (fun K' hK => ?_)
        go_simp
        refine (C1.out w4 L4.out).mono ?_
        rintro e5 w5 ⟨v24, rfl, y24, b5⟩
        have L5 : Hid (RowsAt w5 (.slice A l.length cap) 20 (l.map Ses.enc)) := Lib.hid (L4.out.below b5)
        have S5 : Hid (Ses.At w5 gS s) := Lib.hid (Whole.below S4.out b5 S4.out.lt)
        have B5 := Lib.hid (B4.out.trans (b5.mono B4.out.size))
        have PA5 : Hid (RowsAt w5 v24 20 ((putS l i s).map Ses.enc)) := Lib.hid y24
        refine hK.out _ _ b5 ?_
        clear hK K' b5 L4 S4 B4 y24
        refine reg_call (i := 7) rfl (by kernel_rfl) (fun K' hK => ?_)
        go_simp
        refine (C2.out w5 L5.out).mono ?_
        rintro e6 w6 ⟨v28, rfl, y28, b6⟩
        have L6 : Hid (RowsAt w6 (.slice A l.length cap) 20 (l.map Ses.enc)) := Lib.hid (L5.out.below b6)
        have S6 : Hid (Ses.At w6 gS s) := Lib.hid (Whole.below S5.out b6 S5.out.lt)
        have PA6 : Hid (RowsAt w6 v24 20 ((putS l i s).map Ses.enc)) := Lib.hid (PA5.out.below b6)
        have B6 := Lib.hid (B5.out.trans (b6.mono B5.out.size))
        have PB6 : Hid (RowsAt w6 v28 20 ((putS l i s).map Ses.enc)) := Lib.hid y28
        refine hK.out _ _ b6 ?_
        clear hK K' b6 L5 S5 PA5 B5 y28
        refine reg_call (i := 8) rfl (by kernel_rfl) (fun K' hK => ?_)
        go_simp
        refine (refSameV_any v24 v28 _ w6 H1.out PA6.out PB6.out).mono ?_
        rintro e7 w7 ⟨rfl, b7⟩
        have L7 : Hid (RowsAt w7 (.slice A l.length cap) 20 (l.map Ses.enc)) := Lib.hid (L6.out.below b7)
        have S7 : Hid (Ses.At w7 gS s) := Lib.hid (Whole.below S6.out b7 S6.out.lt)
        have PA7 : Hid (RowsAt w7 v24 20 ((putS l i s).map Ses.enc)) := Lib.hid (PA6.out.below b7)
        have PB7 : Hid (RowsAt w7 v28 20 ((putS l i s).map Ses.enc)) := Lib.hid (PB6.out.below b7)
        have B7 := Lib.hid (B6.out.trans (b7.mono B6.out.size))
        refine hK.out _ _ b7 ?_
        clear hK K' b7 L6 S6 PA6 PB6 B6
        refine reg_take (i := 9) (v := ?_) rfl (by kernel_rfl) (by kernel_rfl) (by kernel_rfl) (fun _ _ _ h => h) (by rfl) ?hy9 ?_
        case hy9 => intro w' hw'; go_simp; (try with_reducible rfl)
        simp only [Act.put, List.setIfInBounds_toArray, List.set_cons_zero, List.set_cons_succ]
        refine reg_take (i := 10) (v := ?_) rfl (by kernel_rfl) (by kernel_rfl) (by kernel_rfl) (fun _ _ _ h => h) (by rfl) ?hy10 ?_
        case hy10 => intro w' hw'; go_simp; (try with_reducible rfl)
        simp only [Act.put, List.setIfInBounds_toArray, List.set_cons_zero, List.set_cons_succ]
        refine reg_take (i := 11) (v := ?_) rfl (by kernel_rfl) (by kernel_rfl) (by kernel_rfl) (fun _ _ _ h => h) (by rfl) ?hy11 ?_
        case hy11 => intro w' hw'; go_simp; (try with_reducible rfl)
        simp only [Act.put, List.setIfInBounds_toArray, List.set_cons_zero, List.set_cons_succ]
        refine reg_take (i := 13) (v := ?_) rfl (by kernel_rfl) (by kernel_rfl) (by kernel_rfl) (fun _ _ _ h => h) (by rfl) ?hy13 ?_
        case hy13 => intro w' hw'; go_simp; (try with_reducible rfl)
        simp only [Act.put, List.setIfInBounds_toArray, List.set_cons_zero, List.set_cons_succ]
        refine reg_take (i := 14) (v := ?_) rfl (by kernel_rfl) (by kernel_rfl) (by kernel_rfl) (fun _ _ _ h => h) (by rfl) ?hy14 ?_
        case hy14 => intro w' hw'; go_simp; (try with_reducible rfl)
        simp only [Act.put, List.setIfInBounds_toArray, List.set_cons_zero, List.set_cons_succ]
        refine reg_call (i := 12) rfl (by kernel_rfl) (fun K' hK => ?_)
        go_simp
        refine (C3.out w7 L7.out).mono ?_
        rintro e8 w8 ⟨v33, rfl, y33, b8⟩
        have L8 : Hid (RowsAt w8 (.slice A l.length cap) 20 (l.map Ses.enc)) := Lib.hid (L7.out.below b8)
        have S8 : Hid (Ses.At w8 gS s) := Lib.hid (Whole.below S7.out b8 S7.out.lt)
        have PA8 : Hid (RowsAt w8 v24 20 ((putS l i s).map Ses.enc)) := Lib.hid (PA7.out.below b8)
        have PB8 : Hid (RowsAt w8 v28 20 ((putS l i s).map Ses.enc)) := Lib.hid (PB7.out.below b8)
        have B8 := Lib.hid (B7.out.trans (b8.mono B7.out.size))
        have PC8 : Hid (RowsAt w8 v33 20 ((dropS l i).map Ses.enc)) := Lib.hid y33
        refine hK.out _ _ b8 ?_
        clear hK K' b8 L7 S7 PA7 PB7 B7 y33
        refine reg_call (i := 15) rfl (by kernel_rfl) (fun K' hK => ?_)
        go_simp
        refine (C4.out w8 L8.out).mono ?_
        rintro e9 w9 ⟨v36, rfl, y36, b9⟩
        have L9 : Hid (RowsAt w9 (.slice A l.length cap) 20 (l.map Ses.enc)) := Lib.hid (L8.out.below b9)
        have S9 : Hid (Ses.At w9 gS s) := Lib.hid (Whole.below S8.out b9 S8.out.lt)
        have PA9 : Hid (RowsAt w9 v24 20 ((putS l i s).map Ses.enc)) := Lib.hid (PA8.out.below b9)
        have PB9 : Hid (RowsAt w9 v28 20 ((putS l i s).map Ses.enc)) := Lib.hid (PB8.out.below b9)
        have PC9 : Hid (RowsAt w9 v33 20 ((dropS l i).map Ses.enc)) := Lib.hid (PC8.out.below b9)
        have B9 := Lib.hid (B8.out.trans (b9.mono B8.out.size))
        have PD9 : Hid (RowsAt w9 v36 20 ((dropS l i).map Ses.enc)) := Lib.hid y36
        refine hK.out _ _ b9 ?_
        clear hK K' b9 L8 S8 PA8 PB8 PC8 B8 y36
        refine reg_call (i := 16) rfl (by kernel_rfl) (fun K' hK => ?_)
        go_simp
        refine (refSameV_any v33 v36 _ w9 H2.out PC9.out PD9.out).mono ?_
        rintro e10 w10 ⟨rfl, b10⟩
        have L10 : Hid (RowsAt w10 (.slice A l.length cap) 20 (l.map Ses.enc)) := Lib.hid (L9.out.below b10)
        have S10 : Hid (Ses.At w10 gS s) := Lib.hid (Whole.below S9.out b10 S9.out.lt)
        have PA10 : Hid (RowsAt w10 v24 20 ((putS l i s).map Ses.enc)) := Lib.hid (PA9.out.below b10)
        have PB10 : Hid (RowsAt w10 v28 20 ((putS l i s).map Ses.enc)) := Lib.hid (PB9.out.below b10)
        have PC10 : Hid (RowsAt w10 v33 20 ((dropS l i).map Ses.enc)) := Lib.hid (PC9.out.below b10)
        have PD10 : Hid (RowsAt w10 v36 20 ((dropS l i).map Ses.enc)) := Lib.hid (PD9.out.below b10)
        have B10 := Lib.hid (B9.out.trans (b10.mono B9.out.size))
        refine hK.out _ _ b10 ?_
        clear hK K' b10 L9 S9 PA9 PB9 PC9 PD9 B9
        refine reg_take (i := 17) (v := ?_) rfl (by kernel_rfl) (by kernel_rfl) (by kernel_rfl) (fun _ _ _ h => h) (by rfl) ?hy17 ?_
        case hy17 => intro w' hw'; go_simp; (try with_reducible rfl)
        simp only [Act.put, List.setIfInBounds_toArray, List.set_cons_zero, List.set_cons_succ]
        refine reg_take (i := 18) (v := ?_) rfl (by kernel_rfl) (by kernel_rfl) (by kernel_rfl) (fun _ _ _ h => h) (by rfl) ?hy18 ?_
        case hy18 => intro w' hw'; go_simp; (try with_reducible rfl)
        simp only [Act.put, List.setIfInBounds_toArray, List.set_cons_zero, List.set_cons_succ]
        refine reg_take (i := 19) (v := ?_) rfl (by kernel_rfl) (by kernel_rfl) (by kernel_rfl) (fun _ _ _ h => h) (by rfl) ?hy19 ?_
        case hy19 => intro w' hw'; go_simp; (try with_reducible rfl)
        simp only [Act.put, List.setIfInBounds_toArray, List.set_cons_zero, List.set_cons_succ]
        refine reg_take (i := 20) (v := ?_) rfl (by kernel_rfl) (by kernel_rfl) (by kernel_rfl) (fun _ _ _ h => h) (by rfl) ?hy20 ?_
        case hy20 => intro w' hw'; go_simp; (try with_reducible rfl)
        simp only [Act.put, List.setIfInBounds_toArray, List.set_cons_zero, List.set_cons_succ]
        refine reg_take (i := 22) (v := ?_) rfl (by kernel_rfl) (by kernel_rfl) (by kernel_rfl) (fun _ _ _ h => h) (by rfl) ?hy22 ?_
        case hy22 => intro w' hw'; go_simp; (try with_reducible rfl)
        simp only [Act.put, List.setIfInBounds_toArray, List.set_cons_zero, List.set_cons_succ]
        refine reg_take (i := 23) (v := ?_) rfl (by kernel_rfl) (by kernel_rfl) (by kernel_rfl) (fun _ _ _ h => h) (by rfl) ?hy23 ?_
        case hy23 => intro w' hw'; go_simp; (try with_reducible rfl)
        simp only [Act.put, List.setIfInBounds_toArray, List.set_cons_zero, List.set_cons_succ]
        refine reg_call (i := 21) rfl (by kernel_rfl) (fun K' hK => ?_)
        go_simp
        refine (C5.out w10 L10.out).mono ?_
        rintro e11 w11 ⟨v42, rfl, y42, b11⟩
        have L11 : Hid (RowsAt w11 (.slice A l.length cap) 20 (l.map Ses.enc)) := Lib.hid (L10.out.below b11)
        have S11 : Hid (Ses.At w11 gS s) := Lib.hid (Whole.below S10.out b11 S10.out.lt)
        have PA11 : Hid (RowsAt w11 v24 20 ((putS l i s).map Ses.enc)) := Lib.hid (PA10.out.below b11)
        have PB11 : Hid (RowsAt w11 v28 20 ((putS l i s).map Ses.enc)) := Lib.hid (PB10.out.below b11)
        have PC11 : Hid (RowsAt w11 v33 20 ((dropS l i).map Ses.enc)) := Lib.hid (PC10.out.below b11)
        have PD11 : Hid (RowsAt w11 v36 20 ((dropS l i).map Ses.enc)) := Lib.hid (PD10.out.below b11)
        have B11 := Lib.hid (B10.out.trans (b11.mono B10.out.size))
        have PE11 : Hid (RowsAt w11 v42 20 ((closeS l n).map Ses.enc)) := Lib.hid y42
        refine hK.out _ _ b11 ?_
        clear hK K' b11 L10 S10 PA10 PB10 PC10 PD10 B10 y42
        refine reg_call (i := 24) rfl (by kernel_rfl) (fun K' hK => ?_)
        go_simp
        refine (C6.out w11 L11.out).mono ?_
        rintro e12 w12 ⟨v45, rfl, y45, b12⟩
        have L12 : Hid (RowsAt w12 (.slice A l.length cap) 20 (l.map Ses.enc)) := Lib.hid (L11.out.below b12)
        have S12 : Hid (Ses.At w12 gS s) := Lib.hid (Whole.below S11.out b12 S11.out.lt)
        have PA12 : Hid (RowsAt w12 v24 20 ((putS l i s).map Ses.enc)) := Lib.hid (PA11.out.below b12)
        have PB12 : Hid (RowsAt w12 v28 20 ((putS l i s).map Ses.enc)) := Lib.hid (PB11.out.below b12)
        have PC12 : Hid (RowsAt w12 v33 20 ((dropS l i).map Ses.enc)) := Lib.hid (PC11.out.below b12)
        have PD12 : Hid (RowsAt w12 v36 20 ((dropS l i).map Ses.enc)) := Lib.hid (PD11.out.below b12)
        have PE12 : Hid (RowsAt w12 v42 20 ((closeS l n).map Ses.enc)) := Lib.hid (PE11.out.below b12)
        have B12 := Lib.hid (B11.out.trans (b12.mono B11.out.size))
        have PF12 : Hid (RowsAt w12 v45 20 ((closeS l n).map Ses.enc)) := Lib.hid y45
        refine hK.out _ _ b12 ?_
        clear hK K' b12 L11 S11 PA11 PB11 PC11 PD11 PE11 B11 y45
        refine reg_call (i := 25) rfl (by kernel_rfl) (fun K' hK => ?_)
        go_simp
        refine (refSameV_any v42 v45 _ w12 H3.out PE12.out PF12.out).mono ?_
        rintro e13 w13 ⟨rfl, b13⟩
        have L13 : Hid (RowsAt w13 (.slice A l.length cap) 20 (l.map Ses.enc)) := Lib.hid (L12.out.below b13)
        have S13 : Hid (Ses.At w13 gS s) := Lib.hid (Whole.below S12.out b13 S12.out.lt)
        have PA13 : Hid (RowsAt w13 v24 20 ((putS l i s).map Ses.enc)) := Lib.hid (PA12.out.below b13)
        have PB13 : Hid (RowsAt w13 v28 20 ((putS l i s).map Ses.enc)) := Lib.hid (PB12.out.below b13)
        have PC13 : Hid (RowsAt w13 v33 20 ((dropS l i).map Ses.enc)) := Lib.hid (PC12.out.below b13)
        have PD13 : Hid (RowsAt w13 v36 20 ((dropS l i).map Ses.enc)) := Lib.hid (PD12.out.below b13)
        have PE13 : Hid (RowsAt w13 v42 20 ((closeS l n).map Ses.enc)) := Lib.hid (PE12.out.below b13)
        have PF13 : Hid (RowsAt w13 v45 20 ((closeS l n).map Ses.enc)) := Lib.hid (PF12.out.below b13)
        have B13 := Lib.hid (B12.out.trans (b13.mono B12.out.size))
        refine hK.out _ _ b13 ?_
        clear hK K' b13 L12 S12 PA12 PB12 PC12 PD12 PE12 PF12 B12
        refine reg_take (i := 26) (v := ?_) rfl (by kernel_rfl) (by kernel_rfl) (by kernel_rfl) (fun _ _ _ h => h) (by rfl) ?hy26 ?_
        case hy26 => intro w' hw'; go_simp; (try with_reducible rfl)
        simp only [Act.put, List.setIfInBounds_toArray, List.set_cons_zero, List.set_cons_succ]
        refine reg_take (i := 27) (v := ?_) rfl (by kernel_rfl) (by kernel_rfl) (by kernel_rfl) (fun _ _ _ h => h) (by rfl) ?hy27 ?_
        case hy27 => intro w' hw'; go_simp; (try with_reducible rfl)
        simp only [Act.put, List.setIfInBounds_toArray, List.set_cons_zero, List.set_cons_succ]
        refine reg_call (i := 28) rfl (by kernel_rfl) (fun K' hK => ?_)
        go_simp
        refine (works23 w13).mono ?_
        rintro e14 w14 ⟨rfl, b14⟩
        have L14 : Hid (RowsAt w14 (.slice A l.length cap) 20 (l.map Ses.enc)) := Lib.hid (L13.out.below b14)
        have S14 : Hid (Ses.At w14 gS s) := Lib.hid (Whole.below S13.out b14 S13.out.lt)
        have PA14 : Hid (RowsAt w14 v24 20 ((putS l i s).map Ses.enc)) := Lib.hid (PA13.out.below b14)
        have PB14 : Hid (RowsAt w14 v28 20 ((putS l i s).map Ses.enc)) := Lib.hid (PB13.out.below b14)
        have PC14 : Hid (RowsAt w14 v33 20 ((dropS l i).map Ses.enc)) := Lib.hid (PC13.out.below b14)
        have PD14 : Hid (RowsAt w14 v36 20 ((dropS l i).map Ses.enc)) := Lib.hid (PD13.out.below b14)
        have PE14 : Hid (RowsAt w14 v42 20 ((closeS l n).map Ses.enc)) := Lib.hid (PE13.out.below b14)
        have PF14 : Hid (RowsAt w14 v45 20 ((closeS l n).map Ses.enc)) := Lib.hid (PF13.out.below b14)
        have B14 := Lib.hid (B13.out.trans (b14.mono B13.out.size))
        refine hK.out _ _ b14 ?_
        clear hK K' b14 L13 S13 PA13 PB13 PC13 PD13 PE13 PF13 B13
        refine reg_take (i := 29) (v := ?_) rfl (by kernel_rfl) (by kernel_rfl) (by kernel_rfl) (fun _ _ _ h => h) (by rfl) ?hy29 ?_
        case hy29 => intro w' hw'; go_simp; (try with_reducible rfl)
        simp only [Act.put, List.setIfInBounds_toArray, List.set_cons_zero, List.set_cons_succ]
        refine reg_take (i := 30) (v := ?_) rfl (by kernel_rfl) (by kernel_rfl) (by kernel_rfl) (fun _ _ _ h => h) (by rfl) ?hy30 ?_
        case hy30 => intro w' hw'; go_simp; (try with_reducible rfl)
        simp only [Act.put, List.setIfInBounds_toArray, List.set_cons_zero, List.set_cons_succ]
        refine reg_end (by kernel_rfl) ?_
        go_wp2
        go_ret
        exact ⟨rfl, B14.out⟩
end Go.Proofs.Ytjohlnpalcmhbaa
