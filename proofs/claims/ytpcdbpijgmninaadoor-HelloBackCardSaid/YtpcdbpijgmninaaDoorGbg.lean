/- Layer 17's statements: their own Great, and the chapter's example (works). -/
import Derived.Test.YtpcdbpijgmninaaDoorGn
import Derived.Test.YtpcdbpijgmninaaDoorGy
import Derived.Test.YtpcdbpijgmninaaDoorGbe
import Derived.Test.YtpcdbpijgmninaaDoorGbf
namespace Go.Proofs.YtpcdbpijgmninaaDoor
set_option maxRecDepth 100000
open Go.RowKit

def greatH (k : List UInt8) (x : Hel) : Bool := decide (300 < k.length) || decide (300 < x.dest.length) || decide (300 < x.tag.length) || greatB x.entry
theorem greatB_small {a : Ent} (h : greatB a = false) : a.name.length ≤ 1000 ∧ a.tag.length ≤ 1000 := by
  simp only [greatB, Bool.or_eq_false_iff, decide_eq_false_iff_not] at h
  omega
theorem greatH_small {k : List UInt8} {x : Hel} (h : greatH k x = false) : k.length ≤ 300 ∧ x.dest.length ≤ 300 ∧ x.tag.length ≤ 300 ∧ x.entry.name.length ≤ 1000 ∧ x.entry.tag.length ≤ 1000 := by
  simp only [greatH, Bool.or_eq_false_iff, decide_eq_false_iff_not] at h
  have := greatB_small h.2
  omega

set_option maxRecDepth 100000 in
set_option maxHeartbeats 1000000 in
theorem heGreat_any (k : List UInt8) (x : Hel) (w : World) :
    Calls Tryd.prog 7 #[.string ⟨k.toArray⟩, x.val] w fun e w' => e = .returned (.bool (greatH k x)) ∧ Below w.heap.size w w' := by
  have CG := fun w => Lib.hid (great_any x.entry w)
  have HE : Hid (greatH k x = (decide (300 < k.length) || decide (300 < x.dest.length) || decide (300 < x.tag.length) || greatB x.entry)) := Lib.hid rfl
  obtain ⟨b0, h0⟩ : ∃ b, b = decide (300 < k.length) := ⟨_, rfl⟩
  obtain ⟨b1, h1⟩ : ∃ b, b = decide (300 < x.dest.length) := ⟨_, rfl⟩
  obtain ⟨b2, h2⟩ : ∃ b, b = decide (300 < x.tag.length) := ⟨_, rfl⟩
  obtain ⟨b3, h3⟩ : ∃ b, b = greatB x.entry := ⟨_, rfl⟩
  simp only [← h3] at CG
  rw [← h0, ← h1, ← h2, ← h3] at HE
  have p0 : decide ((300 : Int) < (k.length : Int)) = b0 := by rw [h0, Bool.eq_iff_iff, decide_eq_true_eq, decide_eq_true_eq]; omega
  have p1 : decide ((300 : Int) < (x.dest.length : Int)) = b1 := by rw [h1, Bool.eq_iff_iff, decide_eq_true_eq, decide_eq_true_eq]; omega
  have p2 : decide ((300 : Int) < (x.tag.length : Int)) = b2 := by rw [h2, Bool.eq_iff_iff, decide_eq_true_eq, decide_eq_true_eq]; omega
  clear h0 h1 h2 h3
  go_enter Tryd.func7, Tryd.ntmps7
  go_wp2_with (refine wpList_box_row rfl 26 _ rfl x.enc.toArray (by with_unfolding_all exact rfl) ?_)
  intro w1 b1 x1 z1
  obtain ⟨gX, hgX⟩ : ∃ g, g = w.heap.size := ⟨_, rfl⟩
  have M_X := Lib.hid (show w.heap.size ≤ gX from by rw [hgX]; exact Nat.le_refl _)
  have B1 := Lib.hid b1
  rw [← hgX] at x1 ⊢
  have X1 : Hid (Hel.At w1 gX x) := Lib.hid x1
  clear b1 x1 z1 hgX 
  have c1 := Hel.At.at_dest X1.out
  have c2 := Hel.At.at_tag X1.out
  cases b0 with
  | true =>
    go_wp2
    go_ret
    exact ⟨by rw [HE.out]; rfl, B1.out⟩
  | false =>
    cases b1 with
    | true =>
      go_wp2
      go_ret
      exact ⟨by rw [HE.out]; rfl, B1.out⟩
    | false =>
      cases b2 with
      | true =>
        go_wp2
        go_ret
        exact ⟨by rw [HE.out]; rfl, B1.out⟩
      | false =>
        go_wp2_with (first | (with_reducible refine wpList_load_whole Hel.isRec rfl _ rfl gX (by with_unfolding_all exact rfl) _ _ (Hel.len _) X1.out ?_) | (with_reducible refine wpList_load_rec Ent.isRec rfl _ rfl gX 2 (by with_unfolding_all exact rfl) _ (Ent.len _) (Hel.At.part_entry X1.out) ?_) | (with_reducible refine wpList_load_rec_w Ent.isRec (by kernel_rfl) _ rfl gX 2 (by with_unfolding_all exact rfl) _ (Ent.len _) (Hel.At.part_entry X1.out) ?_))
        refine ((CG w1).out).mono ?_
        rintro e2 w2 ⟨rfl, b2⟩
        have X2 : Hid (Hel.At w2 gX x) := Lib.hid (Whole.below X1.out b2 X1.out.lt)
        have B2 := Lib.hid (B1.out.trans (b2.mono B1.out.size))
        clear b2 X1 B1
        clear c1 c2 p0 p1 p2 CG
        go_wp2
        go_ret
        exact ⟨by rw [HE.out]; cases b3 <;> rfl, B2.out⟩

theorem reset_five : resetB 5 = [4, 0, 0, 0, 0, 0, 0, 0, 5] := by decide

set_option maxRecDepth 100000 in
set_option maxHeartbeats 2000000 in
theorem works17 (w : World) (T : Tab w) :
    Calls Tryd.prog 9 #[] w fun e w' => e = .returned (.bool true) ∧ Below w.heap.size w w' := by
  have T0 := Lib.hid T
  obtain ⟨X, hX⟩ : ∃ X, X = exH := ⟨_, rfl⟩
  obtain ⟨Y, hY⟩ : ∃ Y, Y = exW := ⟨_, rfl⟩
  have xr : rightH X = true := by rw [hX]; exact exH_right
  have CG := fun w T => Lib.hid (show Calls Tryd.prog 10 #[.string ⟨pskL.toArray⟩, .string ⟨exB.toArray⟩, .int .u64 7, exE.val] w fun e w' => e = .returned X.val ∧ Below w.heap.size w w' from by
    rw [hX]; exact heGreet_any pskL exB 7 exE w (by decide) (by decide) (by decide) (by decide) T)
  have CA := fun w T => Lib.hid (show Calls Tryd.prog 11 #[.string ⟨pskL.toArray⟩, X.val, .int .u64 9, exE.val] w fun e w' => e = .returned Y.val ∧ Below w.heap.size w w' from by
    rw [hX, hY]; exact heAnswer_any pskL exH 9 exE w (by decide) (by rw [exH, ex_entry]; decide) (by rw [exH, ex_entry]; decide) (by decide) (by decide) T)
  have CP := fun w => hePutHello_any X w
  simp only [xr, if_true] at CP
  replace CP := fun w => Lib.hid (CP w)
  have CT := fun v w h => heTakeHello_any v (helloB X) w h
  have q1 : takeHX (helloB X) = 0 := by rw [hX]; exact exH_taken.1
  have q2 : takeH (helloB X) = X := by rw [hX]; exact exH_taken.2.1
  have q3 : kindB (helloB X) = 1 := by rw [hX]; exact exH_taken.2.2
  simp only [q1, q2] at CT
  replace CT := fun v w h => Lib.hid (CT v w h)
  have CK := fun v w h => heKindOf_any v (helloB X) w h
  simp only [q3] at CK
  replace CK := fun v w h => Lib.hid (CK v w h)
  have CZ := fun w => Lib.hid (heKindOf_any (.slice none 0 0) [] w (BytesAt.nil w))
  have CR := fun w => hePutReset_any 5 w
  simp only [reset_five] at CR
  replace CR := fun w => Lib.hid (CR w)
  have t1 : X.tag.length = 32 := by rw [hX]; exact greetH_tag_length _ _ _ _
  have t2 : Y.tag.length = 32 := by rw [hY]; exact answerW_tag_length _ _ _ _
  have n1 : X.entry = exE := by rw [hX]; exact ex_entry _ _ _ _
  have n2 : Y.entry = exE := by rw [hY]; rfl
  have n3 : X.dest.length ≤ 300 := by rw [hX]; decide
  have CC := fun w T => heChecks_any pskL X w (by decide) n3 (by rw [n1]; decide) (by rw [n1]; decide) (by omega) T
  have CN := fun w T => heChecks_any pslL X w (by decide) n3 (by rw [n1]; decide) (by rw [n1]; decide) (by omega) T
  have CV := fun w T => heAgrees_any pskL Y exE w (by decide) (by rw [n2]; decide) (by rw [n2]; decide) (by decide) (by decide) (by omega) T
  have z1 : checksB pskL X = true := by rw [hX]; exact exH_checks
  have z2 : checksB pslL X = false := by rw [hX]; exact exH_not
  have z3 : agreesB pskL Y exE = true := by rw [hY]; exact exW_agrees
  simp only [z1] at CC
  simp only [z2] at CN
  simp only [z3] at CV
  replace CC := fun w T => Lib.hid (CC w T)
  replace CN := fun w T => Lib.hid (CN w T)
  replace CV := fun w T => Lib.hid (CV w T)
  generalize helloB X = P at *
  clear hX hY xr q1 q2 q3 t1 t2 n1 n2 n3 z1 z2 z3 T
  go_enter Tryd.func9, Tryd.ntmps9
  go_wp2_with (at_make; refine wpList_make_block rfl _ _ rfl 32 rfl rfl (by decide) ?_)
  intro wm xm bm _
  have r1 := conv_bytes (bytes_of_whole (n := 32) (cap := 32) xm (by decide) (Nat.le_refl _))
  have Bm := Lib.hid bm
  clear xm bm
  go_wp2_with (first | (refine wpList_alloc_row rfl 24 rfl Ent.zero.enc.toArray Ent.zero_is ?_) | (with_reducible refine wpList_build_rec rfl 24 _ rfl #[(0, .string ⟨#[97]⟩), (5, .string ⟨(List.replicate 32 (0 : UInt8)).toArray⟩)] (by with_unfolding_all exact rfl) exE.enc.toArray (by kernel_rfl) ?_))
  intro w1 b1 x1 z1
  obtain ⟨gE, hgE⟩ : ∃ g, g = wm.heap.size := ⟨_, rfl⟩
  have M_E := Lib.hid (show w.heap.size ≤ gE from by rw [hgE]; exact Bm.out.size)
  have B1 := Lib.hid (Bm.out.trans (b1.mono Bm.out.size))
  rw [← hgE] at x1 ⊢
  have E1 : Hid (Ent.At w1 gE Ent.zero) := Lib.hid x1
  clear b1 x1 z1 hgE Bm
  clear r1
  go_wp2_with (first | (with_reducible refine wpList_load_whole Ent.isRec rfl _ rfl gE (by with_unfolding_all exact rfl) _ _ (Ent.len _) E1.out ?_) | (with_reducible refine wpList_store_whole rfl 24 _ _ rfl gE exE.enc.toArray (by with_unfolding_all exact rfl) (by with_unfolding_all exact rfl) _ _ E1.out (Ent.size _) rfl (Ent.one _) ?_))
  intro w2 q2 x2 z2
  have E2 : Hid (Ent.At w2 gE exE) := Lib.hid x2
  have B2 := Lib.hid (B1.out.grown q2 B1.out.size (fun k hk => by injection hk with hk; have := M_E.out; omega))
  clear q2 x2 z2 E1 B1
  go_wp2_with (with_reducible refine wpList_load_whole Ent.isRec rfl _ rfl gE (by with_unfolding_all exact rfl) _ _ (Ent.len _) E2.out ?_)
  refine ((CG w2 (T0.out.below B2.out T0.out.pos)).out).mono ?_
  rintro e3 w3 ⟨rfl, b3⟩
  have E3 : Hid (Ent.At w3 gE exE) := Lib.hid (Whole.below E2.out b3 E2.out.lt)
  have B3 := Lib.hid (B2.out.trans (b3.mono B2.out.size))
  clear b3 E2 B2
  go_wp2_with (first | (with_reducible refine wpList_load_whole Ent.isRec rfl _ rfl gE (by with_unfolding_all exact rfl) _ _ (Ent.len _) E3.out ?_) | (refine wpList_alloc_row rfl 26 rfl Hel.zero.enc.toArray Hel.zero_is ?_))
  intro w4 b4 x4 z4
  obtain ⟨gH, hgH⟩ : ∃ g, g = w3.heap.size := ⟨_, rfl⟩
  have N_E_H := Lib.hid (show gE < gH from by rw [hgH]; exact E3.out.lt)
  have M_H := Lib.hid (show w.heap.size ≤ gH from by rw [hgH]; exact B3.out.size)
  have E4 : Hid (Ent.At w4 gE exE) := Lib.hid (Whole.below E3.out b4 E3.out.lt)
  have B4 := Lib.hid (B3.out.trans (b4.mono B3.out.size))
  rw [← hgH] at x4 ⊢
  have H4 : Hid (Hel.At w4 gH Hel.zero) := Lib.hid x4
  clear b4 x4 z4 hgH E3 B3
  go_wp2_with (first | (with_reducible refine wpList_load_whole Ent.isRec rfl _ rfl gE (by with_unfolding_all exact rfl) _ _ (Ent.len _) E4.out ?_) | (with_reducible refine wpList_load_whole Hel.isRec rfl _ rfl gH (by with_unfolding_all exact rfl) _ _ (Hel.len _) H4.out ?_) | (with_reducible refine wpList_load_rec Ent.isRec rfl _ rfl gH 2 (by with_unfolding_all exact rfl) _ (Ent.len _) (Hel.At.part_entry H4.out) ?_) | (with_reducible refine wpList_store_whole rfl 26 _ _ rfl gH X.enc.toArray (by with_unfolding_all exact rfl) (by with_unfolding_all exact rfl) _ _ H4.out (Hel.size _) rfl (Hel.one _) ?_))
  intro w5 q5 x5 z5
  have H5 : Hid (Hel.At w5 gH X) := Lib.hid x5
  have E5 : Hid (Ent.At w5 gE exE) := Lib.hid (grown_far E4.out q5 (by have := N_E_H.out; omega))
  have B5 := Lib.hid (B4.out.grown q5 B4.out.size (fun k hk => by injection hk with hk; have := M_H.out; omega))
  clear q5 x5 z5 H4 E4 B4
  go_wp2_with (first | (with_reducible refine wpList_load_whole Ent.isRec rfl _ rfl gE (by with_unfolding_all exact rfl) _ _ (Ent.len _) E5.out ?_) | (with_reducible refine wpList_load_whole Hel.isRec rfl _ rfl gH (by with_unfolding_all exact rfl) _ _ (Hel.len _) H5.out ?_) | (with_reducible refine wpList_load_rec Ent.isRec rfl _ rfl gH 2 (by with_unfolding_all exact rfl) _ (Ent.len _) (Hel.At.part_entry H5.out) ?_))
  refine ((CA w5 (T0.out.below B5.out T0.out.pos)).out).mono ?_
  rintro e6 w6 ⟨rfl, b6⟩
  have E6 : Hid (Ent.At w6 gE exE) := Lib.hid (Whole.below E5.out b6 E5.out.lt)
  have H6 : Hid (Hel.At w6 gH X) := Lib.hid (Whole.below H5.out b6 H5.out.lt)
  have B6 := Lib.hid (B5.out.trans (b6.mono B5.out.size))
  clear b6 E5 H5 B5
  go_wp2_with (first | (with_reducible refine wpList_load_whole Ent.isRec rfl _ rfl gE (by with_unfolding_all exact rfl) _ _ (Ent.len _) E6.out ?_) | (with_reducible refine wpList_load_whole Hel.isRec rfl _ rfl gH (by with_unfolding_all exact rfl) _ _ (Hel.len _) H6.out ?_) | (with_reducible refine wpList_load_rec Ent.isRec rfl _ rfl gH 2 (by with_unfolding_all exact rfl) _ (Ent.len _) (Hel.At.part_entry H6.out) ?_) | (refine wpList_alloc_row rfl 28 rfl Wel.zero.enc.toArray Wel.zero_is ?_))
  intro w7 b7 x7 z7
  obtain ⟨gW, hgW⟩ : ∃ g, g = w6.heap.size := ⟨_, rfl⟩
  have N_E_W := Lib.hid (show gE < gW from by rw [hgW]; exact E6.out.lt)
  have N_H_W := Lib.hid (show gH < gW from by rw [hgW]; exact H6.out.lt)
  have M_W := Lib.hid (show w.heap.size ≤ gW from by rw [hgW]; exact B6.out.size)
  have E7 : Hid (Ent.At w7 gE exE) := Lib.hid (Whole.below E6.out b7 E6.out.lt)
  have H7 : Hid (Hel.At w7 gH X) := Lib.hid (Whole.below H6.out b7 H6.out.lt)
  have B7 := Lib.hid (B6.out.trans (b7.mono B6.out.size))
  rw [← hgW] at x7 ⊢
  have W7 : Hid (Wel.At w7 gW Wel.zero) := Lib.hid x7
  clear b7 x7 z7 hgW E6 H6 B6
  go_wp2_with (first | (with_reducible refine wpList_load_whole Ent.isRec rfl _ rfl gE (by with_unfolding_all exact rfl) _ _ (Ent.len _) E7.out ?_) | (with_reducible refine wpList_load_whole Hel.isRec rfl _ rfl gH (by with_unfolding_all exact rfl) _ _ (Hel.len _) H7.out ?_) | (with_reducible refine wpList_load_rec Ent.isRec rfl _ rfl gH 2 (by with_unfolding_all exact rfl) _ (Ent.len _) (Hel.At.part_entry H7.out) ?_) | (with_reducible refine wpList_load_whole Wel.isRec rfl _ rfl gW (by with_unfolding_all exact rfl) _ _ (Wel.len _) W7.out ?_) | (with_reducible refine wpList_load_rec Ent.isRec rfl _ rfl gW 2 (by with_unfolding_all exact rfl) _ (Ent.len _) (Wel.At.part_entry W7.out) ?_) | (with_reducible refine wpList_store_whole rfl 28 _ _ rfl gW Y.enc.toArray (by with_unfolding_all exact rfl) (by with_unfolding_all exact rfl) _ _ W7.out (Wel.size _) rfl (Wel.one _) ?_))
  intro w8 q8 x8 z8
  have W8 : Hid (Wel.At w8 gW Y) := Lib.hid x8
  have E8 : Hid (Ent.At w8 gE exE) := Lib.hid (grown_far E7.out q8 (by have := N_E_W.out; omega))
  have H8 : Hid (Hel.At w8 gH X) := Lib.hid (grown_far H7.out q8 (by have := N_H_W.out; omega))
  have B8 := Lib.hid (B7.out.grown q8 B7.out.size (fun k hk => by injection hk with hk; have := M_W.out; omega))
  clear q8 x8 z8 W7 E7 H7 B7
  go_wp2_with (first | (with_reducible refine wpList_load_whole Ent.isRec rfl _ rfl gE (by with_unfolding_all exact rfl) _ _ (Ent.len _) E8.out ?_) | (with_reducible refine wpList_load_whole Hel.isRec rfl _ rfl gH (by with_unfolding_all exact rfl) _ _ (Hel.len _) H8.out ?_) | (with_reducible refine wpList_load_rec Ent.isRec rfl _ rfl gH 2 (by with_unfolding_all exact rfl) _ (Ent.len _) (Hel.At.part_entry H8.out) ?_) | (with_reducible refine wpList_load_whole Wel.isRec rfl _ rfl gW (by with_unfolding_all exact rfl) _ _ (Wel.len _) W8.out ?_) | (with_reducible refine wpList_load_rec Ent.isRec rfl _ rfl gW 2 (by with_unfolding_all exact rfl) _ (Ent.len _) (Wel.At.part_entry W8.out) ?_))
  refine ((CP w8).out).mono ?_
  rintro e9 w9 ⟨vp, rfl, yp, b9⟩
  have E9 : Hid (Ent.At w9 gE exE) := Lib.hid (Whole.below E8.out b9 E8.out.lt)
  have H9 : Hid (Hel.At w9 gH X) := Lib.hid (Whole.below H8.out b9 H8.out.lt)
  have W9 : Hid (Wel.At w9 gW Y) := Lib.hid (Whole.below W8.out b9 W8.out.lt)
  have B9 := Lib.hid (B8.out.trans (b9.mono B8.out.size))
  have P9 : Hid (BytesAt w9 vp P) := Lib.hid yp
  clear b9 E8 H8 W8 B8 yp
  have P0 := P9
  have D9 : Hid (Since w9 w9) := Lib.hid (⟨Below.refl _ _⟩)
  go_wp2_with (first | (with_reducible refine wpList_load_whole Ent.isRec rfl _ rfl gE (by with_unfolding_all exact rfl) _ _ (Ent.len _) E9.out ?_) | (with_reducible refine wpList_load_whole Hel.isRec rfl _ rfl gH (by with_unfolding_all exact rfl) _ _ (Hel.len _) H9.out ?_) | (with_reducible refine wpList_load_rec Ent.isRec rfl _ rfl gH 2 (by with_unfolding_all exact rfl) _ (Ent.len _) (Hel.At.part_entry H9.out) ?_) | (with_reducible refine wpList_load_whole Wel.isRec rfl _ rfl gW (by with_unfolding_all exact rfl) _ _ (Wel.len _) W9.out ?_) | (with_reducible refine wpList_load_rec Ent.isRec rfl _ rfl gW 2 (by with_unfolding_all exact rfl) _ (Ent.len _) (Wel.At.part_entry W9.out) ?_))
  refine ((CT vp w9 P9.out).out).mono ?_
  rintro e10 w10 ⟨rfl, b10⟩
  have E10 : Hid (Ent.At w10 gE exE) := Lib.hid (Whole.below E9.out b10 E9.out.lt)
  have H10 : Hid (Hel.At w10 gH X) := Lib.hid (Whole.below H9.out b10 H9.out.lt)
  have W10 : Hid (Wel.At w10 gW Y) := Lib.hid (Whole.below W9.out b10 W9.out.lt)
  have P10 : Hid (BytesAt w10 vp P) := Lib.hid (P9.out.below b10)
  have D10 : Hid (Since w9 w10) := Lib.hid (D9.out.below b10)
  have B10 := Lib.hid (B9.out.trans (b10.mono B9.out.size))
  clear b10 E9 H9 W9 P9 D9 B9
  clear P10
  go_wp2_with (first | (with_reducible refine wpList_load_whole Ent.isRec rfl _ rfl gE (by with_unfolding_all exact rfl) _ _ (Ent.len _) E10.out ?_) | (with_reducible refine wpList_load_whole Hel.isRec rfl _ rfl gH (by with_unfolding_all exact rfl) _ _ (Hel.len _) H10.out ?_) | (with_reducible refine wpList_load_rec Ent.isRec rfl _ rfl gH 2 (by with_unfolding_all exact rfl) _ (Ent.len _) (Hel.At.part_entry H10.out) ?_) | (with_reducible refine wpList_load_whole Wel.isRec rfl _ rfl gW (by with_unfolding_all exact rfl) _ _ (Wel.len _) W10.out ?_) | (with_reducible refine wpList_load_rec Ent.isRec rfl _ rfl gW 2 (by with_unfolding_all exact rfl) _ (Ent.len _) (Wel.At.part_entry W10.out) ?_) | (refine wpList_alloc_row rfl 26 rfl Hel.zero.enc.toArray Hel.zero_is ?_))
  intro w11 b11 x11 z11
  obtain ⟨gK, hgK⟩ : ∃ g, g = w10.heap.size := ⟨_, rfl⟩
  have N_E_K := Lib.hid (show gE < gK from by rw [hgK]; exact E10.out.lt)
  have N_H_K := Lib.hid (show gH < gK from by rw [hgK]; exact H10.out.lt)
  have N_W_K := Lib.hid (show gW < gK from by rw [hgK]; exact W10.out.lt)
  have L_D_K := Lib.hid (show w9.heap.size ≤ gK from by rw [hgK]; exact D10.out.b.size)
  have M_K := Lib.hid (show w.heap.size ≤ gK from by rw [hgK]; exact B10.out.size)
  have E11 : Hid (Ent.At w11 gE exE) := Lib.hid (Whole.below E10.out b11 E10.out.lt)
  have H11 : Hid (Hel.At w11 gH X) := Lib.hid (Whole.below H10.out b11 H10.out.lt)
  have W11 : Hid (Wel.At w11 gW Y) := Lib.hid (Whole.below W10.out b11 W10.out.lt)
  have D11 : Hid (Since w9 w11) := Lib.hid (D10.out.below b11)
  have B11 := Lib.hid (B10.out.trans (b11.mono B10.out.size))
  rw [← hgK] at x11 ⊢
  have K11 : Hid (Hel.At w11 gK Hel.zero) := Lib.hid x11
  clear b11 x11 z11 hgK E10 H10 W10 D10 B10
  go_wp2_with (first | (with_reducible refine wpList_load_whole Ent.isRec rfl _ rfl gE (by with_unfolding_all exact rfl) _ _ (Ent.len _) E11.out ?_) | (with_reducible refine wpList_load_whole Hel.isRec rfl _ rfl gH (by with_unfolding_all exact rfl) _ _ (Hel.len _) H11.out ?_) | (with_reducible refine wpList_load_rec Ent.isRec rfl _ rfl gH 2 (by with_unfolding_all exact rfl) _ (Ent.len _) (Hel.At.part_entry H11.out) ?_) | (with_reducible refine wpList_load_whole Wel.isRec rfl _ rfl gW (by with_unfolding_all exact rfl) _ _ (Wel.len _) W11.out ?_) | (with_reducible refine wpList_load_rec Ent.isRec rfl _ rfl gW 2 (by with_unfolding_all exact rfl) _ (Ent.len _) (Wel.At.part_entry W11.out) ?_) | (with_reducible refine wpList_load_whole Hel.isRec rfl _ rfl gK (by with_unfolding_all exact rfl) _ _ (Hel.len _) K11.out ?_) | (with_reducible refine wpList_load_rec Ent.isRec rfl _ rfl gK 2 (by with_unfolding_all exact rfl) _ (Ent.len _) (Hel.At.part_entry K11.out) ?_) | (with_reducible refine wpList_store_whole rfl 26 _ _ rfl gK X.enc.toArray (by with_unfolding_all exact rfl) (by with_unfolding_all exact rfl) _ _ K11.out (Hel.size _) rfl (Hel.one _) ?_))
  intro w12 q12 x12 z12
  have K12 : Hid (Hel.At w12 gK X) := Lib.hid x12
  have E12 : Hid (Ent.At w12 gE exE) := Lib.hid (grown_far E11.out q12 (by have := N_E_K.out; omega))
  have H12 : Hid (Hel.At w12 gH X) := Lib.hid (grown_far H11.out q12 (by have := N_H_K.out; omega))
  have W12 : Hid (Wel.At w12 gW Y) := Lib.hid (grown_far W11.out q12 (by have := N_W_K.out; omega))
  have D12 : Hid (Since w9 w12) := Lib.hid (D11.out.far q12 L_D_K.out)
  have B12 := Lib.hid (B11.out.grown q12 B11.out.size (fun k hk => by injection hk with hk; have := M_K.out; omega))
  clear q12 x12 z12 K11 E11 H11 W11 D11 B11
  clear CG CA CP CT
  go_wp2_with (first | (with_reducible refine wpList_load_whole Ent.isRec rfl _ rfl gE (by with_unfolding_all exact rfl) _ _ (Ent.len _) E12.out ?_) | (with_reducible refine wpList_load_whole Hel.isRec rfl _ rfl gH (by with_unfolding_all exact rfl) _ _ (Hel.len _) H12.out ?_) | (with_reducible refine wpList_load_rec Ent.isRec rfl _ rfl gH 2 (by with_unfolding_all exact rfl) _ (Ent.len _) (Hel.At.part_entry H12.out) ?_) | (with_reducible refine wpList_load_whole Wel.isRec rfl _ rfl gW (by with_unfolding_all exact rfl) _ _ (Wel.len _) W12.out ?_) | (with_reducible refine wpList_load_rec Ent.isRec rfl _ rfl gW 2 (by with_unfolding_all exact rfl) _ (Ent.len _) (Wel.At.part_entry W12.out) ?_) | (with_reducible refine wpList_load_whole Hel.isRec rfl _ rfl gK (by with_unfolding_all exact rfl) _ _ (Hel.len _) K12.out ?_) | (with_reducible refine wpList_load_rec Ent.isRec rfl _ rfl gK 2 (by with_unfolding_all exact rfl) _ (Ent.len _) (Hel.At.part_entry K12.out) ?_))
  refine ((CR w12).out).mono ?_
  rintro e13 w13 ⟨vr, rfl, yr, b13⟩
  have E13 : Hid (Ent.At w13 gE exE) := Lib.hid (Whole.below E12.out b13 E12.out.lt)
  have H13 : Hid (Hel.At w13 gH X) := Lib.hid (Whole.below H12.out b13 H12.out.lt)
  have W13 : Hid (Wel.At w13 gW Y) := Lib.hid (Whole.below W12.out b13 W12.out.lt)
  have D13 : Hid (Since w9 w13) := Lib.hid (D12.out.below b13)
  have K13 : Hid (Hel.At w13 gK X) := Lib.hid (Whole.below K12.out b13 K12.out.lt)
  have B13 := Lib.hid (B12.out.trans (b13.mono B12.out.size))
  have R13 : Hid (BytesAt w13 vr [4, 0, 0, 0, 0, 0, 0, 0, 5]) := Lib.hid yr
  clear b13 E12 H12 W12 D12 K12 B12 yr
  have rr := conv_bytes R13.out
  go_wp2_with (first | (with_reducible refine wpList_load_whole Ent.isRec rfl _ rfl gE (by with_unfolding_all exact rfl) _ _ (Ent.len _) E13.out ?_) | (with_reducible refine wpList_load_whole Hel.isRec rfl _ rfl gH (by with_unfolding_all exact rfl) _ _ (Hel.len _) H13.out ?_) | (with_reducible refine wpList_load_rec Ent.isRec rfl _ rfl gH 2 (by with_unfolding_all exact rfl) _ (Ent.len _) (Hel.At.part_entry H13.out) ?_) | (with_reducible refine wpList_load_whole Wel.isRec rfl _ rfl gW (by with_unfolding_all exact rfl) _ _ (Wel.len _) W13.out ?_) | (with_reducible refine wpList_load_rec Ent.isRec rfl _ rfl gW 2 (by with_unfolding_all exact rfl) _ (Ent.len _) (Wel.At.part_entry W13.out) ?_) | (with_reducible refine wpList_load_whole Hel.isRec rfl _ rfl gK (by with_unfolding_all exact rfl) _ _ (Hel.len _) K13.out ?_) | (with_reducible refine wpList_load_rec Ent.isRec rfl _ rfl gK 2 (by with_unfolding_all exact rfl) _ (Ent.len _) (Hel.At.part_entry K13.out) ?_) | (with_reducible refine wpList_load_whole_w Hel.isRec (by kernel_rfl) _ rfl gH (by with_unfolding_all exact rfl) _ _ (Hel.len _) H13.out ?_))
  refine ((CC w13 (T0.out.below B13.out T0.out.pos)).out).mono ?_
  rintro e14 w14 ⟨rfl, b14⟩
  have E14 : Hid (Ent.At w14 gE exE) := Lib.hid (Whole.below E13.out b14 E13.out.lt)
  have H14 : Hid (Hel.At w14 gH X) := Lib.hid (Whole.below H13.out b14 H13.out.lt)
  have W14 : Hid (Wel.At w14 gW Y) := Lib.hid (Whole.below W13.out b14 W13.out.lt)
  have D14 : Hid (Since w9 w14) := Lib.hid (D13.out.below b14)
  have K14 : Hid (Hel.At w14 gK X) := Lib.hid (Whole.below K13.out b14 K13.out.lt)
  have R14 : Hid (BytesAt w14 vr [4, 0, 0, 0, 0, 0, 0, 0, 5]) := Lib.hid (R13.out.below b14)
  have B14 := Lib.hid (B13.out.trans (b14.mono B13.out.size))
  clear b14 E13 H13 W13 D13 K13 R13 B13
  clear rr
  clear R14
  go_wp2_with (first | (with_reducible refine wpList_load_whole Ent.isRec rfl _ rfl gE (by with_unfolding_all exact rfl) _ _ (Ent.len _) E14.out ?_) | (with_reducible refine wpList_load_whole Hel.isRec rfl _ rfl gH (by with_unfolding_all exact rfl) _ _ (Hel.len _) H14.out ?_) | (with_reducible refine wpList_load_rec Ent.isRec rfl _ rfl gH 2 (by with_unfolding_all exact rfl) _ (Ent.len _) (Hel.At.part_entry H14.out) ?_) | (with_reducible refine wpList_load_whole Wel.isRec rfl _ rfl gW (by with_unfolding_all exact rfl) _ _ (Wel.len _) W14.out ?_) | (with_reducible refine wpList_load_rec Ent.isRec rfl _ rfl gW 2 (by with_unfolding_all exact rfl) _ (Ent.len _) (Wel.At.part_entry W14.out) ?_) | (with_reducible refine wpList_load_whole Hel.isRec rfl _ rfl gK (by with_unfolding_all exact rfl) _ _ (Hel.len _) K14.out ?_) | (with_reducible refine wpList_load_rec Ent.isRec rfl _ rfl gK 2 (by with_unfolding_all exact rfl) _ (Ent.len _) (Hel.At.part_entry K14.out) ?_) | (first | (with_reducible refine wpList_load_whole_w Wel.isRec (by kernel_rfl) _ rfl gW (by with_unfolding_all exact rfl) _ _ (Wel.len _) W14.out ?_) | (with_reducible refine wpList_load_whole_w Ent.isRec (by kernel_rfl) _ rfl gE (by with_unfolding_all exact rfl) _ _ (Ent.len _) E14.out ?_)))
  refine ((CV w14 (T0.out.below B14.out T0.out.pos)).out).mono ?_
  rintro e15 w15 ⟨rfl, b15⟩
  have E15 : Hid (Ent.At w15 gE exE) := Lib.hid (Whole.below E14.out b15 E14.out.lt)
  have H15 : Hid (Hel.At w15 gH X) := Lib.hid (Whole.below H14.out b15 H14.out.lt)
  have W15 : Hid (Wel.At w15 gW Y) := Lib.hid (Whole.below W14.out b15 W14.out.lt)
  have D15 : Hid (Since w9 w15) := Lib.hid (D14.out.below b15)
  have K15 : Hid (Hel.At w15 gK X) := Lib.hid (Whole.below K14.out b15 K14.out.lt)
  have B15 := Lib.hid (B14.out.trans (b15.mono B14.out.size))
  clear b15 E14 H14 W14 D14 K14 B14
  go_wp2_with (first | (with_reducible refine wpList_load_whole Ent.isRec rfl _ rfl gE (by with_unfolding_all exact rfl) _ _ (Ent.len _) E15.out ?_) | (with_reducible refine wpList_load_whole Hel.isRec rfl _ rfl gH (by with_unfolding_all exact rfl) _ _ (Hel.len _) H15.out ?_) | (with_reducible refine wpList_load_rec Ent.isRec rfl _ rfl gH 2 (by with_unfolding_all exact rfl) _ (Ent.len _) (Hel.At.part_entry H15.out) ?_) | (with_reducible refine wpList_load_whole Wel.isRec rfl _ rfl gW (by with_unfolding_all exact rfl) _ _ (Wel.len _) W15.out ?_) | (with_reducible refine wpList_load_rec Ent.isRec rfl _ rfl gW 2 (by with_unfolding_all exact rfl) _ (Ent.len _) (Wel.At.part_entry W15.out) ?_) | (with_reducible refine wpList_load_whole Hel.isRec rfl _ rfl gK (by with_unfolding_all exact rfl) _ _ (Hel.len _) K15.out ?_) | (with_reducible refine wpList_load_rec Ent.isRec rfl _ rfl gK 2 (by with_unfolding_all exact rfl) _ (Ent.len _) (Hel.At.part_entry K15.out) ?_) | (with_reducible refine wpList_load_whole_w Hel.isRec (by kernel_rfl) _ rfl gH (by with_unfolding_all exact rfl) _ _ (Hel.len _) H15.out ?_))
  refine ((CN w15 (T0.out.below B15.out T0.out.pos)).out).mono ?_
  rintro e16 w16 ⟨rfl, b16⟩
  have E16 : Hid (Ent.At w16 gE exE) := Lib.hid (Whole.below E15.out b16 E15.out.lt)
  have H16 : Hid (Hel.At w16 gH X) := Lib.hid (Whole.below H15.out b16 H15.out.lt)
  have W16 : Hid (Wel.At w16 gW Y) := Lib.hid (Whole.below W15.out b16 W15.out.lt)
  have D16 : Hid (Since w9 w16) := Lib.hid (D15.out.below b16)
  have K16 : Hid (Hel.At w16 gK X) := Lib.hid (Whole.below K15.out b16 K15.out.lt)
  have B16 := Lib.hid (B15.out.trans (b16.mono B15.out.size))
  clear b16 E15 H15 W15 D15 K15 B15
  clear CC CV CN
  go_wp2_with (first | (with_reducible refine wpList_load_whole Ent.isRec rfl _ rfl gE (by with_unfolding_all exact rfl) _ _ (Ent.len _) E16.out ?_) | (with_reducible refine wpList_load_whole Hel.isRec rfl _ rfl gH (by with_unfolding_all exact rfl) _ _ (Hel.len _) H16.out ?_) | (with_reducible refine wpList_load_rec Ent.isRec rfl _ rfl gH 2 (by with_unfolding_all exact rfl) _ (Ent.len _) (Hel.At.part_entry H16.out) ?_) | (with_reducible refine wpList_load_whole Wel.isRec rfl _ rfl gW (by with_unfolding_all exact rfl) _ _ (Wel.len _) W16.out ?_) | (with_reducible refine wpList_load_rec Ent.isRec rfl _ rfl gW 2 (by with_unfolding_all exact rfl) _ (Ent.len _) (Wel.At.part_entry W16.out) ?_) | (with_reducible refine wpList_load_whole Hel.isRec rfl _ rfl gK (by with_unfolding_all exact rfl) _ _ (Hel.len _) K16.out ?_) | (with_reducible refine wpList_load_rec Ent.isRec rfl _ rfl gK 2 (by with_unfolding_all exact rfl) _ (Ent.len _) (Hel.At.part_entry K16.out) ?_) | (first | (with_reducible refine wpList_load_whole_w Hel.isRec (by kernel_rfl) _ rfl gH (by with_unfolding_all exact rfl) _ _ (Hel.len _) H16.out ?_) | (with_reducible refine wpList_load_whole_w Hel.isRec (by kernel_rfl) _ rfl gK (by with_unfolding_all exact rfl) _ _ (Hel.len _) K16.out ?_) | (with_reducible refine wpList_eq_rec_w Hel.isRec (by kernel_rfl) _ _ rfl X.enc X.enc (Hel.fits _) (Hel.fits _) (by with_unfolding_all exact rfl) (by with_unfolding_all exact rfl) true (eqCells_refl (Hel.fits _)).symm ?_)))
  refine ((CK vp w16 (P0.out.below D16.out.b)).out).mono ?_
  rintro e17 w17 ⟨rfl, b17⟩
  have E17 : Hid (Ent.At w17 gE exE) := Lib.hid (Whole.below E16.out b17 E16.out.lt)
  have H17 : Hid (Hel.At w17 gH X) := Lib.hid (Whole.below H16.out b17 H16.out.lt)
  have W17 : Hid (Wel.At w17 gW Y) := Lib.hid (Whole.below W16.out b17 W16.out.lt)
  have D17 : Hid (Since w9 w17) := Lib.hid (D16.out.below b17)
  have K17 : Hid (Hel.At w17 gK X) := Lib.hid (Whole.below K16.out b17 K16.out.lt)
  have B17 := Lib.hid (B16.out.trans (b17.mono B16.out.size))
  clear b17 E16 H16 W16 D16 K16 B16
  go_wp2_with (first | (with_reducible refine wpList_load_whole Ent.isRec rfl _ rfl gE (by with_unfolding_all exact rfl) _ _ (Ent.len _) E17.out ?_) | (with_reducible refine wpList_load_whole Hel.isRec rfl _ rfl gH (by with_unfolding_all exact rfl) _ _ (Hel.len _) H17.out ?_) | (with_reducible refine wpList_load_rec Ent.isRec rfl _ rfl gH 2 (by with_unfolding_all exact rfl) _ (Ent.len _) (Hel.At.part_entry H17.out) ?_) | (with_reducible refine wpList_load_whole Wel.isRec rfl _ rfl gW (by with_unfolding_all exact rfl) _ _ (Wel.len _) W17.out ?_) | (with_reducible refine wpList_load_rec Ent.isRec rfl _ rfl gW 2 (by with_unfolding_all exact rfl) _ (Ent.len _) (Wel.At.part_entry W17.out) ?_) | (with_reducible refine wpList_load_whole Hel.isRec rfl _ rfl gK (by with_unfolding_all exact rfl) _ _ (Hel.len _) K17.out ?_) | (with_reducible refine wpList_load_rec Ent.isRec rfl _ rfl gK 2 (by with_unfolding_all exact rfl) _ (Ent.len _) (Hel.At.part_entry K17.out) ?_))
  refine ((CZ w17).out).mono ?_
  rintro e18 w18 ⟨rfl, b18⟩
  have E18 : Hid (Ent.At w18 gE exE) := Lib.hid (Whole.below E17.out b18 E17.out.lt)
  have H18 : Hid (Hel.At w18 gH X) := Lib.hid (Whole.below H17.out b18 H17.out.lt)
  have W18 : Hid (Wel.At w18 gW Y) := Lib.hid (Whole.below W17.out b18 W17.out.lt)
  have D18 : Hid (Since w9 w18) := Lib.hid (D17.out.below b18)
  have K18 : Hid (Hel.At w18 gK X) := Lib.hid (Whole.below K17.out b18 K17.out.lt)
  have B18 := Lib.hid (B17.out.trans (b18.mono B17.out.size))
  clear b18 E17 H17 W17 D17 K17 B17
  go_wp2
  go_ret
  exact ⟨rfl, B18.out⟩
end Go.Proofs.YtpcdbpijgmninaaDoor
