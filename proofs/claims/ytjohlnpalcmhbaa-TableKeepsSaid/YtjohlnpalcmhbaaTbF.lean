/- Layer 23 as landed: Add. -/
import Derived.Test.YtjohlnpalcmhbaaTbD
import Derived.Test.YtjohlnpalcmhbaaTbE
namespace Go.Proofs.Ytjohlnpalcmhbaa
set_option maxRecDepth 100000
open Go.RowKit

theorem as_slice {F : FuncId} {args : Array Value} {w : World} {base : Nat} {L : List Ses} {B : World → Prop} (h : Calls Try.prog F args w fun e w' => ∃ v, e = .returned v ∧ OwnRows w' base 36 20 v (L.map Ses.enc) ∧ B w') :
    Calls Try.prog F args w fun e w' => ∃ A cap, e = .returned (.slice A L.length cap) ∧ OwnRows w' base 36 20 (.slice A L.length cap) (L.map Ses.enc) ∧ B w' :=
  h.mono fun e w' ⟨v, he, ho, hb⟩ => by
    obtain ⟨A, cap, rfl⟩ := ho.form
    rw [List.length_map] at he ho
    exact ⟨A, cap, he, ho, hb⟩
set_option maxRecDepth 100000 in
set_option maxHeartbeats 2000000 in
theorem tbAdd_any (A : Option Addr) (m cap : Nat) (l : List Ses) (C : Option Addr) (bn bc : Nat) (busy : List Nat) (s : Ses) (base : Nat) (w : World) (hb : base ≤ w.heap.size) (hl : l.length ≤ 10000) (hbn : bn ≤ 1000000) (h : RowsAt w (.slice A m cap) 20 (l.map Ses.enc)) (hu : UsAt w (.slice C bn bc) busy) :
    Calls Try.prog 19 #[.slice A m cap, .slice C bn bc, s.val] w fun e w' => ∃ v, e = .returned (.tuple #[v, .int .i64 (addS l busy s).2]) ∧ OwnRows w' base 36 20 v ((addS l busy s).1.map Ses.enc) ∧ Below w.heap.size w w' := by
  have hm : m = l.length := by have := h.size.1; simpa using this
  subst hm
  have HB := Lib.hid hb
  have HL := Lib.hid hl
  have CA := Lib.hid (fun w h => again_any A l.length cap l s w (by omega) h)
  have CH := Lib.hid (fun w hb h => behind_any A l.length cap l s base w hb (by omega) h)
  have CO := Lib.hid (fun F caps w h hT => oldest_any F caps (freeP busy) A l.length cap l w (by omega) h hT)
  have CD := Lib.hid (fun i w hb h => as_slice (tbDrop_any A l.length cap l i base w hb (by omega) h))
  have CI := Lib.hid (fun w g (h : CellAt w g (.slice C bn bc)) (hu : UsAt w (.slice C bn bc) busy) => (show Tells w 50 #[.pointer (some ⟨g, 0, none⟩)] (freeP busy) from ⟨enter_idle1, fun s w' hb => idle1_any C bn bc busy g hbn s w' (h.below hb) (hu.below hb)⟩))
  have HX : Hid (addS l busy s = if againS l s then (l, 26) else if l.length < 24 then (l ++ [s], 0) else if oldR (freeP busy) l < 0 then (l, 27) else (dropS l (oldR (freeP busy) l) ++ [s], 0)) := Lib.hid rfl
  have HI := Lib.hid (oldR_is (freeP busy) l)
  obtain ⟨X, hX⟩ : ∃ X, X = addS l busy s := ⟨_, rfl⟩
  obtain ⟨r, hr⟩ : ∃ r, r = againS l s := ⟨_, rfl⟩
  obtain ⟨j, hj⟩ : ∃ j, j = oldR (freeP busy) l := ⟨_, rfl⟩
  simp only [← hX, ← hr, ← hj] at HX CA HI ⊢
  clear hX hr hj hb hl hbn
  go_enter Try.func19, Try.ntmps19
  have L0 : Hid (RowsAt w (.slice A l.length cap) 20 (l.map Ses.enc)) := Lib.hid (h)
  have U0 : Hid (UsAt w (.slice C bn bc) busy) := Lib.hid (hu)
  clear h hu
  go_wp2_with (refine wpList_box_row rfl 36 _ rfl s.enc.toArray (by with_unfolding_all exact rfl) ?_)
  intro w1 b1 x1 z1
  obtain ⟨gS, hgS⟩ : ∃ g, g = w.heap.size := ⟨_, rfl⟩
  have M_S := Lib.hid (show w.heap.size ≤ gS from by rw [hgS]; exact Nat.le_refl _)
  have L1 : Hid (RowsAt w1 (.slice A l.length cap) 20 (l.map Ses.enc)) := Lib.hid (L0.out.below b1)
  have U1 : Hid (UsAt w1 (.slice C bn bc) busy) := Lib.hid (U0.out.below b1)
  have B1 := Lib.hid b1
  rw [← hgS] at x1 ⊢
  have S1 : Hid (Ses.At w1 gS s) := Lib.hid x1
  clear b1 x1 z1 hgS L0 U0
  go_wp2_with (first | (with_reducible refine wpList_load_whole Ses.isRec rfl _ rfl gS (by with_unfolding_all exact rfl) _ _ (Ses.len _) S1.out ?_) | (with_reducible refine wpList_load_rec Ent.isRec rfl _ rfl gS 2 (by with_unfolding_all exact rfl) _ (Ent.len _) (Ses.At.part_peer S1.out) ?_) | (with_reducible refine wpList_load_rec Win.isRec rfl _ rfl gS 16 (by with_unfolding_all exact rfl) _ (Win.len _) (Ses.At.part_seen S1.out) ?_))
  refine (CA.out w1 L1.out).mono ?_
  rintro e2 w2 ⟨rfl, b2⟩
  have L2 : Hid (RowsAt w2 (.slice A l.length cap) 20 (l.map Ses.enc)) := Lib.hid (L1.out.below b2)
  have U2 : Hid (UsAt w2 (.slice C bn bc) busy) := Lib.hid (U1.out.below b2)
  have S2 : Hid (Ses.At w2 gS s) := Lib.hid (Whole.below S1.out b2 S1.out.lt)
  have B2 := Lib.hid (B1.out.trans (b2.mono B1.out.size))
  clear b2 L1 U1 S1 B1
  cases r with
  | true =>
    have HF : Hid (X = (l, 26)) := Lib.hid (by rw [HX.out]; rfl)
    go_wp2_with (with_reducible refine wpList_build_1 rfl _ rfl A l.length cap l (by with_unfolding_all exact rfl) L2.out ?_)
    intro wp bp xp
    have BP := Lib.hid (B2.out.trans (bp.mono B2.out.size))
    have XP := Lib.hid xp
    clear bp xp
    go_wp2_with fail
    refine (concatS_any _ 1 [l] rfl base wp (Nat.le_trans HB.out BP.out.size) XP.out (by decide) (by have := HL.out; simp; omega)).mono ?_
    rintro e wq ⟨v, rfl, oq, bq⟩
    have OQ := Lib.hid oq
    have BQ := Lib.hid (BP.out.trans (bq.mono BP.out.size))
    clear oq bq BP XP
    go_wp2
    go_ret2
    exact ⟨v, by rw [HF.out]; rfl, OQ.out.eqL (by rw [HF.out]; simp), BQ.out⟩
  | false =>
    by_cases h24 : l.length < 24
    · have HF : Hid (X = (l ++ [s], 0)) := Lib.hid (by rw [HX.out, if_neg (by simp), if_pos h24])
      have d : decide ((l.length : Int) < 24) = true := by simp; omega
      clear h24 HX
      go_wp2_with (first | (with_reducible refine wpList_load_whole Ses.isRec rfl _ rfl gS (by with_unfolding_all exact rfl) _ _ (Ses.len _) S2.out ?_) | (with_reducible refine wpList_load_rec Ent.isRec rfl _ rfl gS 2 (by with_unfolding_all exact rfl) _ (Ent.len _) (Ses.At.part_peer S2.out) ?_) | (with_reducible refine wpList_load_rec Win.isRec rfl _ rfl gS 16 (by with_unfolding_all exact rfl) _ (Win.len _) (Ses.At.part_seen S2.out) ?_))
      refine (CH.out w2 (Nat.le_trans HB.out B2.out.size) L2.out).mono ?_
      rintro e3 w3 ⟨v, rfl, o1, b3⟩
      have L3 : Hid (RowsAt w3 (.slice A l.length cap) 20 (l.map Ses.enc)) := Lib.hid (L2.out.below b3)
      have U3 : Hid (UsAt w3 (.slice C bn bc) busy) := Lib.hid (U2.out.below b3)
      have S3 : Hid (Ses.At w3 gS s) := Lib.hid (Whole.below S2.out b3 S2.out.lt)
      have B3 := Lib.hid (B2.out.trans (b3.mono B2.out.size))
      clear b3 L2 U2 S2 B2
      have O1 := Lib.hid o1
      clear o1
      go_wp2
      go_ret2
      exact ⟨v, by rw [HF.out]; rfl, O1.out.eqL (by rw [HF.out]), B3.out⟩
    · have HY : Hid (X = if j < 0 then (l, 27) else (dropS l j ++ [s], 0)) := Lib.hid (by rw [HX.out, if_neg (by simp), if_neg h24])
      have d : decide ((l.length : Int) < 24) = false := by simp; omega
      clear h24 HX
      go_wp2_with (first | (with_reducible refine wpList_load_whole Ses.isRec rfl _ rfl gS (by with_unfolding_all exact rfl) _ _ (Ses.len _) S2.out ?_) | (with_reducible refine wpList_load_rec Ent.isRec rfl _ rfl gS 2 (by with_unfolding_all exact rfl) _ (Ent.len _) (Ses.At.part_peer S2.out) ?_) | (with_reducible refine wpList_load_rec Win.isRec rfl _ rfl gS 16 (by with_unfolding_all exact rfl) _ (Win.len _) (Ses.At.part_seen S2.out) ?_))
      refine (idle_any C bn bc w2).mono ?_
      rintro e3 w3 ⟨g, rfl, c1, b3⟩
      have L3 : Hid (RowsAt w3 (.slice A l.length cap) 20 (l.map Ses.enc)) := Lib.hid (L2.out.below b3)
      have U3 : Hid (UsAt w3 (.slice C bn bc) busy) := Lib.hid (U2.out.below b3)
      have S3 : Hid (Ses.At w3 gS s) := Lib.hid (Whole.below S2.out b3 S2.out.lt)
      have B3 := Lib.hid (B2.out.trans (b3.mono B2.out.size))
      clear b3 L2 U2 S2 B2
      have C1 := Lib.hid c1
      clear c1
      go_wp2_with (first | (with_reducible refine wpList_load_whole Ses.isRec rfl _ rfl gS (by with_unfolding_all exact rfl) _ _ (Ses.len _) S3.out ?_) | (with_reducible refine wpList_load_rec Ent.isRec rfl _ rfl gS 2 (by with_unfolding_all exact rfl) _ (Ent.len _) (Ses.At.part_peer S3.out) ?_) | (with_reducible refine wpList_load_rec Win.isRec rfl _ rfl gS 16 (by with_unfolding_all exact rfl) _ (Win.len _) (Ses.At.part_seen S3.out) ?_))
      refine (CO.out _ _ w3 L3.out (CI.out w3 g C1.out U3.out)).mono ?_
      rintro e4 w4 ⟨i, rfl, i1, b4⟩
      have L4 : Hid (RowsAt w4 (.slice A l.length cap) 20 (l.map Ses.enc)) := Lib.hid (L3.out.below b4)
      have U4 : Hid (UsAt w4 (.slice C bn bc) busy) := Lib.hid (U3.out.below b4)
      have S4 : Hid (Ses.At w4 gS s) := Lib.hid (Whole.below S3.out b4 S3.out.lt)
      have B4 := Lib.hid (B3.out.trans (b4.mono B3.out.size))
      clear b4 L3 U3 S3 B3
      obtain rfl : i = j := IsOld.one i1 HI.out
      clear i1 C1 CI CO
      by_cases hj : i < 0
      · have HF : Hid (X = (l, 27)) := Lib.hid (by rw [HY.out, if_pos hj])
        have ei : i = -1 := by rcases HI.out with ⟨h, -⟩ | ⟨k, _, h, -⟩ <;> omega
        subst ei
        clear hj HY HI
        go_wp2_with (with_reducible refine wpList_build_1 rfl _ rfl A l.length cap l (by with_unfolding_all exact rfl) L4.out ?_)
        intro wp bp xp
        have BP := Lib.hid (B4.out.trans (bp.mono B4.out.size))
        have XP := Lib.hid xp
        clear bp xp
        go_wp2_with fail
        refine (concatS_any _ 1 [l] rfl base wp (Nat.le_trans HB.out BP.out.size) XP.out (by decide) (by have := HL.out; simp; omega)).mono ?_
        rintro e wq ⟨v, rfl, oq, bq⟩
        have OQ := Lib.hid oq
        have BQ := Lib.hid (BP.out.trans (bq.mono BP.out.size))
        clear oq bq BP XP
        go_wp2
        go_ret2
        exact ⟨v, by rw [HF.out]; rfl, OQ.out.eqL (by rw [HF.out]; simp), BQ.out⟩
      · have HF : Hid (X = (dropS l i ++ [s], 0)) := Lib.hid (by rw [HY.out, if_neg hj])
        have ei : (i == -1) = false := by rw [beq_eq_false_iff_ne]; omega
        have HLD := Lib.hid (dropS_length l i)
        clear hj HY HI
        go_wp2_with (first | (with_reducible refine wpList_load_whole Ses.isRec rfl _ rfl gS (by with_unfolding_all exact rfl) _ _ (Ses.len _) S4.out ?_) | (with_reducible refine wpList_load_rec Ent.isRec rfl _ rfl gS 2 (by with_unfolding_all exact rfl) _ (Ent.len _) (Ses.At.part_peer S4.out) ?_) | (with_reducible refine wpList_load_rec Win.isRec rfl _ rfl gS 16 (by with_unfolding_all exact rfl) _ (Win.len _) (Ses.At.part_seen S4.out) ?_))
        refine reg_begin (by kernel_rfl) fun w5 b5 z5 => ?_
        have L5 : Hid (RowsAt w5 (.slice A l.length cap) 20 (l.map Ses.enc)) := Lib.hid (L4.out.below b5)
        have U5 : Hid (UsAt w5 (.slice C bn bc) busy) := Lib.hid (U4.out.below b5)
        have S5 : Hid (Ses.At w5 gS s) := Lib.hid (Whole.below S4.out b5 S4.out.lt)
        have B5 := Lib.hid (B4.out.trans (b5.mono B4.out.size))
        clear b5 z5 L4 U4 S4 B4
        refine reg_take (i := 0) (v := ?_) rfl (by kernel_rfl) (by kernel_rfl) (by kernel_rfl) (fun _ _ _ h => h) (by rfl) ?hy0 ?_
        case hy0 => intro w' hw'; go_simp; (try with_reducible rfl)
        simp only [Act.put, List.setIfInBounds_toArray, List.set_cons_zero, List.set_cons_succ]
        refine reg_take (i := 1) (v := ?_) rfl (by kernel_rfl) (by kernel_rfl) (by kernel_rfl) (fun _ _ _ h => h) (by rfl) ?hy1 ?_
        case hy1 => intro w' hw'; go_simp; (try with_reducible rfl)
        simp only [Act.put, List.setIfInBounds_toArray, List.set_cons_zero, List.set_cons_succ]
        refine reg_take (i := 3) (v := Ses.val (s)) rfl (by kernel_rfl) (by kernel_rfl) (by kernel_rfl) (fun _ _ _ h => h) (by rfl) ?hy3 ?_
        case hy3 => intro w' hw'; exact exec_load_whole Ses.isRec _ rfl gS rfl _ _ (Ses.len _) w' (Whole.below S5.out hw' S5.out.lt)
        simp only [Act.put, List.setIfInBounds_toArray, List.set_cons_zero, List.set_cons_succ]
        refine reg_call (i := 2) rfl (by kernel_rfl) (fun K' hK => ?_)
        go_simp
        refine (CD.out i w5 (Nat.le_trans HB.out B5.out.size) L5.out).mono ?_
        rintro e6 w6 ⟨A', c', rfl, o32, b6⟩
        have L6 : Hid (RowsAt w6 (.slice A l.length cap) 20 (l.map Ses.enc)) := Lib.hid (L5.out.below b6)
        have U6 : Hid (UsAt w6 (.slice C bn bc) busy) := Lib.hid (U5.out.below b6)
        have S6 : Hid (Ses.At w6 gS s) := Lib.hid (Whole.below S5.out b6 S5.out.lt)
        have B6 := Lib.hid (B5.out.trans (b6.mono B5.out.size))
        have O6 : Hid (OwnRows w6 base 36 20 (.slice A' (dropS l i).length c') ((dropS l i).map Ses.enc)) := Lib.hid o32
        refine hK.out _ _ b6 ?_
        clear hK K' b6 L5 U5 S5 B5 o32
        refine reg_call (i := 4) rfl (by kernel_rfl) (fun K' hK => ?_)
        go_simp
        refine ((behind_any A' _ c' (dropS l i) s base w6 (Nat.le_trans HB.out B6.out.size) (by have := HLD.out; have := HL.out; omega) O6.out.rows)).mono ?_
        rintro e7 w7 ⟨v, rfl, o34, b7⟩
        have L7 : Hid (RowsAt w7 (.slice A l.length cap) 20 (l.map Ses.enc)) := Lib.hid (L6.out.below b7)
        have U7 : Hid (UsAt w7 (.slice C bn bc) busy) := Lib.hid (U6.out.below b7)
        have S7 : Hid (Ses.At w7 gS s) := Lib.hid (Whole.below S6.out b7 S6.out.lt)
        have O7 : Hid (OwnRows w7 base 36 20 (.slice A' (dropS l i).length c') ((dropS l i).map Ses.enc)) := Lib.hid (O6.out.below b7 rfl)
        have B7 := Lib.hid (B6.out.trans (b7.mono B6.out.size))
        have V7 : Hid (OwnRows w7 base 36 20 v ((dropS l i ++ [s]).map Ses.enc)) := Lib.hid o34
        refine hK.out _ _ b7 ?_
        clear hK K' b7 L6 U6 S6 O6 B6 o34
        refine reg_take (i := 5) (v := ?_) rfl (by kernel_rfl) (by kernel_rfl) (by kernel_rfl) (fun _ _ _ h => h) (by rfl) ?hy5 ?_
        case hy5 => intro w' hw'; go_simp; (try with_reducible rfl)
        simp only [Act.put, List.setIfInBounds_toArray, List.set_cons_zero, List.set_cons_succ]
        refine reg_take (i := 6) (v := ?_) rfl (by kernel_rfl) (by kernel_rfl) (by kernel_rfl) (fun _ _ _ h => h) (by rfl) ?hy6 ?_
        case hy6 => intro w' hw'; go_simp; (try with_reducible rfl)
        simp only [Act.put, List.setIfInBounds_toArray, List.set_cons_zero, List.set_cons_succ]
        refine reg_end (by kernel_rfl) ?_
        go_wp2
        go_ret2
        exact ⟨v, by rw [HF.out]; rfl, V7.out.eqL (by rw [HF.out]), B7.out⟩
end Go.Proofs.Ytjohlnpalcmhbaa
