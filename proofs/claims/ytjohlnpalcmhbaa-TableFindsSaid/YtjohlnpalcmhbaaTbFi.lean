/- Layer 23: TableFinds' core. -/
import Derived.Test.YtjohlnpalcmhbaaTbG
import Derived.Test.YtjohlnpalcmhbaaTbH
import Derived.Test.YtjohlnpalcmhbaaTbW
namespace Go.Proofs.Ytjohlnpalcmhbaa
set_option maxRecDepth 100000
open Go.RowKit

theorem same_below {F : FuncId} {args : Array Value} {w : World} {x : Ending} (h : Calls Try.prog F args w fun e w' => e = x ∧ w' = w) : Calls Try.prog F args w fun e w' => e = x ∧ Below w.heap.size w w' :=
  h.mono fun e w' ⟨he, hw⟩ => ⟨he, by rw [hw]; exact Below.refl _ _⟩
set_option maxRecDepth 100000 in
set_option maxHeartbeats 2000000 in
theorem finds_core (A : Option Addr) (m cap : Nat) (l : List Ses) (n : Nat) (a : Ent) (w : World) (h : RowsAt w (.slice A m cap) 20 (l.map Ses.enc)) :
    Calls Try.prog 3 #[.slice A m cap, .int .u64 (n : Int), a.val] w fun e w' => e = .returned (.bool true) ∧ Below w.heap.size w w' := by
  have hlen := h.size.1
  rw [List.length_map] at hlen
  subst hlen
  have CG := Lib.hid (fun w h => greatSs_any A l.length cap l w h)
  have CE := Lib.hid (fun w => great_any a w)
  have HN : greatSs l = false → l.length ≤ 1000000 := fun h => Nat.le_trans (greatSs_no h) (by decide)
  obtain ⟨g1, hg1⟩ : ∃ g, g = greatSs l := ⟨_, rfl⟩
  obtain ⟨g2, hg2⟩ : ∃ g, g = greatB a := ⟨_, rfl⟩
  simp only [← hg1, ← hg2] at CG CE HN
  have HN := Lib.hid HN
  clear hg1 hg2
  go_enter Try.func3, Try.ntmps3
  have L0 : Hid (RowsAt w (.slice A l.length cap) 20 (l.map Ses.enc)) := Lib.hid (h)
  clear h
  go_wp2_with (refine wpList_box_row rfl 25 _ rfl a.enc.toArray (by with_unfolding_all exact rfl) ?_)
  intro w1 b1 x1 z1
  obtain ⟨gE, hgE⟩ : ∃ g, g = w.heap.size := ⟨_, rfl⟩
  have M_E := Lib.hid (show w.heap.size ≤ gE from by rw [hgE]; exact Nat.le_refl _)
  have L1 : Hid (RowsAt w1 (.slice A l.length cap) 20 (l.map Ses.enc)) := Lib.hid (L0.out.below b1)
  have B1 := Lib.hid b1
  rw [← hgE] at x1 ⊢
  have E1 : Hid (Ent.At w1 gE a) := Lib.hid x1
  clear b1 x1 z1 hgE L0
  go_wp2_with (with_reducible refine wpList_load_whole Ent.isRec rfl _ rfl gE (by with_unfolding_all exact rfl) _ _ (Ent.len _) E1.out ?_)
  refine (CG.out w1 L1.out).mono ?_
  rintro e2 w2 ⟨rfl, b2⟩
  have L2 : Hid (RowsAt w2 (.slice A l.length cap) 20 (l.map Ses.enc)) := Lib.hid (L1.out.below b2)
  have E2 : Hid (Ent.At w2 gE a) := Lib.hid (Whole.below E1.out b2 E1.out.lt)
  have B2 := Lib.hid (B1.out.trans (b2.mono B1.out.size))
  clear b2 L1 E1 B1
  cases g1 with
  | true =>
    go_wp2_with (with_reducible refine wpList_load_whole Ent.isRec rfl _ rfl gE (by with_unfolding_all exact rfl) _ _ (Ent.len _) E2.out ?_)
    refine (works23 w2).mono ?_
    rintro e3 w3 ⟨rfl, b3⟩
    have L3 : Hid (RowsAt w3 (.slice A l.length cap) 20 (l.map Ses.enc)) := Lib.hid (L2.out.below b3)
    have E3 : Hid (Ent.At w3 gE a) := Lib.hid (Whole.below E2.out b3 E2.out.lt)
    have B3 := Lib.hid (B2.out.trans (b3.mono B2.out.size))
    clear b3 L2 E2 B2
    go_wp2
    go_ret
    exact ⟨rfl, B3.out⟩
  | false =>
    have hl := HN.out rfl
    have C1 := Lib.hid (fun w h => tbById_any A l.length cap l n w hl h)
    have C2 := Lib.hid (fun w h => same_below (refById_any A l.length cap l n w hl h))
    have C3 := Lib.hid (fun w h => tbWaits_any A l.length cap l n w hl h)
    have C4 := Lib.hid (fun w h => same_below (refWaits_any A l.length cap l n w hl h))
    have C5 := Lib.hid (fun w h => tbAsks_any A l.length cap l a w hl h)
    have C6 := Lib.hid (fun w h => refAsks_any A l.length cap l a w hl h)
    have C7 := Lib.hid (fun w h => tbFor_any A l.length cap l a w hl h)
    have C8 := Lib.hid (fun w h => refFor_any A l.length cap l a w hl h)
    generalize firstS (byIdP n) l 0 = r1 at C1 C2
    generalize firstS (waitsP n) l 0 = r2 at C3 C4
    generalize firstS (asksP a) l 0 = r3 at C5 C6
    generalize lastS (forP a) l 0 (-1) = r4 at C7 C8
    clear hl HN CG
    go_wp2_with (first | (with_reducible refine wpList_load_whole Ent.isRec rfl _ rfl gE (by with_unfolding_all exact rfl) _ _ (Ent.len _) E2.out ?_) | (with_reducible refine wpList_load_whole_w Ent.isRec (by kernel_rfl) _ rfl gE (by with_unfolding_all exact rfl) _ _ (Ent.len _) E2.out ?_))
    refine (CE.out w2).mono ?_
    rintro e3 w3 ⟨rfl, b3⟩
    have L3 : Hid (RowsAt w3 (.slice A l.length cap) 20 (l.map Ses.enc)) := Lib.hid (L2.out.below b3)
    have E3 : Hid (Ent.At w3 gE a) := Lib.hid (Whole.below E2.out b3 E2.out.lt)
    have B3 := Lib.hid (B2.out.trans (b3.mono B2.out.size))
    clear b3 L2 E2 B2
    cases g2 with
    | true =>
      go_wp2_with (with_reducible refine wpList_load_whole Ent.isRec rfl _ rfl gE (by with_unfolding_all exact rfl) _ _ (Ent.len _) E3.out ?_)
      refine (works23 w3).mono ?_
      rintro e4 w4 ⟨rfl, b4⟩
      have L4 : Hid (RowsAt w4 (.slice A l.length cap) 20 (l.map Ses.enc)) := Lib.hid (L3.out.below b4)
      have E4 : Hid (Ent.At w4 gE a) := Lib.hid (Whole.below E3.out b4 E3.out.lt)
      have B4 := Lib.hid (B3.out.trans (b4.mono B3.out.size))
      clear b4 L3 E3 B3
      go_wp2
      go_ret
      exact ⟨rfl, B4.out⟩
    | false =>
      go_wp2_with (with_reducible refine wpList_load_whole Ent.isRec rfl _ rfl gE (by with_unfolding_all exact rfl) _ _ (Ent.len _) E3.out ?_)
      refine reg_begin (by kernel_rfl) fun w4 b4 z4 => ?_
      have L4 : Hid (RowsAt w4 (.slice A l.length cap) 20 (l.map Ses.enc)) := Lib.hid (L3.out.below b4)
      have E4 : Hid (Ent.At w4 gE a) := Lib.hid (Whole.below E3.out b4 E3.out.lt)
      have B4 := Lib.hid (B3.out.trans (b4.mono B3.out.size))
      clear b4 z4 L3 E3 B3
      refine reg_take (i := 0) (v := ?_) rfl (by kernel_rfl) (by kernel_rfl) (by kernel_rfl) (fun _ _ _ h => h) (by rfl) ?hy0 ?_
      case hy0 => intro w' hw'; go_simp; (try with_reducible rfl)
      simp only [Act.put, List.setIfInBounds_toArray, List.set_cons_zero, List.set_cons_succ]
      refine reg_take (i := 1) (v := ?_) rfl (by kernel_rfl) (by kernel_rfl) (by kernel_rfl) (fun _ _ _ h => h) (by rfl) ?hy1 ?_
      case hy1 => intro w' hw'; go_simp; (try with_reducible rfl)
      simp only [Act.put, List.setIfInBounds_toArray, List.set_cons_zero, List.set_cons_succ]
      refine reg_take (i := 3) (v := ?_) rfl (by kernel_rfl) (by kernel_rfl) (by kernel_rfl) (fun _ _ _ h => h) (by rfl) ?hy3 ?_
      case hy3 => intro w' hw'; go_simp; (try with_reducible rfl)
      simp only [Act.put, List.setIfInBounds_toArray, List.set_cons_zero, List.set_cons_succ]
      refine reg_take (i := 4) (v := ?_) rfl (by kernel_rfl) (by kernel_rfl) (by kernel_rfl) (fun _ _ _ h => h) (by rfl) ?hy4 ?_
      case hy4 => intro w' hw'; go_simp; (try with_reducible rfl)
      simp only [Act.put, List.setIfInBounds_toArray, List.set_cons_zero, List.set_cons_succ]
      refine reg_call (i := 2) rfl (by kernel_rfl) (fun K' hK => ?_)
      go_simp
      refine (C1.out w4 L4.out).mono ?_
      rintro e5 w5 ⟨rfl, b5⟩
      have L5 : Hid (RowsAt w5 (.slice A l.length cap) 20 (l.map Ses.enc)) := Lib.hid (L4.out.below b5)
      have E5 : Hid (Ent.At w5 gE a) := Lib.hid (Whole.below E4.out b5 E4.out.lt)
      have B5 := Lib.hid (B4.out.trans (b5.mono B4.out.size))
      refine hK.out _ _ b5 ?_
      clear hK K' b5 L4 E4 B4
      refine reg_call (i := 5) rfl (by kernel_rfl) (fun K' hK => ?_)
      go_simp
      refine (C2.out w5 L5.out).mono ?_
      rintro e6 w6 ⟨rfl, b6⟩
      have L6 : Hid (RowsAt w6 (.slice A l.length cap) 20 (l.map Ses.enc)) := Lib.hid (L5.out.below b6)
      have E6 : Hid (Ent.At w6 gE a) := Lib.hid (Whole.below E5.out b6 E5.out.lt)
      have B6 := Lib.hid (B5.out.trans (b6.mono B5.out.size))
      refine hK.out _ _ b6 ?_
      clear hK K' b6 L5 E5 B5
      refine reg_take (i := 6) (v := ?_) rfl (by kernel_rfl) (by kernel_rfl) (by kernel_rfl) (fun _ _ _ h => h) (by rfl) ?hy6 ?_
      case hy6 => intro w' hw'; go_simp; (try with_reducible rfl)
      simp only [Act.put, List.setIfInBounds_toArray, List.set_cons_zero, List.set_cons_succ]
      refine reg_take (i := 7) (v := ?_) rfl (by kernel_rfl) (by kernel_rfl) (by kernel_rfl) (fun _ _ _ h => h) (by rfl) ?hy7 ?_
      case hy7 => intro w' hw'; go_simp; (try with_reducible rfl)
      simp only [Act.put, List.setIfInBounds_toArray, List.set_cons_zero, List.set_cons_succ]
      refine reg_take (i := 8) (v := ?_) rfl (by kernel_rfl) (by kernel_rfl) (by kernel_rfl) (fun _ _ _ h => h) (by rfl) ?hy8 ?_
      case hy8 => intro w' hw'; go_simp; (try with_reducible rfl)
      simp only [Act.put, List.setIfInBounds_toArray, List.set_cons_zero, List.set_cons_succ]
      refine reg_take (i := 9) (v := ?_) rfl (by kernel_rfl) (by kernel_rfl) (by kernel_rfl) (fun _ _ _ h => h) (by rfl) ?hy9 ?_
      case hy9 => intro w' hw'; go_simp; (try with_reducible rfl)
      simp only [Act.put, List.setIfInBounds_toArray, List.set_cons_zero, List.set_cons_succ]
      refine reg_take (i := 11) (v := ?_) rfl (by kernel_rfl) (by kernel_rfl) (by kernel_rfl) (fun _ _ _ h => h) (by rfl) ?hy11 ?_
      case hy11 => intro w' hw'; go_simp; (try with_reducible rfl)
      simp only [Act.put, List.setIfInBounds_toArray, List.set_cons_zero, List.set_cons_succ]
      refine reg_take (i := 12) (v := ?_) rfl (by kernel_rfl) (by kernel_rfl) (by kernel_rfl) (fun _ _ _ h => h) (by rfl) ?hy12 ?_
      case hy12 => intro w' hw'; go_simp; (try with_reducible rfl)
      simp only [Act.put, List.setIfInBounds_toArray, List.set_cons_zero, List.set_cons_succ]
      refine reg_call (i := 10) rfl (by kernel_rfl) (fun K' hK => ?_)
      go_simp
      refine (C3.out w6 L6.out).mono ?_
      rintro e7 w7 ⟨rfl, b7⟩
      have L7 : Hid (RowsAt w7 (.slice A l.length cap) 20 (l.map Ses.enc)) := Lib.hid (L6.out.below b7)
      have E7 : Hid (Ent.At w7 gE a) := Lib.hid (Whole.below E6.out b7 E6.out.lt)
      have B7 := Lib.hid (B6.out.trans (b7.mono B6.out.size))
      refine hK.out _ _ b7 ?_
      clear hK K' b7 L6 E6 B6
      refine reg_call (i := 13) rfl (by kernel_rfl) (fun K' hK => ?_)
      go_simp
      refine (C4.out w7 L7.out).mono ?_
      rintro e8 w8 ⟨rfl, b8⟩
      have L8 : Hid (RowsAt w8 (.slice A l.length cap) 20 (l.map Ses.enc)) := Lib.hid (L7.out.below b8)
      have E8 : Hid (Ent.At w8 gE a) := Lib.hid (Whole.below E7.out b8 E7.out.lt)
      have B8 := Lib.hid (B7.out.trans (b8.mono B7.out.size))
      refine hK.out _ _ b8 ?_
      clear hK K' b8 L7 E7 B7
      refine reg_take (i := 14) (v := ?_) rfl (by kernel_rfl) (by kernel_rfl) (by kernel_rfl) (fun _ _ _ h => h) (by rfl) ?hy14 ?_
      case hy14 => intro w' hw'; go_simp; (try with_reducible rfl)
      simp only [Act.put, List.setIfInBounds_toArray, List.set_cons_zero, List.set_cons_succ]
      refine reg_take (i := 15) (v := ?_) rfl (by kernel_rfl) (by kernel_rfl) (by kernel_rfl) (fun _ _ _ h => h) (by rfl) ?hy15 ?_
      case hy15 => intro w' hw'; go_simp; (try with_reducible rfl)
      simp only [Act.put, List.setIfInBounds_toArray, List.set_cons_zero, List.set_cons_succ]
      refine reg_take (i := 16) (v := ?_) rfl (by kernel_rfl) (by kernel_rfl) (by kernel_rfl) (fun _ _ _ h => h) (by rfl) ?hy16 ?_
      case hy16 => intro w' hw'; go_simp; (try with_reducible rfl)
      simp only [Act.put, List.setIfInBounds_toArray, List.set_cons_zero, List.set_cons_succ]
      refine reg_take (i := 17) (v := ?_) rfl (by kernel_rfl) (by kernel_rfl) (by kernel_rfl) (fun _ _ _ h => h) (by rfl) ?hy17 ?_
      case hy17 => intro w' hw'; go_simp; (try with_reducible rfl)
      simp only [Act.put, List.setIfInBounds_toArray, List.set_cons_zero, List.set_cons_succ]
      refine reg_take (i := 18) (v := Ent.val (a)) rfl (by kernel_rfl) (by kernel_rfl) (by kernel_rfl) (fun _ _ _ h => h) (by rfl) ?hy18 ?_
      case hy18 => intro w' hw'; exact exec_load_whole Ent.isRec _ rfl gE rfl _ _ (Ent.len _) w' (Whole.below E8.out hw' E8.out.lt)
      simp only [Act.put, List.setIfInBounds_toArray, List.set_cons_zero, List.set_cons_succ]
      refine reg_take (i := 20) (v := ?_) rfl (by kernel_rfl) (by kernel_rfl) (by kernel_rfl) (fun _ _ _ h => h) (by rfl) ?hy20 ?_
      case hy20 => intro w' hw'; go_simp; (try with_reducible rfl)
      simp only [Act.put, List.setIfInBounds_toArray, List.set_cons_zero, List.set_cons_succ]
      refine reg_take (i := 21) (v := Ent.val (a)) rfl (by kernel_rfl) (by kernel_rfl) (by kernel_rfl) (fun _ _ _ h => h) (by rfl) ?hy21 ?_
      case hy21 => intro w' hw'; exact exec_load_whole Ent.isRec _ rfl gE rfl _ _ (Ent.len _) w' (Whole.below E8.out hw' E8.out.lt)
      simp only [Act.put, List.setIfInBounds_toArray, List.set_cons_zero, List.set_cons_succ]
      refine reg_call (i := 19) rfl (by kernel_rfl) (fun K' hK => ?_)
      go_simp
      refine (C5.out w8 L8.out).mono ?_
      rintro e9 w9 ⟨rfl, b9⟩
      have L9 : Hid (RowsAt w9 (.slice A l.length cap) 20 (l.map Ses.enc)) := Lib.hid (L8.out.below b9)
      have E9 : Hid (Ent.At w9 gE a) := Lib.hid (Whole.below E8.out b9 E8.out.lt)
      have B9 := Lib.hid (B8.out.trans (b9.mono B8.out.size))
      refine hK.out _ _ b9 ?_
      clear hK K' b9 L8 E8 B8
      refine reg_call (i := 22) rfl (by kernel_rfl) (fun K' hK => ?_)
      go_simp
      refine (C6.out w9 L9.out).mono ?_
      rintro e10 w10 ⟨rfl, b10⟩
      have L10 : Hid (RowsAt w10 (.slice A l.length cap) 20 (l.map Ses.enc)) := Lib.hid (L9.out.below b10)
      have E10 : Hid (Ent.At w10 gE a) := Lib.hid (Whole.below E9.out b10 E9.out.lt)
      have B10 := Lib.hid (B9.out.trans (b10.mono B9.out.size))
      refine hK.out _ _ b10 ?_
      clear hK K' b10 L9 E9 B9
      refine reg_take (i := 23) (v := ?_) rfl (by kernel_rfl) (by kernel_rfl) (by kernel_rfl) (fun _ _ _ h => h) (by rfl) ?hy23 ?_
      case hy23 => intro w' hw'; go_simp; (try with_reducible rfl)
      simp only [Act.put, List.setIfInBounds_toArray, List.set_cons_zero, List.set_cons_succ]
      refine reg_take (i := 24) (v := ?_) rfl (by kernel_rfl) (by kernel_rfl) (by kernel_rfl) (fun _ _ _ h => h) (by rfl) ?hy24 ?_
      case hy24 => intro w' hw'; go_simp; (try with_reducible rfl)
      simp only [Act.put, List.setIfInBounds_toArray, List.set_cons_zero, List.set_cons_succ]
      refine reg_take (i := 25) (v := ?_) rfl (by kernel_rfl) (by kernel_rfl) (by kernel_rfl) (fun _ _ _ h => h) (by rfl) ?hy25 ?_
      case hy25 => intro w' hw'; go_simp; (try with_reducible rfl)
      simp only [Act.put, List.setIfInBounds_toArray, List.set_cons_zero, List.set_cons_succ]
      refine reg_take (i := 26) (v := ?_) rfl (by kernel_rfl) (by kernel_rfl) (by kernel_rfl) (fun _ _ _ h => h) (by rfl) ?hy26 ?_
      case hy26 => intro w' hw'; go_simp; (try with_reducible rfl)
      simp only [Act.put, List.setIfInBounds_toArray, List.set_cons_zero, List.set_cons_succ]
      refine reg_take (i := 27) (v := Ent.val (a)) rfl (by kernel_rfl) (by kernel_rfl) (by kernel_rfl) (fun _ _ _ h => h) (by rfl) ?hy27 ?_
      case hy27 => intro w' hw'; exact exec_load_whole Ent.isRec _ rfl gE rfl _ _ (Ent.len _) w' (Whole.below E10.out hw' E10.out.lt)
      simp only [Act.put, List.setIfInBounds_toArray, List.set_cons_zero, List.set_cons_succ]
      refine reg_take (i := 29) (v := ?_) rfl (by kernel_rfl) (by kernel_rfl) (by kernel_rfl) (fun _ _ _ h => h) (by rfl) ?hy29 ?_
      case hy29 => intro w' hw'; go_simp; (try with_reducible rfl)
      simp only [Act.put, List.setIfInBounds_toArray, List.set_cons_zero, List.set_cons_succ]
      refine reg_take (i := 30) (v := Ent.val (a)) rfl (by kernel_rfl) (by kernel_rfl) (by kernel_rfl) (fun _ _ _ h => h) (by rfl) ?hy30 ?_
      case hy30 => intro w' hw'; exact exec_load_whole Ent.isRec _ rfl gE rfl _ _ (Ent.len _) w' (Whole.below E10.out hw' E10.out.lt)
      simp only [Act.put, List.setIfInBounds_toArray, List.set_cons_zero, List.set_cons_succ]
      refine reg_call (i := 28) rfl (by kernel_rfl) (fun K' hK => ?_)
      go_simp
      refine (C7.out w10 L10.out).mono ?_
      rintro e11 w11 ⟨rfl, b11⟩
      have L11 : Hid (RowsAt w11 (.slice A l.length cap) 20 (l.map Ses.enc)) := Lib.hid (L10.out.below b11)
      have E11 : Hid (Ent.At w11 gE a) := Lib.hid (Whole.below E10.out b11 E10.out.lt)
      have B11 := Lib.hid (B10.out.trans (b11.mono B10.out.size))
      refine hK.out _ _ b11 ?_
      clear hK K' b11 L10 E10 B10
      refine reg_call (i := 31) rfl (by kernel_rfl) (fun K' hK => ?_)
      go_simp
      refine (C8.out w11 L11.out).mono ?_
      rintro e12 w12 ⟨rfl, b12⟩
      have L12 : Hid (RowsAt w12 (.slice A l.length cap) 20 (l.map Ses.enc)) := Lib.hid (L11.out.below b12)
      have E12 : Hid (Ent.At w12 gE a) := Lib.hid (Whole.below E11.out b12 E11.out.lt)
      have B12 := Lib.hid (B11.out.trans (b12.mono B11.out.size))
      refine hK.out _ _ b12 ?_
      clear hK K' b12 L11 E11 B11
      refine reg_take (i := 32) (v := ?_) rfl (by kernel_rfl) (by kernel_rfl) (by kernel_rfl) (fun _ _ _ h => h) (by rfl) ?hy32 ?_
      case hy32 => intro w' hw'; go_simp; (try with_reducible rfl)
      simp only [Act.put, List.setIfInBounds_toArray, List.set_cons_zero, List.set_cons_succ]
      refine reg_take (i := 33) (v := ?_) rfl (by kernel_rfl) (by kernel_rfl) (by kernel_rfl) (fun _ _ _ h => h) (by rfl) ?hy33 ?_
      case hy33 => intro w' hw'; go_simp; (try with_reducible rfl)
      simp only [Act.put, List.setIfInBounds_toArray, List.set_cons_zero, List.set_cons_succ]
      refine reg_take (i := 34) (v := ?_) rfl (by kernel_rfl) (by kernel_rfl) (by kernel_rfl) (fun _ _ _ h => h) (by rfl) ?hy34 ?_
      case hy34 => intro w' hw'; go_simp; (try with_reducible rfl)
      simp only [Act.put, List.setIfInBounds_toArray, List.set_cons_zero, List.set_cons_succ]
      refine reg_call (i := 35) rfl (by kernel_rfl) (fun K' hK => ?_)
      go_simp
      refine (works23 w12).mono ?_
      rintro e13 w13 ⟨rfl, b13⟩
      have L13 : Hid (RowsAt w13 (.slice A l.length cap) 20 (l.map Ses.enc)) := Lib.hid (L12.out.below b13)
      have E13 : Hid (Ent.At w13 gE a) := Lib.hid (Whole.below E12.out b13 E12.out.lt)
      have B13 := Lib.hid (B12.out.trans (b13.mono B12.out.size))
      refine hK.out _ _ b13 ?_
      clear hK K' b13 L12 E12 B12
      refine reg_take (i := 36) (v := ?_) rfl (by kernel_rfl) (by kernel_rfl) (by kernel_rfl) (fun _ _ _ h => h) (by rfl) ?hy36 ?_
      case hy36 => intro w' hw'; go_simp; (try with_reducible rfl)
      simp only [Act.put, List.setIfInBounds_toArray, List.set_cons_zero, List.set_cons_succ]
      refine reg_take (i := 37) (v := ?_) rfl (by kernel_rfl) (by kernel_rfl) (by kernel_rfl) (fun _ _ _ h => h) (by rfl) ?hy37 ?_
      case hy37 => intro w' hw'; go_simp; (try with_reducible rfl)
      simp only [Act.put, List.setIfInBounds_toArray, List.set_cons_zero, List.set_cons_succ]
      refine reg_end (by kernel_rfl) ?_
      go_wp2
      go_ret
      exact ⟨rfl, B13.out⟩
end Go.Proofs.Ytjohlnpalcmhbaa
