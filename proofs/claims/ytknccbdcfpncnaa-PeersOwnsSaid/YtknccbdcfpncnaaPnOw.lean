/- Layer 24: PeersOwns' core. -/
import Derived.Test.YtknccbdcfpncnaaPnH
import Derived.Test.YtknccbdcfpncnaaPnX
import Derived.Test.YtknccbdcfpncnaaPnW
namespace Go.Proofs.Ytknccbdcfpncnaa
set_option maxRecDepth 100000
open Go.RowKit

theorem as_rowsEn {F : FuncId} {args : Array Value} {w : World} {base : Nat} {L : List Ent} {B : World → Prop} (h : Calls Try.prog F args w fun e w' => ∃ v, e = .returned v ∧ OwnRows w' base 24 6 v (L.map Ent.enc) ∧ B w') :
    Calls Try.prog F args w fun e w' => ∃ v, e = .returned v ∧ RowsAt w' v 6 (L.map Ent.enc) ∧ B w' :=
  h.mono fun _ _ ⟨v, he, ho, hb⟩ => ⟨v, he, ho.rows, hb⟩
set_option maxRecDepth 100000 in
set_option maxHeartbeats 2000000 in
theorem owns24_core (me : Ent) (A : Option Addr) (m cap : Nat) (l : List Peer) (key : Nat) (n : Int) (w : World) (hw : Words l) (hi : me.id < 18446744073709551616) (hk : key < 18446744073709551616) (h : RowsAt w (.slice A m cap) 8 (l.map Peer.enc)) :
    Calls Try.prog 4 #[me.val, .slice A m cap, .int .u64 (key : Int), .int .i64 n] w fun e w' => e = .returned (.bool true) ∧ Below w.heap.size w w' := by
  have hlen := h.size.1
  rw [List.length_map] at hlen
  subst hlen
  have CG := Lib.hid (fun w h => greatPs_any A l.length cap l w h)
  have CE := Lib.hid (fun w => great_any me w)
  have HN : Hid (greatPs l = false → l.length ≤ 40 ∧ Short l) := Lib.hid greatPs_no
  obtain ⟨g1, hg1⟩ : ∃ g, g = greatPs l := ⟨_, rfl⟩
  obtain ⟨g2, hg2⟩ : ∃ g, g = greatB me := ⟨_, rfl⟩
  simp only [← hg1, ← hg2] at CG CE HN
  clear hg1 hg2
  have HW := Lib.hid hw
  have HI := Lib.hid (And.intro hi hk)
  clear hw hi hk
  go_enter Try.func4, Try.ntmps4
  have L0 : Hid (RowsAt w (.slice A l.length cap) 8 (l.map Peer.enc)) := Lib.hid (h)
  clear h
  go_wp2_with (refine wpList_box_row rfl 24 _ rfl me.enc.toArray (by with_unfolding_all exact rfl) ?_)
  intro w1 b1 x1 z1
  obtain ⟨gE, hgE⟩ : ∃ g, g = w.heap.size := ⟨_, rfl⟩
  have M_E := Lib.hid (show w.heap.size ≤ gE from by rw [hgE]; exact Nat.le_refl _)
  have L1 : Hid (RowsAt w1 (.slice A l.length cap) 8 (l.map Peer.enc)) := Lib.hid (L0.out.below b1)
  have B1 := Lib.hid b1
  rw [← hgE] at x1 ⊢
  have E1 : Hid (Ent.At w1 gE me) := Lib.hid x1
  clear b1 x1 z1 hgE L0
  go_wp2_with (with_reducible refine wpList_load_whole Ent.isRec rfl _ rfl gE (by with_unfolding_all exact rfl) _ _ (Ent.len _) E1.out ?_)
  refine (CG.out w1 L1.out).mono ?_
  rintro e2 w2 ⟨rfl, b2⟩
  have L2 : Hid (RowsAt w2 (.slice A l.length cap) 8 (l.map Peer.enc)) := Lib.hid (L1.out.below b2)
  have E2 : Hid (Ent.At w2 gE me) := Lib.hid (Whole.below E1.out b2 E1.out.lt)
  have B2 := Lib.hid (B1.out.trans (b2.mono B1.out.size))
  clear b2 L1 E1 B1
  cases g1 with
  | true =>
    go_wp2_with (with_reducible refine wpList_load_whole Ent.isRec rfl _ rfl gE (by with_unfolding_all exact rfl) _ _ (Ent.len _) E2.out ?_)
    refine (works24 w2).mono ?_
    rintro e3 w3 ⟨rfl, b3⟩
    have L3 : Hid (RowsAt w3 (.slice A l.length cap) 8 (l.map Peer.enc)) := Lib.hid (L2.out.below b3)
    have E3 : Hid (Ent.At w3 gE me) := Lib.hid (Whole.below E2.out b3 E2.out.lt)
    have B3 := Lib.hid (B2.out.trans (b3.mono B2.out.size))
    clear b3 L2 E2 B2
    go_wp2
    go_ret
    exact ⟨rfl, B3.out⟩
  | false =>
    have HL := Lib.hid (HN.out rfl)
    clear HN CG
    go_wp2_with (first | (with_reducible refine wpList_load_whole Ent.isRec rfl _ rfl gE (by with_unfolding_all exact rfl) _ _ (Ent.len _) E2.out ?_) | (with_reducible refine wpList_load_whole_w Ent.isRec (by kernel_rfl) _ rfl gE (by with_unfolding_all exact rfl) _ _ (Ent.len _) E2.out ?_))
    refine (CE.out w2).mono ?_
    rintro e3 w3 ⟨rfl, b3⟩
    have L3 : Hid (RowsAt w3 (.slice A l.length cap) 8 (l.map Peer.enc)) := Lib.hid (L2.out.below b3)
    have E3 : Hid (Ent.At w3 gE me) := Lib.hid (Whole.below E2.out b3 E2.out.lt)
    have B3 := Lib.hid (B2.out.trans (b3.mono B2.out.size))
    clear b3 L2 E2 B2
    cases g2 with
    | true =>
      go_wp2_with (with_reducible refine wpList_load_whole Ent.isRec rfl _ rfl gE (by with_unfolding_all exact rfl) _ _ (Ent.len _) E3.out ?_)
      refine (works24 w3).mono ?_
      rintro e4 w4 ⟨rfl, b4⟩
      have L4 : Hid (RowsAt w4 (.slice A l.length cap) 8 (l.map Peer.enc)) := Lib.hid (L3.out.below b4)
      have E4 : Hid (Ent.At w4 gE me) := Lib.hid (Whole.below E3.out b4 E3.out.lt)
      have B4 := Lib.hid (B3.out.trans (b4.mono B3.out.size))
      clear b4 L3 E3 B3
      go_wp2
      go_ret
      exact ⟨rfl, B4.out⟩
    | false =>
      have hl := HL.out.1
      have H1 : Hid ((firstsQ l n).length ≤ 4000000) := Lib.hid (by rw [firstsQ, List.length_map, List.length_take]; omega)
      have H2 : Hid ((l.map Peer.entry).length ≤ 4000000) := Lib.hid (by rw [List.length_map]; omega)
      have C1 := Lib.hid (fun w h => owner_any A l.length cap l me key w (by omega) HW.out HI.out.1 HI.out.2 h)
      have C2 := Lib.hid (fun w h => refOwner_any A l.length cap l me key w (by omega) HW.out HI.out.1 HI.out.2 h)
      have C3 := Lib.hid (fun w h => as_rowsEn (first_any A l.length cap l n w.heap.size w (Nat.le_refl _) (by omega) h))
      have C4 := Lib.hid (fun w h => as_rowsEn (refFirst_any A l.length cap l n w.heap.size w (Nat.le_refl _) (by omega) h))
      have C5 := Lib.hid (fun w h => as_rowsEn (entries_any A l.length cap l w.heap.size w (Nat.le_refl _) (by omega) h))
      have C6 := Lib.hid (fun w h => as_rowsEn (refEntries_any A l.length cap l w.heap.size w (Nat.le_refl _) (by omega) h))
      have C7 := Lib.hid (fun w h => before_any A l.length cap l me w (by omega) h)
      have C8 := Lib.hid (fun w h => refBefore_any A l.length cap l me w (by omega) h)
      generalize ownerQ me l key = oq at C1 C2
      generalize beforeQ me l = bq at C7 C8
      have e2 : ((bq : Int) == (bq : Int)) = true := by simp
      clear hl CE
      go_wp2_with (with_reducible refine wpList_load_whole Ent.isRec rfl _ rfl gE (by with_unfolding_all exact rfl) _ _ (Ent.len _) E3.out ?_)
      refine reg_begin (by kernel_rfl) fun w4 b4 z4 => ?_
      have L4 : Hid (RowsAt w4 (.slice A l.length cap) 8 (l.map Peer.enc)) := Lib.hid (L3.out.below b4)
      have E4 : Hid (Ent.At w4 gE me) := Lib.hid (Whole.below E3.out b4 E3.out.lt)
      have B4 := Lib.hid (B3.out.trans (b4.mono B3.out.size))
      clear b4 z4 L3 E3 B3
      refine reg_take (i := 0) (v := Ent.val (me)) rfl (by kernel_rfl) (by kernel_rfl) (by kernel_rfl) (fun _ _ _ h => h) (by rfl) ?hy0 ?_
      case hy0 => intro w' hw'; exact exec_load_whole Ent.isRec _ rfl gE rfl _ _ (Ent.len _) w' (Whole.below E4.out hw' E4.out.lt)
      simp only [Act.put, List.setIfInBounds_toArray, List.set_cons_zero, List.set_cons_succ]
      refine reg_take (i := 1) (v := ?_) rfl (by kernel_rfl) (by kernel_rfl) (by kernel_rfl) (fun _ _ _ h => h) (by rfl) ?hy1 ?_
      case hy1 => intro w' hw'; go_simp; (try with_reducible rfl)
      simp only [Act.put, List.setIfInBounds_toArray, List.set_cons_zero, List.set_cons_succ]
      refine reg_take (i := 2) (v := ?_) rfl (by kernel_rfl) (by kernel_rfl) (by kernel_rfl) (fun _ _ _ h => h) (by rfl) ?hy2 ?_
      case hy2 => intro w' hw'; go_simp; (try with_reducible rfl)
      simp only [Act.put, List.setIfInBounds_toArray, List.set_cons_zero, List.set_cons_succ]
      refine reg_take (i := 4) (v := Ent.val (me)) rfl (by kernel_rfl) (by kernel_rfl) (by kernel_rfl) (fun _ _ _ h => h) (by rfl) ?hy4 ?_
      case hy4 => intro w' hw'; exact exec_load_whole Ent.isRec _ rfl gE rfl _ _ (Ent.len _) w' (Whole.below E4.out hw' E4.out.lt)
      simp only [Act.put, List.setIfInBounds_toArray, List.set_cons_zero, List.set_cons_succ]
      refine reg_take (i := 5) (v := ?_) rfl (by kernel_rfl) (by kernel_rfl) (by kernel_rfl) (fun _ _ _ h => h) (by rfl) ?hy5 ?_
      case hy5 => intro w' hw'; go_simp; (try with_reducible rfl)
      simp only [Act.put, List.setIfInBounds_toArray, List.set_cons_zero, List.set_cons_succ]
      refine reg_take (i := 6) (v := ?_) rfl (by kernel_rfl) (by kernel_rfl) (by kernel_rfl) (fun _ _ _ h => h) (by rfl) ?hy6 ?_
      case hy6 => intro w' hw'; go_simp; (try with_reducible rfl)
      simp only [Act.put, List.setIfInBounds_toArray, List.set_cons_zero, List.set_cons_succ]
      refine reg_call (i := 3) rfl (by kernel_rfl) (fun K' hK => ?_)
      go_simp
      refine (C1.out w4 L4.out).mono ?_
      rintro e5 w5 ⟨rfl, b5⟩
      have L5 : Hid (RowsAt w5 (.slice A l.length cap) 8 (l.map Peer.enc)) := Lib.hid (L4.out.below b5)
      have E5 : Hid (Ent.At w5 gE me) := Lib.hid (Whole.below E4.out b5 E4.out.lt)
      have B5 := Lib.hid (B4.out.trans (b5.mono B4.out.size))
      refine hK.out _ _ b5 ?_
      clear hK K' b5 L4 E4 B4
      refine reg_call (i := 7) rfl (by kernel_rfl) (fun K' hK => ?_)
      go_simp
      refine (C2.out w5 L5.out).mono ?_
      rintro e6 w6 ⟨rfl, b6⟩
      have L6 : Hid (RowsAt w6 (.slice A l.length cap) 8 (l.map Peer.enc)) := Lib.hid (L5.out.below b6)
      have E6 : Hid (Ent.At w6 gE me) := Lib.hid (Whole.below E5.out b6 E5.out.lt)
      have B6 := Lib.hid (B5.out.trans (b6.mono B5.out.size))
      refine hK.out _ _ b6 ?_
      clear hK K' b6 L5 E5 B5
      refine reg_take (i := 8) (v := .bool true) rfl (by kernel_rfl) (by kernel_rfl) (by kernel_rfl) (fun _ _ _ h => h) (by rfl) ?hy8 ?_
      case hy8 => intro w' hw'; exact exec_eq_rec Ent.isRec _ _ _ rfl oq.enc oq.enc (Ent.fits _) (Ent.fits _) rfl rfl true (by rw [Ent.same, decide_eq_true rfl]) w'
      simp only [Act.put, List.setIfInBounds_toArray, List.set_cons_zero, List.set_cons_succ]
      refine reg_take (i := 9) (v := ?_) rfl (by kernel_rfl) (by kernel_rfl) (by kernel_rfl) (fun _ _ _ h => h) (by rfl) ?hy9 ?_
      case hy9 => intro w' hw'; go_simp; (try with_reducible rfl)
      simp only [Act.put, List.setIfInBounds_toArray, List.set_cons_zero, List.set_cons_succ]
      refine reg_take (i := 10) (v := ?_) rfl (by kernel_rfl) (by kernel_rfl) (by kernel_rfl) (fun _ _ _ h => h) (by rfl) ?hy10 ?_
      case hy10 => intro w' hw'; go_simp; (try with_reducible rfl)
      simp only [Act.put, List.setIfInBounds_toArray, List.set_cons_zero, List.set_cons_succ]
      refine reg_take (i := 11) (v := ?_) rfl (by kernel_rfl) (by kernel_rfl) (by kernel_rfl) (fun _ _ _ h => h) (by rfl) ?hy11 ?_
      case hy11 => intro w' hw'; go_simp; (try with_reducible rfl)
      simp only [Act.put, List.setIfInBounds_toArray, List.set_cons_zero, List.set_cons_succ]
      refine reg_take (i := 13) (v := ?_) rfl (by kernel_rfl) (by kernel_rfl) (by kernel_rfl) (fun _ _ _ h => h) (by rfl) ?hy13 ?_
      case hy13 => intro w' hw'; go_simp; (try with_reducible rfl)
      simp only [Act.put, List.setIfInBounds_toArray, List.set_cons_zero, List.set_cons_succ]
      refine reg_take (i := 14) (v := ?_) rfl (by kernel_rfl) (by kernel_rfl) (by kernel_rfl) (fun _ _ _ h => h) (by rfl) ?hy14 ?_
      case hy14 => intro w' hw'; go_simp; (try with_reducible rfl)
      simp only [Act.put, List.setIfInBounds_toArray, List.set_cons_zero, List.set_cons_succ]
      refine reg_call (i := 12) rfl (by kernel_rfl) (fun K' hK => ?_)
      go_simp
      refine (C3.out w6 L6.out).mono ?_
      rintro e7 w7 ⟨v28, rfl, y28, b7⟩
      have L7 : Hid (RowsAt w7 (.slice A l.length cap) 8 (l.map Peer.enc)) := Lib.hid (L6.out.below b7)
      have E7 : Hid (Ent.At w7 gE me) := Lib.hid (Whole.below E6.out b7 E6.out.lt)
      have B7 := Lib.hid (B6.out.trans (b7.mono B6.out.size))
      have PA7 : Hid (RowsAt w7 v28 6 ((firstsQ l n).map Ent.enc)) := Lib.hid y28
      refine hK.out _ _ b7 ?_
      clear hK K' b7 L6 E6 B6 y28
      refine reg_call (i := 15) rfl (by kernel_rfl) (fun K' hK => ?_)
      go_simp
      refine (C4.out w7 L7.out).mono ?_
      rintro e8 w8 ⟨v31, rfl, y31, b8⟩
      have L8 : Hid (RowsAt w8 (.slice A l.length cap) 8 (l.map Peer.enc)) := Lib.hid (L7.out.below b8)
      have E8 : Hid (Ent.At w8 gE me) := Lib.hid (Whole.below E7.out b8 E7.out.lt)
      have PA8 : Hid (RowsAt w8 v28 6 ((firstsQ l n).map Ent.enc)) := Lib.hid (PA7.out.below b8)
      have B8 := Lib.hid (B7.out.trans (b8.mono B7.out.size))
      have PB8 : Hid (RowsAt w8 v31 6 ((firstsQ l n).map Ent.enc)) := Lib.hid y31
      refine hK.out _ _ b8 ?_
      clear hK K' b8 L7 E7 PA7 B7 y31
      refine reg_call (i := 16) rfl (by kernel_rfl) (fun K' hK => ?_)
      go_simp
      refine (refEntsSame_eq v28 v31 _ w8 H1.out PA8.out PB8.out).mono ?_
      rintro e9 w9 ⟨rfl, b9⟩
      have L9 : Hid (RowsAt w9 (.slice A l.length cap) 8 (l.map Peer.enc)) := Lib.hid (L8.out.below b9)
      have E9 : Hid (Ent.At w9 gE me) := Lib.hid (Whole.below E8.out b9 E8.out.lt)
      have PA9 : Hid (RowsAt w9 v28 6 ((firstsQ l n).map Ent.enc)) := Lib.hid (PA8.out.below b9)
      have PB9 : Hid (RowsAt w9 v31 6 ((firstsQ l n).map Ent.enc)) := Lib.hid (PB8.out.below b9)
      have B9 := Lib.hid (B8.out.trans (b9.mono B8.out.size))
      refine hK.out _ _ b9 ?_
      clear hK K' b9 L8 E8 PA8 PB8 B8
      refine reg_take (i := 17) (v := ?_) rfl (by kernel_rfl) (by kernel_rfl) (by kernel_rfl) (fun _ _ _ h => h) (by rfl) ?hy17 ?_
      case hy17 => intro w' hw'; go_simp; (try with_reducible rfl)
      simp only [Act.put, List.setIfInBounds_toArray, List.set_cons_zero, List.set_cons_succ]
      refine reg_take (i := 18) (v := ?_) rfl (by kernel_rfl) (by kernel_rfl) (by kernel_rfl) (fun _ _ _ h => h) (by rfl) ?hy18 ?_
      case hy18 => intro w' hw'; go_simp; (try with_reducible rfl)
      simp only [Act.put, List.setIfInBounds_toArray, List.set_cons_zero, List.set_cons_succ]
      refine reg_take (i := 19) (v := ?_) rfl (by kernel_rfl) (by kernel_rfl) (by kernel_rfl) (fun _ _ _ h => h) (by rfl) ?hy19 ?_
      case hy19 => intro w' hw'; go_simp; (try with_reducible rfl)
      simp only [Act.put, List.setIfInBounds_toArray, List.set_cons_zero, List.set_cons_succ]
      refine reg_take (i := 21) (v := ?_) rfl (by kernel_rfl) (by kernel_rfl) (by kernel_rfl) (fun _ _ _ h => h) (by rfl) ?hy21 ?_
      case hy21 => intro w' hw'; go_simp; (try with_reducible rfl)
      simp only [Act.put, List.setIfInBounds_toArray, List.set_cons_zero, List.set_cons_succ]
      refine reg_call (i := 20) rfl (by kernel_rfl) (fun K' hK => ?_)
      go_simp
      refine (C5.out w9 L9.out).mono ?_
      rintro e10 w10 ⟨v36, rfl, y36, b10⟩
      have L10 : Hid (RowsAt w10 (.slice A l.length cap) 8 (l.map Peer.enc)) := Lib.hid (L9.out.below b10)
      have E10 : Hid (Ent.At w10 gE me) := Lib.hid (Whole.below E9.out b10 E9.out.lt)
      have PA10 : Hid (RowsAt w10 v28 6 ((firstsQ l n).map Ent.enc)) := Lib.hid (PA9.out.below b10)
      have PB10 : Hid (RowsAt w10 v31 6 ((firstsQ l n).map Ent.enc)) := Lib.hid (PB9.out.below b10)
      have B10 := Lib.hid (B9.out.trans (b10.mono B9.out.size))
      have PC10 : Hid (RowsAt w10 v36 6 ((l.map Peer.entry).map Ent.enc)) := Lib.hid y36
      refine hK.out _ _ b10 ?_
      clear hK K' b10 L9 E9 PA9 PB9 B9 y36
      refine reg_call (i := 22) rfl (by kernel_rfl) (fun K' hK => ?_)
      go_simp
      refine (C6.out w10 L10.out).mono ?_
      rintro e11 w11 ⟨v38, rfl, y38, b11⟩
      have L11 : Hid (RowsAt w11 (.slice A l.length cap) 8 (l.map Peer.enc)) := Lib.hid (L10.out.below b11)
      have E11 : Hid (Ent.At w11 gE me) := Lib.hid (Whole.below E10.out b11 E10.out.lt)
      have PA11 : Hid (RowsAt w11 v28 6 ((firstsQ l n).map Ent.enc)) := Lib.hid (PA10.out.below b11)
      have PB11 : Hid (RowsAt w11 v31 6 ((firstsQ l n).map Ent.enc)) := Lib.hid (PB10.out.below b11)
      have PC11 : Hid (RowsAt w11 v36 6 ((l.map Peer.entry).map Ent.enc)) := Lib.hid (PC10.out.below b11)
      have B11 := Lib.hid (B10.out.trans (b11.mono B10.out.size))
      have PD11 : Hid (RowsAt w11 v38 6 ((l.map Peer.entry).map Ent.enc)) := Lib.hid y38
      refine hK.out _ _ b11 ?_
      clear hK K' b11 L10 E10 PA10 PB10 PC10 B10 y38
      refine reg_call (i := 23) rfl (by kernel_rfl) (fun K' hK => ?_)
      go_simp
      refine (refEntsSame_eq v36 v38 _ w11 H2.out PC11.out PD11.out).mono ?_
      rintro e12 w12 ⟨rfl, b12⟩
      have L12 : Hid (RowsAt w12 (.slice A l.length cap) 8 (l.map Peer.enc)) := Lib.hid (L11.out.below b12)
      have E12 : Hid (Ent.At w12 gE me) := Lib.hid (Whole.below E11.out b12 E11.out.lt)
      have PA12 : Hid (RowsAt w12 v28 6 ((firstsQ l n).map Ent.enc)) := Lib.hid (PA11.out.below b12)
      have PB12 : Hid (RowsAt w12 v31 6 ((firstsQ l n).map Ent.enc)) := Lib.hid (PB11.out.below b12)
      have PC12 : Hid (RowsAt w12 v36 6 ((l.map Peer.entry).map Ent.enc)) := Lib.hid (PC11.out.below b12)
      have PD12 : Hid (RowsAt w12 v38 6 ((l.map Peer.entry).map Ent.enc)) := Lib.hid (PD11.out.below b12)
      have B12 := Lib.hid (B11.out.trans (b12.mono B11.out.size))
      refine hK.out _ _ b12 ?_
      clear hK K' b12 L11 E11 PA11 PB11 PC11 PD11 B11
      refine reg_take (i := 24) (v := ?_) rfl (by kernel_rfl) (by kernel_rfl) (by kernel_rfl) (fun _ _ _ h => h) (by rfl) ?hy24 ?_
      case hy24 => intro w' hw'; go_simp; (try with_reducible rfl)
      simp only [Act.put, List.setIfInBounds_toArray, List.set_cons_zero, List.set_cons_succ]
      refine reg_take (i := 25) (v := ?_) rfl (by kernel_rfl) (by kernel_rfl) (by kernel_rfl) (fun _ _ _ h => h) (by rfl) ?hy25 ?_
      case hy25 => intro w' hw'; go_simp; (try with_reducible rfl)
      simp only [Act.put, List.setIfInBounds_toArray, List.set_cons_zero, List.set_cons_succ]
      refine reg_take (i := 26) (v := Ent.val (me)) rfl (by kernel_rfl) (by kernel_rfl) (by kernel_rfl) (fun _ _ _ h => h) (by rfl) ?hy26 ?_
      case hy26 => intro w' hw'; exact exec_load_whole Ent.isRec _ rfl gE rfl _ _ (Ent.len _) w' (Whole.below E12.out hw' E12.out.lt)
      simp only [Act.put, List.setIfInBounds_toArray, List.set_cons_zero, List.set_cons_succ]
      refine reg_take (i := 27) (v := ?_) rfl (by kernel_rfl) (by kernel_rfl) (by kernel_rfl) (fun _ _ _ h => h) (by rfl) ?hy27 ?_
      case hy27 => intro w' hw'; go_simp; (try with_reducible rfl)
      simp only [Act.put, List.setIfInBounds_toArray, List.set_cons_zero, List.set_cons_succ]
      refine reg_take (i := 29) (v := Ent.val (me)) rfl (by kernel_rfl) (by kernel_rfl) (by kernel_rfl) (fun _ _ _ h => h) (by rfl) ?hy29 ?_
      case hy29 => intro w' hw'; exact exec_load_whole Ent.isRec _ rfl gE rfl _ _ (Ent.len _) w' (Whole.below E12.out hw' E12.out.lt)
      simp only [Act.put, List.setIfInBounds_toArray, List.set_cons_zero, List.set_cons_succ]
      refine reg_take (i := 30) (v := ?_) rfl (by kernel_rfl) (by kernel_rfl) (by kernel_rfl) (fun _ _ _ h => h) (by rfl) ?hy30 ?_
      case hy30 => intro w' hw'; go_simp; (try with_reducible rfl)
      simp only [Act.put, List.setIfInBounds_toArray, List.set_cons_zero, List.set_cons_succ]
      refine reg_call (i := 28) rfl (by kernel_rfl) (fun K' hK => ?_)
      go_simp
      refine (C7.out w12 L12.out).mono ?_
      rintro e13 w13 ⟨rfl, b13⟩
      have L13 : Hid (RowsAt w13 (.slice A l.length cap) 8 (l.map Peer.enc)) := Lib.hid (L12.out.below b13)
      have E13 : Hid (Ent.At w13 gE me) := Lib.hid (Whole.below E12.out b13 E12.out.lt)
      have PA13 : Hid (RowsAt w13 v28 6 ((firstsQ l n).map Ent.enc)) := Lib.hid (PA12.out.below b13)
      have PB13 : Hid (RowsAt w13 v31 6 ((firstsQ l n).map Ent.enc)) := Lib.hid (PB12.out.below b13)
      have PC13 : Hid (RowsAt w13 v36 6 ((l.map Peer.entry).map Ent.enc)) := Lib.hid (PC12.out.below b13)
      have PD13 : Hid (RowsAt w13 v38 6 ((l.map Peer.entry).map Ent.enc)) := Lib.hid (PD12.out.below b13)
      have B13 := Lib.hid (B12.out.trans (b13.mono B12.out.size))
      refine hK.out _ _ b13 ?_
      clear hK K' b13 L12 E12 PA12 PB12 PC12 PD12 B12
      refine reg_call (i := 31) rfl (by kernel_rfl) (fun K' hK => ?_)
      go_simp
      refine (C8.out w13 L13.out).mono ?_
      rintro e14 w14 ⟨rfl, b14⟩
      have L14 : Hid (RowsAt w14 (.slice A l.length cap) 8 (l.map Peer.enc)) := Lib.hid (L13.out.below b14)
      have E14 : Hid (Ent.At w14 gE me) := Lib.hid (Whole.below E13.out b14 E13.out.lt)
      have PA14 : Hid (RowsAt w14 v28 6 ((firstsQ l n).map Ent.enc)) := Lib.hid (PA13.out.below b14)
      have PB14 : Hid (RowsAt w14 v31 6 ((firstsQ l n).map Ent.enc)) := Lib.hid (PB13.out.below b14)
      have PC14 : Hid (RowsAt w14 v36 6 ((l.map Peer.entry).map Ent.enc)) := Lib.hid (PC13.out.below b14)
      have PD14 : Hid (RowsAt w14 v38 6 ((l.map Peer.entry).map Ent.enc)) := Lib.hid (PD13.out.below b14)
      have B14 := Lib.hid (B13.out.trans (b14.mono B13.out.size))
      refine hK.out _ _ b14 ?_
      clear hK K' b14 L13 E13 PA13 PB13 PC13 PD13 B13
      refine reg_take (i := 32) (v := ?_) rfl (by kernel_rfl) (by kernel_rfl) (by kernel_rfl) (fun _ _ _ h => h) (by rfl) ?hy32 ?_
      case hy32 => intro w' hw'; go_simp; (try with_reducible rfl)
      simp only [Act.put, List.setIfInBounds_toArray, List.set_cons_zero, List.set_cons_succ]
      refine reg_take (i := 33) (v := ?_) rfl (by kernel_rfl) (by kernel_rfl) (by kernel_rfl) (fun _ _ _ h => h) (by rfl) ?hy33 ?_
      case hy33 => intro w' hw'; go_simp; (try with_reducible rfl)
      simp only [Act.put, List.setIfInBounds_toArray, List.set_cons_zero, List.set_cons_succ]
      refine reg_take (i := 34) (v := ?_) rfl (by kernel_rfl) (by kernel_rfl) (by kernel_rfl) (fun _ _ _ h => h) (by rfl) ?hy34 ?_
      case hy34 => intro w' hw'; go_simp; (try with_reducible rfl)
      simp only [Act.put, List.setIfInBounds_toArray, List.set_cons_zero, List.set_cons_succ]
      refine reg_call (i := 35) rfl (by kernel_rfl) (fun K' hK => ?_)
      go_simp
      refine (works24 w14).mono ?_
      rintro e15 w15 ⟨rfl, b15⟩
      have L15 : Hid (RowsAt w15 (.slice A l.length cap) 8 (l.map Peer.enc)) := Lib.hid (L14.out.below b15)
      have E15 : Hid (Ent.At w15 gE me) := Lib.hid (Whole.below E14.out b15 E14.out.lt)
      have PA15 : Hid (RowsAt w15 v28 6 ((firstsQ l n).map Ent.enc)) := Lib.hid (PA14.out.below b15)
      have PB15 : Hid (RowsAt w15 v31 6 ((firstsQ l n).map Ent.enc)) := Lib.hid (PB14.out.below b15)
      have PC15 : Hid (RowsAt w15 v36 6 ((l.map Peer.entry).map Ent.enc)) := Lib.hid (PC14.out.below b15)
      have PD15 : Hid (RowsAt w15 v38 6 ((l.map Peer.entry).map Ent.enc)) := Lib.hid (PD14.out.below b15)
      have B15 := Lib.hid (B14.out.trans (b15.mono B14.out.size))
      refine hK.out _ _ b15 ?_
      clear hK K' b15 L14 E14 PA14 PB14 PC14 PD14 B14
      refine reg_take (i := 36) (v := ?_) rfl (by kernel_rfl) (by kernel_rfl) (by kernel_rfl) (fun _ _ _ h => h) (by rfl) ?hy36 ?_
      case hy36 => intro w' hw'; go_simp; (try with_reducible rfl)
      simp only [Act.put, List.setIfInBounds_toArray, List.set_cons_zero, List.set_cons_succ]
      refine reg_take (i := 37) (v := ?_) rfl (by kernel_rfl) (by kernel_rfl) (by kernel_rfl) (fun _ _ _ h => h) (by rfl) ?hy37 ?_
      case hy37 => intro w' hw'; go_simp; (try with_reducible rfl)
      simp only [Act.put, List.setIfInBounds_toArray, List.set_cons_zero, List.set_cons_succ]
      refine reg_end (by kernel_rfl) ?_
      go_wp2
      go_ret
      exact ⟨rfl, B15.out⟩
end Go.Proofs.Ytknccbdcfpncnaa
