/- Layer 24: PeersAdds' core. -/
import Derived.Test.YtknccbdcfpncnaaPnH
import Derived.Test.YtknccbdcfpncnaaPnT
import Derived.Test.YtknccbdcfpncnaaPnU
import Derived.Test.YtknccbdcfpncnaaPnW
namespace Go.Proofs.Ytknccbdcfpncnaa
set_option maxRecDepth 100000
open Go.RowKit

theorem as_rowsPe {F : FuncId} {args : Array Value} {w : World} {base : Nat} {L : List Peer} {B : World → Prop} (h : Calls Try.prog F args w fun e w' => ∃ v, e = .returned v ∧ OwnRows w' base 27 8 v (L.map Peer.enc) ∧ B w') :
    Calls Try.prog F args w fun e w' => ∃ v, e = .returned v ∧ RowsAt w' v 8 (L.map Peer.enc) ∧ B w' :=
  h.mono fun _ _ ⟨v, he, ho, hb⟩ => ⟨v, he, ho.rows, hb⟩
set_option maxRecDepth 100000 in
set_option maxHeartbeats 2000000 in
theorem adds24_core (me : Ent) (A : Option Addr) (m cap : Nat) (l : List Peer) (p : Peer) (nm : List UInt8) (w : World) (hw : Words l) (hi : me.id < 18446744073709551616) (hp : p.entry.id < 18446744073709551616) (h : RowsAt w (.slice A m cap) 8 (l.map Peer.enc)) :
    Calls Try.prog 3 #[me.val, .slice A m cap, p.val, .string ⟨nm.toArray⟩] w fun e w' => e = .returned (.bool true) ∧ Below w.heap.size w w' := by
  have hlen := h.size.1
  rw [List.length_map] at hlen
  subst hlen
  have CG := Lib.hid (fun w h => greatPs_any A l.length cap l w h)
  have CE := Lib.hid (fun w => great_any me w)
  have CP := Lib.hid (fun w => great_any p.entry w)
  have HN : Hid (greatPs l = false → l.length ≤ 40 ∧ Short l) := Lib.hid greatPs_no
  have HP : Hid (greatB p.entry = false → p.entry.name.length ≤ 1000000) := Lib.hid greatB_no
  obtain ⟨g1, hg1⟩ : ∃ g, g = greatPs l := ⟨_, rfl⟩
  obtain ⟨g2, hg2⟩ : ∃ g, g = greatB me := ⟨_, rfl⟩
  obtain ⟨g3, hg3⟩ : ∃ g, g = greatB p.entry := ⟨_, rfl⟩
  simp only [← hg1, ← hg2, ← hg3] at CG CE CP HN HP
  obtain ⟨g4, hg4⟩ : ∃ g, g = decide (1000 < nm.length) := ⟨_, rfl⟩
  have r1 : decide ((1000 : Int) < (nm.length : Int)) = g4 := by rw [hg4]; congr 1; apply propext; omega
  have r2 := hg4.symm
  clear hg1 hg2 hg3 hg4
  have HW := Lib.hid hw
  have HI := Lib.hid (And.intro hi hp)
  clear hw hi hp
  go_enter Try.func3, Try.ntmps3
  have L0 : Hid (RowsAt w (.slice A l.length cap) 8 (l.map Peer.enc)) := Lib.hid (h)
  clear h
  go_wp2_with (refine wpList_box_row rfl 24 _ rfl me.enc.toArray (by with_unfolding_all exact rfl) ?_)
  intro w1 b1 x1 z1
  obtain ⟨gE, hgE⟩ : ∃ g, g = w.heap.size := ⟨_, rfl⟩
  have M_E := Lib.hid (show w.heap.size ≤ gE from by rw [hgE]; exact Nat.le_refl _)
  have L1 : Hid (RowsAt w1 (.slice A l.length cap) 8 (l.map Peer.enc)) := Lib.hid (L0.out.below b1)
  have B1 := Lib.hid b1
  rw [← hgE] at x1 ⊢
  have E1 : Hid (Ent.At w1 gE me) := Lib.hid x1
  clear b1 x1 z1 hgE L0
  go_wp2_with (first | (with_reducible refine wpList_load_whole Ent.isRec rfl _ rfl gE (by with_unfolding_all exact rfl) _ _ (Ent.len _) E1.out ?_) | (refine wpList_box_row rfl 27 _ rfl p.enc.toArray (by with_unfolding_all exact rfl) ?_))
  intro w2 b2 x2 z2
  obtain ⟨gP, hgP⟩ : ∃ g, g = w1.heap.size := ⟨_, rfl⟩
  have N_E_P := Lib.hid (show gE < gP from by rw [hgP]; exact E1.out.lt)
  have M_P := Lib.hid (show w.heap.size ≤ gP from by rw [hgP]; exact B1.out.size)
  have L2 : Hid (RowsAt w2 (.slice A l.length cap) 8 (l.map Peer.enc)) := Lib.hid (L1.out.below b2)
  have E2 : Hid (Ent.At w2 gE me) := Lib.hid (Whole.below E1.out b2 E1.out.lt)
  have B2 := Lib.hid (B1.out.trans (b2.mono B1.out.size))
  rw [← hgP] at x2 ⊢
  have P2 : Hid (Peer.At w2 gP p) := Lib.hid x2
  clear b2 x2 z2 hgP L1 E1 B1
  go_wp2_with (first | (with_reducible refine wpList_load_whole Ent.isRec rfl _ rfl gE (by with_unfolding_all exact rfl) _ _ (Ent.len _) E2.out ?_) | (with_reducible refine wpList_load_whole Peer.isRec rfl _ rfl gP (by with_unfolding_all exact rfl) _ _ (Peer.len _) P2.out ?_) | (with_reducible refine wpList_load_rec Ent.isRec rfl _ rfl gP 0 (by with_unfolding_all exact rfl) _ (Ent.len _) (Peer.At.part_entry P2.out) ?_))
  refine (CG.out w2 L2.out).mono ?_
  rintro e3 w3 ⟨rfl, b3⟩
  have L3 : Hid (RowsAt w3 (.slice A l.length cap) 8 (l.map Peer.enc)) := Lib.hid (L2.out.below b3)
  have E3 : Hid (Ent.At w3 gE me) := Lib.hid (Whole.below E2.out b3 E2.out.lt)
  have P3 : Hid (Peer.At w3 gP p) := Lib.hid (Whole.below P2.out b3 P2.out.lt)
  have B3 := Lib.hid (B2.out.trans (b3.mono B2.out.size))
  clear b3 L2 E2 P2 B2
  cases g1 with
  | true =>
    go_wp2_with (first | (with_reducible refine wpList_load_whole Ent.isRec rfl _ rfl gE (by with_unfolding_all exact rfl) _ _ (Ent.len _) E3.out ?_) | (with_reducible refine wpList_load_whole Peer.isRec rfl _ rfl gP (by with_unfolding_all exact rfl) _ _ (Peer.len _) P3.out ?_) | (with_reducible refine wpList_load_rec Ent.isRec rfl _ rfl gP 0 (by with_unfolding_all exact rfl) _ (Ent.len _) (Peer.At.part_entry P3.out) ?_))
    refine (works24 w3).mono ?_
    rintro e4 w4 ⟨rfl, b4⟩
    have L4 : Hid (RowsAt w4 (.slice A l.length cap) 8 (l.map Peer.enc)) := Lib.hid (L3.out.below b4)
    have E4 : Hid (Ent.At w4 gE me) := Lib.hid (Whole.below E3.out b4 E3.out.lt)
    have P4 : Hid (Peer.At w4 gP p) := Lib.hid (Whole.below P3.out b4 P3.out.lt)
    have B4 := Lib.hid (B3.out.trans (b4.mono B3.out.size))
    clear b4 L3 E3 P3 B3
    go_wp2
    go_ret
    exact ⟨rfl, B4.out⟩
  | false =>
    have HL := Lib.hid (HN.out rfl)
    clear HN CG
    go_wp2_with (first | (with_reducible refine wpList_load_whole Ent.isRec rfl _ rfl gE (by with_unfolding_all exact rfl) _ _ (Ent.len _) E3.out ?_) | (with_reducible refine wpList_load_whole Peer.isRec rfl _ rfl gP (by with_unfolding_all exact rfl) _ _ (Peer.len _) P3.out ?_) | (with_reducible refine wpList_load_rec Ent.isRec rfl _ rfl gP 0 (by with_unfolding_all exact rfl) _ (Ent.len _) (Peer.At.part_entry P3.out) ?_) | (with_reducible refine wpList_load_whole_w Ent.isRec (by kernel_rfl) _ rfl gE (by with_unfolding_all exact rfl) _ _ (Ent.len _) E3.out ?_))
    refine (CE.out w3).mono ?_
    rintro e4 w4 ⟨rfl, b4⟩
    have L4 : Hid (RowsAt w4 (.slice A l.length cap) 8 (l.map Peer.enc)) := Lib.hid (L3.out.below b4)
    have E4 : Hid (Ent.At w4 gE me) := Lib.hid (Whole.below E3.out b4 E3.out.lt)
    have P4 : Hid (Peer.At w4 gP p) := Lib.hid (Whole.below P3.out b4 P3.out.lt)
    have B4 := Lib.hid (B3.out.trans (b4.mono B3.out.size))
    clear b4 L3 E3 P3 B3
    cases g2 with
    | true =>
      go_wp2_with (first | (with_reducible refine wpList_load_whole Ent.isRec rfl _ rfl gE (by with_unfolding_all exact rfl) _ _ (Ent.len _) E4.out ?_) | (with_reducible refine wpList_load_whole Peer.isRec rfl _ rfl gP (by with_unfolding_all exact rfl) _ _ (Peer.len _) P4.out ?_) | (with_reducible refine wpList_load_rec Ent.isRec rfl _ rfl gP 0 (by with_unfolding_all exact rfl) _ (Ent.len _) (Peer.At.part_entry P4.out) ?_))
      refine (works24 w4).mono ?_
      rintro e5 w5 ⟨rfl, b5⟩
      have L5 : Hid (RowsAt w5 (.slice A l.length cap) 8 (l.map Peer.enc)) := Lib.hid (L4.out.below b5)
      have E5 : Hid (Ent.At w5 gE me) := Lib.hid (Whole.below E4.out b5 E4.out.lt)
      have P5 : Hid (Peer.At w5 gP p) := Lib.hid (Whole.below P4.out b5 P4.out.lt)
      have B5 := Lib.hid (B4.out.trans (b5.mono B4.out.size))
      clear b5 L4 E4 P4 B4
      go_wp2
      go_ret
      exact ⟨rfl, B5.out⟩
    | false =>
      go_wp2_with (first | (with_reducible refine wpList_load_whole Ent.isRec rfl _ rfl gE (by with_unfolding_all exact rfl) _ _ (Ent.len _) E4.out ?_) | (with_reducible refine wpList_load_whole Peer.isRec rfl _ rfl gP (by with_unfolding_all exact rfl) _ _ (Peer.len _) P4.out ?_) | (with_reducible refine wpList_load_rec Ent.isRec rfl _ rfl gP 0 (by with_unfolding_all exact rfl) _ (Ent.len _) (Peer.At.part_entry P4.out) ?_) | (with_reducible refine wpList_load_rec_w Ent.isRec (by kernel_rfl) _ rfl gP 0 (by with_unfolding_all exact rfl) _ (Ent.len _) (Peer.At.part_entry P4.out) ?_))
      refine (CP.out w4).mono ?_
      rintro e5 w5 ⟨rfl, b5⟩
      have L5 : Hid (RowsAt w5 (.slice A l.length cap) 8 (l.map Peer.enc)) := Lib.hid (L4.out.below b5)
      have E5 : Hid (Ent.At w5 gE me) := Lib.hid (Whole.below E4.out b5 E4.out.lt)
      have P5 : Hid (Peer.At w5 gP p) := Lib.hid (Whole.below P4.out b5 P4.out.lt)
      have B5 := Lib.hid (B4.out.trans (b5.mono B4.out.size))
      clear b5 L4 E4 P4 B4
      cases g3 with
      | true =>
        go_wp2_with (first | (with_reducible refine wpList_load_whole Ent.isRec rfl _ rfl gE (by with_unfolding_all exact rfl) _ _ (Ent.len _) E5.out ?_) | (with_reducible refine wpList_load_whole Peer.isRec rfl _ rfl gP (by with_unfolding_all exact rfl) _ _ (Peer.len _) P5.out ?_) | (with_reducible refine wpList_load_rec Ent.isRec rfl _ rfl gP 0 (by with_unfolding_all exact rfl) _ (Ent.len _) (Peer.At.part_entry P5.out) ?_))
        refine (works24 w5).mono ?_
        rintro e6 w6 ⟨rfl, b6⟩
        have L6 : Hid (RowsAt w6 (.slice A l.length cap) 8 (l.map Peer.enc)) := Lib.hid (L5.out.below b6)
        have E6 : Hid (Ent.At w6 gE me) := Lib.hid (Whole.below E5.out b6 E5.out.lt)
        have P6 : Hid (Peer.At w6 gP p) := Lib.hid (Whole.below P5.out b6 P5.out.lt)
        have B6 := Lib.hid (B5.out.trans (b6.mono B5.out.size))
        clear b6 L5 E5 P5 B5
        go_wp2
        go_ret
        exact ⟨rfl, B6.out⟩
      | false =>
        have HPN := Lib.hid (HP.out rfl)
        cases g4 with
        | true =>
          go_wp2_with (first | (with_reducible refine wpList_load_whole Ent.isRec rfl _ rfl gE (by with_unfolding_all exact rfl) _ _ (Ent.len _) E5.out ?_) | (with_reducible refine wpList_load_whole Peer.isRec rfl _ rfl gP (by with_unfolding_all exact rfl) _ _ (Peer.len _) P5.out ?_) | (with_reducible refine wpList_load_rec Ent.isRec rfl _ rfl gP 0 (by with_unfolding_all exact rfl) _ (Ent.len _) (Peer.At.part_entry P5.out) ?_))
          refine (works24 w5).mono ?_
          rintro e6 w6 ⟨rfl, b6⟩
          have L6 : Hid (RowsAt w6 (.slice A l.length cap) 8 (l.map Peer.enc)) := Lib.hid (L5.out.below b6)
          have E6 : Hid (Ent.At w6 gE me) := Lib.hid (Whole.below E5.out b6 E5.out.lt)
          have P6 : Hid (Peer.At w6 gP p) := Lib.hid (Whole.below P5.out b6 P5.out.lt)
          have B6 := Lib.hid (B5.out.trans (b6.mono B5.out.size))
          clear b6 L5 E5 P5 B5
          go_wp2
          go_ret
          exact ⟨rfl, B6.out⟩
        | false =>
          have hl := HL.out.1
          have H1 : Hid ((addQ me l p).length ≤ 1000000) := Lib.hid (Nat.le_trans (addQ_length me l p) (by omega))
          have H2 : Hid ((dropQ l nm).length ≤ 1000000) := Lib.hid (Nat.le_trans (List.length_filter_le _ _) (by omega))
          have C1 := Lib.hid (fun A' c' w h => as_rowsPe (add_any A' l.length c' l me p w.heap.size w (Nat.le_refl _) (by omega) HW.out HI.out.1 HI.out.2 h))
          have C2 := Lib.hid (fun w h => refAdd_any A l.length cap l me p w (by omega) HW.out HL.out.2 HI.out.1 HI.out.2 HPN.out h)
          have C3 := Lib.hid (fun A' c' w h => as_rowsPe (drop_any A' l.length c' l nm w.heap.size w (Nat.le_refl _) (by omega) h))
          have C4 := Lib.hid (fun w h => as_rowsPe (refDrop_any A l.length cap l nm w.heap.size w (Nat.le_refl _) (by omega) h))
          have C5 := Lib.hid (fun w h => right_any A l.length cap l me w (by omega) HW.out HI.out.1 h)
          have C6 := Lib.hid (fun w h => refRight_any A l.length cap l me w (by omega) HW.out HL.out.2 HI.out.1 h)
          have C7 := Lib.hid (fun w h => place_any A l.length cap l nm w (by omega) h)
          have C8 := Lib.hid (fun w h => refPlace_any A l.length cap l nm w (by omega) h)
          generalize rightQ me l = rq at C5 C6
          generalize placeQ l nm = pq at C7 C8
          have e1 : (rq == rq) = true := by simp
          have e2 : (pq == pq) = true := by simp
          clear hl CE CP HP
          go_wp2_with (with_reducible refine wpList_build_0Pe (base := w5.heap.size) rfl rfl (Nat.le_refl _) ?_)
          intro wp bp xp
          have XP := Lib.hid xp
          have LP := Lib.hid (L5.out.below bp)
          have EP : Hid (Ent.At wp gE me) := Lib.hid (Whole.below E5.out bp E5.out.lt)
          have SP : Hid (Peer.At wp gP p) := Lib.hid (Whole.below P5.out bp P5.out.lt)
          have BP := Lib.hid (B5.out.trans (bp.mono B5.out.size))
          have ZP := Lib.hid bp.size
          clear bp xp L5 E5 P5 B5
          go_wp2_with (with_reducible refine wpList_append_litPe rfl _ _ rfl _ (by with_unfolding_all exact rfl) XP.out _ l (by with_unfolding_all exact rfl) LP.out (by have := HL.out.1; omega) ZP.out ?_)
          intro v wq bq oq
          obtain ⟨A', cap', hv⟩ := oq.form
          rw [List.length_map] at hv
          subst hv
          have OQ := Lib.hid oq.rows
          have LQ := Lib.hid (LP.out.below bq)
          have EQ : Hid (Ent.At wq gE me) := Lib.hid (Whole.below EP.out bq EP.out.lt)
          have SQ : Hid (Peer.At wq gP p) := Lib.hid (Whole.below SP.out bq SP.out.lt)
          have BQ := Lib.hid (BP.out.trans (bq.mono BP.out.size))
          clear bq oq XP LP EP SP BP ZP
          have O5 : Hid (RowsAt wq (.slice A' l.length cap') 8 (l.map Peer.enc)) := Lib.hid (OQ.out)
          go_wp2_with (first | (with_reducible refine wpList_load_whole Ent.isRec rfl _ rfl gE (by with_unfolding_all exact rfl) _ _ (Ent.len _) EQ.out ?_) | (with_reducible refine wpList_load_whole Peer.isRec rfl _ rfl gP (by with_unfolding_all exact rfl) _ _ (Peer.len _) SQ.out ?_) | (with_reducible refine wpList_load_rec Ent.isRec rfl _ rfl gP 0 (by with_unfolding_all exact rfl) _ (Ent.len _) (Peer.At.part_entry SQ.out) ?_))
          refine reg_begin (by kernel_rfl) fun w6 b6 z6 => ?_
          have L6 : Hid (RowsAt w6 (.slice A l.length cap) 8 (l.map Peer.enc)) := Lib.hid (LQ.out.below b6)
          have E6 : Hid (Ent.At w6 gE me) := Lib.hid (Whole.below EQ.out b6 EQ.out.lt)
          have P6 : Hid (Peer.At w6 gP p) := Lib.hid (Whole.below SQ.out b6 SQ.out.lt)
          have O6 : Hid (RowsAt w6 (.slice A' l.length cap') 8 (l.map Peer.enc)) := Lib.hid (O5.out.below b6)
          have B6 := Lib.hid (BQ.out.trans (b6.mono BQ.out.size))
          clear b6 z6 LQ EQ SQ O5 BQ
          refine reg_take (i := 0) (v := Ent.val (me)) rfl (by kernel_rfl) (by kernel_rfl) (by kernel_rfl) (fun _ _ _ h => h) (by rfl) ?hy0 ?_
          case hy0 => intro w' hw'; exact exec_load_whole Ent.isRec _ rfl gE rfl _ _ (Ent.len _) w' (Whole.below E6.out hw' E6.out.lt)
          simp only [Act.put, List.setIfInBounds_toArray, List.set_cons_zero, List.set_cons_succ]
          refine reg_take (i := 1) (v := ?_) rfl (by kernel_rfl) (by kernel_rfl) (by kernel_rfl) (fun _ _ _ h => h) (by rfl) ?hy1 ?_
          case hy1 => intro w' hw'; go_simp; (try with_reducible rfl)
          simp only [Act.put, List.setIfInBounds_toArray, List.set_cons_zero, List.set_cons_succ]
          refine reg_take (i := 2) (v := Peer.val (p)) rfl (by kernel_rfl) (by kernel_rfl) (by kernel_rfl) (fun _ _ _ h => h) (by rfl) ?hy2 ?_
          case hy2 => intro w' hw'; exact exec_load_whole Peer.isRec _ rfl gP rfl _ _ (Peer.len _) w' (Whole.below P6.out hw' P6.out.lt)
          simp only [Act.put, List.setIfInBounds_toArray, List.set_cons_zero, List.set_cons_succ]
          refine reg_take (i := 4) (v := Ent.val (me)) rfl (by kernel_rfl) (by kernel_rfl) (by kernel_rfl) (fun _ _ _ h => h) (by rfl) ?hy4 ?_
          case hy4 => intro w' hw'; exact exec_load_whole Ent.isRec _ rfl gE rfl _ _ (Ent.len _) w' (Whole.below E6.out hw' E6.out.lt)
          simp only [Act.put, List.setIfInBounds_toArray, List.set_cons_zero, List.set_cons_succ]
          refine reg_take (i := 5) (v := ?_) rfl (by kernel_rfl) (by kernel_rfl) (by kernel_rfl) (fun _ _ _ h => h) (by rfl) ?hy5 ?_
          case hy5 => intro w' hw'; go_simp; (try with_reducible rfl)
          simp only [Act.put, List.setIfInBounds_toArray, List.set_cons_zero, List.set_cons_succ]
          refine reg_take (i := 6) (v := Peer.val (p)) rfl (by kernel_rfl) (by kernel_rfl) (by kernel_rfl) (fun _ _ _ h => h) (by rfl) ?hy6 ?_
          case hy6 => intro w' hw'; exact exec_load_whole Peer.isRec _ rfl gP rfl _ _ (Peer.len _) w' (Whole.below P6.out hw' P6.out.lt)
          simp only [Act.put, List.setIfInBounds_toArray, List.set_cons_zero, List.set_cons_succ]
          refine reg_call (i := 3) rfl (by kernel_rfl) (fun K' hK => ?_)
          go_simp
          refine (C1.out A' cap' w6 O6.out).mono ?_
          rintro e7 w7 ⟨v33, rfl, y33, b7⟩
          have L7 : Hid (RowsAt w7 (.slice A l.length cap) 8 (l.map Peer.enc)) := Lib.hid (L6.out.below b7)
          have E7 : Hid (Ent.At w7 gE me) := Lib.hid (Whole.below E6.out b7 E6.out.lt)
          have P7 : Hid (Peer.At w7 gP p) := Lib.hid (Whole.below P6.out b7 P6.out.lt)
          have O7 : Hid (RowsAt w7 (.slice A' l.length cap') 8 (l.map Peer.enc)) := Lib.hid (O6.out.below b7)
          have B7 := Lib.hid (B6.out.trans (b7.mono B6.out.size))
          have PA7 : Hid (RowsAt w7 v33 8 ((addQ me l p).map Peer.enc)) := Lib.hid y33
          refine hK.out _ _ b7 ?_
          clear hK K' b7 L6 E6 P6 O6 B6 y33
          refine reg_call (i := 7) rfl (by kernel_rfl) (fun K' hK => ?_)
          go_simp
          refine (C2.out w7 L7.out).mono ?_
          rintro e8 w8 ⟨v37, rfl, y37, b8⟩
          have L8 : Hid (RowsAt w8 (.slice A l.length cap) 8 (l.map Peer.enc)) := Lib.hid (L7.out.below b8)
          have E8 : Hid (Ent.At w8 gE me) := Lib.hid (Whole.below E7.out b8 E7.out.lt)
          have P8 : Hid (Peer.At w8 gP p) := Lib.hid (Whole.below P7.out b8 P7.out.lt)
          have O8 : Hid (RowsAt w8 (.slice A' l.length cap') 8 (l.map Peer.enc)) := Lib.hid (O7.out.below b8)
          have PA8 : Hid (RowsAt w8 v33 8 ((addQ me l p).map Peer.enc)) := Lib.hid (PA7.out.below b8)
          have B8 := Lib.hid (B7.out.trans (b8.mono B7.out.size))
          have PB8 : Hid (RowsAt w8 v37 8 ((addQ me l p).map Peer.enc)) := Lib.hid y37
          refine hK.out _ _ b8 ?_
          clear hK K' b8 L7 E7 P7 O7 PA7 B7 y37
          refine reg_call (i := 8) rfl (by kernel_rfl) (fun K' hK => ?_)
          go_simp
          refine (refPeersSame_eq v33 v37 _ w8 H1.out PA8.out PB8.out).mono ?_
          rintro e9 w9 ⟨rfl, b9⟩
          have L9 : Hid (RowsAt w9 (.slice A l.length cap) 8 (l.map Peer.enc)) := Lib.hid (L8.out.below b9)
          have E9 : Hid (Ent.At w9 gE me) := Lib.hid (Whole.below E8.out b9 E8.out.lt)
          have P9 : Hid (Peer.At w9 gP p) := Lib.hid (Whole.below P8.out b9 P8.out.lt)
          have O9 : Hid (RowsAt w9 (.slice A' l.length cap') 8 (l.map Peer.enc)) := Lib.hid (O8.out.below b9)
          have PA9 : Hid (RowsAt w9 v33 8 ((addQ me l p).map Peer.enc)) := Lib.hid (PA8.out.below b9)
          have PB9 : Hid (RowsAt w9 v37 8 ((addQ me l p).map Peer.enc)) := Lib.hid (PB8.out.below b9)
          have B9 := Lib.hid (B8.out.trans (b9.mono B8.out.size))
          refine hK.out _ _ b9 ?_
          clear hK K' b9 L8 E8 P8 O8 PA8 PB8 B8
          refine reg_take (i := 9) (v := ?_) rfl (by kernel_rfl) (by kernel_rfl) (by kernel_rfl) (fun _ _ _ h => h) (by rfl) ?hy9 ?_
          case hy9 => intro w' hw'; go_simp; (try with_reducible rfl)
          simp only [Act.put, List.setIfInBounds_toArray, List.set_cons_zero, List.set_cons_succ]
          refine reg_take (i := 10) (v := ?_) rfl (by kernel_rfl) (by kernel_rfl) (by kernel_rfl) (fun _ _ _ h => h) (by rfl) ?hy10 ?_
          case hy10 => intro w' hw'; go_simp; (try with_reducible rfl)
          simp only [Act.put, List.setIfInBounds_toArray, List.set_cons_zero, List.set_cons_succ]
          refine reg_take (i := 11) (v := ?_) rfl (by kernel_rfl) (by kernel_rfl) (by kernel_rfl) (fun _ _ _ h => h) (by rfl) ?hy11 ?_
          case hy11 => intro w' hw'; go_simp; (try with_reducible rfl)
          simp only [Act.put, List.setIfInBounds_toArray, List.set_cons_zero, List.set_cons_succ]
          refine reg_take (i := 13) (v := ?_) rfl (by kernel_rfl) (by kernel_rfl) (by kernel_rfl) (fun _ _ _ h => h) (by rfl) ?hy13 ?_
          case hy13 => intro w' hw'; go_simp; (try with_reducible rfl)
          simp only [Act.put, List.setIfInBounds_toArray, List.set_cons_zero, List.set_cons_succ]
          refine reg_take (i := 14) (v := ?_) rfl (by kernel_rfl) (by kernel_rfl) (by kernel_rfl) (fun _ _ _ h => h) (by rfl) ?hy14 ?_
          case hy14 => intro w' hw'; go_simp; (try with_reducible rfl)
          simp only [Act.put, List.setIfInBounds_toArray, List.set_cons_zero, List.set_cons_succ]
          refine reg_call (i := 12) rfl (by kernel_rfl) (fun K' hK => ?_)
          go_simp
          refine (C3.out A' cap' w9 O9.out).mono ?_
          rintro e10 w10 ⟨v42, rfl, y42, b10⟩
          have L10 : Hid (RowsAt w10 (.slice A l.length cap) 8 (l.map Peer.enc)) := Lib.hid (L9.out.below b10)
          have E10 : Hid (Ent.At w10 gE me) := Lib.hid (Whole.below E9.out b10 E9.out.lt)
          have P10 : Hid (Peer.At w10 gP p) := Lib.hid (Whole.below P9.out b10 P9.out.lt)
          have O10 : Hid (RowsAt w10 (.slice A' l.length cap') 8 (l.map Peer.enc)) := Lib.hid (O9.out.below b10)
          have PA10 : Hid (RowsAt w10 v33 8 ((addQ me l p).map Peer.enc)) := Lib.hid (PA9.out.below b10)
          have PB10 : Hid (RowsAt w10 v37 8 ((addQ me l p).map Peer.enc)) := Lib.hid (PB9.out.below b10)
          have B10 := Lib.hid (B9.out.trans (b10.mono B9.out.size))
          have PC10 : Hid (RowsAt w10 v42 8 ((dropQ l nm).map Peer.enc)) := Lib.hid y42
          refine hK.out _ _ b10 ?_
          clear hK K' b10 L9 E9 P9 O9 PA9 PB9 B9 y42
          refine reg_call (i := 15) rfl (by kernel_rfl) (fun K' hK => ?_)
          go_simp
          refine (C4.out w10 L10.out).mono ?_
          rintro e11 w11 ⟨v45, rfl, y45, b11⟩
          have L11 : Hid (RowsAt w11 (.slice A l.length cap) 8 (l.map Peer.enc)) := Lib.hid (L10.out.below b11)
          have E11 : Hid (Ent.At w11 gE me) := Lib.hid (Whole.below E10.out b11 E10.out.lt)
          have P11 : Hid (Peer.At w11 gP p) := Lib.hid (Whole.below P10.out b11 P10.out.lt)
          have O11 : Hid (RowsAt w11 (.slice A' l.length cap') 8 (l.map Peer.enc)) := Lib.hid (O10.out.below b11)
          have PA11 : Hid (RowsAt w11 v33 8 ((addQ me l p).map Peer.enc)) := Lib.hid (PA10.out.below b11)
          have PB11 : Hid (RowsAt w11 v37 8 ((addQ me l p).map Peer.enc)) := Lib.hid (PB10.out.below b11)
          have PC11 : Hid (RowsAt w11 v42 8 ((dropQ l nm).map Peer.enc)) := Lib.hid (PC10.out.below b11)
          have B11 := Lib.hid (B10.out.trans (b11.mono B10.out.size))
          have PD11 : Hid (RowsAt w11 v45 8 ((dropQ l nm).map Peer.enc)) := Lib.hid y45
          refine hK.out _ _ b11 ?_
          clear hK K' b11 L10 E10 P10 O10 PA10 PB10 PC10 B10 y45
          refine reg_call (i := 16) rfl (by kernel_rfl) (fun K' hK => ?_)
          go_simp
          refine (refPeersSame_eq v42 v45 _ w11 H2.out PC11.out PD11.out).mono ?_
          rintro e12 w12 ⟨rfl, b12⟩
          have L12 : Hid (RowsAt w12 (.slice A l.length cap) 8 (l.map Peer.enc)) := Lib.hid (L11.out.below b12)
          have E12 : Hid (Ent.At w12 gE me) := Lib.hid (Whole.below E11.out b12 E11.out.lt)
          have P12 : Hid (Peer.At w12 gP p) := Lib.hid (Whole.below P11.out b12 P11.out.lt)
          have O12 : Hid (RowsAt w12 (.slice A' l.length cap') 8 (l.map Peer.enc)) := Lib.hid (O11.out.below b12)
          have PA12 : Hid (RowsAt w12 v33 8 ((addQ me l p).map Peer.enc)) := Lib.hid (PA11.out.below b12)
          have PB12 : Hid (RowsAt w12 v37 8 ((addQ me l p).map Peer.enc)) := Lib.hid (PB11.out.below b12)
          have PC12 : Hid (RowsAt w12 v42 8 ((dropQ l nm).map Peer.enc)) := Lib.hid (PC11.out.below b12)
          have PD12 : Hid (RowsAt w12 v45 8 ((dropQ l nm).map Peer.enc)) := Lib.hid (PD11.out.below b12)
          have B12 := Lib.hid (B11.out.trans (b12.mono B11.out.size))
          refine hK.out _ _ b12 ?_
          clear hK K' b12 L11 E11 P11 O11 PA11 PB11 PC11 PD11 B11
          refine reg_take (i := 17) (v := ?_) rfl (by kernel_rfl) (by kernel_rfl) (by kernel_rfl) (fun _ _ _ h => h) (by rfl) ?hy17 ?_
          case hy17 => intro w' hw'; go_simp; (try with_reducible rfl)
          simp only [Act.put, List.setIfInBounds_toArray, List.set_cons_zero, List.set_cons_succ]
          refine reg_take (i := 18) (v := ?_) rfl (by kernel_rfl) (by kernel_rfl) (by kernel_rfl) (fun _ _ _ h => h) (by rfl) ?hy18 ?_
          case hy18 => intro w' hw'; go_simp; (try with_reducible rfl)
          simp only [Act.put, List.setIfInBounds_toArray, List.set_cons_zero, List.set_cons_succ]
          refine reg_take (i := 19) (v := Ent.val (me)) rfl (by kernel_rfl) (by kernel_rfl) (by kernel_rfl) (fun _ _ _ h => h) (by rfl) ?hy19 ?_
          case hy19 => intro w' hw'; exact exec_load_whole Ent.isRec _ rfl gE rfl _ _ (Ent.len _) w' (Whole.below E12.out hw' E12.out.lt)
          simp only [Act.put, List.setIfInBounds_toArray, List.set_cons_zero, List.set_cons_succ]
          refine reg_take (i := 20) (v := ?_) rfl (by kernel_rfl) (by kernel_rfl) (by kernel_rfl) (fun _ _ _ h => h) (by rfl) ?hy20 ?_
          case hy20 => intro w' hw'; go_simp; (try with_reducible rfl)
          simp only [Act.put, List.setIfInBounds_toArray, List.set_cons_zero, List.set_cons_succ]
          refine reg_take (i := 22) (v := Ent.val (me)) rfl (by kernel_rfl) (by kernel_rfl) (by kernel_rfl) (fun _ _ _ h => h) (by rfl) ?hy22 ?_
          case hy22 => intro w' hw'; exact exec_load_whole Ent.isRec _ rfl gE rfl _ _ (Ent.len _) w' (Whole.below E12.out hw' E12.out.lt)
          simp only [Act.put, List.setIfInBounds_toArray, List.set_cons_zero, List.set_cons_succ]
          refine reg_take (i := 23) (v := ?_) rfl (by kernel_rfl) (by kernel_rfl) (by kernel_rfl) (fun _ _ _ h => h) (by rfl) ?hy23 ?_
          case hy23 => intro w' hw'; go_simp; (try with_reducible rfl)
          simp only [Act.put, List.setIfInBounds_toArray, List.set_cons_zero, List.set_cons_succ]
          refine reg_call (i := 21) rfl (by kernel_rfl) (fun K' hK => ?_)
          go_simp
          refine (C5.out w12 L12.out).mono ?_
          rintro e13 w13 ⟨rfl, b13⟩
          have L13 : Hid (RowsAt w13 (.slice A l.length cap) 8 (l.map Peer.enc)) := Lib.hid (L12.out.below b13)
          have E13 : Hid (Ent.At w13 gE me) := Lib.hid (Whole.below E12.out b13 E12.out.lt)
          have P13 : Hid (Peer.At w13 gP p) := Lib.hid (Whole.below P12.out b13 P12.out.lt)
          have O13 : Hid (RowsAt w13 (.slice A' l.length cap') 8 (l.map Peer.enc)) := Lib.hid (O12.out.below b13)
          have PA13 : Hid (RowsAt w13 v33 8 ((addQ me l p).map Peer.enc)) := Lib.hid (PA12.out.below b13)
          have PB13 : Hid (RowsAt w13 v37 8 ((addQ me l p).map Peer.enc)) := Lib.hid (PB12.out.below b13)
          have PC13 : Hid (RowsAt w13 v42 8 ((dropQ l nm).map Peer.enc)) := Lib.hid (PC12.out.below b13)
          have PD13 : Hid (RowsAt w13 v45 8 ((dropQ l nm).map Peer.enc)) := Lib.hid (PD12.out.below b13)
          have B13 := Lib.hid (B12.out.trans (b13.mono B12.out.size))
          refine hK.out _ _ b13 ?_
          clear hK K' b13 L12 E12 P12 O12 PA12 PB12 PC12 PD12 B12
          refine reg_call (i := 24) rfl (by kernel_rfl) (fun K' hK => ?_)
          go_simp
          refine (C6.out w13 L13.out).mono ?_
          rintro e14 w14 ⟨rfl, b14⟩
          have L14 : Hid (RowsAt w14 (.slice A l.length cap) 8 (l.map Peer.enc)) := Lib.hid (L13.out.below b14)
          have E14 : Hid (Ent.At w14 gE me) := Lib.hid (Whole.below E13.out b14 E13.out.lt)
          have P14 : Hid (Peer.At w14 gP p) := Lib.hid (Whole.below P13.out b14 P13.out.lt)
          have O14 : Hid (RowsAt w14 (.slice A' l.length cap') 8 (l.map Peer.enc)) := Lib.hid (O13.out.below b14)
          have PA14 : Hid (RowsAt w14 v33 8 ((addQ me l p).map Peer.enc)) := Lib.hid (PA13.out.below b14)
          have PB14 : Hid (RowsAt w14 v37 8 ((addQ me l p).map Peer.enc)) := Lib.hid (PB13.out.below b14)
          have PC14 : Hid (RowsAt w14 v42 8 ((dropQ l nm).map Peer.enc)) := Lib.hid (PC13.out.below b14)
          have PD14 : Hid (RowsAt w14 v45 8 ((dropQ l nm).map Peer.enc)) := Lib.hid (PD13.out.below b14)
          have B14 := Lib.hid (B13.out.trans (b14.mono B13.out.size))
          refine hK.out _ _ b14 ?_
          clear hK K' b14 L13 E13 P13 O13 PA13 PB13 PC13 PD13 B13
          refine reg_take (i := 25) (v := ?_) rfl (by kernel_rfl) (by kernel_rfl) (by kernel_rfl) (fun _ _ _ h => h) (by rfl) ?hy25 ?_
          case hy25 => intro w' hw'; go_simp; (try with_reducible rfl)
          simp only [Act.put, List.setIfInBounds_toArray, List.set_cons_zero, List.set_cons_succ]
          refine reg_take (i := 26) (v := ?_) rfl (by kernel_rfl) (by kernel_rfl) (by kernel_rfl) (fun _ _ _ h => h) (by rfl) ?hy26 ?_
          case hy26 => intro w' hw'; go_simp; (try with_reducible rfl)
          simp only [Act.put, List.setIfInBounds_toArray, List.set_cons_zero, List.set_cons_succ]
          refine reg_take (i := 27) (v := ?_) rfl (by kernel_rfl) (by kernel_rfl) (by kernel_rfl) (fun _ _ _ h => h) (by rfl) ?hy27 ?_
          case hy27 => intro w' hw'; go_simp; (try with_reducible rfl)
          simp only [Act.put, List.setIfInBounds_toArray, List.set_cons_zero, List.set_cons_succ]
          refine reg_take (i := 28) (v := ?_) rfl (by kernel_rfl) (by kernel_rfl) (by kernel_rfl) (fun _ _ _ h => h) (by rfl) ?hy28 ?_
          case hy28 => intro w' hw'; go_simp; (try with_reducible rfl)
          simp only [Act.put, List.setIfInBounds_toArray, List.set_cons_zero, List.set_cons_succ]
          refine reg_take (i := 29) (v := ?_) rfl (by kernel_rfl) (by kernel_rfl) (by kernel_rfl) (fun _ _ _ h => h) (by rfl) ?hy29 ?_
          case hy29 => intro w' hw'; go_simp; (try with_reducible rfl)
          simp only [Act.put, List.setIfInBounds_toArray, List.set_cons_zero, List.set_cons_succ]
          refine reg_take (i := 31) (v := ?_) rfl (by kernel_rfl) (by kernel_rfl) (by kernel_rfl) (fun _ _ _ h => h) (by rfl) ?hy31 ?_
          case hy31 => intro w' hw'; go_simp; (try with_reducible rfl)
          simp only [Act.put, List.setIfInBounds_toArray, List.set_cons_zero, List.set_cons_succ]
          refine reg_take (i := 32) (v := ?_) rfl (by kernel_rfl) (by kernel_rfl) (by kernel_rfl) (fun _ _ _ h => h) (by rfl) ?hy32 ?_
          case hy32 => intro w' hw'; go_simp; (try with_reducible rfl)
          simp only [Act.put, List.setIfInBounds_toArray, List.set_cons_zero, List.set_cons_succ]
          refine reg_call (i := 30) rfl (by kernel_rfl) (fun K' hK => ?_)
          go_simp
          refine (C7.out w14 L14.out).mono ?_
          rintro e15 w15 ⟨rfl, b15⟩
          have L15 : Hid (RowsAt w15 (.slice A l.length cap) 8 (l.map Peer.enc)) := Lib.hid (L14.out.below b15)
          have E15 : Hid (Ent.At w15 gE me) := Lib.hid (Whole.below E14.out b15 E14.out.lt)
          have P15 : Hid (Peer.At w15 gP p) := Lib.hid (Whole.below P14.out b15 P14.out.lt)
          have O15 : Hid (RowsAt w15 (.slice A' l.length cap') 8 (l.map Peer.enc)) := Lib.hid (O14.out.below b15)
          have PA15 : Hid (RowsAt w15 v33 8 ((addQ me l p).map Peer.enc)) := Lib.hid (PA14.out.below b15)
          have PB15 : Hid (RowsAt w15 v37 8 ((addQ me l p).map Peer.enc)) := Lib.hid (PB14.out.below b15)
          have PC15 : Hid (RowsAt w15 v42 8 ((dropQ l nm).map Peer.enc)) := Lib.hid (PC14.out.below b15)
          have PD15 : Hid (RowsAt w15 v45 8 ((dropQ l nm).map Peer.enc)) := Lib.hid (PD14.out.below b15)
          have B15 := Lib.hid (B14.out.trans (b15.mono B14.out.size))
          refine hK.out _ _ b15 ?_
          clear hK K' b15 L14 E14 P14 O14 PA14 PB14 PC14 PD14 B14
          refine reg_call (i := 33) rfl (by kernel_rfl) (fun K' hK => ?_)
          go_simp
          refine (C8.out w15 L15.out).mono ?_
          rintro e16 w16 ⟨rfl, b16⟩
          have L16 : Hid (RowsAt w16 (.slice A l.length cap) 8 (l.map Peer.enc)) := Lib.hid (L15.out.below b16)
          have E16 : Hid (Ent.At w16 gE me) := Lib.hid (Whole.below E15.out b16 E15.out.lt)
          have P16 : Hid (Peer.At w16 gP p) := Lib.hid (Whole.below P15.out b16 P15.out.lt)
          have O16 : Hid (RowsAt w16 (.slice A' l.length cap') 8 (l.map Peer.enc)) := Lib.hid (O15.out.below b16)
          have PA16 : Hid (RowsAt w16 v33 8 ((addQ me l p).map Peer.enc)) := Lib.hid (PA15.out.below b16)
          have PB16 : Hid (RowsAt w16 v37 8 ((addQ me l p).map Peer.enc)) := Lib.hid (PB15.out.below b16)
          have PC16 : Hid (RowsAt w16 v42 8 ((dropQ l nm).map Peer.enc)) := Lib.hid (PC15.out.below b16)
          have PD16 : Hid (RowsAt w16 v45 8 ((dropQ l nm).map Peer.enc)) := Lib.hid (PD15.out.below b16)
          have B16 := Lib.hid (B15.out.trans (b16.mono B15.out.size))
          refine hK.out _ _ b16 ?_
          clear hK K' b16 L15 E15 P15 O15 PA15 PB15 PC15 PD15 B15
          refine reg_take (i := 34) (v := ?_) rfl (by kernel_rfl) (by kernel_rfl) (by kernel_rfl) (fun _ _ _ h => h) (by rfl) ?hy34 ?_
          case hy34 => intro w' hw'; go_simp; (try with_reducible rfl)
          simp only [Act.put, List.setIfInBounds_toArray, List.set_cons_zero, List.set_cons_succ]
          refine reg_take (i := 35) (v := ?_) rfl (by kernel_rfl) (by kernel_rfl) (by kernel_rfl) (fun _ _ _ h => h) (by rfl) ?hy35 ?_
          case hy35 => intro w' hw'; go_simp; (try with_reducible rfl)
          simp only [Act.put, List.setIfInBounds_toArray, List.set_cons_zero, List.set_cons_succ]
          refine reg_take (i := 36) (v := ?_) rfl (by kernel_rfl) (by kernel_rfl) (by kernel_rfl) (fun _ _ _ h => h) (by rfl) ?hy36 ?_
          case hy36 => intro w' hw'; go_simp; (try with_reducible rfl)
          simp only [Act.put, List.setIfInBounds_toArray, List.set_cons_zero, List.set_cons_succ]
          refine reg_take (i := 37) (v := ?_) rfl (by kernel_rfl) (by kernel_rfl) (by kernel_rfl) (fun _ _ _ h => h) (by rfl) ?hy37 ?_
          case hy37 => intro w' hw'; go_simp; (try with_reducible rfl)
          simp only [Act.put, List.setIfInBounds_toArray, List.set_cons_zero, List.set_cons_succ]
          refine reg_take (i := 38) (v := ?_) rfl (by kernel_rfl) (by kernel_rfl) (by kernel_rfl) (fun _ _ _ h => h) (by rfl) ?hy38 ?_
          case hy38 => intro w' hw'; go_simp; (try with_reducible rfl)
          simp only [Act.put, List.setIfInBounds_toArray, List.set_cons_zero, List.set_cons_succ]
          refine reg_call (i := 39) rfl (by kernel_rfl) (fun K' hK => ?_)
          go_simp
          refine (refPeersSame_eq _ _ l w16 (by have := HL.out.1; omega) O16.out L16.out).mono ?_
          rintro e17 w17 ⟨rfl, b17⟩
          have L17 : Hid (RowsAt w17 (.slice A l.length cap) 8 (l.map Peer.enc)) := Lib.hid (L16.out.below b17)
          have E17 : Hid (Ent.At w17 gE me) := Lib.hid (Whole.below E16.out b17 E16.out.lt)
          have P17 : Hid (Peer.At w17 gP p) := Lib.hid (Whole.below P16.out b17 P16.out.lt)
          have O17 : Hid (RowsAt w17 (.slice A' l.length cap') 8 (l.map Peer.enc)) := Lib.hid (O16.out.below b17)
          have PA17 : Hid (RowsAt w17 v33 8 ((addQ me l p).map Peer.enc)) := Lib.hid (PA16.out.below b17)
          have PB17 : Hid (RowsAt w17 v37 8 ((addQ me l p).map Peer.enc)) := Lib.hid (PB16.out.below b17)
          have PC17 : Hid (RowsAt w17 v42 8 ((dropQ l nm).map Peer.enc)) := Lib.hid (PC16.out.below b17)
          have PD17 : Hid (RowsAt w17 v45 8 ((dropQ l nm).map Peer.enc)) := Lib.hid (PD16.out.below b17)
          have B17 := Lib.hid (B16.out.trans (b17.mono B16.out.size))
          refine hK.out _ _ b17 ?_
          clear hK K' b17 L16 E16 P16 O16 PA16 PB16 PC16 PD16 B16
          refine reg_take (i := 40) (v := ?_) rfl (by kernel_rfl) (by kernel_rfl) (by kernel_rfl) (fun _ _ _ h => h) (by rfl) ?hy40 ?_
          case hy40 => intro w' hw'; go_simp; (try with_reducible rfl)
          simp only [Act.put, List.setIfInBounds_toArray, List.set_cons_zero, List.set_cons_succ]
          refine reg_take (i := 41) (v := ?_) rfl (by kernel_rfl) (by kernel_rfl) (by kernel_rfl) (fun _ _ _ h => h) (by rfl) ?hy41 ?_
          case hy41 => intro w' hw'; go_simp; (try with_reducible rfl)
          simp only [Act.put, List.setIfInBounds_toArray, List.set_cons_zero, List.set_cons_succ]
          refine reg_call (i := 42) rfl (by kernel_rfl) (fun K' hK => ?_)
          go_simp
          refine (works24 w17).mono ?_
          rintro e18 w18 ⟨rfl, b18⟩
          have L18 : Hid (RowsAt w18 (.slice A l.length cap) 8 (l.map Peer.enc)) := Lib.hid (L17.out.below b18)
          have E18 : Hid (Ent.At w18 gE me) := Lib.hid (Whole.below E17.out b18 E17.out.lt)
          have P18 : Hid (Peer.At w18 gP p) := Lib.hid (Whole.below P17.out b18 P17.out.lt)
          have O18 : Hid (RowsAt w18 (.slice A' l.length cap') 8 (l.map Peer.enc)) := Lib.hid (O17.out.below b18)
          have PA18 : Hid (RowsAt w18 v33 8 ((addQ me l p).map Peer.enc)) := Lib.hid (PA17.out.below b18)
          have PB18 : Hid (RowsAt w18 v37 8 ((addQ me l p).map Peer.enc)) := Lib.hid (PB17.out.below b18)
          have PC18 : Hid (RowsAt w18 v42 8 ((dropQ l nm).map Peer.enc)) := Lib.hid (PC17.out.below b18)
          have PD18 : Hid (RowsAt w18 v45 8 ((dropQ l nm).map Peer.enc)) := Lib.hid (PD17.out.below b18)
          have B18 := Lib.hid (B17.out.trans (b18.mono B17.out.size))
          refine hK.out _ _ b18 ?_
          clear hK K' b18 L17 E17 P17 O17 PA17 PB17 PC17 PD17 B17
          refine reg_take (i := 43) (v := ?_) rfl (by kernel_rfl) (by kernel_rfl) (by kernel_rfl) (fun _ _ _ h => h) (by rfl) ?hy43 ?_
          case hy43 => intro w' hw'; go_simp; (try with_reducible rfl)
          simp only [Act.put, List.setIfInBounds_toArray, List.set_cons_zero, List.set_cons_succ]
          refine reg_take (i := 44) (v := ?_) rfl (by kernel_rfl) (by kernel_rfl) (by kernel_rfl) (fun _ _ _ h => h) (by rfl) ?hy44 ?_
          case hy44 => intro w' hw'; go_simp; (try with_reducible rfl)
          simp only [Act.put, List.setIfInBounds_toArray, List.set_cons_zero, List.set_cons_succ]
          refine reg_end (by kernel_rfl) ?_
          go_wp2
          go_ret
          exact ⟨rfl, B18.out⟩
end Go.Proofs.Ytknccbdcfpncnaa
