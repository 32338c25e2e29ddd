/- Layer 24: PeersRight's core. -/
import Derived.Test.YtknccbdcfpncnaaPnH
import Derived.Test.YtknccbdcfpncnaaPnK
import Derived.Test.YtknccbdcfpncnaaPnW
namespace Go.Proofs.Ytknccbdcfpncnaa
set_option maxRecDepth 100000
open Go.RowKit

theorem Words.add {me : Ent} {l : List Peer} {p : Peer} (h : Words l) (hp : p.entry.id < 18446744073709551616) : Words (addQ me l p) := by
  intro x hx
  rw [addQ] at hx
  split at hx
  · exact h x hx
  · split at hx
    · exact h x hx
    · have hx := List.mem_of_mem_take hx
      rcases List.mem_append.1 hx with hx | hx
      · rcases List.mem_append.1 hx with hx | hx
        · exact h x (List.mem_of_mem_take (List.mem_filter.1 hx).1)
        · rw [List.mem_singleton] at hx; subst hx; exact hp
      · exact h x (List.mem_of_mem_drop (List.mem_filter.1 hx).1)
set_option maxRecDepth 100000 in
set_option maxHeartbeats 2000000 in
theorem right24_core (me : Ent) (A : Option Addr) (m cap : Nat) (l : List Peer) (p : Peer) (w : World) (hw : Words l) (hi : me.id < 18446744073709551616) (hp : p.entry.id < 18446744073709551616) (h : RowsAt w (.slice A m cap) 8 (l.map Peer.enc)) :
    Calls Try.prog 5 #[me.val, .slice A m cap, p.val] w fun e w' => e = .returned (.bool true) ∧ Below w.heap.size w w' := by
  have hlen := h.size.1
  rw [List.length_map] at hlen
  subst hlen
  have CG := Lib.hid (fun w h => greatPs_any A l.length cap l w h)
  have CE := Lib.hid (fun w => great_any me w)
  have CP := Lib.hid (fun w => great_any p.entry w)
  have HN : Hid (greatPs l = false → l.length ≤ 40 ∧ Short l) := Lib.hid greatPs_no
  obtain ⟨g1, hg1⟩ : ∃ g, g = greatPs l := ⟨_, rfl⟩
  obtain ⟨g2, hg2⟩ : ∃ g, g = greatB me := ⟨_, rfl⟩
  obtain ⟨g3, hg3⟩ : ∃ g, g = greatB p.entry := ⟨_, rfl⟩
  simp only [← hg1, ← hg2, ← hg3] at CG CE CP HN
  clear hg1 hg2 hg3
  have HW := Lib.hid hw
  have HI := Lib.hid (And.intro hi hp)
  have HRL : Hid (rightQ me l = true → RightL me l) := Lib.hid (rightQ_iff me l).1
  clear hw hi hp
  go_enter Try.func5, Try.ntmps5
  have L0 : Hid (RowsAt w (.slice A l.length cap) 8 (l.map Peer.enc)) := Lib.hid (h)
  clear h
  go_wp2_with (refine wpList_box_row rfl 24 _ rfl me.enc.toArray (by with_unfolding_all exact rfl) ?_)
  intro w1 b1 x1 z1
  obtain ⟨gE, hgE⟩ : ∃ g, g = w.heap.size := ⟨_, rfl⟩
  have M_E := Lib.hid (show w.heap.size ≤ gE from by rw [hgE]; exact Nat.le_refl _)
  have L1 : Hid (RowsAt w1 (.slice A l.length cap) 8 (l.map Peer.enc)) := Lib.hid (L0.out.below b1)
  have B1 := Lib.hid b1
  rw [← hgE] at x1 ⊢
  have E1 : Hid (Ent.At w1 gE me) := Lib.hid x1
  clear b1 x1 z1 hgE L0
  go_wp2_with (first | (with_reducible refine wpList_load_whole Ent.isRec rfl _ rfl gE (by with_unfolding_all exact rfl) _ _ (Ent.len _) E1.out ?_) | (refine wpList_box_row rfl 27 _ rfl p.enc.toArray (by with_unfolding_all exact rfl) ?_))
  intro w2 b2 x2 z2
  obtain ⟨gP, hgP⟩ : ∃ g, g = w1.heap.size := ⟨_, rfl⟩
  have N_E_P := Lib.hid (show gE < gP from by rw [hgP]; exact E1.out.lt)
  have M_P := Lib.hid (show w.heap.size ≤ gP from by rw [hgP]; exact B1.out.size)
  have L2 : Hid (RowsAt w2 (.slice A l.length cap) 8 (l.map Peer.enc)) := Lib.hid (L1.out.below b2)
  have E2 : Hid (Ent.At w2 gE me) := Lib.hid (Whole.below E1.out b2 E1.out.lt)
  have B2 := Lib.hid (B1.out.trans (b2.mono B1.out.size))
  rw [← hgP] at x2 ⊢
  have P2 : Hid (Peer.At w2 gP p) := Lib.hid x2
  clear b2 x2 z2 hgP L1 E1 B1
  go_wp2_with (first | (with_reducible refine wpList_load_whole Ent.isRec rfl _ rfl gE (by with_unfolding_all exact rfl) _ _ (Ent.len _) E2.out ?_) | (with_reducible refine wpList_load_whole Peer.isRec rfl _ rfl gP (by with_unfolding_all exact rfl) _ _ (Peer.len _) P2.out ?_) | (with_reducible refine wpList_load_rec Ent.isRec rfl _ rfl gP 0 (by with_unfolding_all exact rfl) _ (Ent.len _) (Peer.At.part_entry P2.out) ?_))
  refine (works24 w2).mono ?_
  rintro e3 w3 ⟨rfl, b3⟩
  have L3 : Hid (RowsAt w3 (.slice A l.length cap) 8 (l.map Peer.enc)) := Lib.hid (L2.out.below b3)
  have E3 : Hid (Ent.At w3 gE me) := Lib.hid (Whole.below E2.out b3 E2.out.lt)
  have P3 : Hid (Peer.At w3 gP p) := Lib.hid (Whole.below P2.out b3 P2.out.lt)
  have B3 := Lib.hid (B2.out.trans (b3.mono B2.out.size))
  clear b3 L2 E2 P2 B2
  go_wp2_with (first | (with_reducible refine wpList_load_whole Ent.isRec rfl _ rfl gE (by with_unfolding_all exact rfl) _ _ (Ent.len _) E3.out ?_) | (with_reducible refine wpList_load_whole Peer.isRec rfl _ rfl gP (by with_unfolding_all exact rfl) _ _ (Peer.len _) P3.out ?_) | (with_reducible refine wpList_load_rec Ent.isRec rfl _ rfl gP 0 (by with_unfolding_all exact rfl) _ (Ent.len _) (Peer.At.part_entry P3.out) ?_))
  refine (CG.out w3 L3.out).mono ?_
  rintro e4 w4 ⟨rfl, b4⟩
  have L4 : Hid (RowsAt w4 (.slice A l.length cap) 8 (l.map Peer.enc)) := Lib.hid (L3.out.below b4)
  have E4 : Hid (Ent.At w4 gE me) := Lib.hid (Whole.below E3.out b4 E3.out.lt)
  have P4 : Hid (Peer.At w4 gP p) := Lib.hid (Whole.below P3.out b4 P3.out.lt)
  have B4 := Lib.hid (B3.out.trans (b4.mono B3.out.size))
  clear b4 L3 E3 P3 B3
  cases g1 with
  | true =>
    go_wp2
    go_ret
    exact ⟨rfl, B4.out⟩
  | false =>
    have HL := Lib.hid (HN.out rfl).1
    clear HN CG
    go_wp2_with (first | (with_reducible refine wpList_load_whole Ent.isRec rfl _ rfl gE (by with_unfolding_all exact rfl) _ _ (Ent.len _) E4.out ?_) | (with_reducible refine wpList_load_whole Peer.isRec rfl _ rfl gP (by with_unfolding_all exact rfl) _ _ (Peer.len _) P4.out ?_) | (with_reducible refine wpList_load_rec Ent.isRec rfl _ rfl gP 0 (by with_unfolding_all exact rfl) _ (Ent.len _) (Peer.At.part_entry P4.out) ?_) | (with_reducible refine wpList_load_whole_w Ent.isRec (by kernel_rfl) _ rfl gE (by with_unfolding_all exact rfl) _ _ (Ent.len _) E4.out ?_))
    refine (CE.out w4).mono ?_
    rintro e5 w5 ⟨rfl, b5⟩
    have L5 : Hid (RowsAt w5 (.slice A l.length cap) 8 (l.map Peer.enc)) := Lib.hid (L4.out.below b5)
    have E5 : Hid (Ent.At w5 gE me) := Lib.hid (Whole.below E4.out b5 E4.out.lt)
    have P5 : Hid (Peer.At w5 gP p) := Lib.hid (Whole.below P4.out b5 P4.out.lt)
    have B5 := Lib.hid (B4.out.trans (b5.mono B4.out.size))
    clear b5 L4 E4 P4 B4
    cases g2 with
    | true =>
      go_wp2
      go_ret
      exact ⟨rfl, B5.out⟩
    | false =>
      go_wp2_with (first | (with_reducible refine wpList_load_whole Ent.isRec rfl _ rfl gE (by with_unfolding_all exact rfl) _ _ (Ent.len _) E5.out ?_) | (with_reducible refine wpList_load_whole Peer.isRec rfl _ rfl gP (by with_unfolding_all exact rfl) _ _ (Peer.len _) P5.out ?_) | (with_reducible refine wpList_load_rec Ent.isRec rfl _ rfl gP 0 (by with_unfolding_all exact rfl) _ (Ent.len _) (Peer.At.part_entry P5.out) ?_) | (with_reducible refine wpList_load_rec_w Ent.isRec (by kernel_rfl) _ rfl gP 0 (by with_unfolding_all exact rfl) _ (Ent.len _) (Peer.At.part_entry P5.out) ?_))
      refine (CP.out w5).mono ?_
      rintro e6 w6 ⟨rfl, b6⟩
      have L6 : Hid (RowsAt w6 (.slice A l.length cap) 8 (l.map Peer.enc)) := Lib.hid (L5.out.below b6)
      have E6 : Hid (Ent.At w6 gE me) := Lib.hid (Whole.below E5.out b6 E5.out.lt)
      have P6 : Hid (Peer.At w6 gP p) := Lib.hid (Whole.below P5.out b6 P5.out.lt)
      have B6 := Lib.hid (B5.out.trans (b6.mono B5.out.size))
      clear b6 L5 E5 P5 B5
      clear CE CP
      cases g3 with
      | true =>
        go_wp2
        go_ret
        exact ⟨rfl, B6.out⟩
      | false =>
        have hl := HL.out
        have CR := Lib.hid (fun w h => right_any A l.length cap l me w (by omega) HW.out HI.out.1 h)
        obtain ⟨rq, hrq⟩ : ∃ q, q = rightQ me l := ⟨_, rfl⟩
        simp only [← hrq] at CR HRL
        clear hrq
        go_wp2_with (first | (with_reducible refine wpList_load_whole Ent.isRec rfl _ rfl gE (by with_unfolding_all exact rfl) _ _ (Ent.len _) E6.out ?_) | (with_reducible refine wpList_load_whole Peer.isRec rfl _ rfl gP (by with_unfolding_all exact rfl) _ _ (Peer.len _) P6.out ?_) | (with_reducible refine wpList_load_rec Ent.isRec rfl _ rfl gP 0 (by with_unfolding_all exact rfl) _ (Ent.len _) (Peer.At.part_entry P6.out) ?_) | (with_reducible refine wpList_load_whole_w Ent.isRec (by kernel_rfl) _ rfl gE (by with_unfolding_all exact rfl) _ _ (Ent.len _) E6.out ?_))
        refine (CR.out w6 L6.out).mono ?_
        rintro e7 w7 ⟨rfl, b7⟩
        have L7 : Hid (RowsAt w7 (.slice A l.length cap) 8 (l.map Peer.enc)) := Lib.hid (L6.out.below b7)
        have E7 : Hid (Ent.At w7 gE me) := Lib.hid (Whole.below E6.out b7 E6.out.lt)
        have P7 : Hid (Peer.At w7 gP p) := Lib.hid (Whole.below P6.out b7 P6.out.lt)
        have B7 := Lib.hid (B6.out.trans (b7.mono B6.out.size))
        clear b7 L6 E6 P6 B6
        clear CR
        cases rq with
        | false =>
          go_wp2
          go_ret
          exact ⟨rfl, B7.out⟩
        | true =>
          have HR := Lib.hid (HRL.out rfl)
          have CA := Lib.hid (fun w h => as_slicePe (add_any A l.length cap l me p w.heap.size w (Nat.le_refl _) (by omega) HW.out HI.out.1 HI.out.2 h))
          have CD := Lib.hid (fun w h => as_slicePe (drop_any A l.length cap l p.entry.name w.heap.size w (Nat.le_refl _) (by omega) h))
          have HKL : Hid ((addQ me l p).length ≤ 1000000) := Lib.hid (Nat.le_trans (addQ_length me l p) (by omega))
          have HDL : Hid ((dropQ l p.entry.name).length ≤ 1000000) := Lib.hid (Nat.le_trans (List.length_filter_le _ _) (by omega))
          have HKR : Hid (rightQ me (addQ me l p) = true) := Lib.hid ((rightQ_iff _ _).2 (add_right HR.out p))
          have HDR : Hid (rightQ me (dropQ l p.entry.name) = true) := Lib.hid ((rightQ_iff _ _).2 (HR.out.drop _))
          have HDP : Hid (placeQ (dropQ l p.entry.name) p.entry.name = -1) := Lib.hid (dropQ_none _ _)
          have HKM : Hid (p.entry.name = me.name → addQ me l p = l ∧ placeQ (addQ me l p) p.entry.name = -1) := Lib.hid (fun q => ⟨addQ_mine q, by rw [addQ_mine q, q]; exact placeQ_none HR.out.mine⟩)
          have HKP : Hid (p.entry.name ≠ me.name → (placeQ (addQ me l p) p.entry.name < 0 ∧ l.length = 7) ∨ ∃ (k : Nat) (x : Peer), placeQ (addQ me l p) p.entry.name = (k : Int) ∧ (addQ me l p)[k]? = some x ∧ x.entry = p.entry) := Lib.hid (add_place HR.out p)
          have HKW : Hid (Words (addQ me l p)) := Lib.hid (HW.out.add HI.out.2)
          have HDW : Hid (Words (dropQ l p.entry.name)) := Lib.hid (HW.out.drop _)
          obtain ⟨Kl, hKl⟩ : ∃ k, k = addQ me l p := ⟨_, rfl⟩
          obtain ⟨Dl, hDl⟩ : ∃ k, k = dropQ l p.entry.name := ⟨_, rfl⟩
          simp only [← hKl] at CA HKL HKR HKM HKP HKW
          simp only [← hDl] at CD HDL HDR HDP HDW
          have CKR : Hid (∀ A' c' w, RowsAt w (.slice A' Kl.length c') 8 (Kl.map Peer.enc) → Calls Try.prog 15 #[me.val, .slice A' Kl.length c'] w fun e w' => e = .returned (.bool true) ∧ Below w.heap.size w w') := Lib.hid (fun A' c' w h => by have q := right_any A' Kl.length c' Kl me w HKL.out HKW.out HI.out.1 h; rw [HKR.out] at q; exact q)
          have CDR : Hid (∀ A' c' w, RowsAt w (.slice A' Dl.length c') 8 (Dl.map Peer.enc) → Calls Try.prog 15 #[me.val, .slice A' Dl.length c'] w fun e w' => e = .returned (.bool true) ∧ Below w.heap.size w w') := Lib.hid (fun A' c' w h => by have q := right_any A' Dl.length c' Dl me w HDL.out HDW.out HI.out.1 h; rw [HDR.out] at q; exact q)
          have CDP : Hid (∀ A' c' w, RowsAt w (.slice A' Dl.length c') 8 (Dl.map Peer.enc) → Calls Try.prog 17 #[.slice A' Dl.length c', .string ⟨p.entry.name.toArray⟩] w fun e w' => e = .returned (.int .i64 (-1)) ∧ Below w.heap.size w w') := Lib.hid (fun A' c' w h => by have q := place_any A' Dl.length c' Dl p.entry.name w HDL.out h; rw [HDP.out] at q; exact q)
          have CKP := Lib.hid (fun A' c' w h => place_any A' Kl.length c' Kl p.entry.name w HKL.out h)
          obtain ⟨pq, hpq⟩ : ∃ q, q = placeQ Kl p.entry.name := ⟨_, rfl⟩
          simp only [← hpq] at CKP HKM HKP
          clear hl hKl hDl hpq HKR HDR HDP HKW HDW HDL HRL
          go_wp2_with (first | (with_reducible refine wpList_load_whole Ent.isRec rfl _ rfl gE (by with_unfolding_all exact rfl) _ _ (Ent.len _) E7.out ?_) | (with_reducible refine wpList_load_whole Peer.isRec rfl _ rfl gP (by with_unfolding_all exact rfl) _ _ (Peer.len _) P7.out ?_) | (with_reducible refine wpList_load_rec Ent.isRec rfl _ rfl gP 0 (by with_unfolding_all exact rfl) _ (Ent.len _) (Peer.At.part_entry P7.out) ?_) | fail)
          refine (CA.out w7 L7.out).mono ?_
          rintro e8 w8 ⟨A3, k3, rfl, o3, b8⟩
          have L8 : Hid (RowsAt w8 (.slice A l.length cap) 8 (l.map Peer.enc)) := Lib.hid (L7.out.below b8)
          have E8 : Hid (Ent.At w8 gE me) := Lib.hid (Whole.below E7.out b8 E7.out.lt)
          have P8 : Hid (Peer.At w8 gP p) := Lib.hid (Whole.below P7.out b8 P7.out.lt)
          have B8 := Lib.hid (B7.out.trans (b8.mono B7.out.size))
          have K8 : Hid (RowsAt w8 (.slice A3 Kl.length k3) 8 (Kl.map Peer.enc)) := Lib.hid o3
          clear b8 L7 E7 P7 B7 o3
          clear CA
          go_wp2_with (first | (with_reducible refine wpList_load_whole Ent.isRec rfl _ rfl gE (by with_unfolding_all exact rfl) _ _ (Ent.len _) E8.out ?_) | (with_reducible refine wpList_load_whole Peer.isRec rfl _ rfl gP (by with_unfolding_all exact rfl) _ _ (Peer.len _) P8.out ?_) | (with_reducible refine wpList_load_rec Ent.isRec rfl _ rfl gP 0 (by with_unfolding_all exact rfl) _ (Ent.len _) (Peer.At.part_entry P8.out) ?_))
          refine reg_begin (by kernel_rfl) fun w9 b9 z9 => ?_
          have L9 : Hid (RowsAt w9 (.slice A l.length cap) 8 (l.map Peer.enc)) := Lib.hid (L8.out.below b9)
          have E9 : Hid (Ent.At w9 gE me) := Lib.hid (Whole.below E8.out b9 E8.out.lt)
          have P9 : Hid (Peer.At w9 gP p) := Lib.hid (Whole.below P8.out b9 P8.out.lt)
          have K9 : Hid (RowsAt w9 (.slice A3 Kl.length k3) 8 (Kl.map Peer.enc)) := Lib.hid (K8.out.below b9)
          have B9 := Lib.hid (B8.out.trans (b9.mono B8.out.size))
          clear b9 z9 L8 E8 P8 K8 B8
          refine reg_take (i := 0) (v := Ent.val (me)) rfl (by kernel_rfl) (by kernel_rfl) (by kernel_rfl) (fun _ _ _ h => h) (by rfl) ?hy0 ?_
          case hy0 => intro w' hw'; exact exec_load_whole Ent.isRec _ rfl gE rfl _ _ (Ent.len _) w' (Whole.below E9.out hw' E9.out.lt)
          simp only [Act.put, List.setIfInBounds_toArray, List.set_cons_zero, List.set_cons_succ]
          refine reg_take (i := 1) (v := ?_) rfl (by kernel_rfl) (by kernel_rfl) (by kernel_rfl) (fun _ _ _ h => h) (by rfl) ?hy1 ?_
          case hy1 => intro w' hw'; go_simp; (try with_reducible rfl)
          simp only [Act.put, List.setIfInBounds_toArray, List.set_cons_zero, List.set_cons_succ]
          refine reg_call (i := 2) rfl (by kernel_rfl) (fun K' hK => ?_)
          go_simp
          refine (CKR.out A3 k3 w9 K9.out).mono ?_
          rintro e10 w10 ⟨rfl, b10⟩
          have L10 : Hid (RowsAt w10 (.slice A l.length cap) 8 (l.map Peer.enc)) := Lib.hid (L9.out.below b10)
          have E10 : Hid (Ent.At w10 gE me) := Lib.hid (Whole.below E9.out b10 E9.out.lt)
          have P10 : Hid (Peer.At w10 gP p) := Lib.hid (Whole.below P9.out b10 P9.out.lt)
          have K10 : Hid (RowsAt w10 (.slice A3 Kl.length k3) 8 (Kl.map Peer.enc)) := Lib.hid (K9.out.below b10)
          have B10 := Lib.hid (B9.out.trans (b10.mono B9.out.size))
          refine hK.out _ _ b10 ?_
          clear hK K' b10 L9 E9 P9 K9 B9
          refine reg_take (i := 3) (v := ?_) rfl (by kernel_rfl) (by kernel_rfl) (by kernel_rfl) (fun _ _ _ h => h) (by rfl) ?hy3 ?_
          case hy3 => intro w' hw'; go_simp; (try with_reducible rfl)
          simp only [Act.put, List.setIfInBounds_toArray, List.set_cons_zero, List.set_cons_succ]
          refine reg_take (i := 4) (v := ?_) rfl (by kernel_rfl) (by kernel_rfl) (by kernel_rfl) (fun _ _ _ h => h) (by rfl) ?hy4 ?_
          case hy4 => intro w' hw'; go_simp; (try with_reducible rfl)
          simp only [Act.put, List.setIfInBounds_toArray, List.set_cons_zero, List.set_cons_succ]
          refine reg_take (i := 5) (v := Ent.val (me)) rfl (by kernel_rfl) (by kernel_rfl) (by kernel_rfl) (fun _ _ _ h => h) (by rfl) ?hy5 ?_
          case hy5 => intro w' hw'; exact exec_load_whole Ent.isRec _ rfl gE rfl _ _ (Ent.len _) w' (Whole.below E10.out hw' E10.out.lt)
          simp only [Act.put, List.setIfInBounds_toArray, List.set_cons_zero, List.set_cons_succ]
          refine reg_take (i := 6) (v := ?_) rfl (by kernel_rfl) (by kernel_rfl) (by kernel_rfl) (fun _ _ _ h => h) (by rfl) ?hy6 ?_
          case hy6 => intro w' hw'; go_simp; (try with_reducible rfl)
          simp only [Act.put, List.setIfInBounds_toArray, List.set_cons_zero, List.set_cons_succ]
          refine reg_take (i := 7) (v := ?_) rfl (by kernel_rfl) (by kernel_rfl) (by kernel_rfl) (fun _ _ _ h => h) (by rfl) ?hy7 ?_
          case hy7 => intro w' hw'; go_simp; (try with_reducible rfl)
          simp only [Act.put, List.setIfInBounds_toArray, List.set_cons_zero, List.set_cons_succ]
          refine reg_take (i := 8) (v := ?_) rfl (by kernel_rfl) (by kernel_rfl) (by kernel_rfl) (fun _ _ _ h => h) (by rfl) ?hy8 ?_
          case hy8 => intro w' hw'; go_simp; (try with_reducible rfl)
          simp only [Act.put, List.setIfInBounds_toArray, List.set_cons_zero, List.set_cons_succ]
          refine reg_take (i := 9) (v := (.string ⟨(p).entry.name.toArray⟩)) rfl (by kernel_rfl) (by kernel_rfl) (by kernel_rfl) (fun _ _ _ h => h) (by rfl) ?hy9 ?_
          case hy9 => intro w' hw'; have c := Peer.At.at_entry_name (Whole.below P10.out hw' P10.out.lt); go_simp; (try with_reducible rfl)
          simp only [Act.put, List.setIfInBounds_toArray, List.set_cons_zero, List.set_cons_succ]
          refine reg_call (i := 10) rfl (by kernel_rfl) (fun K' hK => ?_)
          go_simp
          refine (CD.out w10 L10.out).mono ?_
          rintro e11 w11 ⟨A4, k4, rfl, y42, b11⟩
          have L11 : Hid (RowsAt w11 (.slice A l.length cap) 8 (l.map Peer.enc)) := Lib.hid (L10.out.below b11)
          have E11 : Hid (Ent.At w11 gE me) := Lib.hid (Whole.below E10.out b11 E10.out.lt)
          have P11 : Hid (Peer.At w11 gP p) := Lib.hid (Whole.below P10.out b11 P10.out.lt)
          have K11 : Hid (RowsAt w11 (.slice A3 Kl.length k3) 8 (Kl.map Peer.enc)) := Lib.hid (K10.out.below b11)
          have B11 := Lib.hid (B10.out.trans (b11.mono B10.out.size))
          have D11 : Hid (RowsAt w11 (.slice A4 Dl.length k4) 8 (Dl.map Peer.enc)) := Lib.hid y42
          refine hK.out _ _ b11 ?_
          clear hK K' b11 L10 E10 P10 K10 B10 y42
          refine reg_call (i := 11) rfl (by kernel_rfl) (fun K' hK => ?_)
          go_simp
          refine (CDR.out A4 k4 w11 D11.out).mono ?_
          rintro e12 w12 ⟨rfl, b12⟩
          have L12 : Hid (RowsAt w12 (.slice A l.length cap) 8 (l.map Peer.enc)) := Lib.hid (L11.out.below b12)
          have E12 : Hid (Ent.At w12 gE me) := Lib.hid (Whole.below E11.out b12 E11.out.lt)
          have P12 : Hid (Peer.At w12 gP p) := Lib.hid (Whole.below P11.out b12 P11.out.lt)
          have K12 : Hid (RowsAt w12 (.slice A3 Kl.length k3) 8 (Kl.map Peer.enc)) := Lib.hid (K11.out.below b12)
          have D12 : Hid (RowsAt w12 (.slice A4 Dl.length k4) 8 (Dl.map Peer.enc)) := Lib.hid (D11.out.below b12)
          have B12 := Lib.hid (B11.out.trans (b12.mono B11.out.size))
          refine hK.out _ _ b12 ?_
          clear hK K' b12 L11 E11 P11 K11 D11 B11
          refine reg_take (i := 12) (v := ?_) rfl (by kernel_rfl) (by kernel_rfl) (by kernel_rfl) (fun _ _ _ h => h) (by rfl) ?hy12 ?_
          case hy12 => intro w' hw'; go_simp; (try with_reducible rfl)
          simp only [Act.put, List.setIfInBounds_toArray, List.set_cons_zero, List.set_cons_succ]
          refine reg_take (i := 13) (v := ?_) rfl (by kernel_rfl) (by kernel_rfl) (by kernel_rfl) (fun _ _ _ h => h) (by rfl) ?hy13 ?_
          case hy13 => intro w' hw'; go_simp; (try with_reducible rfl)
          simp only [Act.put, List.setIfInBounds_toArray, List.set_cons_zero, List.set_cons_succ]
          refine reg_take (i := 14) (v := ?_) rfl (by kernel_rfl) (by kernel_rfl) (by kernel_rfl) (fun _ _ _ h => h) (by rfl) ?hy14 ?_
          case hy14 => intro w' hw'; go_simp; (try with_reducible rfl)
          simp only [Act.put, List.setIfInBounds_toArray, List.set_cons_zero, List.set_cons_succ]
          refine reg_take (i := 15) (v := ?_) rfl (by kernel_rfl) (by kernel_rfl) (by kernel_rfl) (fun _ _ _ h => h) (by rfl) ?hy15 ?_
          case hy15 => intro w' hw'; go_simp; (try with_reducible rfl)
          simp only [Act.put, List.setIfInBounds_toArray, List.set_cons_zero, List.set_cons_succ]
          refine reg_take (i := 16) (v := ?_) rfl (by kernel_rfl) (by kernel_rfl) (by kernel_rfl) (fun _ _ _ h => h) (by rfl) ?hy16 ?_
          case hy16 => intro w' hw'; go_simp; (try with_reducible rfl)
          simp only [Act.put, List.setIfInBounds_toArray, List.set_cons_zero, List.set_cons_succ]
          refine reg_take (i := 17) (v := ?_) rfl (by kernel_rfl) (by kernel_rfl) (by kernel_rfl) (fun _ _ _ h => h) (by rfl) ?hy17 ?_
          case hy17 => intro w' hw'; go_simp; (try with_reducible rfl)
          simp only [Act.put, List.setIfInBounds_toArray, List.set_cons_zero, List.set_cons_succ]
          refine reg_take (i := 18) (v := (.string ⟨(p).entry.name.toArray⟩)) rfl (by kernel_rfl) (by kernel_rfl) (by kernel_rfl) (fun _ _ _ h => h) (by rfl) ?hy18 ?_
          case hy18 => intro w' hw'; have c := Peer.At.at_entry_name (Whole.below P12.out hw' P12.out.lt); go_simp; (try with_reducible rfl)
          simp only [Act.put, List.setIfInBounds_toArray, List.set_cons_zero, List.set_cons_succ]
          refine reg_take (i := 20) (v := ?_) rfl (by kernel_rfl) (by kernel_rfl) (by kernel_rfl) (fun _ _ _ h => h) (by rfl) ?hy20 ?_
          case hy20 => intro w' hw'; go_simp; (try with_reducible rfl)
          simp only [Act.put, List.setIfInBounds_toArray, List.set_cons_zero, List.set_cons_succ]
          refine reg_take (i := 21) (v := ?_) rfl (by kernel_rfl) (by kernel_rfl) (by kernel_rfl) (fun _ _ _ h => h) (by rfl) ?hy21 ?_
          case hy21 => intro w' hw'; go_simp; (try with_reducible rfl)
          simp only [Act.put, List.setIfInBounds_toArray, List.set_cons_zero, List.set_cons_succ]
          refine reg_take (i := 22) (v := (.string ⟨(p).entry.name.toArray⟩)) rfl (by kernel_rfl) (by kernel_rfl) (by kernel_rfl) (fun _ _ _ h => h) (by rfl) ?hy22 ?_
          case hy22 => intro w' hw'; have c := Peer.At.at_entry_name (Whole.below P12.out hw' P12.out.lt); go_simp; (try with_reducible rfl)
          simp only [Act.put, List.setIfInBounds_toArray, List.set_cons_zero, List.set_cons_succ]
          refine reg_call (i := 19) rfl (by kernel_rfl) (fun K' hK => ?_)
          go_simp
          refine (CD.out w12 L12.out).mono ?_
          rintro e13 w13 ⟨A5, k5, rfl, y51, b13⟩
          have L13 : Hid (RowsAt w13 (.slice A l.length cap) 8 (l.map Peer.enc)) := Lib.hid (L12.out.below b13)
          have E13 : Hid (Ent.At w13 gE me) := Lib.hid (Whole.below E12.out b13 E12.out.lt)
          have P13 : Hid (Peer.At w13 gP p) := Lib.hid (Whole.below P12.out b13 P12.out.lt)
          have K13 : Hid (RowsAt w13 (.slice A3 Kl.length k3) 8 (Kl.map Peer.enc)) := Lib.hid (K12.out.below b13)
          have D13 : Hid (RowsAt w13 (.slice A4 Dl.length k4) 8 (Dl.map Peer.enc)) := Lib.hid (D12.out.below b13)
          have B13 := Lib.hid (B12.out.trans (b13.mono B12.out.size))
          have F13 : Hid (RowsAt w13 (.slice A5 Dl.length k5) 8 (Dl.map Peer.enc)) := Lib.hid y51
          refine hK.out _ _ b13 ?_
          clear hK K' b13 L12 E12 P12 K12 D12 B12 y51
          refine reg_call (i := 23) rfl (by kernel_rfl) (fun K' hK => ?_)
          go_simp
          refine (CDP.out A5 k5 w13 F13.out).mono ?_
          rintro e14 w14 ⟨rfl, b14⟩
          have L14 : Hid (RowsAt w14 (.slice A l.length cap) 8 (l.map Peer.enc)) := Lib.hid (L13.out.below b14)
          have E14 : Hid (Ent.At w14 gE me) := Lib.hid (Whole.below E13.out b14 E13.out.lt)
          have P14 : Hid (Peer.At w14 gP p) := Lib.hid (Whole.below P13.out b14 P13.out.lt)
          have K14 : Hid (RowsAt w14 (.slice A3 Kl.length k3) 8 (Kl.map Peer.enc)) := Lib.hid (K13.out.below b14)
          have D14 : Hid (RowsAt w14 (.slice A4 Dl.length k4) 8 (Dl.map Peer.enc)) := Lib.hid (D13.out.below b14)
          have F14 : Hid (RowsAt w14 (.slice A5 Dl.length k5) 8 (Dl.map Peer.enc)) := Lib.hid (F13.out.below b14)
          have B14 := Lib.hid (B13.out.trans (b14.mono B13.out.size))
          refine hK.out _ _ b14 ?_
          clear hK K' b14 L13 E13 P13 K13 D13 F13 B13
          refine reg_take (i := 24) (v := ?_) rfl (by kernel_rfl) (by kernel_rfl) (by kernel_rfl) (fun _ _ _ h => h) (by rfl) ?hy24 ?_
          case hy24 => intro w' hw'; go_simp; (try with_reducible rfl)
          simp only [Act.put, List.setIfInBounds_toArray, List.set_cons_zero, List.set_cons_succ]
          refine reg_take (i := 25) (v := ?_) rfl (by kernel_rfl) (by kernel_rfl) (by kernel_rfl) (fun _ _ _ h => h) (by rfl) ?hy25 ?_
          case hy25 => intro w' hw'; go_simp; (try with_reducible rfl)
          simp only [Act.put, List.setIfInBounds_toArray, List.set_cons_zero, List.set_cons_succ]
          refine reg_end (by kernel_rfl) ?_
          clear CKR CDR CDP CD
          have c1 := Peer.At.at_entry_name P14.out
          go_wp2_with (first | (with_reducible refine wpList_load_whole Ent.isRec rfl _ rfl gE (by with_unfolding_all exact rfl) _ _ (Ent.len _) E14.out ?_) | (with_reducible refine wpList_load_whole Peer.isRec rfl _ rfl gP (by with_unfolding_all exact rfl) _ _ (Peer.len _) P14.out ?_) | (with_reducible refine wpList_load_rec Ent.isRec rfl _ rfl gP 0 (by with_unfolding_all exact rfl) _ (Ent.len _) (Peer.At.part_entry P14.out) ?_))
          refine (CKP.out A3 k3 w14 K14.out).mono ?_
          rintro e15 w15 ⟨rfl, b15⟩
          have L15 : Hid (RowsAt w15 (.slice A l.length cap) 8 (l.map Peer.enc)) := Lib.hid (L14.out.below b15)
          have E15 : Hid (Ent.At w15 gE me) := Lib.hid (Whole.below E14.out b15 E14.out.lt)
          have P15 : Hid (Peer.At w15 gP p) := Lib.hid (Whole.below P14.out b15 P14.out.lt)
          have K15 : Hid (RowsAt w15 (.slice A3 Kl.length k3) 8 (Kl.map Peer.enc)) := Lib.hid (K14.out.below b15)
          have D15 : Hid (RowsAt w15 (.slice A4 Dl.length k4) 8 (Dl.map Peer.enc)) := Lib.hid (D14.out.below b15)
          have F15 : Hid (RowsAt w15 (.slice A5 Dl.length k5) 8 (Dl.map Peer.enc)) := Lib.hid (F14.out.below b15)
          have B15 := Lib.hid (B14.out.trans (b15.mono B14.out.size))
          clear b15 L14 E14 P14 K14 D14 F14 B14
          clear c1 CKP
          have c1 := Peer.At.at_entry_name P15.out
          have c2 := Ent.At.at_name E15.out
          by_cases hn : p.entry.name = me.name
          · have d1 : (p.entry.name == me.name) = true := by rw [beq_iff_eq]; exact hn
            have h1 := (HKM.out hn).2
            have h2 : ((Kl.length : Int) == (l.length : Int)) = true := by rw [(HKM.out hn).1]; simp
            have d2 : (pq == -1) = true := by rw [h1]; rfl
            clear hn h1 HKM HKP
            go_wp2
            go_ret
            exact ⟨by first | rfl | simp, B15.out⟩
          · have d1 : (p.entry.name == me.name) = false := by rw [beq_eq_false_iff_ne]; exact hn
            rcases HKP.out hn with ⟨h1, h2⟩ | ⟨k, x, h1, h2, h3⟩
            · have d2 : decide (pq < 0) = true := decide_eq_true h1
              have d3 : ((l.length : Int) == 7) = true := by rw [beq_iff_eq]; omega
              clear hn h1 h2 HKM HKP
              go_wp2
              go_ret
              exact ⟨rfl, B15.out⟩
            · subst h1
              have d2 : decide ((k : Int) < 0) = false := by simp
              have hkl := (List.getElem?_eq_some_iff.1 h2).1
              have d3 : decide ((k : Int) < (Kl.length : Int)) = true := by simp; omega
              have d3n : decide (k < Kl.length) = true := by simp; omega
              have jk : (k : Int) < (Kl.length : Int) := by omega
              obtain ⟨b, off, hA, -⟩ := row_ofPe K15.out h2
              subst hA
              have HX := Lib.hid h2
              have HE := Lib.hid h3
              clear hn h2 h3 hkl HKM HKP
              go_wp2_with (first | (with_reducible refine wpList_load_whole Ent.isRec rfl _ rfl gE (by with_unfolding_all exact rfl) _ _ (Ent.len _) E15.out ?_) | (with_reducible refine wpList_load_whole Peer.isRec rfl _ rfl gP (by with_unfolding_all exact rfl) _ _ (Peer.len _) P15.out ?_) | (with_reducible refine wpList_load_rec Ent.isRec rfl _ rfl gP 0 (by with_unfolding_all exact rfl) _ (Ent.len _) (Peer.At.part_entry P15.out) ?_))
              refine reg_begin (by kernel_rfl) fun w16 b16 z16 => ?_
              have L16 : Hid (RowsAt w16 (.slice A l.length cap) 8 (l.map Peer.enc)) := Lib.hid (L15.out.below b16)
              have E16 : Hid (Ent.At w16 gE me) := Lib.hid (Whole.below E15.out b16 E15.out.lt)
              have P16 : Hid (Peer.At w16 gP p) := Lib.hid (Whole.below P15.out b16 P15.out.lt)
              have K16 : Hid (RowsAt w16 (.slice (some ⟨b, off, none⟩) Kl.length k3) 8 (Kl.map Peer.enc)) := Lib.hid (K15.out.below b16)
              have D16 : Hid (RowsAt w16 (.slice A4 Dl.length k4) 8 (Dl.map Peer.enc)) := Lib.hid (D15.out.below b16)
              have F16 : Hid (RowsAt w16 (.slice A5 Dl.length k5) 8 (Dl.map Peer.enc)) := Lib.hid (F15.out.below b16)
              have B16 := Lib.hid (B15.out.trans (b16.mono B15.out.size))
              clear b16 z16 L15 E15 P15 K15 D15 F15 B15
              refine reg_take (i := 0) (v := ?_) rfl (by kernel_rfl) (by kernel_rfl) (by kernel_rfl) (fun _ _ _ h => h) (by rfl) ?hy0 ?_
              case hy0 => intro w' hw'; go_simp; (try with_reducible rfl)
              simp only [Act.put, List.setIfInBounds_toArray, List.set_cons_zero, List.set_cons_succ]
              refine reg_take (i := 1) (v := ?_) rfl (by kernel_rfl) (by kernel_rfl) (by kernel_rfl) (fun _ _ _ h => h) (by rfl) ?hy1 ?_
              case hy1 => intro w' hw'; go_simp; (try with_reducible rfl)
              simp only [Act.put, List.setIfInBounds_toArray, List.set_cons_zero, List.set_cons_succ]
              refine reg_take (i := 2) (v := ?_) rfl (by kernel_rfl) (by kernel_rfl) (by kernel_rfl) (fun _ _ _ h => h) (by rfl) ?hy2 ?_
              case hy2 => intro w' hw'; go_simp; (try with_reducible rfl)
              simp only [Act.put, List.setIfInBounds_toArray, List.set_cons_zero, List.set_cons_succ]
              refine reg_take (i := 3) (v := ?_) rfl (by kernel_rfl) (by kernel_rfl) (by kernel_rfl) (fun _ _ _ h => h) (by rfl) ?hy3 ?_
              case hy3 => intro w' hw'; go_simp; (try with_reducible rfl)
              simp only [Act.put, List.setIfInBounds_toArray, List.set_cons_zero, List.set_cons_succ]
              refine reg_take (i := 4) (v := ?_) rfl (by kernel_rfl) (by kernel_rfl) (by kernel_rfl) (fun _ _ _ h => h) (by rfl) ?hy4 ?_
              case hy4 => intro w' hw'; go_simp; (try with_reducible rfl)
              simp only [Act.put, List.setIfInBounds_toArray, List.set_cons_zero, List.set_cons_succ]
              refine reg_take (i := 5) (v := ?_) rfl (by kernel_rfl) (by kernel_rfl) (by kernel_rfl) (fun _ _ _ h => h) (by rfl) ?hy5 ?_
              case hy5 => intro w' hw'; go_simp; (try with_reducible rfl)
              simp only [Act.put, List.setIfInBounds_toArray, List.set_cons_zero, List.set_cons_succ]
              refine reg_take (i := 6) (v := ?_) rfl (by kernel_rfl) (by kernel_rfl) (by kernel_rfl) (fun _ _ _ h => h) (by rfl) ?hy6 ?_
              case hy6 => intro w' hw'; go_simp; (try with_reducible rfl)
              simp only [Act.put, List.setIfInBounds_toArray, List.set_cons_zero, List.set_cons_succ]
              refine reg_take (i := 7) (v := ?_) rfl (by kernel_rfl) (by kernel_rfl) (by kernel_rfl) (fun _ _ _ h => h) (by rfl) ?hy7 ?_
              case hy7 => intro w' hw'; go_simp; (try with_reducible rfl)
              simp only [Act.put, List.setIfInBounds_toArray, List.set_cons_zero, List.set_cons_succ]
              refine reg_take (i := 8) (v := ?_) rfl (by kernel_rfl) (by kernel_rfl) (by kernel_rfl) (fun _ _ _ h => h) (by rfl) ?hy8 ?_
              case hy8 => intro w' hw'; go_simp; (try with_reducible rfl)
              simp only [Act.put, List.setIfInBounds_toArray, List.set_cons_zero, List.set_cons_succ]
              refine reg_take (i := 9) (v := x.entry.val) rfl (by kernel_rfl) (by kernel_rfl) (by kernel_rfl) (fun _ _ _ h => h) (by rfl) ?hy9 ?_
              case hy9 => intro w' hw'; exact exec_load_rec Ent.isRec _ rfl b (off + k * 8) rfl _ (Ent.len _) w' (fun u v hu => cells_ofPe K16.out HX.out w' hw' u v (entry_cells x hu))
              simp only [Act.put, List.setIfInBounds_toArray, List.set_cons_zero, List.set_cons_succ]
              refine reg_take (i := 10) (v := ?_) rfl (by kernel_rfl) (by kernel_rfl) (by kernel_rfl) (fun _ _ _ h => h) (by rfl) ?hy10 ?_
              case hy10 => intro w' hw'; go_simp; (try with_reducible rfl)
              simp only [Act.put, List.setIfInBounds_toArray, List.set_cons_zero, List.set_cons_succ]
              refine reg_take (i := 11) (v := Ent.val (p).entry) rfl (by kernel_rfl) (by kernel_rfl) (by kernel_rfl) (fun _ _ _ h => h) (by rfl) ?hy11 ?_
              case hy11 => intro w' hw'; exact exec_load_rec Ent.isRec _ rfl gP 0 rfl _ (Ent.len _) w' (Peer.At.part_entry (Whole.below P16.out hw' P16.out.lt))
              simp only [Act.put, List.setIfInBounds_toArray, List.set_cons_zero, List.set_cons_succ]
              refine reg_take (i := 12) (v := .bool true) rfl (by kernel_rfl) (by kernel_rfl) (by kernel_rfl) (fun _ _ _ h => h) (by rfl) ?hy12 ?_
              case hy12 => intro w' hw'; exact exec_eq_rec Ent.isRec _ _ _ rfl x.entry.enc p.entry.enc (Ent.fits _) (Ent.fits _) rfl rfl true (by rw [Ent.same, decide_eq_true HE.out]) w'
              simp only [Act.put, List.setIfInBounds_toArray, List.set_cons_zero, List.set_cons_succ]
              refine reg_take (i := 13) (v := ?_) rfl (by kernel_rfl) (by kernel_rfl) (by kernel_rfl) (fun _ _ _ h => h) (by rfl) ?hy13 ?_
              case hy13 => intro w' hw'; go_simp; (try with_reducible rfl)
              simp only [Act.put, List.setIfInBounds_toArray, List.set_cons_zero, List.set_cons_succ]
              refine reg_take (i := 14) (v := ?_) rfl (by kernel_rfl) (by kernel_rfl) (by kernel_rfl) (fun _ _ _ h => h) (by rfl) ?hy14 ?_
              case hy14 => intro w' hw'; go_simp; (try with_reducible rfl)
              simp only [Act.put, List.setIfInBounds_toArray, List.set_cons_zero, List.set_cons_succ]
              refine reg_end (by kernel_rfl) ?_
              go_wp2
              go_ret
              exact ⟨rfl, B16.out⟩
end Go.Proofs.Ytknccbdcfpncnaa
