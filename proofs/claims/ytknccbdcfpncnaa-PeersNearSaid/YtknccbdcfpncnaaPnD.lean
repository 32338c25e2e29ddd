/- Layer 24 as landed: Add. -/
import Derived.Test.YtknccbdcfpncnaaPnC
namespace Go.Proofs.Ytknccbdcfpncnaa
set_option maxRecDepth 100000
open Go.RowKit

set_option maxRecDepth 100000
/-- A row of one's own, as a slice. -/
theorem as_slicePe {F : FuncId} {args : Array Value} {w : World} {base : Nat} {L : List Peer} {B : World → Prop} (h : Calls Try.prog F args w fun e w' => ∃ v, e = .returned v ∧ OwnRows w' base 27 8 v (L.map Peer.enc) ∧ B w') :
    Calls Try.prog F args w fun e w' => ∃ A c, e = .returned (.slice A L.length c) ∧ RowsAt w' (.slice A L.length c) 8 (L.map Peer.enc) ∧ B w' :=
  h.mono fun _ _ ⟨v, he, ho, hb⟩ => by
    obtain ⟨A, c, hv⟩ := ho.form
    rw [List.length_map] at hv
    subst hv
    exact ⟨A, c, he, ho.rows, hb⟩
theorem roomQ_le (a : Nat) (l : List Peer) (e : Ent) : roomQ a l e ≤ l.length := by
  rw [roomQ]
  exact List.Sublist.length_le (List.takeWhile_sublist _)
set_option maxHeartbeats 1000000 in
theorem add_any (A : Option Addr) (m cap : Nat) (l : List Peer) (me : Ent) (p : Peer) (base : Nat) (w : World) (hb : base ≤ w.heap.size) (hl : l.length ≤ 10000) (hw : Words l) (hi : me.id < 18446744073709551616) (hp : p.entry.id < 18446744073709551616) (h : RowsAt w (.slice A m cap) 8 (l.map Peer.enc)) :
    Calls Try.prog 11 #[me.val, .slice A m cap, p.val] w fun e w' => ∃ v, e = .returned v ∧ OwnRows w' base 27 8 v ((addQ me l p).map Peer.enc) ∧ Below w.heap.size w w' := by
  have hm : m = l.length := by have := h.size.1; simpa using this
  subst hm
  have HB := Lib.hid hb
  have HL := Lib.hid hl
  have HS := Lib.hid h.size.2
  have CH := Lib.hid (fun w h => has_any A l.length cap l p.entry w (by omega) h)
  have CR := Lib.hid (fun w h => room_any A l.length cap l me.id p.entry w (by omega) hw hi hp h)
  have HF : Hid (addQ me l p = if p.entry.name = me.name then l else if hasQ l p.entry then l else (dropQ (l.take (roomQ me.id l p.entry)) p.entry.name ++ [p] ++ dropQ (l.drop (roomQ me.id l p.entry)) p.entry.name).take 7) := Lib.hid rfl
  have HR := Lib.hid (roomQ_le me.id l p.entry)
  obtain ⟨R, hR⟩ : ∃ R, R = roomQ me.id l p.entry := ⟨_, rfl⟩
  simp only [← hR] at HF HR CR
  obtain ⟨q, hq⟩ : ∃ q, q = hasQ l p.entry := ⟨_, rfl⟩
  simp only [← hq] at HF CH
  have H := Lib.hid h
  clear hb hl hw hi hp h hR hq
  go_enter Try.func11, Try.ntmps11
  have L0 : Hid (RowsAt w (.slice A l.length cap) 8 (l.map Peer.enc)) := Lib.hid (H.out)
  go_wp2_with (refine wpList_box_row rfl 24 _ rfl me.enc.toArray (by with_unfolding_all exact rfl) ?_)
  intro w1 b1 x1 z1
  obtain ⟨gE, hgE⟩ : ∃ g, g = w.heap.size := ⟨_, rfl⟩
  have M_E := Lib.hid (show w.heap.size ≤ gE from by rw [hgE]; exact Nat.le_refl _)
  have L1 : Hid (RowsAt w1 (.slice A l.length cap) 8 (l.map Peer.enc)) := Lib.hid (L0.out.below b1)
  have B1 := Lib.hid b1
  rw [← hgE] at x1 ⊢
  have E1 : Hid (Ent.At w1 gE me) := Lib.hid x1
  clear b1 x1 z1 hgE L0
  go_wp2_with (first | (with_reducible refine wpList_load_whole Ent.isRec rfl _ rfl gE (by with_unfolding_all exact rfl) _ _ (Ent.len _) E1.out ?_) | (refine wpList_box_row rfl 27 _ rfl p.enc.toArray (by with_unfolding_all exact rfl) ?_))
  intro w2 b2 x2 z2
  obtain ⟨gP, hgP⟩ : ∃ g, g = w1.heap.size := ⟨_, rfl⟩
  have N_E_P := Lib.hid (show gE < gP from by rw [hgP]; exact E1.out.lt)
  have M_P := Lib.hid (show w.heap.size ≤ gP from by rw [hgP]; exact B1.out.size)
  have L2 : Hid (RowsAt w2 (.slice A l.length cap) 8 (l.map Peer.enc)) := Lib.hid (L1.out.below b2)
  have E2 : Hid (Ent.At w2 gE me) := Lib.hid (Whole.below E1.out b2 E1.out.lt)
  have B2 := Lib.hid (B1.out.trans (b2.mono B1.out.size))
  rw [← hgP] at x2 ⊢
  have P2 : Hid (Peer.At w2 gP p) := Lib.hid x2
  clear b2 x2 z2 hgP L1 E1 B1
  have c1 := Peer.At.at_entry_name P2.out
  have c2 := Ent.At.at_name E2.out
  by_cases hn : p.entry.name = me.name
  · have d1 : (p.entry.name == me.name) = true := by rw [beq_iff_eq]; exact hn
    have HV : Hid (addQ me l p = l) := Lib.hid (by rw [HF.out, if_pos hn])
    clear hn HF CH CR
    go_wp2_with (with_reducible refine wpList_build_1Pe rfl _ rfl A l.length cap l (by with_unfolding_all exact rfl) L2.out ?_)
    intro wp bp xp
    have BP := Lib.hid (B2.out.trans (bp.mono B2.out.size))
    have XP := Lib.hid xp
    clear bp xp
    go_wp2_with fail
    refine (concatPe_any _ 1 [l] rfl base wp (Nat.le_trans HB.out BP.out.size) XP.out (by decide) (by have := HL.out; simp; omega)).mono ?_
    rintro e wq ⟨v, rfl, oq, bq⟩
    have OQ := Lib.hid oq
    have BQ := Lib.hid (BP.out.trans (bq.mono BP.out.size))
    clear oq bq BP XP
    go_wp2
    go_ret
    exact ⟨v, rfl, OQ.out.eqL (by rw [HV.out]; simp), BQ.out⟩
  · have d1 : (p.entry.name == me.name) = false := by rw [beq_eq_false_iff_ne]; exact hn
    have HF1 : Hid (addQ me l p = if q then l else (dropQ (l.take R) p.entry.name ++ [p] ++ dropQ (l.drop R) p.entry.name).take 7) := Lib.hid (by rw [HF.out, if_neg hn])
    clear hn HF
    go_wp2_with (first | (with_reducible refine wpList_load_whole Ent.isRec rfl _ rfl gE (by with_unfolding_all exact rfl) _ _ (Ent.len _) E2.out ?_) | (with_reducible refine wpList_load_whole Peer.isRec rfl _ rfl gP (by with_unfolding_all exact rfl) _ _ (Peer.len _) P2.out ?_) | (with_reducible refine wpList_load_rec Ent.isRec rfl _ rfl gP 0 (by with_unfolding_all exact rfl) _ (Ent.len _) (Peer.At.part_entry P2.out) ?_) | (with_reducible refine wpList_load_rec_w Ent.isRec (by kernel_rfl) _ rfl gP 0 (by with_unfolding_all exact rfl) _ (Ent.len _) (Peer.At.part_entry P2.out) ?_))
    refine (CH.out w2 L2.out).mono ?_
    rintro e3 w3 ⟨rfl, b3⟩
    have L3 : Hid (RowsAt w3 (.slice A l.length cap) 8 (l.map Peer.enc)) := Lib.hid (L2.out.below b3)
    have E3 : Hid (Ent.At w3 gE me) := Lib.hid (Whole.below E2.out b3 E2.out.lt)
    have P3 : Hid (Peer.At w3 gP p) := Lib.hid (Whole.below P2.out b3 P2.out.lt)
    have B3 := Lib.hid (B2.out.trans (b3.mono B2.out.size))
    clear b3 L2 E2 P2 B2
    clear c1 c2 CH
    cases q with
    | true =>
      have HV : Hid (addQ me l p = l) := Lib.hid (by rw [HF1.out]; rfl)
      clear HF1 CR
      go_wp2_with (with_reducible refine wpList_build_1Pe rfl _ rfl A l.length cap l (by with_unfolding_all exact rfl) L3.out ?_)
      intro wp bp xp
      have BP := Lib.hid (B3.out.trans (bp.mono B3.out.size))
      have XP := Lib.hid xp
      clear bp xp
      go_wp2_with fail
      refine (concatPe_any _ 1 [l] rfl base wp (Nat.le_trans HB.out BP.out.size) XP.out (by decide) (by have := HL.out; simp; omega)).mono ?_
      rintro e wq ⟨v, rfl, oq, bq⟩
      have OQ := Lib.hid oq
      have BQ := Lib.hid (BP.out.trans (bq.mono BP.out.size))
      clear oq bq BP XP
      go_wp2
      go_ret
      exact ⟨v, rfl, OQ.out.eqL (by rw [HV.out]; simp), BQ.out⟩
    | false =>
      have HF2 : Hid (addQ me l p = (dropQ (l.take R) p.entry.name ++ [p] ++ dropQ (l.drop R) p.entry.name).take 7) := Lib.hid (by rw [HF1.out]; rfl)
      clear HF1
      have c3 := Ent.At.at_id E3.out
      go_wp2_with (first | (with_reducible refine wpList_load_whole Ent.isRec rfl _ rfl gE (by with_unfolding_all exact rfl) _ _ (Ent.len _) E3.out ?_) | (with_reducible refine wpList_load_whole Peer.isRec rfl _ rfl gP (by with_unfolding_all exact rfl) _ _ (Peer.len _) P3.out ?_) | (with_reducible refine wpList_load_rec Ent.isRec rfl _ rfl gP 0 (by with_unfolding_all exact rfl) _ (Ent.len _) (Peer.At.part_entry P3.out) ?_))
      refine (CR.out w3 L3.out).mono ?_
      rintro e4 w4 ⟨rfl, b4⟩
      have L4 : Hid (RowsAt w4 (.slice A l.length cap) 8 (l.map Peer.enc)) := Lib.hid (L3.out.below b4)
      have E4 : Hid (Ent.At w4 gE me) := Lib.hid (Whole.below E3.out b4 E3.out.lt)
      have P4 : Hid (Peer.At w4 gP p) := Lib.hid (Whole.below P3.out b4 P3.out.lt)
      have B4 := Lib.hid (B3.out.trans (b4.mono B3.out.size))
      clear b4 L3 E3 P3 B3
      clear CR c3
      have C1 := Lib.hid (fun w h => as_slicePe (drop_any A R cap (l.take R) p.entry.name w.heap.size w (Nat.le_refl _) (by rw [List.length_take]; have := HL.out; omega) h))
      have C2 := Lib.hid (fun w h => as_slicePe (drop_any (sufO 8 A cap R) (l.length - R) (cap - R) (l.drop R) p.entry.name w.heap.size w (Nat.le_refl _) (by rw [List.length_drop]; have := HL.out; omega) h))
      have HN : Hid ((dropQ (l.take R) p.entry.name ++ [p] ++ dropQ (l.drop R) p.entry.name).length ≤ 100001) := Lib.hid (by
        have h1 : (dropQ (l.take R) p.entry.name).length ≤ (l.take R).length := List.length_filter_le _ _
        have h2 : (dropQ (l.drop R) p.entry.name).length ≤ (l.drop R).length := List.length_filter_le _ _
        have := HL.out
        rw [List.length_take] at h1
        rw [List.length_drop] at h2
        simp only [List.length_append, List.length_cons, List.length_nil]
        omega)
      obtain ⟨La, hLa⟩ : ∃ x, x = dropQ (l.take R) p.entry.name := ⟨_, rfl⟩
      obtain ⟨Lb, hLb⟩ : ∃ x, x = dropQ (l.drop R) p.entry.name := ⟨_, rfl⟩
      simp only [← hLa, ← hLb] at HF2 HN C1 C2
      obtain ⟨KL, hKL⟩ : ∃ x, x = [La, [p], Lb].flatten := ⟨_, rfl⟩
      obtain ⟨n, hn⟩ : ∃ n, n = KL.length := ⟨_, rfl⟩
      obtain ⟨t, ht⟩ : ∃ t, t = min n 7 := ⟨_, rfl⟩
      have HNL : Hid (n ≤ 100001) := Lib.hid (by have := HN.out; rw [hn, hKL]; simpa using this)
      have HF3 : Hid (addQ me l p = KL.take t) := Lib.hid (by
        rw [HF2.out, hKL, ht, hn, hKL, List.append_assoc]
        simp only [List.flatten_cons, List.flatten_nil, List.append_nil]
        rw [Nat.min_comm]
        exact List.take_eq_take_min)
      have CC : Hid (∀ g w, PartsPe w g [La, [p], Lb] → Calls Try.prog 30 #[.slice (some ⟨g, 0, none⟩) 3 3] w fun e w' => ∃ A c, e = .returned (.slice A n c) ∧ RowsAt w' (.slice A n c) 8 (KL.map Peer.enc) ∧ Below w.heap.size w w') := Lib.hid (fun g w h => by
        rw [hn, hKL]
        exact as_slicePe (concatPe_any g 3 [La, [p], Lb] rfl w.heap.size w (Nat.le_refl _) h (by decide) (by have := HN.out; simp at *; omega)))
      have tn : t ≤ n := by omega
      have r7 : min (n : Int) 7 = (t : Int) := by omega
      have HT := Lib.hid tn
      clear hLa hLb hn ht hKL tn HN HF2
      go_wp2_with (first | (with_reducible refine wpList_load_whole Ent.isRec rfl _ rfl gE (by with_unfolding_all exact rfl) _ _ (Ent.len _) E4.out ?_) | (with_reducible refine wpList_load_whole Peer.isRec rfl _ rfl gP (by with_unfolding_all exact rfl) _ _ (Peer.len _) P4.out ?_) | (with_reducible refine wpList_load_rec Ent.isRec rfl _ rfl gP 0 (by with_unfolding_all exact rfl) _ (Ent.len _) (Peer.At.part_entry P4.out) ?_))
      refine regS_begin (From w4) (by kernel_rfl) (Below.refl _ _).drew ?_
      have b5 : Below w4.heap.size w4 w4.drew := (Below.refl _ _).drew
      generalize w4.drew = w5 at b5 ⊢
      have L5 : Hid (RowsAt w5 (.slice A l.length cap) 8 (l.map Peer.enc)) := Lib.hid (L4.out.below b5)
      have E5 : Hid (Ent.At w5 gE me) := Lib.hid (Whole.below E4.out b5 E4.out.lt)
      have P5 : Hid (Peer.At w5 gP p) := Lib.hid (Whole.below P4.out b5 P4.out.lt)
      have B5 := Lib.hid (B4.out.trans (b5.mono B4.out.size))
      have HS5 : Hid (From w4 w5) := Lib.hid b5
      clear b5
      refine regS_take (i := 0) (v := ?_) rfl (by kernel_rfl) (by kernel_rfl) (by kernel_rfl) (fun _ _ _ h => h) (by rfl) HS5.out ?hy0 ?_
      case hy0 => intro w' hw'; go_simp; (try with_reducible rfl)
      simp only [Act.put, List.setIfInBounds_toArray, List.set_cons_zero, List.set_cons_succ]
      refine regS_take (i := 1) (v := ?_) rfl (by kernel_rfl) (by kernel_rfl) (by kernel_rfl) (fun _ _ _ h => h) (by rfl) HS5.out ?hy1 ?_
      case hy1 => intro w' hw'; go_simp; (try with_reducible rfl)
      simp only [Act.put, List.setIfInBounds_toArray, List.set_cons_zero, List.set_cons_succ]
      refine regS_take (i := 2) (v := (.slice A R cap)) rfl (by kernel_rfl) (by kernel_rfl) (by kernel_rfl) (fun _ _ _ h => h) (by rfl) HS5.out ?hy2 ?_
      case hy2 => intro w' hw'; exact exec_slice_hiPe _ _ rfl A l.length cap R rfl rfl (by have := HR.out; have := HS.out; omega) w'
      simp only [Act.put, List.setIfInBounds_toArray, List.set_cons_zero, List.set_cons_succ]
      refine regS_take (i := 3) (v := ?_) rfl (by kernel_rfl) (by kernel_rfl) (by kernel_rfl) (fun _ _ _ h => h) (by rfl) HS5.out ?hy3 ?_
      case hy3 => intro w' hw'; go_simp; (try with_reducible rfl)
      simp only [Act.put, List.setIfInBounds_toArray, List.set_cons_zero, List.set_cons_succ]
      refine regS_take (i := 4) (v := ?_) rfl (by kernel_rfl) (by kernel_rfl) (by kernel_rfl) (fun _ _ _ h => h) (by rfl) HS5.out ?hy4 ?_
      case hy4 => intro w' hw'; go_simp; (try with_reducible rfl)
      simp only [Act.put, List.setIfInBounds_toArray, List.set_cons_zero, List.set_cons_succ]
      refine regS_take (i := 5) (v := (.string ⟨(p).entry.name.toArray⟩)) rfl (by kernel_rfl) (by kernel_rfl) (by kernel_rfl) (fun _ _ _ h => h) (by rfl) HS5.out ?hy5 ?_
      case hy5 => intro w' hw'; have c := Peer.At.at_entry_name (Whole.below P4.out hw' P4.out.lt); go_simp; (try with_reducible rfl)
      simp only [Act.put, List.setIfInBounds_toArray, List.set_cons_zero, List.set_cons_succ]
      refine regS_take (i := 7) (v := Peer.val (p)) rfl (by kernel_rfl) (by kernel_rfl) (by kernel_rfl) (fun _ _ _ h => h) (by rfl) HS5.out ?hy7 ?_
      case hy7 => intro w' hw'; exact exec_load_whole Peer.isRec _ rfl gP rfl _ _ (Peer.len _) w' (Whole.below P4.out hw' P4.out.lt)
      simp only [Act.put, List.setIfInBounds_toArray, List.set_cons_zero, List.set_cons_succ]
      refine regS_take (i := 9) (v := ?_) rfl (by kernel_rfl) (by kernel_rfl) (by kernel_rfl) (fun _ _ _ h => h) (by rfl) HS5.out ?hy9 ?_
      case hy9 => intro w' hw'; go_simp; (try with_reducible rfl)
      simp only [Act.put, List.setIfInBounds_toArray, List.set_cons_zero, List.set_cons_succ]
      refine regS_take (i := 10) (v := ?_) rfl (by kernel_rfl) (by kernel_rfl) (by kernel_rfl) (fun _ _ _ h => h) (by rfl) HS5.out ?hy10 ?_
      case hy10 => intro w' hw'; go_simp; (try with_reducible rfl)
      simp only [Act.put, List.setIfInBounds_toArray, List.set_cons_zero, List.set_cons_succ]
      refine regS_take (i := 11) (v := (.slice (sufO 8 A cap R) (l.length - R) (cap - R))) rfl (by kernel_rfl) (by kernel_rfl) (by kernel_rfl) (fun _ _ _ h => h) (by rfl) HS5.out ?hy11 ?_
      case hy11 => intro w' hw'; exact exec_slice_lowPe _ _ rfl A l.length cap R rfl rfl HR.out w'
      simp only [Act.put, List.setIfInBounds_toArray, List.set_cons_zero, List.set_cons_succ]
      refine regS_take (i := 12) (v := ?_) rfl (by kernel_rfl) (by kernel_rfl) (by kernel_rfl) (fun _ _ _ h => h) (by rfl) HS5.out ?hy12 ?_
      case hy12 => intro w' hw'; go_simp; (try with_reducible rfl)
      simp only [Act.put, List.setIfInBounds_toArray, List.set_cons_zero, List.set_cons_succ]
      refine regS_take (i := 13) (v := ?_) rfl (by kernel_rfl) (by kernel_rfl) (by kernel_rfl) (fun _ _ _ h => h) (by rfl) HS5.out ?hy13 ?_
      case hy13 => intro w' hw'; go_simp; (try with_reducible rfl)
      simp only [Act.put, List.setIfInBounds_toArray, List.set_cons_zero, List.set_cons_succ]
      refine regS_take (i := 14) (v := (.string ⟨(p).entry.name.toArray⟩)) rfl (by kernel_rfl) (by kernel_rfl) (by kernel_rfl) (fun _ _ _ h => h) (by rfl) HS5.out ?hy14 ?_
      case hy14 => intro w' hw'; have c := Peer.At.at_entry_name (Whole.below P4.out hw' P4.out.lt); go_simp; (try with_reducible rfl)
      simp only [Act.put, List.setIfInBounds_toArray, List.set_cons_zero, List.set_cons_succ]
      refine regS_two (i := 6) (j := 8) rfl rfl (by kernel_rfl) (fun K' hK => ?_) (fun K' hK => ?_)
      · go_simp
        refine (C1.out w5 (rows_hiPe L5.out HR.out)).mono ?_
        rintro e6 w6 ⟨A1, k1, rfl, o36, b6⟩
        have L6 : Hid (RowsAt w6 (.slice A l.length cap) 8 (l.map Peer.enc)) := Lib.hid (L5.out.below b6)
        have E6 : Hid (Ent.At w6 gE me) := Lib.hid (Whole.below E5.out b6 E5.out.lt)
        have P6 : Hid (Peer.At w6 gP p) := Lib.hid (Whole.below P5.out b6 P5.out.lt)
        have B6 := Lib.hid (B5.out.trans (b6.mono B5.out.size))
        have HS6 : Hid (From w4 w6) := Lib.hid (HS5.out.trans (b6.mono HS5.out.size))
        clear b6
        have D16 : Hid (RowsAt w6 (.slice A1 La.length k1) 8 (La.map Peer.enc)) := Lib.hid o36
        refine hK.out _ _ HS6.out ?_
        clear hK K' L5 E5 P5 B5 HS5 o36
        refine regS_two (i := 8) (j := 15) rfl rfl (by kernel_rfl) (fun K' hK => ?_) (fun K' hK => ?_)
        · refine wp_onePe _ rfl p (by with_unfolding_all exact rfl) ?_
          intro w7 b7 x7
          obtain ⟨gX, hgX⟩ : ∃ g, g = w6.heap.size := ⟨_, rfl⟩
          have L7 : Hid (RowsAt w7 (.slice A l.length cap) 8 (l.map Peer.enc)) := Lib.hid (L6.out.below b7)
          have E7 : Hid (Ent.At w7 gE me) := Lib.hid (Whole.below E6.out b7 E6.out.lt)
          have P7 : Hid (Peer.At w7 gP p) := Lib.hid (Whole.below P6.out b7 P6.out.lt)
          have D17 : Hid (RowsAt w7 (.slice A1 La.length k1) 8 (La.map Peer.enc)) := Lib.hid (D16.out.below b7)
          have B7 := Lib.hid (B6.out.trans (b7.mono B6.out.size))
          have HS7 : Hid (From w4 w7) := Lib.hid (HS6.out.trans (b7.mono HS6.out.size))
          clear b7
          rw [← hgX] at x7 ⊢
          have X7 : Hid (RowsAt w7 (.slice (some ⟨gX, 0, none⟩) 1 1) 8 ([p].map Peer.enc)) := Lib.hid x7
          clear x7 hgX
          refine hK.out _ _ HS7.out ?_
          clear hK K' L6 E6 P6 D16 B6 HS6
          refine regS_do (i := 15) rfl (by kernel_rfl) (fun K' hK => ?_)
          go_simp
          refine (C2.out w7 (rows_lowPe L7.out HR.out)).mono ?_
          rintro e8 w8 ⟨A2, k2, rfl, o45, b8⟩
          have L8 : Hid (RowsAt w8 (.slice A l.length cap) 8 (l.map Peer.enc)) := Lib.hid (L7.out.below b8)
          have E8 : Hid (Ent.At w8 gE me) := Lib.hid (Whole.below E7.out b8 E7.out.lt)
          have P8 : Hid (Peer.At w8 gP p) := Lib.hid (Whole.below P7.out b8 P7.out.lt)
          have D18 : Hid (RowsAt w8 (.slice A1 La.length k1) 8 (La.map Peer.enc)) := Lib.hid (D17.out.below b8)
          have X8 : Hid (RowsAt w8 (.slice (some ⟨gX, 0, none⟩) 1 1) 8 ([p].map Peer.enc)) := Lib.hid (X7.out.below b8)
          have B8 := Lib.hid (B7.out.trans (b8.mono B7.out.size))
          have HS8 : Hid (From w4 w8) := Lib.hid (HS7.out.trans (b8.mono HS7.out.size))
          clear b8
          have D28 : Hid (RowsAt w8 (.slice A2 Lb.length k2) 8 (Lb.map Peer.enc)) := Lib.hid o45
          refine hK.out _ _ HS8.out ?_
          clear hK K' L7 E7 P7 D17 X7 B7 HS7 o45
          refine regS_do (i := 16) rfl (by kernel_rfl) (fun K' hK => ?_)
          refine wp_build_3Pe _ _ _ rfl A1 La.length k1 La (some ⟨gX, 0, none⟩) 1 1 [p] A2 Lb.length k2 Lb (by with_unfolding_all exact rfl) (by with_unfolding_all exact rfl) (by with_unfolding_all exact rfl) D18.out X8.out D28.out ?_
          intro w9 b9 x9
          obtain ⟨gW, hgW⟩ : ∃ g, g = w8.heap.size := ⟨_, rfl⟩
          have L9 : Hid (RowsAt w9 (.slice A l.length cap) 8 (l.map Peer.enc)) := Lib.hid (L8.out.below b9)
          have E9 : Hid (Ent.At w9 gE me) := Lib.hid (Whole.below E8.out b9 E8.out.lt)
          have P9 : Hid (Peer.At w9 gP p) := Lib.hid (Whole.below P8.out b9 P8.out.lt)
          have D19 : Hid (RowsAt w9 (.slice A1 La.length k1) 8 (La.map Peer.enc)) := Lib.hid (D18.out.below b9)
          have X9 : Hid (RowsAt w9 (.slice (some ⟨gX, 0, none⟩) 1 1) 8 ([p].map Peer.enc)) := Lib.hid (X8.out.below b9)
          have D29 : Hid (RowsAt w9 (.slice A2 Lb.length k2) 8 (Lb.map Peer.enc)) := Lib.hid (D28.out.below b9)
          have B9 := Lib.hid (B8.out.trans (b9.mono B8.out.size))
          have HS9 : Hid (From w4 w9) := Lib.hid (HS8.out.trans (b9.mono HS8.out.size))
          clear b9
          rw [← hgW] at x9 ⊢
          have W9 : Hid (PartsPe w9 gW [La, [p], Lb]) := Lib.hid x9
          clear x9 hgW
          refine hK.out _ _ HS9.out ?_
          clear hK K' L8 E8 P8 D18 X8 D28 B8 HS8
          refine regS_do (i := 17) rfl (by kernel_rfl) (fun K' hK => ?_)
          go_simp
          refine (CC.out _ w9 W9.out).mono ?_
          rintro e10 w10 ⟨A3, k3, rfl, o47, b10⟩
          have L10 : Hid (RowsAt w10 (.slice A l.length cap) 8 (l.map Peer.enc)) := Lib.hid (L9.out.below b10)
          have E10 : Hid (Ent.At w10 gE me) := Lib.hid (Whole.below E9.out b10 E9.out.lt)
          have P10 : Hid (Peer.At w10 gP p) := Lib.hid (Whole.below P9.out b10 P9.out.lt)
          have D110 : Hid (RowsAt w10 (.slice A1 La.length k1) 8 (La.map Peer.enc)) := Lib.hid (D19.out.below b10)
          have X10 : Hid (RowsAt w10 (.slice (some ⟨gX, 0, none⟩) 1 1) 8 ([p].map Peer.enc)) := Lib.hid (X9.out.below b10)
          have D210 : Hid (RowsAt w10 (.slice A2 Lb.length k2) 8 (Lb.map Peer.enc)) := Lib.hid (D29.out.below b10)
          have W10 : Hid (PartsPe w10 gW [La, [p], Lb]) := Lib.hid (W9.out.below b10)
          have B10 := Lib.hid (B9.out.trans (b10.mono B9.out.size))
          have HS10 : Hid (From w4 w10) := Lib.hid (HS9.out.trans (b10.mono HS9.out.size))
          clear b10
          have O10 : Hid (RowsAt w10 (.slice A3 n k3) 8 (KL.map Peer.enc)) := Lib.hid o47
          refine hK.out _ _ HS10.out ?_
          clear hK K' L9 E9 P9 D19 X9 D29 W9 B9 HS9 o47
          refine regS_take (i := 18) (v := ?_) rfl (by kernel_rfl) (by kernel_rfl) (by kernel_rfl) (fun _ _ _ h => h) (by rfl) HS10.out ?hy18 ?_
          case hy18 => intro w' hw'; go_simp; (try with_reducible rfl)
          simp only [Act.put, List.setIfInBounds_toArray, List.set_cons_zero, List.set_cons_succ]
          refine regS_end (by kernel_rfl) ?_
          clear HS10 L4 E4 P4
          have HO := Lib.hid O10.out.size.2
          go_wp2_with (first | (with_reducible refine wpList_exec rfl _ (exec_slice_hiPe _ _ rfl A3 n k3 t (by with_unfolding_all exact rfl) (by with_unfolding_all exact rfl) (by have := HT.out; have := HO.out; omega) _) ?_) | (with_reducible refine wpList_build_1Pe rfl _ rfl A3 t k3 (KL.take t) (by with_unfolding_all exact rfl) (rows_hiPe O10.out HT.out) ?_))
          intro wp bp xp
          have BP := Lib.hid (B10.out.trans (bp.mono B10.out.size))
          have XP := Lib.hid xp
          clear bp xp
          go_wp2_with fail
          refine (concatPe_any _ 1 [KL.take t] rfl base wp (Nat.le_trans HB.out BP.out.size) XP.out (by decide) (by have := HNL.out; have := HT.out; simp; omega)).mono ?_
          rintro e wq ⟨v, rfl, oq, bq⟩
          have OQ := Lib.hid oq
          have BQ := Lib.hid (BP.out.trans (bq.mono BP.out.size))
          clear oq bq BP XP
          go_wp2
          go_ret
          exact ⟨v, rfl, OQ.out.eqL (by rw [HF3.out]; simp), BQ.out⟩
        · go_simp
          refine (C2.out w6 (rows_lowPe L6.out HR.out)).mono ?_
          rintro e7 w7 ⟨A2, k2, rfl, o45, b7⟩
          have L7 : Hid (RowsAt w7 (.slice A l.length cap) 8 (l.map Peer.enc)) := Lib.hid (L6.out.below b7)
          have E7 : Hid (Ent.At w7 gE me) := Lib.hid (Whole.below E6.out b7 E6.out.lt)
          have P7 : Hid (Peer.At w7 gP p) := Lib.hid (Whole.below P6.out b7 P6.out.lt)
          have D17 : Hid (RowsAt w7 (.slice A1 La.length k1) 8 (La.map Peer.enc)) := Lib.hid (D16.out.below b7)
          have B7 := Lib.hid (B6.out.trans (b7.mono B6.out.size))
          have HS7 : Hid (From w4 w7) := Lib.hid (HS6.out.trans (b7.mono HS6.out.size))
          clear b7
          have D27 : Hid (RowsAt w7 (.slice A2 Lb.length k2) 8 (Lb.map Peer.enc)) := Lib.hid o45
          refine hK.out _ _ HS7.out ?_
          clear hK K' L6 E6 P6 D16 B6 HS6 o45
          refine regS_do (i := 8) rfl (by kernel_rfl) (fun K' hK => ?_)
          refine wp_onePe _ rfl p (by with_unfolding_all exact rfl) ?_
          intro w8 b8 x8
          obtain ⟨gX, hgX⟩ : ∃ g, g = w7.heap.size := ⟨_, rfl⟩
          have L8 : Hid (RowsAt w8 (.slice A l.length cap) 8 (l.map Peer.enc)) := Lib.hid (L7.out.below b8)
          have E8 : Hid (Ent.At w8 gE me) := Lib.hid (Whole.below E7.out b8 E7.out.lt)
          have P8 : Hid (Peer.At w8 gP p) := Lib.hid (Whole.below P7.out b8 P7.out.lt)
          have D18 : Hid (RowsAt w8 (.slice A1 La.length k1) 8 (La.map Peer.enc)) := Lib.hid (D17.out.below b8)
          have D28 : Hid (RowsAt w8 (.slice A2 Lb.length k2) 8 (Lb.map Peer.enc)) := Lib.hid (D27.out.below b8)
          have B8 := Lib.hid (B7.out.trans (b8.mono B7.out.size))
          have HS8 : Hid (From w4 w8) := Lib.hid (HS7.out.trans (b8.mono HS7.out.size))
          clear b8
          rw [← hgX] at x8 ⊢
          have X8 : Hid (RowsAt w8 (.slice (some ⟨gX, 0, none⟩) 1 1) 8 ([p].map Peer.enc)) := Lib.hid x8
          clear x8 hgX
          refine hK.out _ _ HS8.out ?_
          clear hK K' L7 E7 P7 D17 D27 B7 HS7
          refine regS_do (i := 16) rfl (by kernel_rfl) (fun K' hK => ?_)
          refine wp_build_3Pe _ _ _ rfl A1 La.length k1 La (some ⟨gX, 0, none⟩) 1 1 [p] A2 Lb.length k2 Lb (by with_unfolding_all exact rfl) (by with_unfolding_all exact rfl) (by with_unfolding_all exact rfl) D18.out X8.out D28.out ?_
          intro w9 b9 x9
          obtain ⟨gW, hgW⟩ : ∃ g, g = w8.heap.size := ⟨_, rfl⟩
          have L9 : Hid (RowsAt w9 (.slice A l.length cap) 8 (l.map Peer.enc)) := Lib.hid (L8.out.below b9)
          have E9 : Hid (Ent.At w9 gE me) := Lib.hid (Whole.below E8.out b9 E8.out.lt)
          have P9 : Hid (Peer.At w9 gP p) := Lib.hid (Whole.below P8.out b9 P8.out.lt)
          have D19 : Hid (RowsAt w9 (.slice A1 La.length k1) 8 (La.map Peer.enc)) := Lib.hid (D18.out.below b9)
          have D29 : Hid (RowsAt w9 (.slice A2 Lb.length k2) 8 (Lb.map Peer.enc)) := Lib.hid (D28.out.below b9)
          have X9 : Hid (RowsAt w9 (.slice (some ⟨gX, 0, none⟩) 1 1) 8 ([p].map Peer.enc)) := Lib.hid (X8.out.below b9)
          have B9 := Lib.hid (B8.out.trans (b9.mono B8.out.size))
          have HS9 : Hid (From w4 w9) := Lib.hid (HS8.out.trans (b9.mono HS8.out.size))
          clear b9
          rw [← hgW] at x9 ⊢
          have W9 : Hid (PartsPe w9 gW [La, [p], Lb]) := Lib.hid x9
          clear x9 hgW
          refine hK.out _ _ HS9.out ?_
          clear hK K' L8 E8 P8 D18 D28 X8 B8 HS8
          refine regS_do (i := 17) rfl (by kernel_rfl) (fun K' hK => ?_)
          go_simp
          refine (CC.out _ w9 W9.out).mono ?_
          rintro e10 w10 ⟨A3, k3, rfl, o47, b10⟩
          have L10 : Hid (RowsAt w10 (.slice A l.length cap) 8 (l.map Peer.enc)) := Lib.hid (L9.out.below b10)
          have E10 : Hid (Ent.At w10 gE me) := Lib.hid (Whole.below E9.out b10 E9.out.lt)
          have P10 : Hid (Peer.At w10 gP p) := Lib.hid (Whole.below P9.out b10 P9.out.lt)
          have D110 : Hid (RowsAt w10 (.slice A1 La.length k1) 8 (La.map Peer.enc)) := Lib.hid (D19.out.below b10)
          have D210 : Hid (RowsAt w10 (.slice A2 Lb.length k2) 8 (Lb.map Peer.enc)) := Lib.hid (D29.out.below b10)
          have X10 : Hid (RowsAt w10 (.slice (some ⟨gX, 0, none⟩) 1 1) 8 ([p].map Peer.enc)) := Lib.hid (X9.out.below b10)
          have W10 : Hid (PartsPe w10 gW [La, [p], Lb]) := Lib.hid (W9.out.below b10)
          have B10 := Lib.hid (B9.out.trans (b10.mono B9.out.size))
          have HS10 : Hid (From w4 w10) := Lib.hid (HS9.out.trans (b10.mono HS9.out.size))
          clear b10
          have O10 : Hid (RowsAt w10 (.slice A3 n k3) 8 (KL.map Peer.enc)) := Lib.hid o47
          refine hK.out _ _ HS10.out ?_
          clear hK K' L9 E9 P9 D19 D29 X9 W9 B9 HS9 o47
          refine regS_take (i := 18) (v := ?_) rfl (by kernel_rfl) (by kernel_rfl) (by kernel_rfl) (fun _ _ _ h => h) (by rfl) HS10.out ?hy18 ?_
          case hy18 => intro w' hw'; go_simp; (try with_reducible rfl)
          simp only [Act.put, List.setIfInBounds_toArray, List.set_cons_zero, List.set_cons_succ]
          refine regS_end (by kernel_rfl) ?_
          clear HS10 L4 E4 P4
          have HO := Lib.hid O10.out.size.2
          go_wp2_with (first | (with_reducible refine wpList_exec rfl _ (exec_slice_hiPe _ _ rfl A3 n k3 t (by with_unfolding_all exact rfl) (by with_unfolding_all exact rfl) (by have := HT.out; have := HO.out; omega) _) ?_) | (with_reducible refine wpList_build_1Pe rfl _ rfl A3 t k3 (KL.take t) (by with_unfolding_all exact rfl) (rows_hiPe O10.out HT.out) ?_))
          intro wp bp xp
          have BP := Lib.hid (B10.out.trans (bp.mono B10.out.size))
          have XP := Lib.hid xp
          clear bp xp
          go_wp2_with fail
          refine (concatPe_any _ 1 [KL.take t] rfl base wp (Nat.le_trans HB.out BP.out.size) XP.out (by decide) (by have := HNL.out; have := HT.out; simp; omega)).mono ?_
          rintro e wq ⟨v, rfl, oq, bq⟩
          have OQ := Lib.hid oq
          have BQ := Lib.hid (BP.out.trans (bq.mono BP.out.size))
          clear oq bq BP XP
          go_wp2
          go_ret
          exact ⟨v, rfl, OQ.out.eqL (by rw [HF3.out]; simp), BQ.out⟩
      · refine wp_onePe _ rfl p (by with_unfolding_all exact rfl) ?_
        intro w6 b6 x6
        obtain ⟨gX, hgX⟩ : ∃ g, g = w5.heap.size := ⟨_, rfl⟩
        have L6 : Hid (RowsAt w6 (.slice A l.length cap) 8 (l.map Peer.enc)) := Lib.hid (L5.out.below b6)
        have E6 : Hid (Ent.At w6 gE me) := Lib.hid (Whole.below E5.out b6 E5.out.lt)
        have P6 : Hid (Peer.At w6 gP p) := Lib.hid (Whole.below P5.out b6 P5.out.lt)
        have B6 := Lib.hid (B5.out.trans (b6.mono B5.out.size))
        have HS6 : Hid (From w4 w6) := Lib.hid (HS5.out.trans (b6.mono HS5.out.size))
        clear b6
        rw [← hgX] at x6 ⊢
        have X6 : Hid (RowsAt w6 (.slice (some ⟨gX, 0, none⟩) 1 1) 8 ([p].map Peer.enc)) := Lib.hid x6
        clear x6 hgX
        refine hK.out _ _ HS6.out ?_
        clear hK K' L5 E5 P5 B5 HS5
        refine regS_do (i := 6) rfl (by kernel_rfl) (fun K' hK => ?_)
        go_simp
        refine (C1.out w6 (rows_hiPe L6.out HR.out)).mono ?_
        rintro e7 w7 ⟨A1, k1, rfl, o36, b7⟩
        have L7 : Hid (RowsAt w7 (.slice A l.length cap) 8 (l.map Peer.enc)) := Lib.hid (L6.out.below b7)
        have E7 : Hid (Ent.At w7 gE me) := Lib.hid (Whole.below E6.out b7 E6.out.lt)
        have P7 : Hid (Peer.At w7 gP p) := Lib.hid (Whole.below P6.out b7 P6.out.lt)
        have X7 : Hid (RowsAt w7 (.slice (some ⟨gX, 0, none⟩) 1 1) 8 ([p].map Peer.enc)) := Lib.hid (X6.out.below b7)
        have B7 := Lib.hid (B6.out.trans (b7.mono B6.out.size))
        have HS7 : Hid (From w4 w7) := Lib.hid (HS6.out.trans (b7.mono HS6.out.size))
        clear b7
        have D17 : Hid (RowsAt w7 (.slice A1 La.length k1) 8 (La.map Peer.enc)) := Lib.hid o36
        refine hK.out _ _ HS7.out ?_
        clear hK K' L6 E6 P6 X6 B6 HS6 o36
        refine regS_do (i := 15) rfl (by kernel_rfl) (fun K' hK => ?_)
        go_simp
        refine (C2.out w7 (rows_lowPe L7.out HR.out)).mono ?_
        rintro e8 w8 ⟨A2, k2, rfl, o45, b8⟩
        have L8 : Hid (RowsAt w8 (.slice A l.length cap) 8 (l.map Peer.enc)) := Lib.hid (L7.out.below b8)
        have E8 : Hid (Ent.At w8 gE me) := Lib.hid (Whole.below E7.out b8 E7.out.lt)
        have P8 : Hid (Peer.At w8 gP p) := Lib.hid (Whole.below P7.out b8 P7.out.lt)
        have X8 : Hid (RowsAt w8 (.slice (some ⟨gX, 0, none⟩) 1 1) 8 ([p].map Peer.enc)) := Lib.hid (X7.out.below b8)
        have D18 : Hid (RowsAt w8 (.slice A1 La.length k1) 8 (La.map Peer.enc)) := Lib.hid (D17.out.below b8)
        have B8 := Lib.hid (B7.out.trans (b8.mono B7.out.size))
        have HS8 : Hid (From w4 w8) := Lib.hid (HS7.out.trans (b8.mono HS7.out.size))
        clear b8
        have D28 : Hid (RowsAt w8 (.slice A2 Lb.length k2) 8 (Lb.map Peer.enc)) := Lib.hid o45
        refine hK.out _ _ HS8.out ?_
        clear hK K' L7 E7 P7 X7 D17 B7 HS7 o45
        refine regS_do (i := 16) rfl (by kernel_rfl) (fun K' hK => ?_)
        refine wp_build_3Pe _ _ _ rfl A1 La.length k1 La (some ⟨gX, 0, none⟩) 1 1 [p] A2 Lb.length k2 Lb (by with_unfolding_all exact rfl) (by with_unfolding_all exact rfl) (by with_unfolding_all exact rfl) D18.out X8.out D28.out ?_
        intro w9 b9 x9
        obtain ⟨gW, hgW⟩ : ∃ g, g = w8.heap.size := ⟨_, rfl⟩
        have L9 : Hid (RowsAt w9 (.slice A l.length cap) 8 (l.map Peer.enc)) := Lib.hid (L8.out.below b9)
        have E9 : Hid (Ent.At w9 gE me) := Lib.hid (Whole.below E8.out b9 E8.out.lt)
        have P9 : Hid (Peer.At w9 gP p) := Lib.hid (Whole.below P8.out b9 P8.out.lt)
        have X9 : Hid (RowsAt w9 (.slice (some ⟨gX, 0, none⟩) 1 1) 8 ([p].map Peer.enc)) := Lib.hid (X8.out.below b9)
        have D19 : Hid (RowsAt w9 (.slice A1 La.length k1) 8 (La.map Peer.enc)) := Lib.hid (D18.out.below b9)
        have D29 : Hid (RowsAt w9 (.slice A2 Lb.length k2) 8 (Lb.map Peer.enc)) := Lib.hid (D28.out.below b9)
        have B9 := Lib.hid (B8.out.trans (b9.mono B8.out.size))
        have HS9 : Hid (From w4 w9) := Lib.hid (HS8.out.trans (b9.mono HS8.out.size))
        clear b9
        rw [← hgW] at x9 ⊢
        have W9 : Hid (PartsPe w9 gW [La, [p], Lb]) := Lib.hid x9
        clear x9 hgW
        refine hK.out _ _ HS9.out ?_
        clear hK K' L8 E8 P8 X8 D18 D28 B8 HS8
        refine regS_do (i := 17) rfl (by kernel_rfl) (fun K' hK => ?_)
        go_simp
        refine (CC.out _ w9 W9.out).mono ?_
        rintro e10 w10 ⟨A3, k3, rfl, o47, b10⟩
        have L10 : Hid (RowsAt w10 (.slice A l.length cap) 8 (l.map Peer.enc)) := Lib.hid (L9.out.below b10)
        have E10 : Hid (Ent.At w10 gE me) := Lib.hid (Whole.below E9.out b10 E9.out.lt)
        have P10 : Hid (Peer.At w10 gP p) := Lib.hid (Whole.below P9.out b10 P9.out.lt)
        have X10 : Hid (RowsAt w10 (.slice (some ⟨gX, 0, none⟩) 1 1) 8 ([p].map Peer.enc)) := Lib.hid (X9.out.below b10)
        have D110 : Hid (RowsAt w10 (.slice A1 La.length k1) 8 (La.map Peer.enc)) := Lib.hid (D19.out.below b10)
        have D210 : Hid (RowsAt w10 (.slice A2 Lb.length k2) 8 (Lb.map Peer.enc)) := Lib.hid (D29.out.below b10)
        have W10 : Hid (PartsPe w10 gW [La, [p], Lb]) := Lib.hid (W9.out.below b10)
        have B10 := Lib.hid (B9.out.trans (b10.mono B9.out.size))
        have HS10 : Hid (From w4 w10) := Lib.hid (HS9.out.trans (b10.mono HS9.out.size))
        clear b10
        have O10 : Hid (RowsAt w10 (.slice A3 n k3) 8 (KL.map Peer.enc)) := Lib.hid o47
        refine hK.out _ _ HS10.out ?_
        clear hK K' L9 E9 P9 X9 D19 D29 W9 B9 HS9 o47
        refine regS_take (i := 18) (v := ?_) rfl (by kernel_rfl) (by kernel_rfl) (by kernel_rfl) (fun _ _ _ h => h) (by rfl) HS10.out ?hy18 ?_
        case hy18 => intro w' hw'; go_simp; (try with_reducible rfl)
        simp only [Act.put, List.setIfInBounds_toArray, List.set_cons_zero, List.set_cons_succ]
        refine regS_end (by kernel_rfl) ?_
        clear HS10 L4 E4 P4
        have HO := Lib.hid O10.out.size.2
        go_wp2_with (first | (with_reducible refine wpList_exec rfl _ (exec_slice_hiPe _ _ rfl A3 n k3 t (by with_unfolding_all exact rfl) (by with_unfolding_all exact rfl) (by have := HT.out; have := HO.out; omega) _) ?_) | (with_reducible refine wpList_build_1Pe rfl _ rfl A3 t k3 (KL.take t) (by with_unfolding_all exact rfl) (rows_hiPe O10.out HT.out) ?_))
        intro wp bp xp
        have BP := Lib.hid (B10.out.trans (bp.mono B10.out.size))
        have XP := Lib.hid xp
        clear bp xp
        go_wp2_with fail
        refine (concatPe_any _ 1 [KL.take t] rfl base wp (Nat.le_trans HB.out BP.out.size) XP.out (by decide) (by have := HNL.out; have := HT.out; simp; omega)).mono ?_
        rintro e wq ⟨v, rfl, oq, bq⟩
        have OQ := Lib.hid oq
        have BQ := Lib.hid (BP.out.trans (bq.mono BP.out.size))
        clear oq bq BP XP
        go_wp2
        go_ret
        exact ⟨v, rfl, OQ.out.eqL (by rw [HF3.out]; simp), BQ.out⟩
end Go.Proofs.Ytknccbdcfpncnaa
