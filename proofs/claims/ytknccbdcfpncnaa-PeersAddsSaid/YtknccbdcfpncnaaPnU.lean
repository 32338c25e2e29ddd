/- Layer 24: the document's Add. (Written by tools/mkpnadd.py.) -/
import Derived.Test.YtknccbdcfpncnaaPnS
import Derived.Test.YtknccbdcfpncnaaPnL
import Derived.Test.YtknccbdcfpncnaaPnD
namespace Go.Proofs.Ytknccbdcfpncnaa
set_option maxRecDepth 100000
open Go.RowKit

set_option maxRecDepth 100000
set_option maxHeartbeats 2000000 in
theorem refAdd_any (A : Option Addr) (m cap : Nat) (l : List Peer) (me : Ent) (p : Peer) (w : World) (hl : l.length ≤ 10000) (hw : Words l) (hs : Short l) (hi : me.id < 18446744073709551616) (hp : p.entry.id < 18446744073709551616) (hn : p.entry.name.length ≤ 1000000) (h : RowsAt w (.slice A m cap) 8 (l.map Peer.enc)) :
    Calls Try.prog 12 #[me.val, .slice A m cap, p.val] w fun e w' => ∃ v, e = .returned v ∧ RowsAt w' v 8 ((addQ me l p).map Peer.enc) ∧ Below w.heap.size w w' := by
  have hm : m = l.length := by have := h.size.1; simpa using this
  subst hm
  have HL := Lib.hid hl
  have H := Lib.hid h
  obtain ⟨rest, hrest⟩ : ∃ r, r = dropQ l p.entry.name := ⟨_, rfl⟩
  have CD := Lib.hid (fun w h => as_slicePe (refDrop_any A l.length cap l p.entry.name w.heap.size w (Nat.le_refl _) (by omega) h))
  have hrl : rest.length ≤ l.length := by rw [hrest]; exact List.length_filter_le _ _
  have HRL : Hid (rest.length ≤ 10000) := Lib.hid (Nat.le_trans hrl hl)
  have rw_ : Words rest := by rw [hrest]; exact hw.drop _
  have rs : Short rest := by rw [hrest]; exact hs.drop _
  have CA : Hid (∀ y ∈ rest, ∀ w, Calls Try.prog 32 #[me.val, y.val, p.val] w fun e w' => e = .returned (.bool (aheadE me.id y.entry p.entry)) ∧ Below w.heap.size w w') := Lib.hid (fun y hy w => refAhead_any me y p hi (rw_ y hy) hp (rs y hy) hn w)
  have HF : Hid (addQ me l p = if p.entry.name = me.name then l else if hasQ l p.entry then l else (rest.take (rest.takeWhile (fun q => aheadE me.id q.entry p.entry)).length ++ [p] ++ rest.drop (rest.takeWhile (fun q => aheadE me.id q.entry p.entry)).length).take 7) := Lib.hid (by
    rw [take_while, drop_while, hrest, ← (addQ_rest me l p).1, ← (addQ_rest me l p).2]; rfl)
  have HHAS : Hid (hasQ l p.entry = l.any fun x => decide (x.entry = p.entry)) := Lib.hid rfl
  simp only [← hrest] at CD
  clear hl hw hs hi hp hn h hrl rw_ rs hrest
  go_enter Try.func12, Try.ntmps12
  go_wp2_with (refine wpList_box_row rfl 24 _ rfl me.enc.toArray (by with_unfolding_all exact rfl) ?_)
  intro w1 b1 x1 z1
  obtain ⟨gE, hgE⟩ : ∃ g, g = w.heap.size := ⟨_, rfl⟩
  have M_E := Lib.hid (show w.heap.size ≤ gE from by rw [hgE]; exact Nat.le_refl _)
  have B1 := Lib.hid b1
  rw [← hgE] at x1 ⊢
  have E1 : Hid (Ent.At w1 gE me) := Lib.hid x1
  clear b1 x1 z1 hgE 
  go_wp2_with (first | (with_reducible refine wpList_load_whole Ent.isRec rfl _ rfl gE (by with_unfolding_all exact rfl) _ _ (Ent.len _) E1.out ?_) | (refine wpList_box_row rfl 27 _ rfl p.enc.toArray (by with_unfolding_all exact rfl) ?_))
  intro w2 b2 x2 z2
  obtain ⟨gP, hgP⟩ : ∃ g, g = w1.heap.size := ⟨_, rfl⟩
  have N_E_P := Lib.hid (show gE < gP from by rw [hgP]; exact E1.out.lt)
  have M_P := Lib.hid (show w.heap.size ≤ gP from by rw [hgP]; exact B1.out.size)
  have E2 : Hid (Ent.At w2 gE me) := Lib.hid (Whole.below E1.out b2 E1.out.lt)
  have B2 := Lib.hid (B1.out.trans (b2.mono B1.out.size))
  rw [← hgP] at x2 ⊢
  have P2 : Hid (Peer.At w2 gP p) := Lib.hid x2
  clear b2 x2 z2 hgP E1 B1
  have c1 := Peer.At.at_entry_name P2.out
  have c2 := Ent.At.at_name E2.out
  by_cases hn : p.entry.name = me.name
  · have d1 : (p.entry.name == me.name) = true := by rw [beq_iff_eq]; exact hn
    have HV : Hid (addQ me l p = l) := Lib.hid (by rw [HF.out, if_pos hn])
    clear hn HF CA CD
    go_wp2
    go_ret
    exact ⟨_, rfl, by rw [HV.out]; exact H.out.below B2.out, B2.out⟩
  · have d1 : (p.entry.name == me.name) = false := by rw [beq_eq_false_iff_ne]; exact hn
    have HF1 : Hid (addQ me l p = if hasQ l p.entry then l else (rest.take (rest.takeWhile (fun q => aheadE me.id q.entry p.entry)).length ++ [p] ++ rest.drop (rest.takeWhile (fun q => aheadE me.id q.entry p.entry)).length).take 7) := Lib.hid (by rw [HF.out, if_neg hn])
    clear hn HF
    go_wp2_with fail
    go_loopw [7] (fun i wr => ∃ k : Nat, k ≤ l.length ∧ i = .int .i64 (k : Int) ∧ (∀ y ∈ l.take k, decide (y.entry = p.entry) = false) ∧ Ent.At wr gE me ∧ Peer.At wr gP p ∧ Below w.heap.size w wr) (fun i _ => l.length - (intOf i).toNat)
    case atStart => exact ⟨0, Nat.zero_le _, rfl, fun y hy => by simp at hy, E2.out, P2.out, B2.out⟩
    case round =>
      obtain ⟨k, hk, rfl, hr, he, hpp, hb⟩ := hrel
      have HO := Lib.hid hr
      have ER := Lib.hid he
      have PR := Lib.hid hpp
      have B0 := Lib.hid hb
      clear hr he hpp hb E2 P2 B2 c1 c2
      by_cases hlt : k < l.length
      · have dk : decide ((k : Int) < (l.length : Int)) = true := by simp; omega
        obtain ⟨x, hx⟩ : ∃ x, l[k]? = some x := ⟨_, List.getElem?_eq_getElem hlt⟩
        obtain ⟨b, off, rfl, hc⟩ := row_ofPe H.out hx
        have HX := Lib.hid hc
        have jk : (k : Int) < (l.length : Int) := by omega
        have r4 : IntKind.i64.wrap ((k : Int) + 1) = ((k + 1 : Nat) : Int) := by have := HL.out; rw [IntWalk.i64_in _ (by omega)]; omega
        have HT1 : Hid (l.take (k + 1) = l.take k ++ [x]) := Lib.hid (by rw [List.take_add_one, hx]; rfl)
        have HXM := Lib.hid (List.mem_of_getElem? hx)
        have req : ∀ w, (binOp .eql 24 x.entry.val p.entry.val).run Try.prog w = .ok (.bool (decide (x.entry = p.entry))) w := Ent.eq_run _ _
        obtain ⟨q, hq⟩ : ∃ q, q = decide (x.entry = p.entry) := ⟨_, rfl⟩
        have HQ := Lib.hid hq
        simp only [← hq] at req
        clear hc hx hq
        go_wp2_with (first | (with_reducible refine wpList_load_whole Ent.isRec rfl _ rfl gE (by with_unfolding_all exact rfl) _ _ (Ent.len _) ER.out ?_) | (with_reducible refine wpList_load_whole Peer.isRec rfl _ rfl gP (by with_unfolding_all exact rfl) _ _ (Peer.len _) PR.out ?_) | (with_reducible refine wpList_load_rec Ent.isRec rfl _ rfl gP 0 (by with_unfolding_all exact rfl) _ (Ent.len _) (Peer.At.part_entry PR.out) ?_))
        refine reg_begin (by kernel_rfl) fun w1 b1 z1 => ?_
        have E1 : Hid (Ent.At w1 gE me) := Lib.hid (Whole.below ER.out b1 ER.out.lt)
        have P1 : Hid (Peer.At w1 gP p) := Lib.hid (Whole.below PR.out b1 PR.out.lt)
        have B1 := Lib.hid (B0.out.trans (b1.mono B0.out.size))
        clear b1 z1 ER PR B0
        refine reg_take (i := 0) (v := ?_) rfl (by kernel_rfl) (by kernel_rfl) (by kernel_rfl) (fun _ _ _ h => h) (by rfl) ?hy0 ?_
        case hy0 => intro w' hw'; go_simp; (try with_reducible rfl)
        simp only [Act.put, List.setIfInBounds_toArray, List.set_cons_zero, List.set_cons_succ]
        refine reg_take (i := 1) (v := ?_) rfl (by kernel_rfl) (by kernel_rfl) (by kernel_rfl) (fun _ _ _ h => h) (by rfl) ?hy1 ?_
        case hy1 => intro w' hw'; go_simp; (try with_reducible rfl)
        simp only [Act.put, List.setIfInBounds_toArray, List.set_cons_zero, List.set_cons_succ]
        refine reg_take (i := 2) (v := ?_) rfl (by kernel_rfl) (by kernel_rfl) (by kernel_rfl) (fun _ _ _ h => h) (by rfl) ?hy2 ?_
        case hy2 => intro w' hw'; go_simp; (try with_reducible rfl)
        simp only [Act.put, List.setIfInBounds_toArray, List.set_cons_zero, List.set_cons_succ]
        refine reg_take (i := 3) (v := ?_) rfl (by kernel_rfl) (by kernel_rfl) (by kernel_rfl) (fun _ _ _ h => h) (by rfl) ?hy3 ?_
        case hy3 => intro w' hw'; go_simp; (try with_reducible rfl)
        simp only [Act.put, List.setIfInBounds_toArray, List.set_cons_zero, List.set_cons_succ]
        refine reg_take (i := 4) (v := x.entry.val) rfl (by kernel_rfl) (by kernel_rfl) (by kernel_rfl) (fun _ _ _ h => h) (by rfl) ?hy4 ?_
        case hy4 => intro w' hw'; exact exec_load_rec Ent.isRec _ rfl b (off + k * 8) rfl _ (Ent.len _) w' (fun u v hu => HX.out w' (B1.out.trans (hw'.mono B1.out.size)) u v (entry_cells x hu))
        simp only [Act.put, List.setIfInBounds_toArray, List.set_cons_zero, List.set_cons_succ]
        refine reg_take (i := 5) (v := ?_) rfl (by kernel_rfl) (by kernel_rfl) (by kernel_rfl) (fun _ _ _ h => h) (by rfl) ?hy5 ?_
        case hy5 => intro w' hw'; go_simp; (try with_reducible rfl)
        simp only [Act.put, List.setIfInBounds_toArray, List.set_cons_zero, List.set_cons_succ]
        refine reg_take (i := 6) (v := Ent.val (p).entry) rfl (by kernel_rfl) (by kernel_rfl) (by kernel_rfl) (fun _ _ _ h => h) (by rfl) ?hy6 ?_
        case hy6 => intro w' hw'; exact exec_load_rec Ent.isRec _ rfl gP 0 rfl _ (Ent.len _) w' (Peer.At.part_entry (Whole.below P1.out hw' P1.out.lt))
        simp only [Act.put, List.setIfInBounds_toArray, List.set_cons_zero, List.set_cons_succ]
        refine reg_take (i := 7) (v := .bool q) rfl (by kernel_rfl) (by kernel_rfl) (by kernel_rfl) (fun _ _ _ h => h) (by rfl) ?hy7 ?_
        case hy7 => intro w' hw'; exact exec_eq_rec Ent.isRec _ _ _ rfl x.entry.enc p.entry.enc (Ent.fits _) (Ent.fits _) rfl rfl q (by rw [Ent.same]; exact HQ.out) w'
        simp only [Act.put, List.setIfInBounds_toArray, List.set_cons_zero, List.set_cons_succ]
        refine reg_end (by kernel_rfl) ?_
        cases q with
        | true =>
          have HV : Hid (addQ me l p = l) := Lib.hid (by
            have e : hasQ l p.entry = true := by rw [HHAS.out, List.any_eq_true]; exact ⟨x, HXM.out, HQ.out.symm⟩
            rw [HF1.out, e]; rfl)
          go_wp2
          go_ret
          exact ⟨_, rfl, by rw [HV.out]; exact H.out.below B1.out, B1.out⟩
        | false =>
          have HV : Hid (∀ y ∈ l.take (k + 1), decide (y.entry = p.entry) = false) := Lib.hid (by
            intro y hy
            rw [HT1.out] at hy
            rcases List.mem_append.1 hy with z | z
            · exact HO.out y z
            · rw [List.mem_singleton] at z; subst z; exact HQ.out.symm)
          go_wp2
          exact ⟨⟨k + 1, by omega, by go_num, HV.out, E1.out, P1.out, B1.out⟩, by simp [intOf]; omega⟩
      · obtain rfl : k = l.length := by omega
        have dk : decide ((l.length : Int) < (l.length : Int)) = false := by simp
        have HF3 : Hid (addQ me l p = (rest.take (rest.takeWhile (fun q => aheadE me.id q.entry p.entry)).length ++ [p] ++ rest.drop (rest.takeWhile (fun q => aheadE me.id q.entry p.entry)).length).take 7) := Lib.hid (by
          have e : hasQ l p.entry = false := by
            rw [HHAS.out, List.any_eq_false]
            intro y hy
            have := HO.out y (by rw [List.take_length]; exact hy)
            rw [this]; decide
          rw [HF1.out, e]; rfl)
        clear HF1 HHAS HO hlt
        have c1 := Peer.At.at_entry_name PR.out
        go_wp2_with (first | (with_reducible refine wpList_load_whole Ent.isRec rfl _ rfl gE (by with_unfolding_all exact rfl) _ _ (Ent.len _) ER.out ?_) | (with_reducible refine wpList_load_whole Peer.isRec rfl _ rfl gP (by with_unfolding_all exact rfl) _ _ (Peer.len _) PR.out ?_) | (with_reducible refine wpList_load_rec Ent.isRec rfl _ rfl gP 0 (by with_unfolding_all exact rfl) _ (Ent.len _) (Peer.At.part_entry PR.out) ?_) | fail)
        refine (CD.out wr (H.out.below B0.out)).mono ?_
        rintro e1 w1 ⟨A1, k1, rfl, o1, b1⟩
        have E1 : Hid (Ent.At w1 gE me) := Lib.hid (Whole.below ER.out b1 ER.out.lt)
        have P1 : Hid (Peer.At w1 gP p) := Lib.hid (Whole.below PR.out b1 PR.out.lt)
        have B1 := Lib.hid (B0.out.trans (b1.mono B0.out.size))
        have D1 : Hid (RowsAt w1 (.slice A1 rest.length k1) 8 (rest.map Peer.enc)) := Lib.hid o1
        clear b1 ER PR B0 o1
        clear c1 CD
        go_wp2_with fail
        go_loopw [9] (fun i wr => ∃ k : Nat, k ≤ rest.length ∧ i = .int .i64 (k : Int) ∧ (∀ y ∈ rest.take k, aheadE me.id y.entry p.entry = true) ∧ Ent.At wr gE me ∧ Peer.At wr gP p ∧ RowsAt wr (.slice A1 rest.length k1) 8 (rest.map Peer.enc) ∧ Below w.heap.size w wr) (fun i _ => rest.length - (intOf i).toNat)
        case atStart => exact ⟨0, Nat.zero_le _, rfl, fun y hy => by simp at hy, E1.out, P1.out, D1.out, B1.out⟩
        case round =>
          obtain ⟨t, ht, rfl, hr, he, hpp, hd, hb⟩ := hrel
          have HO := Lib.hid hr
          have ER := Lib.hid he
          have PR := Lib.hid hpp
          have DR := Lib.hid hd
          have B0 := Lib.hid hb
          have HT := Lib.hid ht
          clear hr he hpp hb hd E1 P1 D1 B1
          have D0 : Hid (RowsAt wr (.slice A1 rest.length k1) 8 (rest.map Peer.enc)) := Lib.hid (DR.out)
          clear DR
          obtain ⟨KL, hKL⟩ : ∃ K, K = rest.take t ++ [p] ++ rest.drop t := ⟨_, rfl⟩
          have HKL := Lib.hid hKL
          clear hKL
          by_cases hlt : ¬ t < rest.length
          · have htl : t = rest.length := by omega
            have dk : decide ((t : Int) < (rest.length : Int)) = false := by simp; omega
            have dkn : decide (t < rest.length) = false := by simp; omega
            have HF2 : Hid (addQ me l p = KL.take 7) := Lib.hid (by
              have e := while_all (p := fun q : Peer => aheadE me.id q.entry p.entry) (l := rest) (fun y hy => HO.out y (by rw [htl, List.take_length]; exact hy))
              rw [HF3.out, e, HKL.out, htl])
            clear HF3 CA htl hlt
            go_wp2_with (first | (with_reducible refine wpList_load_whole Ent.isRec rfl _ rfl gE (by with_unfolding_all exact rfl) _ _ (Ent.len _) ER.out ?_) | (with_reducible refine wpList_load_whole Peer.isRec rfl _ rfl gP (by with_unfolding_all exact rfl) _ _ (Peer.len _) PR.out ?_) | (with_reducible refine wpList_load_rec Ent.isRec rfl _ rfl gP 0 (by with_unfolding_all exact rfl) _ (Ent.len _) (Peer.At.part_entry PR.out) ?_))
            refine reg_begin (by kernel_rfl) fun w1 b1 z1 => ?_
            have E1 : Hid (Ent.At w1 gE me) := Lib.hid (Whole.below ER.out b1 ER.out.lt)
            have P1 : Hid (Peer.At w1 gP p) := Lib.hid (Whole.below PR.out b1 PR.out.lt)
            have D1 : Hid (RowsAt w1 (.slice A1 rest.length k1) 8 (rest.map Peer.enc)) := Lib.hid (D0.out.below b1)
            have B1 := Lib.hid (B0.out.trans (b1.mono B0.out.size))
            clear b1 z1 ER PR D0 B0
            refine reg_take (i := 0) (v := ?_) rfl (by kernel_rfl) (by kernel_rfl) (by kernel_rfl) (fun _ _ _ h => h) (by rfl) ?hy0 ?_
            case hy0 => intro w' hw'; go_simp; (try with_reducible rfl)
            simp only [Act.put, List.setIfInBounds_toArray, List.set_cons_zero, List.set_cons_succ]
            refine reg_take (i := 1) (v := ?_) rfl (by kernel_rfl) (by kernel_rfl) (by kernel_rfl) (fun _ _ _ h => h) (by rfl) ?hy1 ?_
            case hy1 => intro w' hw'; go_simp; (try with_reducible rfl)
            simp only [Act.put, List.setIfInBounds_toArray, List.set_cons_zero, List.set_cons_succ]
            refine reg_take (i := 2) (v := ?_) rfl (by kernel_rfl) (by kernel_rfl) (by kernel_rfl) (fun _ _ _ h => h) (by rfl) ?hy2 ?_
            case hy2 => intro w' hw'; go_simp; (try with_reducible rfl)
            simp only [Act.put, List.setIfInBounds_toArray, List.set_cons_zero, List.set_cons_succ]
            refine reg_take (i := 3) (v := ?_) rfl (by kernel_rfl) (by kernel_rfl) (by kernel_rfl) (fun _ _ _ h => h) (by rfl) ?hy3 ?_
            case hy3 => intro w' hw'; go_simp; (try with_reducible rfl)
            simp only [Act.put, List.setIfInBounds_toArray, List.set_cons_zero, List.set_cons_succ]
            refine reg_take (i := 4) (v := ?_) rfl (by kernel_rfl) (by kernel_rfl) (by kernel_rfl) (fun _ _ _ h => h) (by rfl) ?hy4 ?_
            case hy4 => intro w' hw'; go_simp; (try with_reducible rfl)
            simp only [Act.put, List.setIfInBounds_toArray, List.set_cons_zero, List.set_cons_succ]
            refine reg_skip (i := 5) rfl (by kernel_rfl) (by kernel_rfl) (by kernel_rfl) (fun _ _ _ h => h) (by rfl) ?_
            simp only [Act.put, List.setIfInBounds_toArray, List.set_cons_zero, List.set_cons_succ]
            refine reg_skip (i := 6) rfl (by kernel_rfl) (by kernel_rfl) (by kernel_rfl) (fun _ _ _ h => h) (by rfl) ?_
            simp only [Act.put, List.setIfInBounds_toArray, List.set_cons_zero, List.set_cons_succ]
            refine reg_skip (i := 7) rfl (by kernel_rfl) (by kernel_rfl) (by kernel_rfl) (fun _ _ _ h => h) (by rfl) ?_
            simp only [Act.put, List.setIfInBounds_toArray, List.set_cons_zero, List.set_cons_succ]
            refine reg_skip (i := 8) rfl (by kernel_rfl) (by kernel_rfl) (by kernel_rfl) (fun _ _ _ h => h) (by rfl) ?_
            simp only [Act.put, List.setIfInBounds_toArray, List.set_cons_zero, List.set_cons_succ]
            refine reg_skip (i := 9) rfl (by kernel_rfl) (by kernel_rfl) (by kernel_rfl) (fun _ _ _ h => h) (by rfl) ?_
            simp only [Act.put, List.setIfInBounds_toArray, List.set_cons_zero, List.set_cons_succ]
            refine reg_skip (i := 10) rfl (by kernel_rfl) (by kernel_rfl) (by kernel_rfl) (fun _ _ _ h => h) (by rfl) ?_
            simp only [Act.put, List.setIfInBounds_toArray, List.set_cons_zero, List.set_cons_succ]
            refine reg_skip (i := 11) rfl (by kernel_rfl) (by kernel_rfl) (by kernel_rfl) (fun _ _ _ h => h) (by rfl) ?_
            simp only [Act.put, List.setIfInBounds_toArray, List.set_cons_zero, List.set_cons_succ]
            refine reg_take (i := 12) (v := ?_) rfl (by kernel_rfl) (by kernel_rfl) (by kernel_rfl) (fun _ _ _ h => h) (by rfl) ?hy12 ?_
            case hy12 => intro w' hw'; go_simp; (try with_reducible rfl)
            simp only [Act.put, List.setIfInBounds_toArray, List.set_cons_zero, List.set_cons_succ]
            refine reg_end (by kernel_rfl) ?_
            have DZ := Lib.hid D1.out
            have PZ := Lib.hid P1.out
            have BW := Lib.hid B1.out
            have HE1 : Hid (((rest.take t).map Peer.enc).length + [p.enc].length ≤ 10000000) := Lib.hid (by have := HRL.out; have := HT.out; rw [List.length_map, List.length_take, List.length_singleton]; omega)
            have HE2 : Hid (((rest.take t ++ [p]).map Peer.enc).length + ((rest.drop t).map Peer.enc).length ≤ 10000000) := Lib.hid (by have := HRL.out; have := HT.out; rw [List.length_map, List.length_map, List.length_append, List.length_take, List.length_drop, List.length_singleton]; omega)
            go_wp2_with (with_reducible refine wpList_build_0Pe (base := w1.heap.size) rfl rfl (Nat.le_refl _) ?_)
            intro wp bp xp
            have XP := Lib.hid xp
            have BP := Lib.hid bp
            clear bp xp D1 P1 B1 E1
            go_wp2_with (first | (with_reducible refine wpList_exec rfl _ (exec_slice_hiPe _ _ rfl A1 rest.length k1 t (by with_unfolding_all exact rfl) (by with_unfolding_all exact rfl) (by have := HT.out; have := DZ.out.size.2; omega) _) ?_) | (with_reducible refine wpList_append_litPe rfl _ _ rfl _ (by with_unfolding_all exact rfl) XP.out _ (rest.take t) (by with_unfolding_all exact rfl) (rows_hiPe (DZ.out.below BP.out) HT.out) (by have := HRL.out; have := HT.out; rw [List.length_take]; omega) BP.out.size ?_))
            intro v wq bq oq
            have OQ : Hid (OwnRows wq w1.heap.size 27 8 v ((rest.take t).map Peer.enc)) := Lib.hid (oq.eqL (by simp [List.map_take]))
            have BQ := Lib.hid (BP.out.trans (bq.mono BP.out.size))
            clear bq oq XP BP
            go_wp2_with (first | (with_reducible refine wpList_load_whole Peer.isRec rfl _ rfl gP (by with_unfolding_all exact rfl) _ _ (Peer.len _) (Whole.below PZ.out BQ.out PZ.out.lt) ?_) | (with_reducible refine Peer.wpList_one rfl _ rfl p (by with_unfolding_all exact rfl) ?_))
            intro wx2 b2 y2 z2
            have Y2 := Lib.hid y2
            have O2 := Lib.hid (OQ.out.below b2 rfl)
            have B2 := Lib.hid (BQ.out.trans (b2.mono BQ.out.size))
            clear b2 y2 z2 OQ BQ
            go_wp2_with (with_reducible refine wpList_append_rows Peer.isElem rfl _ _ rfl v (by with_unfolding_all exact rfl) O2.out _ [p.enc] (by with_unfolding_all exact rfl) Y2.out (fun c hc => by rw [List.mem_singleton] at hc; rw [hc]; exact Peer.fits _) HE1.out B2.out.size ?_)
            intro v3 wx3 o3 q3
            have O3 : Hid (OwnRows wx3 w1.heap.size 27 8 v3 ((rest.take t ++ [p]).map Peer.enc)) := Lib.hid (o3.eqL (by simp [List.map_take]))
            have B3 := Lib.hid (B2.out.grown q3 B2.out.size (fun k hk => (O2.out.lt k hk).1))
            clear o3 q3 O2 B2 Y2
            go_wp2_with (first | (with_reducible refine wpList_exec rfl _ (exec_slice_lowPe _ _ rfl A1 rest.length k1 t (by with_unfolding_all exact rfl) (by with_unfolding_all exact rfl) HT.out _) ?_) | (with_reducible refine wpList_append_rows Peer.isElem rfl _ _ rfl v3 (by with_unfolding_all exact rfl) O3.out _ ((rest.drop t).map Peer.enc) (by with_unfolding_all exact rfl) (rows_lowPe (DZ.out.below B3.out) HT.out) (all_fitPe _) HE2.out B3.out.size ?_))
            intro v4 wx4 o4 q4
            have O4 : Hid (OwnRows wx4 w1.heap.size 27 8 v4 (KL.map Peer.enc)) := Lib.hid (o4.eqL (by rw [HKL.out]; simp [List.map_take, List.map_drop]))
            have B4 := Lib.hid (B3.out.grown q4 B3.out.size (fun k hk => (O3.out.lt k hk).1))
            clear o4 q4 O3 B3
            obtain ⟨A4, k4, hv⟩ := O4.out.form
            rw [List.length_map] at hv
            subst hv
            have B9 := Lib.hid (BW.out.trans (B4.out.mono BW.out.size))
            by_cases h7 : 7 < KL.length
            · have d7 : decide ((KL.length : Int) > 7) = true := by simp; omega
              have d7n : decide ((7 : Int) < (KL.length : Int)) = true := by simp; omega
              have H7 := Lib.hid h7
              clear h7
              go_wp2_with (with_reducible refine wpList_exec rfl _ (exec_slice_hiPe _ _ rfl A4 KL.length k4 7 (by with_unfolding_all exact rfl) (by with_unfolding_all exact rfl) (by have := H7.out; have := O4.out.rows.size.2; rw [List.length_map] at *; omega) _) ?_)
              go_wp2
              go_ret
              exact ⟨_, rfl, by rw [HF2.out]; exact rows_hiPe O4.out.rows (Nat.le_of_lt H7.out), B9.out⟩
            · have d7 : decide ((KL.length : Int) > 7) = false := by simp; omega
              have d7n : decide ((7 : Int) < (KL.length : Int)) = false := by simp; omega
              have HV : Hid (addQ me l p = KL) := Lib.hid (by rw [HF2.out, List.take_of_length_le (by omega)])
              clear h7
              go_wp2
              go_ret
              exact ⟨_, rfl, by rw [HV.out]; exact O4.out.rows, B9.out⟩
          · have hlt : t < rest.length := by omega
            have dk : decide ((t : Int) < (rest.length : Int)) = true := by simp; omega
            have dkn : decide (t < rest.length) = true := by simp; omega
            have jt : (t : Int) < (rest.length : Int) := by omega
            obtain ⟨y, hy⟩ : ∃ y, rest[t]? = some y := ⟨_, List.getElem?_eq_getElem hlt⟩
            obtain ⟨b, off, hA, -⟩ := row_ofPe D0.out hy
            subst hA
            have HYY := Lib.hid hy
            have CY := Lib.hid (CA.out y (List.mem_of_getElem? hy))
            have r4 : IntKind.i64.wrap ((t : Int) + 1) = ((t + 1 : Nat) : Int) := by have := HRL.out; rw [IntWalk.i64_in _ (by omega)]; omega
            have HT1 : Hid (rest.take (t + 1) = rest.take t ++ [y]) := Lib.hid (by rw [List.take_add_one, hy]; rfl)
            obtain ⟨q, hq⟩ : ∃ q, q = aheadE me.id y.entry p.entry := ⟨_, rfl⟩
            have HQ := Lib.hid hq
            simp only [← hq] at CY
            clear hy hq
            go_wp2_with (first | (with_reducible refine wpList_load_whole Ent.isRec rfl _ rfl gE (by with_unfolding_all exact rfl) _ _ (Ent.len _) ER.out ?_) | (with_reducible refine wpList_load_whole Peer.isRec rfl _ rfl gP (by with_unfolding_all exact rfl) _ _ (Peer.len _) PR.out ?_) | (with_reducible refine wpList_load_rec Ent.isRec rfl _ rfl gP 0 (by with_unfolding_all exact rfl) _ (Ent.len _) (Peer.At.part_entry PR.out) ?_))
            refine reg_begin (by kernel_rfl) fun w1 b1 z1 => ?_
            have E1 : Hid (Ent.At w1 gE me) := Lib.hid (Whole.below ER.out b1 ER.out.lt)
            have P1 : Hid (Peer.At w1 gP p) := Lib.hid (Whole.below PR.out b1 PR.out.lt)
            have D1 : Hid (RowsAt w1 (.slice (some ⟨b, off, none⟩) rest.length k1) 8 (rest.map Peer.enc)) := Lib.hid (D0.out.below b1)
            have B1 := Lib.hid (B0.out.trans (b1.mono B0.out.size))
            clear b1 z1 ER PR D0 B0
            refine reg_take (i := 0) (v := ?_) rfl (by kernel_rfl) (by kernel_rfl) (by kernel_rfl) (fun _ _ _ h => h) (by rfl) ?hy0 ?_
            case hy0 => intro w' hw'; go_simp; (try with_reducible rfl)
            simp only [Act.put, List.setIfInBounds_toArray, List.set_cons_zero, List.set_cons_succ]
            refine reg_take (i := 1) (v := ?_) rfl (by kernel_rfl) (by kernel_rfl) (by kernel_rfl) (fun _ _ _ h => h) (by rfl) ?hy1 ?_
            case hy1 => intro w' hw'; go_simp; (try with_reducible rfl)
            simp only [Act.put, List.setIfInBounds_toArray, List.set_cons_zero, List.set_cons_succ]
            refine reg_take (i := 2) (v := ?_) rfl (by kernel_rfl) (by kernel_rfl) (by kernel_rfl) (fun _ _ _ h => h) (by rfl) ?hy2 ?_
            case hy2 => intro w' hw'; go_simp; (try with_reducible rfl)
            simp only [Act.put, List.setIfInBounds_toArray, List.set_cons_zero, List.set_cons_succ]
            refine reg_take (i := 3) (v := ?_) rfl (by kernel_rfl) (by kernel_rfl) (by kernel_rfl) (fun _ _ _ h => h) (by rfl) ?hy3 ?_
            case hy3 => intro w' hw'; go_simp; (try with_reducible rfl)
            simp only [Act.put, List.setIfInBounds_toArray, List.set_cons_zero, List.set_cons_succ]
            refine reg_take (i := 4) (v := ?_) rfl (by kernel_rfl) (by kernel_rfl) (by kernel_rfl) (fun _ _ _ h => h) (by rfl) ?hy4 ?_
            case hy4 => intro w' hw'; go_simp; (try with_reducible rfl)
            simp only [Act.put, List.setIfInBounds_toArray, List.set_cons_zero, List.set_cons_succ]
            refine reg_take (i := 5) (v := Ent.val (me)) rfl (by kernel_rfl) (by kernel_rfl) (by kernel_rfl) (fun _ _ _ h => h) (by rfl) ?hy5 ?_
            case hy5 => intro w' hw'; exact exec_load_whole Ent.isRec _ rfl gE rfl _ _ (Ent.len _) w' (Whole.below E1.out hw' E1.out.lt)
            simp only [Act.put, List.setIfInBounds_toArray, List.set_cons_zero, List.set_cons_succ]
            refine reg_take (i := 6) (v := ?_) rfl (by kernel_rfl) (by kernel_rfl) (by kernel_rfl) (fun _ _ _ h => h) (by rfl) ?hy6 ?_
            case hy6 => intro w' hw'; go_simp; (try with_reducible rfl)
            simp only [Act.put, List.setIfInBounds_toArray, List.set_cons_zero, List.set_cons_succ]
            refine reg_take (i := 7) (v := ?_) rfl (by kernel_rfl) (by kernel_rfl) (by kernel_rfl) (fun _ _ _ h => h) (by rfl) ?hy7 ?_
            case hy7 => intro w' hw'; go_simp; (try with_reducible rfl)
            simp only [Act.put, List.setIfInBounds_toArray, List.set_cons_zero, List.set_cons_succ]
            refine reg_take (i := 8) (v := ?_) rfl (by kernel_rfl) (by kernel_rfl) (by kernel_rfl) (fun _ _ _ h => h) (by rfl) ?hy8 ?_
            case hy8 => intro w' hw'; go_simp; (try with_reducible rfl)
            simp only [Act.put, List.setIfInBounds_toArray, List.set_cons_zero, List.set_cons_succ]
            refine reg_take (i := 9) (v := y.val) rfl (by kernel_rfl) (by kernel_rfl) (by kernel_rfl) (fun _ _ _ h => h) (by rfl) ?hy9 ?_
            case hy9 => intro w' hw'; exact exec_load_rec Peer.isRec _ rfl b (off + t * 8) rfl _ (Peer.len _) w' (cells_ofPe D1.out HYY.out w' hw')
            simp only [Act.put, List.setIfInBounds_toArray, List.set_cons_zero, List.set_cons_succ]
            refine reg_take (i := 10) (v := Peer.val (p)) rfl (by kernel_rfl) (by kernel_rfl) (by kernel_rfl) (fun _ _ _ h => h) (by rfl) ?hy10 ?_
            case hy10 => intro w' hw'; exact exec_load_whole Peer.isRec _ rfl gP rfl _ _ (Peer.len _) w' (Whole.below P1.out hw' P1.out.lt)
            simp only [Act.put, List.setIfInBounds_toArray, List.set_cons_zero, List.set_cons_succ]
            refine reg_call (i := 11) rfl (by kernel_rfl) (fun K' hK => ?_)
            go_simp
            refine (CY.out w1).mono ?_
            rintro e2 w2 ⟨rfl, b2⟩
            have E2 : Hid (Ent.At w2 gE me) := Lib.hid (Whole.below E1.out b2 E1.out.lt)
            have P2 : Hid (Peer.At w2 gP p) := Lib.hid (Whole.below P1.out b2 P1.out.lt)
            have D2 : Hid (RowsAt w2 (.slice (some ⟨b, off, none⟩) rest.length k1) 8 (rest.map Peer.enc)) := Lib.hid (D1.out.below b2)
            have B2 := Lib.hid (B1.out.trans (b2.mono B1.out.size))
            refine hK.out _ _ b2 ?_
            clear hK K' b2 E1 P1 D1 B1
            refine reg_take (i := 12) (v := ?_) rfl (by kernel_rfl) (by kernel_rfl) (by kernel_rfl) (fun _ _ _ h => h) (by rfl) ?hy12 ?_
            case hy12 => intro w' hw'; go_simp; (try with_reducible rfl)
            simp only [Act.put, List.setIfInBounds_toArray, List.set_cons_zero, List.set_cons_succ]
            refine reg_end (by kernel_rfl) ?_
            cases q with
            | true =>
              have HV : Hid (∀ y ∈ rest.take (t + 1), aheadE me.id y.entry p.entry = true) := Lib.hid (by
                intro z hz
                rw [HT1.out] at hz
                rcases List.mem_append.1 hz with u | u
                · exact HO.out z u
                · rw [List.mem_singleton] at u; subst u; exact HQ.out.symm)
              go_wp2
              exact ⟨⟨t + 1, by omega, by go_num, HV.out, E2.out, P2.out, D2.out, B2.out⟩, by simp [intOf]; omega⟩
            | false =>
              have HF2 : Hid (addQ me l p = KL.take 7) := Lib.hid (by
                have e := while_at (p := fun q : Peer => aheadE me.id q.entry p.entry) HYY.out HO.out HQ.out.symm
                rw [HF3.out, e, HKL.out])
              clear HF3 CA CY HT1 HQ
              have DZ := Lib.hid D2.out
              have PZ := Lib.hid P2.out
              have BW := Lib.hid B2.out
              have HE1 : Hid (((rest.take t).map Peer.enc).length + [p.enc].length ≤ 10000000) := Lib.hid (by have := HRL.out; have := HT.out; rw [List.length_map, List.length_take, List.length_singleton]; omega)
              have HE2 : Hid (((rest.take t ++ [p]).map Peer.enc).length + ((rest.drop t).map Peer.enc).length ≤ 10000000) := Lib.hid (by have := HRL.out; have := HT.out; rw [List.length_map, List.length_map, List.length_append, List.length_take, List.length_drop, List.length_singleton]; omega)
              go_wp2_with (with_reducible refine wpList_build_0Pe (base := w2.heap.size) rfl rfl (Nat.le_refl _) ?_)
              intro wp bp xp
              have XP := Lib.hid xp
              have BP := Lib.hid bp
              clear bp xp D2 P2 B2 E2
              go_wp2_with (first | (with_reducible refine wpList_exec rfl _ (exec_slice_hiPe _ _ rfl (some ⟨b, off, none⟩) rest.length k1 t (by with_unfolding_all exact rfl) (by with_unfolding_all exact rfl) (by have := HT.out; have := DZ.out.size.2; omega) _) ?_) | (with_reducible refine wpList_append_litPe rfl _ _ rfl _ (by with_unfolding_all exact rfl) XP.out _ (rest.take t) (by with_unfolding_all exact rfl) (rows_hiPe (DZ.out.below BP.out) HT.out) (by have := HRL.out; have := HT.out; rw [List.length_take]; omega) BP.out.size ?_))
              intro v wq bq oq
              have OQ : Hid (OwnRows wq w2.heap.size 27 8 v ((rest.take t).map Peer.enc)) := Lib.hid (oq.eqL (by simp [List.map_take]))
              have BQ := Lib.hid (BP.out.trans (bq.mono BP.out.size))
              clear bq oq XP BP
              go_wp2_with (first | (with_reducible refine wpList_load_whole Peer.isRec rfl _ rfl gP (by with_unfolding_all exact rfl) _ _ (Peer.len _) (Whole.below PZ.out BQ.out PZ.out.lt) ?_) | (with_reducible refine Peer.wpList_one rfl _ rfl p (by with_unfolding_all exact rfl) ?_))
              intro wx2 b2 y2 z2
              have Y2 := Lib.hid y2
              have O2 := Lib.hid (OQ.out.below b2 rfl)
              have B2 := Lib.hid (BQ.out.trans (b2.mono BQ.out.size))
              clear b2 y2 z2 OQ BQ
              go_wp2_with (with_reducible refine wpList_append_rows Peer.isElem rfl _ _ rfl v (by with_unfolding_all exact rfl) O2.out _ [p.enc] (by with_unfolding_all exact rfl) Y2.out (fun c hc => by rw [List.mem_singleton] at hc; rw [hc]; exact Peer.fits _) HE1.out B2.out.size ?_)
              intro v3 wx3 o3 q3
              have O3 : Hid (OwnRows wx3 w2.heap.size 27 8 v3 ((rest.take t ++ [p]).map Peer.enc)) := Lib.hid (o3.eqL (by simp [List.map_take]))
              have B3 := Lib.hid (B2.out.grown q3 B2.out.size (fun k hk => (O2.out.lt k hk).1))
              clear o3 q3 O2 B2 Y2
              go_wp2_with (first | (with_reducible refine wpList_exec rfl _ (exec_slice_lowPe _ _ rfl (some ⟨b, off, none⟩) rest.length k1 t (by with_unfolding_all exact rfl) (by with_unfolding_all exact rfl) HT.out _) ?_) | (with_reducible refine wpList_append_rows Peer.isElem rfl _ _ rfl v3 (by with_unfolding_all exact rfl) O3.out _ ((rest.drop t).map Peer.enc) (by with_unfolding_all exact rfl) (rows_lowPe (DZ.out.below B3.out) HT.out) (all_fitPe _) HE2.out B3.out.size ?_))
              intro v4 wx4 o4 q4
              have O4 : Hid (OwnRows wx4 w2.heap.size 27 8 v4 (KL.map Peer.enc)) := Lib.hid (o4.eqL (by rw [HKL.out]; simp [List.map_take, List.map_drop]))
              have B4 := Lib.hid (B3.out.grown q4 B3.out.size (fun k hk => (O3.out.lt k hk).1))
              clear o4 q4 O3 B3
              obtain ⟨A4, k4, hv⟩ := O4.out.form
              rw [List.length_map] at hv
              subst hv
              have B9 := Lib.hid (BW.out.trans (B4.out.mono BW.out.size))
              by_cases h7 : 7 < KL.length
              · have d7 : decide ((KL.length : Int) > 7) = true := by simp; omega
                have d7n : decide ((7 : Int) < (KL.length : Int)) = true := by simp; omega
                have H7 := Lib.hid h7
                clear h7
                go_wp2_with (with_reducible refine wpList_exec rfl _ (exec_slice_hiPe _ _ rfl A4 KL.length k4 7 (by with_unfolding_all exact rfl) (by with_unfolding_all exact rfl) (by have := H7.out; have := O4.out.rows.size.2; rw [List.length_map] at *; omega) _) ?_)
                go_wp2
                go_ret
                exact ⟨_, rfl, by rw [HF2.out]; exact rows_hiPe O4.out.rows (Nat.le_of_lt H7.out), B9.out⟩
              · have d7 : decide ((KL.length : Int) > 7) = false := by simp; omega
                have d7n : decide ((7 : Int) < (KL.length : Int)) = false := by simp; omega
                have HV : Hid (addQ me l p = KL) := Lib.hid (by rw [HF2.out, List.take_of_length_le (by omega)])
                clear h7
                go_wp2
                go_ret
                exact ⟨_, rfl, by rw [HV.out]; exact O4.out.rows, B9.out⟩
end Go.Proofs.Ytknccbdcfpncnaa
