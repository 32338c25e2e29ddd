/- Layer 24 as landed: ahead, Right. -/
import Derived.Test.YtknccbdcfpncnaaPnA
import Derived.BigQuiet
namespace Go.Proofs.Ytknccbdcfpncnaa
set_option maxRecDepth 100000
open Go.RowKit

set_option maxRecDepth 100000
set_option maxHeartbeats 1000000 in
theorem ahead_any (a : Nat) (x y : Ent) (ha : a < 18446744073709551616) (hx : x.id < 18446744073709551616) (hy : y.id < 18446744073709551616) (w : World) :
    Calls Try.prog 35 #[.int .u64 (a : Int), x.val, y.val] w fun e w' => e = .returned (.bool (aheadE a x y)) ∧ Below w.heap.size w w' := by
  have C1 : ∀ w, Hid (Calls Try.prog 46 #[.int .u64 (a : Int), .int .u64 (x.id : Int)] w fun e w' => e = .returned (.int .u64 (distN a x.id : Int)) ∧ w' = w) := fun w => Lib.hid (by rw [← distW_dist _ _ ha hx]; exact dist_all a x.id w)
  have C2 : ∀ w, Hid (Calls Try.prog 46 #[.int .u64 (a : Int), .int .u64 (y.id : Int)] w fun e w' => e = .returned (.int .u64 (distN a y.id : Int)) ∧ w' = w) := fun w => Lib.hid (by rw [← distW_dist _ _ ha hy]; exact dist_all a y.id w)
  obtain ⟨q, hq⟩ : ∃ q, q = aheadE a x y := ⟨_, rfl⟩
  have HQ : Hid (q = if distN a x.id = distN a y.id then Go.Op.bytesLess x.name y.name else decide (distN a x.id < distN a y.id)) := Lib.hid hq
  rw [← hq]
  generalize distN a x.id = p at C1 HQ
  generalize distN a y.id = r at C2 HQ
  clear hq ha hx hy
  go_enter Try.func35, Try.ntmps35
  go_wp2_with (refine wpList_box_row rfl 24 _ rfl x.enc.toArray (by with_unfolding_all exact rfl) ?_)
  intro w1 b1 x1 z1
  obtain ⟨gX, hgX⟩ : ∃ g, g = w.heap.size := ⟨_, rfl⟩
  have M_X := Lib.hid (show w.heap.size ≤ gX from by rw [hgX]; exact Nat.le_refl _)
  have B1 := Lib.hid b1
  rw [← hgX] at x1 ⊢
  have X1 : Hid (Ent.At w1 gX x) := Lib.hid x1
  clear b1 x1 z1 hgX 
  go_wp2_with (first | (with_reducible refine wpList_load_whole Ent.isRec rfl _ rfl gX (by with_unfolding_all exact rfl) _ _ (Ent.len _) X1.out ?_) | (refine wpList_box_row rfl 24 _ rfl y.enc.toArray (by with_unfolding_all exact rfl) ?_))
  intro w2 b2 x2 z2
  obtain ⟨gY, hgY⟩ : ∃ g, g = w1.heap.size := ⟨_, rfl⟩
  have N_X_Y := Lib.hid (show gX < gY from by rw [hgY]; exact X1.out.lt)
  have M_Y := Lib.hid (show w.heap.size ≤ gY from by rw [hgY]; exact B1.out.size)
  have X2 : Hid (Ent.At w2 gX x) := Lib.hid (Whole.below X1.out b2 X1.out.lt)
  have B2 := Lib.hid (B1.out.trans (b2.mono B1.out.size))
  rw [← hgY] at x2 ⊢
  have Y2 : Hid (Ent.At w2 gY y) := Lib.hid x2
  clear b2 x2 z2 hgY X1 B1
  have c1 := Ent.At.at_id X2.out
  have c2 := Ent.At.at_id Y2.out
  have c3 := Ent.At.at_name X2.out
  have c4 := Ent.At.at_name Y2.out
  go_wp2_with fail
  go_quiet (first | (go_at_call 46; first | exact Calls.quiet_of_same (C1 _).out | exact Calls.quiet_of_same (C2 _).out))
  by_cases e : p = r
  · have d : ((p : Int) != (r : Int)) = false := by simp; omega
    have HF := HQ.out
    rw [if_pos e] at HF
    clear e HQ
    go_wp2
    go_ret
    exact ⟨by rw [HF]; rfl, below_drewN B2.out _⟩
  · have d : ((p : Int) != (r : Int)) = true := by simp; omega
    have HF := HQ.out
    rw [if_neg e] at HF
    clear e HQ
    go_wp2
    go_ret
    exact ⟨by rw [HF]; simp, below_drewN B2.out _⟩

set_option maxHeartbeats 1000000 in
theorem right_any (A : Option Addr) (m cap : Nat) (l : List Peer) (me : Ent) (w : World) (hm : m ≤ 1000000) (hl : Words l) (hi : me.id < 18446744073709551616) (h : RowsAt w (.slice A m cap) 8 (l.map Peer.enc)) :
    Calls Try.prog 15 #[me.val, .slice A m cap] w fun e w' => e = .returned (.bool (rightQ me l)) ∧ Below w.heap.size w w' := by
  have hlen := h.size.1
  rw [List.length_map] at hlen
  have H := Lib.hid h
  have HL := Lib.hid hlen
  have HW := Lib.hid hl
  have HI := Lib.hid hi
  have CP := Lib.hid (fun n w h => place_any A m cap l n w hm h)
  have HB : Hid (¬ m ≤ 7 → rightQ me l = false) := Lib.hid (fun q => rightQ_big (by rw [← hlen]; exact q))
  have HM : Hid (¬ placeQ l me.name < 0 → rightQ me l = false) := Lib.hid rightQ_mine
  have HK : Hid (∀ k, k < m → okQ me.id l k = false → rightQ me l = false) := Lib.hid (fun k hk q => rightQ_no (by rw [← hlen]; exact hk) q)
  have HY : Hid (m ≤ 7 → placeQ l me.name < 0 → (∀ j, j < m → okQ me.id l j = true) → rightQ me l = true) := Lib.hid (fun q1 q2 q3 => rightQ_yes (by rw [← hlen]; exact q1) q2 (by rw [← hlen]; exact q3))
  obtain ⟨R, hR⟩ : ∃ R, R = rightQ me l := ⟨_, rfl⟩
  simp only [← hR] at HB HM HK HY
  rw [← hR]
  have CM := Lib.hid (fun w h => CP.out me.name w h)
  obtain ⟨P, hP⟩ : ∃ P, P = placeQ l me.name := ⟨_, rfl⟩
  simp only [← hP] at CM HM HY
  clear h hlen hl hi hR hP
  go_enter Try.func15, Try.ntmps15
  have L0 : Hid (RowsAt w (.slice A m cap) 8 (l.map Peer.enc)) := Lib.hid (H.out)
  go_wp2_with (refine wpList_box_row rfl 24 _ rfl me.enc.toArray (by with_unfolding_all exact rfl) ?_)
  intro w1 b1 x1 z1
  obtain ⟨gE, hgE⟩ : ∃ g, g = w.heap.size := ⟨_, rfl⟩
  have M_E := Lib.hid (show w.heap.size ≤ gE from by rw [hgE]; exact Nat.le_refl _)
  have L1 : Hid (RowsAt w1 (.slice A m cap) 8 (l.map Peer.enc)) := Lib.hid (L0.out.below b1)
  have B1 := Lib.hid b1
  rw [← hgE] at x1 ⊢
  have E1 : Hid (Ent.At w1 gE me) := Lib.hid x1
  clear b1 x1 z1 hgE L0
  by_cases h7 : 7 < m
  · have d : decide ((m : Int) > 7) = true := by simp; omega
    have d2 : decide ((7 : Int) < (m : Int)) = true := by simp; omega
    have HV : Hid (R = false) := Lib.hid (HB.out (by omega))
    clear h7
    go_wp2
    go_ret
    exact ⟨by rw [HV.out]; rfl, B1.out⟩
  · have d : decide ((m : Int) > 7) = false := by simp; omega
    have d2 : decide ((7 : Int) < (m : Int)) = false := by simp; omega
    have HM7 : Hid (m ≤ 7) := Lib.hid (by omega)
    have c1 := Ent.At.at_name E1.out
    clear h7
    go_wp2_with (with_reducible refine wpList_load_whole Ent.isRec rfl _ rfl gE (by with_unfolding_all exact rfl) _ _ (Ent.len _) E1.out ?_)
    refine (CM.out w1 L1.out).mono ?_
    rintro e2 w2 ⟨rfl, b2⟩
    have L2 : Hid (RowsAt w2 (.slice A m cap) 8 (l.map Peer.enc)) := Lib.hid (L1.out.below b2)
    have E2 : Hid (Ent.At w2 gE me) := Lib.hid (Whole.below E1.out b2 E1.out.lt)
    have B2 := Lib.hid (B1.out.trans (b2.mono B1.out.size))
    clear b2 L1 E1 B1
    clear c1
    by_cases h0 : ¬ P < 0
    · have d3 : decide (P ≥ 0) = true := by simp; omega
      have d4 : decide ((0 : Int) ≤ P) = true := by simp; omega
      have HV : Hid (R = false) := Lib.hid (HM.out (by omega))
      clear h0
      go_wp2
      go_ret
      exact ⟨by rw [HV.out]; rfl, B2.out⟩
    · have d3 : decide (P ≥ 0) = false := by simp; omega
      have d4 : decide ((0 : Int) ≤ P) = false := by simp; omega
      have HP0 : Hid (P < 0) := Lib.hid (by omega)
      clear h0
      go_wp2_with fail
      go_loopw [19] (fun i wr => ∃ k : Nat, k ≤ m ∧ i = .int .i64 (k : Int) ∧ (∀ j, j < k → okQ me.id l j = true) ∧ Ent.At wr gE me ∧ Below w.heap.size w wr) (fun i _ => m - (intOf i).toNat)
      case atStart => exact ⟨0, Nat.zero_le _, rfl, fun j hj => absurd hj (Nat.not_lt_zero _), E2.out, B2.out⟩
      case round =>
        obtain ⟨k, hk, rfl, hr, he, hb⟩ := hrel
        have HO := Lib.hid hr
        have ER := Lib.hid he
        have B0 := Lib.hid hb
        clear hr he hb E2 B2 L2
        by_cases hlt : k < m
        · have dk : decide ((k : Int) < (m : Int)) = true := by simp; omega
          obtain ⟨x, hx⟩ : ∃ x, l[k]? = some x := ⟨_, List.getElem?_eq_getElem (by rw [← HL.out]; exact hlt)⟩
          obtain ⟨b, off, rfl, hc⟩ := row_ofPe H.out hx
          have HX := Lib.hid (hc wr B0.out)
          have jk : (k : Int) < (m : Int) := by omega
          have r4 : IntKind.i64.wrap ((k : Int) + 1) = ((k + 1 : Nat) : Int) := by rw [IntWalk.i64_in _ (by omega)]; omega
          have CX := Lib.hid (fun w h => CP.out x.entry.name w h)
          have hxw := HW.out x (List.mem_of_getElem? hx)
          have hok : okQ me.id l k = (!decide (placeQ l x.entry.name < (k : Int)) && (decide (k = 0) || aheadE me.id (nthQ l (k - 1)).entry x.entry)) := by rw [okQ, nthQ_is hx]
          have HKK := Lib.hid (HK.out k hlt)
          obtain ⟨pl, hpl⟩ : ∃ q, q = placeQ l x.entry.name := ⟨_, rfl⟩
          simp only [← hpl] at CX hok
          have HOK := Lib.hid hok
          have HXW := Lib.hid hxw
          clear hpl hc hx hok hxw
          go_wp2_with (first | (with_reducible refine wpList_load_whole Ent.isRec rfl _ rfl gE (by with_unfolding_all exact rfl) _ _ (Ent.len _) ER.out ?_) | (refine wpList_alloc_row rfl 27 rfl Peer.zero.enc.toArray Peer.zero_is ?_) | (with_reducible refine wpList_load_rec Peer.isRec rfl _ rfl b (off + k * 8) (by with_unfolding_all exact rfl) x.enc (Peer.len _) HX.out ?_))
          intro w1 b1 x1 z1
          obtain ⟨gX, hgX⟩ : ∃ g, g = wr.heap.size := ⟨_, rfl⟩
          have N_E_X := Lib.hid (show gE < gX from by rw [hgX]; exact ER.out.lt)
          have M_X := Lib.hid (show w.heap.size ≤ gX from by rw [hgX]; exact B0.out.size)
          have E1 : Hid (Ent.At w1 gE me) := Lib.hid (Whole.below ER.out b1 ER.out.lt)
          have B1 := Lib.hid (B0.out.trans (b1.mono B0.out.size))
          rw [← hgX] at x1 ⊢
          have X1 : Hid (Peer.At w1 gX Peer.zero) := Lib.hid x1
          clear b1 x1 z1 hgX ER B0
          clear HX
          go_wp2_with (first | (with_reducible refine wpList_load_whole Ent.isRec rfl _ rfl gE (by with_unfolding_all exact rfl) _ _ (Ent.len _) E1.out ?_) | (with_reducible refine wpList_load_whole Peer.isRec rfl _ rfl gX (by with_unfolding_all exact rfl) _ _ (Peer.len _) X1.out ?_) | (with_reducible refine wpList_load_rec Ent.isRec rfl _ rfl gX 0 (by with_unfolding_all exact rfl) _ (Ent.len _) (Peer.At.part_entry X1.out) ?_) | (with_reducible refine wpList_store_whole rfl 27 _ _ rfl gX x.enc.toArray (by with_unfolding_all exact rfl) (by with_unfolding_all exact rfl) _ _ X1.out (Peer.size _) rfl (Peer.one _) ?_))
          intro w2 q2 x2 z2
          have X2 : Hid (Peer.At w2 gX x) := Lib.hid x2
          have E2 : Hid (Ent.At w2 gE me) := Lib.hid (grown_far E1.out q2 (by have := N_E_X.out; omega))
          have B2 := Lib.hid (B1.out.grown q2 B1.out.size (fun k hk => by injection hk with hk; have := M_X.out; omega))
          clear q2 x2 z2 X1 E1 B1
          by_cases hp : pl < (k : Int)
          · have d1 : decide (pl < (k : Int)) = true := decide_eq_true hp
            have HV : Hid (R = false) := Lib.hid (HKK.out (by rw [HOK.out, d1]; rfl))
            clear hp HKK HOK
            go_wp2_with (first | (with_reducible refine wpList_load_whole Ent.isRec rfl _ rfl gE (by with_unfolding_all exact rfl) _ _ (Ent.len _) E2.out ?_) | (with_reducible refine wpList_load_whole Peer.isRec rfl _ rfl gX (by with_unfolding_all exact rfl) _ _ (Peer.len _) X2.out ?_) | (with_reducible refine wpList_load_rec Ent.isRec rfl _ rfl gX 0 (by with_unfolding_all exact rfl) _ (Ent.len _) (Peer.At.part_entry X2.out) ?_))
            refine reg_begin (by kernel_rfl) fun w3 b3 z3 => ?_
            have E3 : Hid (Ent.At w3 gE me) := Lib.hid (Whole.below E2.out b3 E2.out.lt)
            have X3 : Hid (Peer.At w3 gX x) := Lib.hid (Whole.below X2.out b3 X2.out.lt)
            have B3 := Lib.hid (B2.out.trans (b3.mono B2.out.size))
            clear b3 z3 E2 X2 B2
            refine reg_take (i := 0) (v := ?_) rfl (by kernel_rfl) (by kernel_rfl) (by kernel_rfl) (fun _ _ _ h => h) (by rfl) ?hy0 ?_
            case hy0 => intro w' hw'; go_simp; (try with_reducible rfl)
            simp only [Act.put, List.setIfInBounds_toArray, List.set_cons_zero, List.set_cons_succ]
            refine reg_take (i := 1) (v := ?_) rfl (by kernel_rfl) (by kernel_rfl) (by kernel_rfl) (fun _ _ _ h => h) (by rfl) ?hy1 ?_
            case hy1 => intro w' hw'; go_simp; (try with_reducible rfl)
            simp only [Act.put, List.setIfInBounds_toArray, List.set_cons_zero, List.set_cons_succ]
            refine reg_take (i := 2) (v := ?_) rfl (by kernel_rfl) (by kernel_rfl) (by kernel_rfl) (fun _ _ _ h => h) (by rfl) ?hy2 ?_
            case hy2 => intro w' hw'; go_simp; (try with_reducible rfl)
            simp only [Act.put, List.setIfInBounds_toArray, List.set_cons_zero, List.set_cons_succ]
            refine reg_take (i := 3) (v := (.string ⟨(x).entry.name.toArray⟩)) rfl (by kernel_rfl) (by kernel_rfl) (by kernel_rfl) (fun _ _ _ h => h) (by rfl) ?hy3 ?_
            case hy3 => intro w' hw'; have c := Peer.At.at_entry_name (Whole.below X3.out hw' X3.out.lt); go_simp; (try with_reducible rfl)
            simp only [Act.put, List.setIfInBounds_toArray, List.set_cons_zero, List.set_cons_succ]
            refine reg_take (i := 5) (v := ?_) rfl (by kernel_rfl) (by kernel_rfl) (by kernel_rfl) (fun _ _ _ h => h) (by rfl) ?hy5 ?_
            case hy5 => intro w' hw'; go_simp; (try with_reducible rfl)
            simp only [Act.put, List.setIfInBounds_toArray, List.set_cons_zero, List.set_cons_succ]
            refine reg_call (i := 4) rfl (by kernel_rfl) (fun K' hK => ?_)
            go_simp
            refine (CX.out w3 (H.out.below B3.out)).mono ?_
            rintro e4 w4 ⟨rfl, b4⟩
            have E4 : Hid (Ent.At w4 gE me) := Lib.hid (Whole.below E3.out b4 E3.out.lt)
            have X4 : Hid (Peer.At w4 gX x) := Lib.hid (Whole.below X3.out b4 X3.out.lt)
            have B4 := Lib.hid (B3.out.trans (b4.mono B3.out.size))
            refine hK.out _ _ b4 ?_
            clear hK K' b4 E3 X3 B3
            refine reg_take (i := 6) (v := ?_) rfl (by kernel_rfl) (by kernel_rfl) (by kernel_rfl) (fun _ _ _ h => h) (by rfl) ?hy6 ?_
            case hy6 => intro w' hw'; go_simp; (try with_reducible rfl)
            simp only [Act.put, List.setIfInBounds_toArray, List.set_cons_zero, List.set_cons_succ]
            refine reg_take (i := 7) (v := ?_) rfl (by kernel_rfl) (by kernel_rfl) (by kernel_rfl) (fun _ _ _ h => h) (by rfl) ?hy7 ?_
            case hy7 => intro w' hw'; go_simp; (try with_reducible rfl)
            simp only [Act.put, List.setIfInBounds_toArray, List.set_cons_zero, List.set_cons_succ]
            refine reg_skip (i := 8) rfl (by kernel_rfl) (by kernel_rfl) (by kernel_rfl) (fun _ _ _ h => h) (by rfl) ?_
            simp only [Act.put, List.setIfInBounds_toArray, List.set_cons_zero, List.set_cons_succ]
            refine reg_skip (i := 9) rfl (by kernel_rfl) (by kernel_rfl) (by kernel_rfl) (fun _ _ _ h => h) (by rfl) ?_
            simp only [Act.put, List.setIfInBounds_toArray, List.set_cons_zero, List.set_cons_succ]
            refine reg_skip (i := 10) rfl (by kernel_rfl) (by kernel_rfl) (by kernel_rfl) (fun _ _ _ h => h) (by rfl) ?_
            simp only [Act.put, List.setIfInBounds_toArray, List.set_cons_zero, List.set_cons_succ]
            refine reg_skip (i := 11) rfl (by kernel_rfl) (by kernel_rfl) (by kernel_rfl) (fun _ _ _ h => h) (by rfl) ?_
            simp only [Act.put, List.setIfInBounds_toArray, List.set_cons_zero, List.set_cons_succ]
            refine reg_skip (i := 12) rfl (by kernel_rfl) (by kernel_rfl) (by kernel_rfl) (fun _ _ _ h => h) (by rfl) ?_
            simp only [Act.put, List.setIfInBounds_toArray, List.set_cons_zero, List.set_cons_succ]
            refine reg_skip (i := 13) rfl (by kernel_rfl) (by kernel_rfl) (by kernel_rfl) (fun _ _ _ h => h) (by rfl) ?_
            simp only [Act.put, List.setIfInBounds_toArray, List.set_cons_zero, List.set_cons_succ]
            refine reg_skip (i := 14) rfl (by kernel_rfl) (by kernel_rfl) (by kernel_rfl) (fun _ _ _ h => h) (by rfl) ?_
            simp only [Act.put, List.setIfInBounds_toArray, List.set_cons_zero, List.set_cons_succ]
            refine reg_skip (i := 15) rfl (by kernel_rfl) (by kernel_rfl) (by kernel_rfl) (fun _ _ _ h => h) (by rfl) ?_
            simp only [Act.put, List.setIfInBounds_toArray, List.set_cons_zero, List.set_cons_succ]
            refine reg_skip (i := 16) rfl (by kernel_rfl) (by kernel_rfl) (by kernel_rfl) (fun _ _ _ h => h) (by rfl) ?_
            simp only [Act.put, List.setIfInBounds_toArray, List.set_cons_zero, List.set_cons_succ]
            refine reg_skip (i := 17) rfl (by kernel_rfl) (by kernel_rfl) (by kernel_rfl) (fun _ _ _ h => h) (by rfl) ?_
            simp only [Act.put, List.setIfInBounds_toArray, List.set_cons_zero, List.set_cons_succ]
            refine reg_skip (i := 18) rfl (by kernel_rfl) (by kernel_rfl) (by kernel_rfl) (fun _ _ _ h => h) (by rfl) ?_
            simp only [Act.put, List.setIfInBounds_toArray, List.set_cons_zero, List.set_cons_succ]
            refine reg_skip (i := 19) rfl (by kernel_rfl) (by kernel_rfl) (by kernel_rfl) (fun _ _ _ h => h) (by rfl) ?_
            simp only [Act.put, List.setIfInBounds_toArray, List.set_cons_zero, List.set_cons_succ]
            refine reg_skip (i := 20) rfl (by kernel_rfl) (by kernel_rfl) (by kernel_rfl) (fun _ _ _ h => h) (by rfl) ?_
            simp only [Act.put, List.setIfInBounds_toArray, List.set_cons_zero, List.set_cons_succ]
            refine reg_skip (i := 21) rfl (by kernel_rfl) (by kernel_rfl) (by kernel_rfl) (fun _ _ _ h => h) (by rfl) ?_
            simp only [Act.put, List.setIfInBounds_toArray, List.set_cons_zero, List.set_cons_succ]
            refine reg_skip (i := 22) rfl (by kernel_rfl) (by kernel_rfl) (by kernel_rfl) (fun _ _ _ h => h) (by rfl) ?_
            simp only [Act.put, List.setIfInBounds_toArray, List.set_cons_zero, List.set_cons_succ]
            refine reg_skip (i := 23) rfl (by kernel_rfl) (by kernel_rfl) (by kernel_rfl) (fun _ _ _ h => h) (by rfl) ?_
            simp only [Act.put, List.setIfInBounds_toArray, List.set_cons_zero, List.set_cons_succ]
            refine reg_take (i := 24) (v := ?_) rfl (by kernel_rfl) (by kernel_rfl) (by kernel_rfl) (fun _ _ _ h => h) (by rfl) ?hy24 ?_
            case hy24 => intro w' hw'; go_simp; (try with_reducible rfl)
            simp only [Act.put, List.setIfInBounds_toArray, List.set_cons_zero, List.set_cons_succ]
            refine reg_end (by kernel_rfl) ?_
            go_wp2
            go_ret
            exact ⟨by rw [HV.out]; rfl, B4.out⟩
          · have d1 : decide (pl < (k : Int)) = false := decide_eq_false hp
            by_cases hz : k = 0
            · have d3 : decide (0 < k) = false := by simp; omega
              have HV : Hid (∀ j, j < k + 1 → okQ me.id l j = true) := Lib.hid (fun j hj => by
                by_cases e : j = k
                · subst e; rw [HOK.out, d1, decide_eq_true hz]; rfl
                · exact HO.out j (by omega))
              clear hp hz HKK HOK
              go_wp2_with (first | (with_reducible refine wpList_load_whole Ent.isRec rfl _ rfl gE (by with_unfolding_all exact rfl) _ _ (Ent.len _) E2.out ?_) | (with_reducible refine wpList_load_whole Peer.isRec rfl _ rfl gX (by with_unfolding_all exact rfl) _ _ (Peer.len _) X2.out ?_) | (with_reducible refine wpList_load_rec Ent.isRec rfl _ rfl gX 0 (by with_unfolding_all exact rfl) _ (Ent.len _) (Peer.At.part_entry X2.out) ?_))
              refine reg_begin (by kernel_rfl) fun w3 b3 z3 => ?_
              have E3 : Hid (Ent.At w3 gE me) := Lib.hid (Whole.below E2.out b3 E2.out.lt)
              have X3 : Hid (Peer.At w3 gX x) := Lib.hid (Whole.below X2.out b3 X2.out.lt)
              have B3 := Lib.hid (B2.out.trans (b3.mono B2.out.size))
              clear b3 z3 E2 X2 B2
              refine reg_take (i := 0) (v := ?_) rfl (by kernel_rfl) (by kernel_rfl) (by kernel_rfl) (fun _ _ _ h => h) (by rfl) ?hy0 ?_
              case hy0 => intro w' hw'; go_simp; (try with_reducible rfl)
              simp only [Act.put, List.setIfInBounds_toArray, List.set_cons_zero, List.set_cons_succ]
              refine reg_take (i := 1) (v := ?_) rfl (by kernel_rfl) (by kernel_rfl) (by kernel_rfl) (fun _ _ _ h => h) (by rfl) ?hy1 ?_
              case hy1 => intro w' hw'; go_simp; (try with_reducible rfl)
              simp only [Act.put, List.setIfInBounds_toArray, List.set_cons_zero, List.set_cons_succ]
              refine reg_take (i := 2) (v := ?_) rfl (by kernel_rfl) (by kernel_rfl) (by kernel_rfl) (fun _ _ _ h => h) (by rfl) ?hy2 ?_
              case hy2 => intro w' hw'; go_simp; (try with_reducible rfl)
              simp only [Act.put, List.setIfInBounds_toArray, List.set_cons_zero, List.set_cons_succ]
              refine reg_take (i := 3) (v := (.string ⟨(x).entry.name.toArray⟩)) rfl (by kernel_rfl) (by kernel_rfl) (by kernel_rfl) (fun _ _ _ h => h) (by rfl) ?hy3 ?_
              case hy3 => intro w' hw'; have c := Peer.At.at_entry_name (Whole.below X3.out hw' X3.out.lt); go_simp; (try with_reducible rfl)
              simp only [Act.put, List.setIfInBounds_toArray, List.set_cons_zero, List.set_cons_succ]
              refine reg_take (i := 5) (v := ?_) rfl (by kernel_rfl) (by kernel_rfl) (by kernel_rfl) (fun _ _ _ h => h) (by rfl) ?hy5 ?_
              case hy5 => intro w' hw'; go_simp; (try with_reducible rfl)
              simp only [Act.put, List.setIfInBounds_toArray, List.set_cons_zero, List.set_cons_succ]
              refine reg_call (i := 4) rfl (by kernel_rfl) (fun K' hK => ?_)
              go_simp
              refine (CX.out w3 (H.out.below B3.out)).mono ?_
              rintro e4 w4 ⟨rfl, b4⟩
              have E4 : Hid (Ent.At w4 gE me) := Lib.hid (Whole.below E3.out b4 E3.out.lt)
              have X4 : Hid (Peer.At w4 gX x) := Lib.hid (Whole.below X3.out b4 X3.out.lt)
              have B4 := Lib.hid (B3.out.trans (b4.mono B3.out.size))
              refine hK.out _ _ b4 ?_
              clear hK K' b4 E3 X3 B3
              refine reg_take (i := 6) (v := ?_) rfl (by kernel_rfl) (by kernel_rfl) (by kernel_rfl) (fun _ _ _ h => h) (by rfl) ?hy6 ?_
              case hy6 => intro w' hw'; go_simp; (try with_reducible rfl)
              simp only [Act.put, List.setIfInBounds_toArray, List.set_cons_zero, List.set_cons_succ]
              refine reg_take (i := 7) (v := ?_) rfl (by kernel_rfl) (by kernel_rfl) (by kernel_rfl) (fun _ _ _ h => h) (by rfl) ?hy7 ?_
              case hy7 => intro w' hw'; go_simp; (try with_reducible rfl)
              simp only [Act.put, List.setIfInBounds_toArray, List.set_cons_zero, List.set_cons_succ]
              refine reg_take (i := 8) (v := ?_) rfl (by kernel_rfl) (by kernel_rfl) (by kernel_rfl) (fun _ _ _ h => h) (by rfl) ?hy8 ?_
              case hy8 => intro w' hw'; go_simp; (try with_reducible rfl)
              simp only [Act.put, List.setIfInBounds_toArray, List.set_cons_zero, List.set_cons_succ]
              refine reg_take (i := 9) (v := ?_) rfl (by kernel_rfl) (by kernel_rfl) (by kernel_rfl) (fun _ _ _ h => h) (by rfl) ?hy9 ?_
              case hy9 => intro w' hw'; go_simp; (try with_reducible rfl)
              simp only [Act.put, List.setIfInBounds_toArray, List.set_cons_zero, List.set_cons_succ]
              refine reg_take (i := 10) (v := ?_) rfl (by kernel_rfl) (by kernel_rfl) (by kernel_rfl) (fun _ _ _ h => h) (by rfl) ?hy10 ?_
              case hy10 => intro w' hw'; go_simp; (try with_reducible rfl)
              simp only [Act.put, List.setIfInBounds_toArray, List.set_cons_zero, List.set_cons_succ]
              refine reg_skip (i := 11) rfl (by kernel_rfl) (by kernel_rfl) (by kernel_rfl) (fun _ _ _ h => h) (by rfl) ?_
              simp only [Act.put, List.setIfInBounds_toArray, List.set_cons_zero, List.set_cons_succ]
              refine reg_skip (i := 12) rfl (by kernel_rfl) (by kernel_rfl) (by kernel_rfl) (fun _ _ _ h => h) (by rfl) ?_
              simp only [Act.put, List.setIfInBounds_toArray, List.set_cons_zero, List.set_cons_succ]
              refine reg_skip (i := 13) rfl (by kernel_rfl) (by kernel_rfl) (by kernel_rfl) (fun _ _ _ h => h) (by rfl) ?_
              simp only [Act.put, List.setIfInBounds_toArray, List.set_cons_zero, List.set_cons_succ]
              refine reg_skip (i := 14) rfl (by kernel_rfl) (by kernel_rfl) (by kernel_rfl) (fun _ _ _ h => h) (by rfl) ?_
              simp only [Act.put, List.setIfInBounds_toArray, List.set_cons_zero, List.set_cons_succ]
              refine reg_skip (i := 15) rfl (by kernel_rfl) (by kernel_rfl) (by kernel_rfl) (fun _ _ _ h => h) (by rfl) ?_
              simp only [Act.put, List.setIfInBounds_toArray, List.set_cons_zero, List.set_cons_succ]
              refine reg_skip (i := 16) rfl (by kernel_rfl) (by kernel_rfl) (by kernel_rfl) (fun _ _ _ h => h) (by rfl) ?_
              simp only [Act.put, List.setIfInBounds_toArray, List.set_cons_zero, List.set_cons_succ]
              refine reg_skip (i := 17) rfl (by kernel_rfl) (by kernel_rfl) (by kernel_rfl) (fun _ _ _ h => h) (by rfl) ?_
              simp only [Act.put, List.setIfInBounds_toArray, List.set_cons_zero, List.set_cons_succ]
              refine reg_skip (i := 18) rfl (by kernel_rfl) (by kernel_rfl) (by kernel_rfl) (fun _ _ _ h => h) (by rfl) ?_
              simp only [Act.put, List.setIfInBounds_toArray, List.set_cons_zero, List.set_cons_succ]
              refine reg_skip (i := 19) rfl (by kernel_rfl) (by kernel_rfl) (by kernel_rfl) (fun _ _ _ h => h) (by rfl) ?_
              simp only [Act.put, List.setIfInBounds_toArray, List.set_cons_zero, List.set_cons_succ]
              refine reg_skip (i := 20) rfl (by kernel_rfl) (by kernel_rfl) (by kernel_rfl) (fun _ _ _ h => h) (by rfl) ?_
              simp only [Act.put, List.setIfInBounds_toArray, List.set_cons_zero, List.set_cons_succ]
              refine reg_skip (i := 21) rfl (by kernel_rfl) (by kernel_rfl) (by kernel_rfl) (fun _ _ _ h => h) (by rfl) ?_
              simp only [Act.put, List.setIfInBounds_toArray, List.set_cons_zero, List.set_cons_succ]
              refine reg_skip (i := 22) rfl (by kernel_rfl) (by kernel_rfl) (by kernel_rfl) (fun _ _ _ h => h) (by rfl) ?_
              simp only [Act.put, List.setIfInBounds_toArray, List.set_cons_zero, List.set_cons_succ]
              refine reg_take (i := 23) (v := ?_) rfl (by kernel_rfl) (by kernel_rfl) (by kernel_rfl) (fun _ _ _ h => h) (by rfl) ?hy23 ?_
              case hy23 => intro w' hw'; go_simp; (try with_reducible rfl)
              simp only [Act.put, List.setIfInBounds_toArray, List.set_cons_zero, List.set_cons_succ]
              refine reg_take (i := 24) (v := ?_) rfl (by kernel_rfl) (by kernel_rfl) (by kernel_rfl) (fun _ _ _ h => h) (by rfl) ?hy24 ?_
              case hy24 => intro w' hw'; go_simp; (try with_reducible rfl)
              simp only [Act.put, List.setIfInBounds_toArray, List.set_cons_zero, List.set_cons_succ]
              refine reg_end (by kernel_rfl) ?_
              go_wp2
              exact ⟨⟨k + 1, by omega, by go_num, HV.out, E4.out, B4.out⟩, by simp [intOf]; omega⟩
            · obtain ⟨j, hj⟩ : ∃ j, k = j + 1 := ⟨k - 1, by omega⟩
              have HJ := Lib.hid hj
              have d3 : decide (0 < k) = true := by simp; omega
              have r5 : IntKind.i64.wrap ((k : Int) - 1) = (j : Int) := by rw [IntWalk.i64_in _ (by omega)]; omega
              have jj : (j : Int) < (m : Int) := by omega
              obtain ⟨y, hy⟩ : ∃ y, l[j]? = some y := ⟨_, List.getElem?_eq_getElem (by rw [← HL.out]; omega)⟩
              obtain ⟨b', off', hbo, hc'⟩ := row_ofPe H.out hy
              injection hbo with hbo
              injection hbo with hb1 hb2
              subst hb1 hb2
              have HY := Lib.hid hc'
              have CA := Lib.hid (fun w => ahead_any me.id y.entry x.entry HI.out (HW.out y (List.mem_of_getElem? hy)) HXW.out w)
              have hok2 := HOK.out
              rw [show k - 1 = j by omega, nthQ_is hy, d1, decide_eq_false hz] at hok2
              obtain ⟨q, hq⟩ : ∃ q, q = aheadE me.id y.entry x.entry := ⟨_, rfl⟩
              simp only [← hq] at CA hok2
              have HOK2 : Hid (okQ me.id l k = q) := Lib.hid (by rw [hok2]; rfl)
              clear hc' hy hp hz hq hok2 HOK hj
              go_wp2_with (first | (with_reducible refine wpList_load_whole Ent.isRec rfl _ rfl gE (by with_unfolding_all exact rfl) _ _ (Ent.len _) E2.out ?_) | (with_reducible refine wpList_load_whole Peer.isRec rfl _ rfl gX (by with_unfolding_all exact rfl) _ _ (Peer.len _) X2.out ?_) | (with_reducible refine wpList_load_rec Ent.isRec rfl _ rfl gX 0 (by with_unfolding_all exact rfl) _ (Ent.len _) (Peer.At.part_entry X2.out) ?_))
              refine reg_begin (by kernel_rfl) fun w3 b3 z3 => ?_
              have E3 : Hid (Ent.At w3 gE me) := Lib.hid (Whole.below E2.out b3 E2.out.lt)
              have X3 : Hid (Peer.At w3 gX x) := Lib.hid (Whole.below X2.out b3 X2.out.lt)
              have B3 := Lib.hid (B2.out.trans (b3.mono B2.out.size))
              clear b3 z3 E2 X2 B2
              refine reg_take (i := 0) (v := ?_) rfl (by kernel_rfl) (by kernel_rfl) (by kernel_rfl) (fun _ _ _ h => h) (by rfl) ?hy0 ?_
              case hy0 => intro w' hw'; go_simp; (try with_reducible rfl)
              simp only [Act.put, List.setIfInBounds_toArray, List.set_cons_zero, List.set_cons_succ]
              refine reg_take (i := 1) (v := ?_) rfl (by kernel_rfl) (by kernel_rfl) (by kernel_rfl) (fun _ _ _ h => h) (by rfl) ?hy1 ?_
              case hy1 => intro w' hw'; go_simp; (try with_reducible rfl)
              simp only [Act.put, List.setIfInBounds_toArray, List.set_cons_zero, List.set_cons_succ]
              refine reg_take (i := 2) (v := ?_) rfl (by kernel_rfl) (by kernel_rfl) (by kernel_rfl) (fun _ _ _ h => h) (by rfl) ?hy2 ?_
              case hy2 => intro w' hw'; go_simp; (try with_reducible rfl)
              simp only [Act.put, List.setIfInBounds_toArray, List.set_cons_zero, List.set_cons_succ]
              refine reg_take (i := 3) (v := (.string ⟨(x).entry.name.toArray⟩)) rfl (by kernel_rfl) (by kernel_rfl) (by kernel_rfl) (fun _ _ _ h => h) (by rfl) ?hy3 ?_
              case hy3 => intro w' hw'; have c := Peer.At.at_entry_name (Whole.below X3.out hw' X3.out.lt); go_simp; (try with_reducible rfl)
              simp only [Act.put, List.setIfInBounds_toArray, List.set_cons_zero, List.set_cons_succ]
              refine reg_take (i := 5) (v := ?_) rfl (by kernel_rfl) (by kernel_rfl) (by kernel_rfl) (fun _ _ _ h => h) (by rfl) ?hy5 ?_
              case hy5 => intro w' hw'; go_simp; (try with_reducible rfl)
              simp only [Act.put, List.setIfInBounds_toArray, List.set_cons_zero, List.set_cons_succ]
              refine reg_call (i := 4) rfl (by kernel_rfl) (fun K' hK => ?_)
              go_simp
              refine (CX.out w3 (H.out.below B3.out)).mono ?_
              rintro e4 w4 ⟨rfl, b4⟩
              have E4 : Hid (Ent.At w4 gE me) := Lib.hid (Whole.below E3.out b4 E3.out.lt)
              have X4 : Hid (Peer.At w4 gX x) := Lib.hid (Whole.below X3.out b4 X3.out.lt)
              have B4 := Lib.hid (B3.out.trans (b4.mono B3.out.size))
              refine hK.out _ _ b4 ?_
              clear hK K' b4 E3 X3 B3
              refine reg_take (i := 6) (v := ?_) rfl (by kernel_rfl) (by kernel_rfl) (by kernel_rfl) (fun _ _ _ h => h) (by rfl) ?hy6 ?_
              case hy6 => intro w' hw'; go_simp; (try with_reducible rfl)
              simp only [Act.put, List.setIfInBounds_toArray, List.set_cons_zero, List.set_cons_succ]
              refine reg_take (i := 7) (v := ?_) rfl (by kernel_rfl) (by kernel_rfl) (by kernel_rfl) (fun _ _ _ h => h) (by rfl) ?hy7 ?_
              case hy7 => intro w' hw'; go_simp; (try with_reducible rfl)
              simp only [Act.put, List.setIfInBounds_toArray, List.set_cons_zero, List.set_cons_succ]
              refine reg_take (i := 8) (v := ?_) rfl (by kernel_rfl) (by kernel_rfl) (by kernel_rfl) (fun _ _ _ h => h) (by rfl) ?hy8 ?_
              case hy8 => intro w' hw'; go_simp; (try with_reducible rfl)
              simp only [Act.put, List.setIfInBounds_toArray, List.set_cons_zero, List.set_cons_succ]
              refine reg_take (i := 9) (v := ?_) rfl (by kernel_rfl) (by kernel_rfl) (by kernel_rfl) (fun _ _ _ h => h) (by rfl) ?hy9 ?_
              case hy9 => intro w' hw'; go_simp; (try with_reducible rfl)
              simp only [Act.put, List.setIfInBounds_toArray, List.set_cons_zero, List.set_cons_succ]
              refine reg_take (i := 10) (v := ?_) rfl (by kernel_rfl) (by kernel_rfl) (by kernel_rfl) (fun _ _ _ h => h) (by rfl) ?hy10 ?_
              case hy10 => intro w' hw'; go_simp; (try with_reducible rfl)
              simp only [Act.put, List.setIfInBounds_toArray, List.set_cons_zero, List.set_cons_succ]
              refine reg_take (i := 11) (v := ?_) rfl (by kernel_rfl) (by kernel_rfl) (by kernel_rfl) (fun _ _ _ h => h) (by rfl) ?hy11 ?_
              case hy11 => intro w' hw'; go_simp; (try with_reducible rfl)
              simp only [Act.put, List.setIfInBounds_toArray, List.set_cons_zero, List.set_cons_succ]
              refine reg_take (i := 12) (v := (.int .u64 ((me).id : Int))) rfl (by kernel_rfl) (by kernel_rfl) (by kernel_rfl) (fun _ _ _ h => h) (by rfl) ?hy12 ?_
              case hy12 => intro w' hw'; have c := Ent.At.at_id (Whole.below E4.out hw' E4.out.lt); go_simp; (try with_reducible rfl)
              simp only [Act.put, List.setIfInBounds_toArray, List.set_cons_zero, List.set_cons_succ]
              refine reg_take (i := 13) (v := ?_) rfl (by kernel_rfl) (by kernel_rfl) (by kernel_rfl) (fun _ _ _ h => h) (by rfl) ?hy13 ?_
              case hy13 => intro w' hw'; go_simp; (try with_reducible rfl)
              simp only [Act.put, List.setIfInBounds_toArray, List.set_cons_zero, List.set_cons_succ]
              refine reg_take (i := 14) (v := ?_) rfl (by kernel_rfl) (by kernel_rfl) (by kernel_rfl) (fun _ _ _ h => h) (by rfl) ?hy14 ?_
              case hy14 => intro w' hw'; go_simp; (try with_reducible rfl)
              simp only [Act.put, List.setIfInBounds_toArray, List.set_cons_zero, List.set_cons_succ]
              refine reg_take (i := 15) (v := ?_) rfl (by kernel_rfl) (by kernel_rfl) (by kernel_rfl) (fun _ _ _ h => h) (by rfl) ?hy15 ?_
              case hy15 => intro w' hw'; go_simp; (try with_reducible rfl)
              simp only [Act.put, List.setIfInBounds_toArray, List.set_cons_zero, List.set_cons_succ]
              refine reg_take (i := 16) (v := ?_) rfl (by kernel_rfl) (by kernel_rfl) (by kernel_rfl) (fun _ _ _ h => h) (by rfl) ?hy16 ?_
              case hy16 => intro w' hw'; go_simp; (try with_reducible rfl)
              simp only [Act.put, List.setIfInBounds_toArray, List.set_cons_zero, List.set_cons_succ]
              refine reg_take (i := 17) (v := ?_) rfl (by kernel_rfl) (by kernel_rfl) (by kernel_rfl) (fun _ _ _ h => h) (by rfl) ?hy17 ?_
              case hy17 => intro w' hw'; go_simp; (try with_reducible rfl)
              simp only [Act.put, List.setIfInBounds_toArray, List.set_cons_zero, List.set_cons_succ]
              refine reg_take (i := 18) (v := y.entry.val) rfl (by kernel_rfl) (by kernel_rfl) (by kernel_rfl) (fun _ _ _ h => h) (by rfl) ?hy18 ?_
              case hy18 => intro w' hw'; exact exec_load_rec Ent.isRec _ rfl b (off + j * 8) rfl _ (Ent.len _) w' (fun u v hu => HY.out w' (B4.out.trans (hw'.mono B4.out.size)) u v (entry_cells y hu))
              simp only [Act.put, List.setIfInBounds_toArray, List.set_cons_zero, List.set_cons_succ]
              refine reg_take (i := 19) (v := ?_) rfl (by kernel_rfl) (by kernel_rfl) (by kernel_rfl) (fun _ _ _ h => h) (by rfl) ?hy19 ?_
              case hy19 => intro w' hw'; go_simp; (try with_reducible rfl)
              simp only [Act.put, List.setIfInBounds_toArray, List.set_cons_zero, List.set_cons_succ]
              refine reg_take (i := 20) (v := Ent.val (x).entry) rfl (by kernel_rfl) (by kernel_rfl) (by kernel_rfl) (fun _ _ _ h => h) (by rfl) ?hy20 ?_
              case hy20 => intro w' hw'; exact exec_load_rec Ent.isRec _ rfl gX 0 rfl _ (Ent.len _) w' (Peer.At.part_entry (Whole.below X4.out hw' X4.out.lt))
              simp only [Act.put, List.setIfInBounds_toArray, List.set_cons_zero, List.set_cons_succ]
              refine reg_call (i := 21) rfl (by kernel_rfl) (fun K' hK => ?_)
              go_simp
              refine (CA.out w4).mono ?_
              rintro e5 w5 ⟨rfl, b5⟩
              have E5 : Hid (Ent.At w5 gE me) := Lib.hid (Whole.below E4.out b5 E4.out.lt)
              have X5 : Hid (Peer.At w5 gX x) := Lib.hid (Whole.below X4.out b5 X4.out.lt)
              have B5 := Lib.hid (B4.out.trans (b5.mono B4.out.size))
              refine hK.out _ _ b5 ?_
              clear hK K' b5 E4 X4 B4
              refine reg_take (i := 22) (v := ?_) rfl (by kernel_rfl) (by kernel_rfl) (by kernel_rfl) (fun _ _ _ h => h) (by rfl) ?hy22 ?_
              case hy22 => intro w' hw'; go_simp; (try with_reducible rfl)
              simp only [Act.put, List.setIfInBounds_toArray, List.set_cons_zero, List.set_cons_succ]
              refine reg_take (i := 23) (v := ?_) rfl (by kernel_rfl) (by kernel_rfl) (by kernel_rfl) (fun _ _ _ h => h) (by rfl) ?hy23 ?_
              case hy23 => intro w' hw'; go_simp; (try with_reducible rfl)
              simp only [Act.put, List.setIfInBounds_toArray, List.set_cons_zero, List.set_cons_succ]
              refine reg_take (i := 24) (v := ?_) rfl (by kernel_rfl) (by kernel_rfl) (by kernel_rfl) (fun _ _ _ h => h) (by rfl) ?hy24 ?_
              case hy24 => intro w' hw'; go_simp; (try with_reducible rfl)
              simp only [Act.put, List.setIfInBounds_toArray, List.set_cons_zero, List.set_cons_succ]
              refine reg_end (by kernel_rfl) ?_
              cases q with
              | true =>
                have HV : Hid (∀ i, i < k + 1 → okQ me.id l i = true) := Lib.hid (fun i hi => by
                  by_cases e : i = k
                  · subst e; exact HOK2.out
                  · exact HO.out i (by omega))
                go_wp2
                exact ⟨⟨k + 1, by omega, by go_num, HV.out, E5.out, B5.out⟩, by simp [intOf]; omega⟩
              | false =>
                have HV : Hid (R = false) := Lib.hid (HKK.out HOK2.out)
                go_wp2
                go_ret
                exact ⟨by rw [HV.out]; rfl, B5.out⟩
        · obtain rfl : k = m := by omega
          have dk : decide ((k : Int) < (k : Int)) = false := by simp
          have HV : Hid (R = true) := Lib.hid (HY.out HM7.out HP0.out HO.out)
          go_wp2
          go_ret
          exact ⟨by rw [HV.out]; rfl, B0.out⟩
end Go.Proofs.Ytknccbdcfpncnaa
