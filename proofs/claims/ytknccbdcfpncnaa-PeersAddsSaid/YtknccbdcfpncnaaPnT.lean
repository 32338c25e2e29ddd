/- Layer 24: the document's Right. -/
import Derived.Test.YtknccbdcfpncnaaPnS
import Derived.Test.YtknccbdcfpncnaaPnL
namespace Go.Proofs.Ytknccbdcfpncnaa
set_option maxRecDepth 100000
open Go.RowKit

set_option maxRecDepth 100000
set_option maxHeartbeats 1000000 in
theorem refRight_any (A : Option Addr) (m cap : Nat) (l : List Peer) (me : Ent) (w : World) (hm : m ≤ 1000000) (hl : Words l) (hs : Short l) (hi : me.id < 18446744073709551616) (h : RowsAt w (.slice A m cap) 8 (l.map Peer.enc)) :
    Calls Try.prog 16 #[me.val, .slice A m cap] w fun e w' => e = .returned (.bool (rightQ me l)) ∧ Below w.heap.size w w' := by
  have hlen := h.size.1
  rw [List.length_map] at hlen
  have H := Lib.hid h
  have HL := Lib.hid hlen
  have HW := Lib.hid hl
  have HS := Lib.hid hs
  have HI := Lib.hid hi
  have CM := Lib.hid (fun w h => refPlace_any A m cap l me.name w hm h)
  have HB : Hid (¬ m ≤ 7 → rightQ me l = false) := Lib.hid (fun q => rightQ_big (by rw [← hlen]; exact q))
  have HM : Hid (¬ placeQ l me.name < 0 → rightQ me l = false) := Lib.hid rightQ_mine
  have HK : Hid (∀ k, k < m → okQ me.id l k = false → rightQ me l = false) := Lib.hid (fun k hk q => rightQ_no (by rw [← hlen]; exact hk) q)
  have HY : Hid (m ≤ 7 → placeQ l me.name < 0 → (∀ j, j < m → okQ me.id l j = true) → rightQ me l = true) := Lib.hid (fun q1 q2 q3 => rightQ_yes (by rw [← hlen]; exact q1) q2 (by rw [← hlen]; exact q3))
  obtain ⟨R, hR⟩ : ∃ R, R = rightQ me l := ⟨_, rfl⟩
  simp only [← hR] at HB HM HK HY
  rw [← hR]
  obtain ⟨P, hP⟩ : ∃ P, P = placeQ l me.name := ⟨_, rfl⟩
  simp only [← hP] at CM HM HY
  clear h hlen hl hs hi hR hP
  go_enter Try.func16, Try.ntmps16
  have L0 : Hid (RowsAt w (.slice A m cap) 8 (l.map Peer.enc)) := Lib.hid (H.out)
  go_wp2_with (refine wpList_box_row rfl 24 _ rfl me.enc.toArray (by with_unfolding_all exact rfl) ?_)
  intro w1 b1 x1 z1
  obtain ⟨gE, hgE⟩ : ∃ g, g = w.heap.size := ⟨_, rfl⟩
  have M_E := Lib.hid (show w.heap.size ≤ gE from by rw [hgE]; exact Nat.le_refl _)
  have L1 : Hid (RowsAt w1 (.slice A m cap) 8 (l.map Peer.enc)) := Lib.hid (L0.out.below b1)
  have B1 := Lib.hid b1
  rw [← hgE] at x1 ⊢
  have E1 : Hid (Ent.At w1 gE me) := Lib.hid x1
  clear b1 x1 z1 hgE L0
  by_cases h7 : 7 < m
  · have d : decide ((m : Int) > 7) = true := by simp; omega
    have d2 : decide ((7 : Int) < (m : Int)) = true := by simp; omega
    have HV : Hid (R = false) := Lib.hid (HB.out (by omega))
    clear h7
    go_wp2
    go_ret
    exact ⟨by rw [HV.out]; rfl, B1.out⟩
  · have d : decide ((m : Int) > 7) = false := by simp; omega
    have d2 : decide ((7 : Int) < (m : Int)) = false := by simp; omega
    have HM7 : Hid (m ≤ 7) := Lib.hid (by omega)
    have c1 := Ent.At.at_name E1.out
    clear h7
    go_wp2_with (with_reducible refine wpList_load_whole Ent.isRec rfl _ rfl gE (by with_unfolding_all exact rfl) _ _ (Ent.len _) E1.out ?_)
    refine (CM.out w1 L1.out).mono ?_
    rintro e2 w2 ⟨rfl, b2⟩
    have L2 : Hid (RowsAt w2 (.slice A m cap) 8 (l.map Peer.enc)) := Lib.hid (L1.out.below b2)
    have E2 : Hid (Ent.At w2 gE me) := Lib.hid (Whole.below E1.out b2 E1.out.lt)
    have B2 := Lib.hid (B1.out.trans (b2.mono B1.out.size))
    clear b2 L1 E1 B1
    clear c1
    by_cases h0 : ¬ P < 0
    · have d3 : decide (P ≥ 0) = true := by simp; omega
      have d4 : decide ((0 : Int) ≤ P) = true := by simp; omega
      have HV : Hid (R = false) := Lib.hid (HM.out (by omega))
      clear h0
      go_wp2
      go_ret
      exact ⟨by rw [HV.out]; rfl, B2.out⟩
    · have d3 : decide (P ≥ 0) = false := by simp; omega
      have d4 : decide ((0 : Int) ≤ P) = false := by simp; omega
      have HP0 : Hid (P < 0) := Lib.hid (by omega)
      clear h0
      go_wp2_with fail
      go_loopw [5] (fun i wr => ∃ k : Nat, k ≤ m ∧ i = .int .i64 (k : Int) ∧ (∀ j, j < k → okQ me.id l j = true) ∧ Ent.At wr gE me ∧ Below w.heap.size w wr) (fun i _ => m - (intOf i).toNat)
      case atStart => exact ⟨0, Nat.zero_le _, rfl, fun j hj => absurd hj (Nat.not_lt_zero _), E2.out, B2.out⟩
      case round =>
        obtain ⟨k, hk, rfl, hr, he, hb⟩ := hrel
        have HO := Lib.hid hr
        have ER := Lib.hid he
        have B0 := Lib.hid hb
        clear hr he hb E2 B2 L2
        by_cases hlt : k < m
        · have dk : decide ((k : Int) < (m : Int)) = true := by simp; omega
          obtain ⟨x, hx⟩ : ∃ x, l[k]? = some x := ⟨_, List.getElem?_eq_getElem (by rw [← HL.out]; exact hlt)⟩
          obtain ⟨b, off, rfl, hc⟩ := row_ofPe H.out hx
          have HX := Lib.hid hc
          have HX0 : Hid (∀ w', Below w.heap.size w w' → w'.cell? ⟨b, off + k * 8, none⟩ = some (.string ⟨x.entry.name.toArray⟩)) := Lib.hid (fun w' q => hc w' q 0 _ rfl)
          have jk : (k : Int) < (m : Int) := by omega
          have r4 : IntKind.i64.wrap ((k : Int) + 1) = ((k + 1 : Nat) : Int) := by rw [IntWalk.i64_in _ (by omega)]; omega
          have HXX := Lib.hid hx
          have hok : okQ me.id l k = (!decide (placeQ l x.entry.name < (k : Int)) && (decide (k = 0) || aheadE me.id (nthQ l (k - 1)).entry x.entry)) := by rw [okQ, nthQ_is hx]
          have HOK := Lib.hid hok
          have HKK := Lib.hid (HK.out k hlt)
          clear hc hx hok
          go_wp2_with fail
          go_loopw [6] (fun i wr => ∃ j : Nat, j ≤ k ∧ i = .int .i64 (j : Int) ∧ (∀ (t : Nat) (y : Peer), t < j → l[t]? = some y → y.entry.name ≠ x.entry.name) ∧ Ent.At wr gE me ∧ Below w.heap.size w wr) (fun i _ => k - (intOf i).toNat)
          case atStart => exact ⟨0, Nat.zero_le _, rfl, fun j y hj => absurd hj (Nat.not_lt_zero _), ER.out, B0.out⟩
          case round =>
            obtain ⟨j, hj, rfl, hr, he, hb⟩ := hrel
            clear ER B0
            have HJ := Lib.hid hr
            have ER := Lib.hid he
            have B0 := Lib.hid hb
            clear hr he hb
            by_cases hjk : j < k
            · have dj : decide ((j : Int) < (k : Int)) = true := by simp; omega
              have djn : decide (j < k) = true := by simp; omega
              obtain ⟨y, hy⟩ : ∃ y, l[j]? = some y := ⟨_, List.getElem?_eq_getElem (by rw [← HL.out]; omega)⟩
              obtain ⟨b', off', hbo, hc'⟩ := row_ofPe H.out hy
              injection hbo with hbo
              injection hbo with hb1 hb2
              subst hb1 hb2
              have HY0 : Hid (∀ w', Below w.heap.size w w' → w'.cell? ⟨b, off + j * 8, none⟩ = some (.string ⟨y.entry.name.toArray⟩)) := Lib.hid (fun w' q => hc' w' q 0 _ rfl)
              have jj : (j : Int) < (m : Int) := by omega
              have r5 : IntKind.i64.wrap ((j : Int) + 1) = ((j + 1 : Nat) : Int) := by rw [IntWalk.i64_in _ (by omega)]; omega
              have HYY := Lib.hid hy
              clear hc' hy
              by_cases e : x.entry.name = y.entry.name
              · have d5 : (x.entry.name == y.entry.name) = true := by rw [beq_iff_eq]; exact e
                have HV : Hid (R = false) := Lib.hid (HKK.out (by
                  rw [HOK.out, decide_eq_true (by have := (placeQ_low HYY.out e.symm).2; omega)]; rfl))
                clear e
                go_wp2_with (with_reducible refine wpList_load_whole Ent.isRec rfl _ rfl gE (by with_unfolding_all exact rfl) _ _ (Ent.len _) ER.out ?_)
                refine reg_begin (by kernel_rfl) fun w1 b1 z1 => ?_
                have E1 : Hid (Ent.At w1 gE me) := Lib.hid (Whole.below ER.out b1 ER.out.lt)
                have B1 := Lib.hid (B0.out.trans (b1.mono B0.out.size))
                clear b1 z1 ER B0
                refine reg_take (i := 0) (v := ?_) rfl (by kernel_rfl) (by kernel_rfl) (by kernel_rfl) (fun _ _ _ h => h) (by rfl) ?hy0 ?_
                case hy0 => intro w' hw'; go_simp; (try with_reducible rfl)
                simp only [Act.put, List.setIfInBounds_toArray, List.set_cons_zero, List.set_cons_succ]
                refine reg_take (i := 1) (v := ?_) rfl (by kernel_rfl) (by kernel_rfl) (by kernel_rfl) (fun _ _ _ h => h) (by rfl) ?hy1 ?_
                case hy1 => intro w' hw'; go_simp; (try with_reducible rfl)
                simp only [Act.put, List.setIfInBounds_toArray, List.set_cons_zero, List.set_cons_succ]
                refine reg_take (i := 2) (v := ?_) rfl (by kernel_rfl) (by kernel_rfl) (by kernel_rfl) (fun _ _ _ h => h) (by rfl) ?hy2 ?_
                case hy2 => intro w' hw'; go_simp; (try with_reducible rfl)
                simp only [Act.put, List.setIfInBounds_toArray, List.set_cons_zero, List.set_cons_succ]
                refine reg_take (i := 3) (v := ?_) rfl (by kernel_rfl) (by kernel_rfl) (by kernel_rfl) (fun _ _ _ h => h) (by rfl) ?hy3 ?_
                case hy3 => intro w' hw'; go_simp; (try with_reducible rfl)
                simp only [Act.put, List.setIfInBounds_toArray, List.set_cons_zero, List.set_cons_succ]
                refine reg_take (i := 4) (v := ?_) rfl (by kernel_rfl) (by kernel_rfl) (by kernel_rfl) (fun _ _ _ h => h) (by rfl) ?hy4 ?_
                case hy4 => intro w' hw'; go_simp; (try with_reducible rfl)
                simp only [Act.put, List.setIfInBounds_toArray, List.set_cons_zero, List.set_cons_succ]
                refine reg_take (i := 5) (v := .string ⟨x.entry.name.toArray⟩) rfl (by kernel_rfl) (by kernel_rfl) (by kernel_rfl) (fun _ _ _ h => h) (by rfl) ?hy5 ?_
                case hy5 => intro w' hw'; have c := HX0.out w' (B1.out.trans (hw'.mono B1.out.size)); go_simp; (try with_reducible rfl)
                simp only [Act.put, List.setIfInBounds_toArray, List.set_cons_zero, List.set_cons_succ]
                refine reg_take (i := 6) (v := ?_) rfl (by kernel_rfl) (by kernel_rfl) (by kernel_rfl) (fun _ _ _ h => h) (by rfl) ?hy6 ?_
                case hy6 => intro w' hw'; go_simp; (try with_reducible rfl)
                simp only [Act.put, List.setIfInBounds_toArray, List.set_cons_zero, List.set_cons_succ]
                refine reg_take (i := 7) (v := ?_) rfl (by kernel_rfl) (by kernel_rfl) (by kernel_rfl) (fun _ _ _ h => h) (by rfl) ?hy7 ?_
                case hy7 => intro w' hw'; go_simp; (try with_reducible rfl)
                simp only [Act.put, List.setIfInBounds_toArray, List.set_cons_zero, List.set_cons_succ]
                refine reg_take (i := 8) (v := ?_) rfl (by kernel_rfl) (by kernel_rfl) (by kernel_rfl) (fun _ _ _ h => h) (by rfl) ?hy8 ?_
                case hy8 => intro w' hw'; go_simp; (try with_reducible rfl)
                simp only [Act.put, List.setIfInBounds_toArray, List.set_cons_zero, List.set_cons_succ]
                refine reg_take (i := 9) (v := ?_) rfl (by kernel_rfl) (by kernel_rfl) (by kernel_rfl) (fun _ _ _ h => h) (by rfl) ?hy9 ?_
                case hy9 => intro w' hw'; go_simp; (try with_reducible rfl)
                simp only [Act.put, List.setIfInBounds_toArray, List.set_cons_zero, List.set_cons_succ]
                refine reg_take (i := 10) (v := ?_) rfl (by kernel_rfl) (by kernel_rfl) (by kernel_rfl) (fun _ _ _ h => h) (by rfl) ?hy10 ?_
                case hy10 => intro w' hw'; go_simp; (try with_reducible rfl)
                simp only [Act.put, List.setIfInBounds_toArray, List.set_cons_zero, List.set_cons_succ]
                refine reg_take (i := 11) (v := .string ⟨y.entry.name.toArray⟩) rfl (by kernel_rfl) (by kernel_rfl) (by kernel_rfl) (fun _ _ _ h => h) (by rfl) ?hy11 ?_
                case hy11 => intro w' hw'; have c := HY0.out w' (B1.out.trans (hw'.mono B1.out.size)); go_simp; (try with_reducible rfl)
                simp only [Act.put, List.setIfInBounds_toArray, List.set_cons_zero, List.set_cons_succ]
                refine reg_take (i := 12) (v := ?_) rfl (by kernel_rfl) (by kernel_rfl) (by kernel_rfl) (fun _ _ _ h => h) (by rfl) ?hy12 ?_
                case hy12 => intro w' hw'; go_simp; (try with_reducible rfl)
                simp only [Act.put, List.setIfInBounds_toArray, List.set_cons_zero, List.set_cons_succ]
                refine reg_end (by kernel_rfl) ?_
                go_wp2
                go_ret
                exact ⟨by rw [HV.out]; rfl, B1.out⟩
              · have d5 : (x.entry.name == y.entry.name) = false := by rw [beq_eq_false_iff_ne]; exact e
                have HV : Hid (∀ (t : Nat) (y : Peer), t < j + 1 → l[t]? = some y → y.entry.name ≠ x.entry.name) := Lib.hid (fun t z ht hz => by
                  by_cases q : t = j
                  · subst q; rw [HYY.out] at hz; injection hz with hz; subst hz; exact fun q => e q.symm
                  · exact HJ.out t z (by omega) hz)
                clear e
                go_wp2_with (with_reducible refine wpList_load_whole Ent.isRec rfl _ rfl gE (by with_unfolding_all exact rfl) _ _ (Ent.len _) ER.out ?_)
                refine reg_begin (by kernel_rfl) fun w1 b1 z1 => ?_
                have E1 : Hid (Ent.At w1 gE me) := Lib.hid (Whole.below ER.out b1 ER.out.lt)
                have B1 := Lib.hid (B0.out.trans (b1.mono B0.out.size))
                clear b1 z1 ER B0
                refine reg_take (i := 0) (v := ?_) rfl (by kernel_rfl) (by kernel_rfl) (by kernel_rfl) (fun _ _ _ h => h) (by rfl) ?hy0 ?_
                case hy0 => intro w' hw'; go_simp; (try with_reducible rfl)
                simp only [Act.put, List.setIfInBounds_toArray, List.set_cons_zero, List.set_cons_succ]
                refine reg_take (i := 1) (v := ?_) rfl (by kernel_rfl) (by kernel_rfl) (by kernel_rfl) (fun _ _ _ h => h) (by rfl) ?hy1 ?_
                case hy1 => intro w' hw'; go_simp; (try with_reducible rfl)
                simp only [Act.put, List.setIfInBounds_toArray, List.set_cons_zero, List.set_cons_succ]
                refine reg_take (i := 2) (v := ?_) rfl (by kernel_rfl) (by kernel_rfl) (by kernel_rfl) (fun _ _ _ h => h) (by rfl) ?hy2 ?_
                case hy2 => intro w' hw'; go_simp; (try with_reducible rfl)
                simp only [Act.put, List.setIfInBounds_toArray, List.set_cons_zero, List.set_cons_succ]
                refine reg_take (i := 3) (v := ?_) rfl (by kernel_rfl) (by kernel_rfl) (by kernel_rfl) (fun _ _ _ h => h) (by rfl) ?hy3 ?_
                case hy3 => intro w' hw'; go_simp; (try with_reducible rfl)
                simp only [Act.put, List.setIfInBounds_toArray, List.set_cons_zero, List.set_cons_succ]
                refine reg_take (i := 4) (v := ?_) rfl (by kernel_rfl) (by kernel_rfl) (by kernel_rfl) (fun _ _ _ h => h) (by rfl) ?hy4 ?_
                case hy4 => intro w' hw'; go_simp; (try with_reducible rfl)
                simp only [Act.put, List.setIfInBounds_toArray, List.set_cons_zero, List.set_cons_succ]
                refine reg_take (i := 5) (v := .string ⟨x.entry.name.toArray⟩) rfl (by kernel_rfl) (by kernel_rfl) (by kernel_rfl) (fun _ _ _ h => h) (by rfl) ?hy5 ?_
                case hy5 => intro w' hw'; have c := HX0.out w' (B1.out.trans (hw'.mono B1.out.size)); go_simp; (try with_reducible rfl)
                simp only [Act.put, List.setIfInBounds_toArray, List.set_cons_zero, List.set_cons_succ]
                refine reg_take (i := 6) (v := ?_) rfl (by kernel_rfl) (by kernel_rfl) (by kernel_rfl) (fun _ _ _ h => h) (by rfl) ?hy6 ?_
                case hy6 => intro w' hw'; go_simp; (try with_reducible rfl)
                simp only [Act.put, List.setIfInBounds_toArray, List.set_cons_zero, List.set_cons_succ]
                refine reg_take (i := 7) (v := ?_) rfl (by kernel_rfl) (by kernel_rfl) (by kernel_rfl) (fun _ _ _ h => h) (by rfl) ?hy7 ?_
                case hy7 => intro w' hw'; go_simp; (try with_reducible rfl)
                simp only [Act.put, List.setIfInBounds_toArray, List.set_cons_zero, List.set_cons_succ]
                refine reg_take (i := 8) (v := ?_) rfl (by kernel_rfl) (by kernel_rfl) (by kernel_rfl) (fun _ _ _ h => h) (by rfl) ?hy8 ?_
                case hy8 => intro w' hw'; go_simp; (try with_reducible rfl)
                simp only [Act.put, List.setIfInBounds_toArray, List.set_cons_zero, List.set_cons_succ]
                refine reg_take (i := 9) (v := ?_) rfl (by kernel_rfl) (by kernel_rfl) (by kernel_rfl) (fun _ _ _ h => h) (by rfl) ?hy9 ?_
                case hy9 => intro w' hw'; go_simp; (try with_reducible rfl)
                simp only [Act.put, List.setIfInBounds_toArray, List.set_cons_zero, List.set_cons_succ]
                refine reg_take (i := 10) (v := ?_) rfl (by kernel_rfl) (by kernel_rfl) (by kernel_rfl) (fun _ _ _ h => h) (by rfl) ?hy10 ?_
                case hy10 => intro w' hw'; go_simp; (try with_reducible rfl)
                simp only [Act.put, List.setIfInBounds_toArray, List.set_cons_zero, List.set_cons_succ]
                refine reg_take (i := 11) (v := .string ⟨y.entry.name.toArray⟩) rfl (by kernel_rfl) (by kernel_rfl) (by kernel_rfl) (fun _ _ _ h => h) (by rfl) ?hy11 ?_
                case hy11 => intro w' hw'; have c := HY0.out w' (B1.out.trans (hw'.mono B1.out.size)); go_simp; (try with_reducible rfl)
                simp only [Act.put, List.setIfInBounds_toArray, List.set_cons_zero, List.set_cons_succ]
                refine reg_take (i := 12) (v := ?_) rfl (by kernel_rfl) (by kernel_rfl) (by kernel_rfl) (fun _ _ _ h => h) (by rfl) ?hy12 ?_
                case hy12 => intro w' hw'; go_simp; (try with_reducible rfl)
                simp only [Act.put, List.setIfInBounds_toArray, List.set_cons_zero, List.set_cons_succ]
                refine reg_end (by kernel_rfl) ?_
                go_wp2
                exact ⟨⟨j + 1, by omega, by go_num, HV.out, E1.out, B1.out⟩, by simp [intOf]; omega⟩
            · obtain rfl : j = k := by omega
              have dj : decide ((j : Int) < (j : Int)) = false := by simp
              have HNP : Hid (decide (placeQ l x.entry.name < (j : Int)) = false) := Lib.hid (by rw [placeQ_high HXX.out rfl HJ.out]; simp)
              clear hjk
              by_cases hz : j = 0
              · have d3 : decide (0 < j) = false := by simp; omega
                have HV : Hid (∀ i, i < j + 1 → okQ me.id l i = true) := Lib.hid (fun i hi => by
                  by_cases e : i = j
                  · subst e; rw [HOK.out, HNP.out, decide_eq_true hz]; rfl
                  · exact HO.out i (by omega))
                clear hz HKK HOK
                go_wp2_with (with_reducible refine wpList_load_whole Ent.isRec rfl _ rfl gE (by with_unfolding_all exact rfl) _ _ (Ent.len _) ER.out ?_)
                refine reg_begin (by kernel_rfl) fun w1 b1 z1 => ?_
                have E1 : Hid (Ent.At w1 gE me) := Lib.hid (Whole.below ER.out b1 ER.out.lt)
                have B1 := Lib.hid (B0.out.trans (b1.mono B0.out.size))
                clear b1 z1 ER B0
                refine reg_take (i := 0) (v := ?_) rfl (by kernel_rfl) (by kernel_rfl) (by kernel_rfl) (fun _ _ _ h => h) (by rfl) ?hy0 ?_
                case hy0 => intro w' hw'; go_simp; (try with_reducible rfl)
                simp only [Act.put, List.setIfInBounds_toArray, List.set_cons_zero, List.set_cons_succ]
                refine reg_take (i := 1) (v := ?_) rfl (by kernel_rfl) (by kernel_rfl) (by kernel_rfl) (fun _ _ _ h => h) (by rfl) ?hy1 ?_
                case hy1 => intro w' hw'; go_simp; (try with_reducible rfl)
                simp only [Act.put, List.setIfInBounds_toArray, List.set_cons_zero, List.set_cons_succ]
                refine reg_take (i := 2) (v := ?_) rfl (by kernel_rfl) (by kernel_rfl) (by kernel_rfl) (fun _ _ _ h => h) (by rfl) ?hy2 ?_
                case hy2 => intro w' hw'; go_simp; (try with_reducible rfl)
                simp only [Act.put, List.setIfInBounds_toArray, List.set_cons_zero, List.set_cons_succ]
                refine reg_skip (i := 3) rfl (by kernel_rfl) (by kernel_rfl) (by kernel_rfl) (fun _ _ _ h => h) (by rfl) ?_
                simp only [Act.put, List.setIfInBounds_toArray, List.set_cons_zero, List.set_cons_succ]
                refine reg_skip (i := 4) rfl (by kernel_rfl) (by kernel_rfl) (by kernel_rfl) (fun _ _ _ h => h) (by rfl) ?_
                simp only [Act.put, List.setIfInBounds_toArray, List.set_cons_zero, List.set_cons_succ]
                refine reg_skip (i := 5) rfl (by kernel_rfl) (by kernel_rfl) (by kernel_rfl) (fun _ _ _ h => h) (by rfl) ?_
                simp only [Act.put, List.setIfInBounds_toArray, List.set_cons_zero, List.set_cons_succ]
                refine reg_skip (i := 6) rfl (by kernel_rfl) (by kernel_rfl) (by kernel_rfl) (fun _ _ _ h => h) (by rfl) ?_
                simp only [Act.put, List.setIfInBounds_toArray, List.set_cons_zero, List.set_cons_succ]
                refine reg_skip (i := 7) rfl (by kernel_rfl) (by kernel_rfl) (by kernel_rfl) (fun _ _ _ h => h) (by rfl) ?_
                simp only [Act.put, List.setIfInBounds_toArray, List.set_cons_zero, List.set_cons_succ]
                refine reg_skip (i := 8) rfl (by kernel_rfl) (by kernel_rfl) (by kernel_rfl) (fun _ _ _ h => h) (by rfl) ?_
                simp only [Act.put, List.setIfInBounds_toArray, List.set_cons_zero, List.set_cons_succ]
                refine reg_skip (i := 9) rfl (by kernel_rfl) (by kernel_rfl) (by kernel_rfl) (fun _ _ _ h => h) (by rfl) ?_
                simp only [Act.put, List.setIfInBounds_toArray, List.set_cons_zero, List.set_cons_succ]
                refine reg_skip (i := 10) rfl (by kernel_rfl) (by kernel_rfl) (by kernel_rfl) (fun _ _ _ h => h) (by rfl) ?_
                simp only [Act.put, List.setIfInBounds_toArray, List.set_cons_zero, List.set_cons_succ]
                refine reg_skip (i := 11) rfl (by kernel_rfl) (by kernel_rfl) (by kernel_rfl) (fun _ _ _ h => h) (by rfl) ?_
                simp only [Act.put, List.setIfInBounds_toArray, List.set_cons_zero, List.set_cons_succ]
                refine reg_skip (i := 12) rfl (by kernel_rfl) (by kernel_rfl) (by kernel_rfl) (fun _ _ _ h => h) (by rfl) ?_
                simp only [Act.put, List.setIfInBounds_toArray, List.set_cons_zero, List.set_cons_succ]
                refine reg_skip (i := 13) rfl (by kernel_rfl) (by kernel_rfl) (by kernel_rfl) (fun _ _ _ h => h) (by rfl) ?_
                simp only [Act.put, List.setIfInBounds_toArray, List.set_cons_zero, List.set_cons_succ]
                refine reg_skip (i := 14) rfl (by kernel_rfl) (by kernel_rfl) (by kernel_rfl) (fun _ _ _ h => h) (by rfl) ?_
                simp only [Act.put, List.setIfInBounds_toArray, List.set_cons_zero, List.set_cons_succ]
                refine reg_take (i := 15) (v := ?_) rfl (by kernel_rfl) (by kernel_rfl) (by kernel_rfl) (fun _ _ _ h => h) (by rfl) ?hy15 ?_
                case hy15 => intro w' hw'; go_simp; (try with_reducible rfl)
                simp only [Act.put, List.setIfInBounds_toArray, List.set_cons_zero, List.set_cons_succ]
                refine reg_end (by kernel_rfl) ?_
                go_wp2
                exact ⟨⟨j + 1, by omega, by go_num, HV.out, E1.out, B1.out⟩, by simp [intOf]; omega⟩
              · obtain ⟨i, hi⟩ : ∃ i, j = i + 1 := ⟨j - 1, by omega⟩
                have d3 : decide (0 < j) = true := by simp; omega
                have r5 : IntKind.i64.wrap ((j : Int) - 1) = (i : Int) := by rw [IntWalk.i64_in _ (by omega)]; omega
                have ji : (i : Int) < (m : Int) := by omega
                obtain ⟨y, hy⟩ : ∃ y, l[i]? = some y := ⟨_, List.getElem?_eq_getElem (by rw [← HL.out]; omega)⟩
                obtain ⟨b', off', hbo, hc'⟩ := row_ofPe H.out hy
                injection hbo with hbo
                injection hbo with hb1 hb2
                subst hb1 hb2
                have HYC := Lib.hid hc'
                have my := List.mem_of_getElem? hy
                have mx := List.mem_of_getElem? HXX.out
                have CA := Lib.hid (fun w => refAhead_any me y x HI.out (HW.out y my) (HW.out x mx) (HS.out y my) (HS.out x mx) w)
                have hok2 := HOK.out
                rw [show j - 1 = i by omega, nthQ_is hy, HNP.out, decide_eq_false hz] at hok2
                obtain ⟨q, hq⟩ : ∃ q, q = aheadE me.id y.entry x.entry := ⟨_, rfl⟩
                simp only [← hq] at CA hok2
                have HOK2 : Hid (okQ me.id l j = q) := Lib.hid (by rw [hok2]; rfl)
                clear hc' hy hz hq hok2 HOK hi my mx
                go_wp2_with (with_reducible refine wpList_load_whole Ent.isRec rfl _ rfl gE (by with_unfolding_all exact rfl) _ _ (Ent.len _) ER.out ?_)
                refine reg_begin (by kernel_rfl) fun w1 b1 z1 => ?_
                have E1 : Hid (Ent.At w1 gE me) := Lib.hid (Whole.below ER.out b1 ER.out.lt)
                have B1 := Lib.hid (B0.out.trans (b1.mono B0.out.size))
                clear b1 z1 ER B0
                refine reg_take (i := 0) (v := ?_) rfl (by kernel_rfl) (by kernel_rfl) (by kernel_rfl) (fun _ _ _ h => h) (by rfl) ?hy0 ?_
                case hy0 => intro w' hw'; go_simp; (try with_reducible rfl)
                simp only [Act.put, List.setIfInBounds_toArray, List.set_cons_zero, List.set_cons_succ]
                refine reg_take (i := 1) (v := ?_) rfl (by kernel_rfl) (by kernel_rfl) (by kernel_rfl) (fun _ _ _ h => h) (by rfl) ?hy1 ?_
                case hy1 => intro w' hw'; go_simp; (try with_reducible rfl)
                simp only [Act.put, List.setIfInBounds_toArray, List.set_cons_zero, List.set_cons_succ]
                refine reg_take (i := 2) (v := ?_) rfl (by kernel_rfl) (by kernel_rfl) (by kernel_rfl) (fun _ _ _ h => h) (by rfl) ?hy2 ?_
                case hy2 => intro w' hw'; go_simp; (try with_reducible rfl)
                simp only [Act.put, List.setIfInBounds_toArray, List.set_cons_zero, List.set_cons_succ]
                refine reg_take (i := 3) (v := Ent.val (me)) rfl (by kernel_rfl) (by kernel_rfl) (by kernel_rfl) (fun _ _ _ h => h) (by rfl) ?hy3 ?_
                case hy3 => intro w' hw'; exact exec_load_whole Ent.isRec _ rfl gE rfl _ _ (Ent.len _) w' (Whole.below E1.out hw' E1.out.lt)
                simp only [Act.put, List.setIfInBounds_toArray, List.set_cons_zero, List.set_cons_succ]
                refine reg_take (i := 4) (v := ?_) rfl (by kernel_rfl) (by kernel_rfl) (by kernel_rfl) (fun _ _ _ h => h) (by rfl) ?hy4 ?_
                case hy4 => intro w' hw'; go_simp; (try with_reducible rfl)
                simp only [Act.put, List.setIfInBounds_toArray, List.set_cons_zero, List.set_cons_succ]
                refine reg_take (i := 5) (v := ?_) rfl (by kernel_rfl) (by kernel_rfl) (by kernel_rfl) (fun _ _ _ h => h) (by rfl) ?hy5 ?_
                case hy5 => intro w' hw'; go_simp; (try with_reducible rfl)
                simp only [Act.put, List.setIfInBounds_toArray, List.set_cons_zero, List.set_cons_succ]
                refine reg_take (i := 6) (v := ?_) rfl (by kernel_rfl) (by kernel_rfl) (by kernel_rfl) (fun _ _ _ h => h) (by rfl) ?hy6 ?_
                case hy6 => intro w' hw'; go_simp; (try with_reducible rfl)
                simp only [Act.put, List.setIfInBounds_toArray, List.set_cons_zero, List.set_cons_succ]
                refine reg_take (i := 7) (v := ?_) rfl (by kernel_rfl) (by kernel_rfl) (by kernel_rfl) (fun _ _ _ h => h) (by rfl) ?hy7 ?_
                case hy7 => intro w' hw'; go_simp; (try with_reducible rfl)
                simp only [Act.put, List.setIfInBounds_toArray, List.set_cons_zero, List.set_cons_succ]
                refine reg_take (i := 8) (v := y.val) rfl (by kernel_rfl) (by kernel_rfl) (by kernel_rfl) (fun _ _ _ h => h) (by rfl) ?hy8 ?_
                case hy8 => intro w' hw'; exact exec_load_rec Peer.isRec _ rfl b (off + i * 8) rfl _ (Peer.len _) w' (HYC.out w' (B1.out.trans (hw'.mono B1.out.size)))
                simp only [Act.put, List.setIfInBounds_toArray, List.set_cons_zero, List.set_cons_succ]
                refine reg_take (i := 9) (v := ?_) rfl (by kernel_rfl) (by kernel_rfl) (by kernel_rfl) (fun _ _ _ h => h) (by rfl) ?hy9 ?_
                case hy9 => intro w' hw'; go_simp; (try with_reducible rfl)
                simp only [Act.put, List.setIfInBounds_toArray, List.set_cons_zero, List.set_cons_succ]
                refine reg_take (i := 10) (v := ?_) rfl (by kernel_rfl) (by kernel_rfl) (by kernel_rfl) (fun _ _ _ h => h) (by rfl) ?hy10 ?_
                case hy10 => intro w' hw'; go_simp; (try with_reducible rfl)
                simp only [Act.put, List.setIfInBounds_toArray, List.set_cons_zero, List.set_cons_succ]
                refine reg_take (i := 11) (v := ?_) rfl (by kernel_rfl) (by kernel_rfl) (by kernel_rfl) (fun _ _ _ h => h) (by rfl) ?hy11 ?_
                case hy11 => intro w' hw'; go_simp; (try with_reducible rfl)
                simp only [Act.put, List.setIfInBounds_toArray, List.set_cons_zero, List.set_cons_succ]
                refine reg_take (i := 12) (v := x.val) rfl (by kernel_rfl) (by kernel_rfl) (by kernel_rfl) (fun _ _ _ h => h) (by rfl) ?hy12 ?_
                case hy12 => intro w' hw'; exact exec_load_rec Peer.isRec _ rfl b (off + j * 8) rfl _ (Peer.len _) w' (HX.out w' (B1.out.trans (hw'.mono B1.out.size)))
                simp only [Act.put, List.setIfInBounds_toArray, List.set_cons_zero, List.set_cons_succ]
                refine reg_call (i := 13) rfl (by kernel_rfl) (fun K' hK => ?_)
                go_simp
                refine (CA.out w1).mono ?_
                rintro e2 w2 ⟨rfl, b2⟩
                have E2 : Hid (Ent.At w2 gE me) := Lib.hid (Whole.below E1.out b2 E1.out.lt)
                have B2 := Lib.hid (B1.out.trans (b2.mono B1.out.size))
                refine hK.out _ _ b2 ?_
                clear hK K' b2 E1 B1
                refine reg_take (i := 14) (v := ?_) rfl (by kernel_rfl) (by kernel_rfl) (by kernel_rfl) (fun _ _ _ h => h) (by rfl) ?hy14 ?_
                case hy14 => intro w' hw'; go_simp; (try with_reducible rfl)
                simp only [Act.put, List.setIfInBounds_toArray, List.set_cons_zero, List.set_cons_succ]
                refine reg_take (i := 15) (v := ?_) rfl (by kernel_rfl) (by kernel_rfl) (by kernel_rfl) (fun _ _ _ h => h) (by rfl) ?hy15 ?_
                case hy15 => intro w' hw'; go_simp; (try with_reducible rfl)
                simp only [Act.put, List.setIfInBounds_toArray, List.set_cons_zero, List.set_cons_succ]
                refine reg_end (by kernel_rfl) ?_
                cases q with
                | true =>
                  have HV : Hid (∀ i, i < j + 1 → okQ me.id l i = true) := Lib.hid (fun i hi => by
                    by_cases e : i = j
                    · subst e; exact HOK2.out
                    · exact HO.out i (by omega))
                  go_wp2
                  exact ⟨⟨j + 1, by omega, by go_num, HV.out, E2.out, B2.out⟩, by simp [intOf]; omega⟩
                | false =>
                  have HV : Hid (R = false) := Lib.hid (HKK.out HOK2.out)
                  go_wp2
                  go_ret
                  exact ⟨by rw [HV.out]; rfl, B2.out⟩
        · obtain rfl : k = m := by omega
          have dk : decide ((k : Int) < (k : Int)) = false := by simp
          have HV : Hid (R = true) := Lib.hid (HY.out HM7.out HP0.out HO.out)
          go_wp2
          go_ret
          exact ⟨by rw [HV.out]; rfl, B0.out⟩
end Go.Proofs.Ytknccbdcfpncnaa
