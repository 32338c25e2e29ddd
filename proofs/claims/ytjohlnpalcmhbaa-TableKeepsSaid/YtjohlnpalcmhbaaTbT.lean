/- Layer 23: what the document's Again and Add answer. -/
import Derived.Test.YtjohlnpalcmhbaaTbS
import Derived.Test.YtjohlnpalcmhbaaTbF
import Derived.Test.YtjohlnpalcmhbaaTbG
namespace Go.Proofs.Ytjohlnpalcmhbaa
set_option maxRecDepth 100000
open Go.RowKit

theorem quiet_below {F : FuncId} {args : Array Value} {w : World} {x : Ending} (h : Calls Try.prog F args w fun e w' => e = x ∧ w' = w) : Calls Try.prog F args w fun e w' => e = x ∧ Below w.heap.size w w' :=
  h.mono fun e w' ⟨he, hw⟩ => ⟨he, by rw [hw]; exact Below.refl _ _⟩
theorem any_snoc {p : Ses → Bool} {l : List Ses} {k : Nat} {x : Ses} (hx : l[k]? = some x) : (l.take (k + 1)).any p = ((l.take k).any p || p x) := by
  rw [List.take_add_one, hx, List.any_append]
  simp

set_option maxRecDepth 100000 in
set_option maxHeartbeats 2000000 in
theorem refAgain_any (A : Option Addr) (m cap : Nat) (l : List Ses) (s : Ses) (w : World) (hm : m ≤ 1000000) (h : RowsAt w (.slice A m cap) 20 (l.map Ses.enc)) :
    Calls Try.prog 42 #[.slice A m cap, s.val] w fun e w' => e = .returned (.bool (againS l s)) ∧ Below w.heap.size w w' := by
  have hlen := h.size.1
  rw [List.length_map] at hlen
  have H := Lib.hid h
  have HL := Lib.hid hlen
  have C1 := Lib.hid (fun w h => quiet_below (refWaits_any A m cap l s.nonce w hm h))
  have C2 := Lib.hid (fun w h => quiet_below (refById_any A m cap l s.id w hm h))
  have hF : againS l s = if decide (s.state = 1) then decide (0 ≤ firstS (waitsP s.nonce) l 0) else decide (0 ≤ firstS (byIdP s.id) l 0) || (decide (s.state = 2) && l.any (halfP s)) := by rw [againS]; simp only [decide_eq_true_eq]
  obtain ⟨r1, hr1⟩ : ∃ r, r = firstS (waitsP s.nonce) l 0 := ⟨_, rfl⟩
  obtain ⟨r2, hr2⟩ : ∃ r, r = firstS (byIdP s.id) l 0 := ⟨_, rfl⟩
  obtain ⟨r3, hr3⟩ : ∃ r, r = (decide (s.state = 2) && l.any (halfP s)) := ⟨_, rfl⟩
  obtain ⟨q, hq⟩ : ∃ q, q = decide (s.state = 1) := ⟨_, rfl⟩
  obtain ⟨u, hu⟩ : ∃ q, q = decide (s.state = 2) := ⟨_, rfl⟩
  simp only [← hr1, ← hr2, ← hq] at hF C1 C2
  rw [← hr3] at hF
  rw [← hu] at hr3
  obtain ⟨t1, ht1⟩ : ∃ t, t = decide (0 ≤ r1) := ⟨_, rfl⟩
  obtain ⟨t2, ht2⟩ : ∃ t, t = decide (0 ≤ r2) := ⟨_, rfl⟩
  have e0 : (s.state == 1) = q := by rw [hq]; rfl
  have e1 : decide (r1 ≥ 0) = t1 := ht1.symm
  have e2 : decide (r2 ≥ 0) = t2 := ht2.symm
  have e3 : (s.state == 2) = u := by rw [hu]; rfl
  have f1 := ht1.symm
  have f2 := ht2.symm
  have HR := Lib.hid hr3
  rw [← ht1, ← ht2] at hF
  rw [hF]
  clear h hF hr1 hr2 hr3 hq hu ht1 ht2 hlen
  go_enter Try.func42, Try.ntmps42
  go_wp2_with (refine wpList_box_row rfl 36 _ rfl s.enc.toArray (by with_unfolding_all exact rfl) ?_)
  intro w1 b1 x1 z1
  obtain ⟨gS, hgS⟩ : ∃ g, g = w.heap.size := ⟨_, rfl⟩
  have M_S := Lib.hid (show w.heap.size ≤ gS from by rw [hgS]; exact Nat.le_refl _)
  have B1 := Lib.hid b1
  rw [← hgS] at x1 ⊢
  have S1 : Hid (Ses.At w1 gS s) := Lib.hid x1
  clear b1 x1 z1 hgS 
  have c0 := Ses.At.at_state S1.out
  cases q with
  | true =>
    have c1 := Ses.At.at_nonce S1.out
    go_wp2_with (first | (with_reducible refine wpList_load_whole Ses.isRec rfl _ rfl gS (by with_unfolding_all exact rfl) _ _ (Ses.len _) S1.out ?_) | (with_reducible refine wpList_load_rec Ent.isRec rfl _ rfl gS 2 (by with_unfolding_all exact rfl) _ (Ent.len _) (Ses.At.part_peer S1.out) ?_) | (with_reducible refine wpList_load_rec Win.isRec rfl _ rfl gS 16 (by with_unfolding_all exact rfl) _ (Win.len _) (Ses.At.part_seen S1.out) ?_))
    refine (C1.out w1 (H.out.below B1.out)).mono ?_
    rintro e2 w2 ⟨rfl, b2⟩
    have S2 : Hid (Ses.At w2 gS s) := Lib.hid (Whole.below S1.out b2 S1.out.lt)
    have B2 := Lib.hid (B1.out.trans (b2.mono B1.out.size))
    clear b2 S1 B1
    clear c0 c1
    go_wp2
    go_ret
    exact ⟨rfl, B2.out⟩
  | false =>
    have c1 := Ses.At.at_id S1.out
    go_wp2_with (first | (with_reducible refine wpList_load_whole Ses.isRec rfl _ rfl gS (by with_unfolding_all exact rfl) _ _ (Ses.len _) S1.out ?_) | (with_reducible refine wpList_load_rec Ent.isRec rfl _ rfl gS 2 (by with_unfolding_all exact rfl) _ (Ent.len _) (Ses.At.part_peer S1.out) ?_) | (with_reducible refine wpList_load_rec Win.isRec rfl _ rfl gS 16 (by with_unfolding_all exact rfl) _ (Win.len _) (Ses.At.part_seen S1.out) ?_))
    refine (C2.out w1 (H.out.below B1.out)).mono ?_
    rintro e2 w2 ⟨rfl, b2⟩
    have S2 : Hid (Ses.At w2 gS s) := Lib.hid (Whole.below S1.out b2 S1.out.lt)
    have B2 := Lib.hid (B1.out.trans (b2.mono B1.out.size))
    clear b2 S1 B1
    clear c0 c1
    cases t2 with
    | true =>
      go_wp2
      go_ret
      exact ⟨rfl, B2.out⟩
    | false =>
      go_wp2_with fail
      go_loopw [5] (fun i wr => ∃ k : Nat, k ≤ m ∧ i = .int .i64 (k : Int) ∧ (u && (l.take k).any (halfP s)) = false ∧ Ses.At wr gS s ∧ Below w.heap.size w wr) (fun i _ => m - (intOf i).toNat)
      case atStart => exact ⟨0, Nat.zero_le _, rfl, by rw [List.take_zero]; simp, S2.out, B2.out⟩
      case round =>
        obtain ⟨k, hk, rfl, hr, hs, hb⟩ := hrel
        have HK := Lib.hid hr
        have S0 := Lib.hid hs
        have B0 := Lib.hid hb
        clear hr hs hb S2 B2
        by_cases hlt : k < m
        · have dk : decide ((k : Int) < (m : Int)) = true := by simp; omega
          obtain ⟨x, hx⟩ : ∃ x, l[k]? = some x := ⟨_, List.getElem?_eq_getElem (by rw [← HL.out]; exact hlt)⟩
          have jk : (k : Int) < (m : Int) := by omega
          have r4 : IntKind.i64.wrap ((k : Int) + 1) = ((k + 1 : Nat) : Int) := by rw [IntWalk.i64_in _ (by omega)]; omega
          obtain ⟨b, off, rfl, hc, hp⟩ := ses_cells H.out hx
          have HX := Lib.hid hc
          have HP := Lib.hid hp
          have HM := Lib.hid (List.mem_of_getElem? hx)
          obtain ⟨v1, hv1⟩ : ∃ q, q = decide (x.role = 2) := ⟨_, rfl⟩
          obtain ⟨v2, hv2⟩ : ∃ q, q = decide (x.nonce = s.nonce) := ⟨_, rfl⟩
          obtain ⟨v3, hv3⟩ : ∃ q, q = entW x.peer s.peer := ⟨_, rfl⟩
          have HH : Hid (halfP s x = (v1 && v2 && v3)) := Lib.hid (by rw [halfP, hv1, hv2, hv3])
          have e5 : (x.role == 2) = v1 := by rw [hv1]; rfl
          have e6 : ((x.nonce : Int) == (s.nonce : Int)) = v2 := by rw [hv2, Bool.eq_iff_iff, beq_iff_eq, decide_eq_true_eq]; omega
          have CW := Lib.hid (fun w => refWho_any x.peer s.peer w)
          simp only [← hv3] at CW
          have HV : Hid ((u && (l.take (k + 1)).any (halfP s)) = (u && (v1 && v2 && v3))) := Lib.hid (by have t := HK.out; rw [any_snoc hx, HH.out]; cases u <;> simp_all)
          have HT : Hid (u = true → v1 = true → v2 = true → v3 = true → r3 = true) := Lib.hid (by
            intro h0 h1 h2 h3
            rw [HR.out, h0, Bool.true_and, List.any_eq_true]
            exact ⟨x, HM.out, by rw [HH.out, h1, h2, h3]; rfl⟩)
          clear hc hp hx hv1 hv2 hv3
          cases u with
          | false =>
            go_wp2_with (first | (with_reducible refine wpList_load_whole Ses.isRec rfl _ rfl gS (by with_unfolding_all exact rfl) _ _ (Ses.len _) S0.out ?_) | (with_reducible refine wpList_load_rec Ent.isRec rfl _ rfl gS 2 (by with_unfolding_all exact rfl) _ (Ent.len _) (Ses.At.part_peer S0.out) ?_) | (with_reducible refine wpList_load_rec Win.isRec rfl _ rfl gS 16 (by with_unfolding_all exact rfl) _ (Win.len _) (Ses.At.part_seen S0.out) ?_))
            refine reg_begin (by kernel_rfl) fun w3 b3 z3 => ?_
            have S3 : Hid (Ses.At w3 gS s) := Lib.hid (Whole.below S0.out b3 S0.out.lt)
            have B3 := Lib.hid (B0.out.trans (b3.mono B0.out.size))
            clear b3 z3 S0 B0
            refine reg_take (i := 0) (v := ?_) rfl (by kernel_rfl) (by kernel_rfl) (by kernel_rfl) (fun _ _ _ h => h) (by rfl) ?hy0 ?_
            case hy0 => intro w' hw'; go_simp; (try with_reducible rfl)
            simp only [Act.put, List.setIfInBounds_toArray, List.set_cons_zero, List.set_cons_succ]
            refine reg_take (i := 1) (v := (.int .i64 (s).state)) rfl (by kernel_rfl) (by kernel_rfl) (by kernel_rfl) (fun _ _ _ h => h) (by rfl) ?hy1 ?_
            case hy1 => intro w' hw'; have c := Ses.At.at_state (Whole.below S3.out hw' S3.out.lt); go_simp; (try with_reducible rfl)
            simp only [Act.put, List.setIfInBounds_toArray, List.set_cons_zero, List.set_cons_succ]
            refine reg_take (i := 2) (v := ?_) rfl (by kernel_rfl) (by kernel_rfl) (by kernel_rfl) (fun _ _ _ h => h) (by rfl) ?hy2 ?_
            case hy2 => intro w' hw'; go_simp; (try with_reducible rfl)
            simp only [Act.put, List.setIfInBounds_toArray, List.set_cons_zero, List.set_cons_succ]
            refine reg_take (i := 3) (v := ?_) rfl (by kernel_rfl) (by kernel_rfl) (by kernel_rfl) (fun _ _ _ h => h) (by rfl) ?hy3 ?_
            case hy3 => intro w' hw'; go_simp; (try with_reducible rfl)
            simp only [Act.put, List.setIfInBounds_toArray, List.set_cons_zero, List.set_cons_succ]
            refine reg_skip (i := 4) rfl (by kernel_rfl) (by kernel_rfl) (by kernel_rfl) (fun _ _ _ h => h) (by rfl) ?_
            simp only [Act.put, List.setIfInBounds_toArray, List.set_cons_zero, List.set_cons_succ]
            refine reg_skip (i := 5) rfl (by kernel_rfl) (by kernel_rfl) (by kernel_rfl) (fun _ _ _ h => h) (by rfl) ?_
            simp only [Act.put, List.setIfInBounds_toArray, List.set_cons_zero, List.set_cons_succ]
            refine reg_skip (i := 6) rfl (by kernel_rfl) (by kernel_rfl) (by kernel_rfl) (fun _ _ _ h => h) (by rfl) ?_
            simp only [Act.put, List.setIfInBounds_toArray, List.set_cons_zero, List.set_cons_succ]
            refine reg_skip (i := 7) rfl (by kernel_rfl) (by kernel_rfl) (by kernel_rfl) (fun _ _ _ h => h) (by rfl) ?_
            simp only [Act.put, List.setIfInBounds_toArray, List.set_cons_zero, List.set_cons_succ]
            refine reg_skip (i := 8) rfl (by kernel_rfl) (by kernel_rfl) (by kernel_rfl) (fun _ _ _ h => h) (by rfl) ?_
            simp only [Act.put, List.setIfInBounds_toArray, List.set_cons_zero, List.set_cons_succ]
            refine reg_skip (i := 9) rfl (by kernel_rfl) (by kernel_rfl) (by kernel_rfl) (fun _ _ _ h => h) (by rfl) ?_
            simp only [Act.put, List.setIfInBounds_toArray, List.set_cons_zero, List.set_cons_succ]
            refine reg_take (i := 10) (v := ?_) rfl (by kernel_rfl) (by kernel_rfl) (by kernel_rfl) (fun _ _ _ h => h) (by rfl) ?hy10 ?_
            case hy10 => intro w' hw'; go_simp; (try with_reducible rfl)
            simp only [Act.put, List.setIfInBounds_toArray, List.set_cons_zero, List.set_cons_succ]
            refine reg_take (i := 11) (v := ?_) rfl (by kernel_rfl) (by kernel_rfl) (by kernel_rfl) (fun _ _ _ h => h) (by rfl) ?hy11 ?_
            case hy11 => intro w' hw'; go_simp; (try with_reducible rfl)
            simp only [Act.put, List.setIfInBounds_toArray, List.set_cons_zero, List.set_cons_succ]
            refine reg_skip (i := 12) rfl (by kernel_rfl) (by kernel_rfl) (by kernel_rfl) (fun _ _ _ h => h) (by rfl) ?_
            simp only [Act.put, List.setIfInBounds_toArray, List.set_cons_zero, List.set_cons_succ]
            refine reg_skip (i := 13) rfl (by kernel_rfl) (by kernel_rfl) (by kernel_rfl) (fun _ _ _ h => h) (by rfl) ?_
            simp only [Act.put, List.setIfInBounds_toArray, List.set_cons_zero, List.set_cons_succ]
            refine reg_skip (i := 14) rfl (by kernel_rfl) (by kernel_rfl) (by kernel_rfl) (fun _ _ _ h => h) (by rfl) ?_
            simp only [Act.put, List.setIfInBounds_toArray, List.set_cons_zero, List.set_cons_succ]
            refine reg_skip (i := 15) rfl (by kernel_rfl) (by kernel_rfl) (by kernel_rfl) (fun _ _ _ h => h) (by rfl) ?_
            simp only [Act.put, List.setIfInBounds_toArray, List.set_cons_zero, List.set_cons_succ]
            refine reg_skip (i := 16) rfl (by kernel_rfl) (by kernel_rfl) (by kernel_rfl) (fun _ _ _ h => h) (by rfl) ?_
            simp only [Act.put, List.setIfInBounds_toArray, List.set_cons_zero, List.set_cons_succ]
            refine reg_skip (i := 17) rfl (by kernel_rfl) (by kernel_rfl) (by kernel_rfl) (fun _ _ _ h => h) (by rfl) ?_
            simp only [Act.put, List.setIfInBounds_toArray, List.set_cons_zero, List.set_cons_succ]
            refine reg_skip (i := 18) rfl (by kernel_rfl) (by kernel_rfl) (by kernel_rfl) (fun _ _ _ h => h) (by rfl) ?_
            simp only [Act.put, List.setIfInBounds_toArray, List.set_cons_zero, List.set_cons_succ]
            refine reg_skip (i := 19) rfl (by kernel_rfl) (by kernel_rfl) (by kernel_rfl) (fun _ _ _ h => h) (by rfl) ?_
            simp only [Act.put, List.setIfInBounds_toArray, List.set_cons_zero, List.set_cons_succ]
            refine reg_take (i := 20) (v := ?_) rfl (by kernel_rfl) (by kernel_rfl) (by kernel_rfl) (fun _ _ _ h => h) (by rfl) ?hy20 ?_
            case hy20 => intro w' hw'; go_simp; (try with_reducible rfl)
            simp only [Act.put, List.setIfInBounds_toArray, List.set_cons_zero, List.set_cons_succ]
            refine reg_take (i := 21) (v := ?_) rfl (by kernel_rfl) (by kernel_rfl) (by kernel_rfl) (fun _ _ _ h => h) (by rfl) ?hy21 ?_
            case hy21 => intro w' hw'; go_simp; (try with_reducible rfl)
            simp only [Act.put, List.setIfInBounds_toArray, List.set_cons_zero, List.set_cons_succ]
            refine reg_skip (i := 22) rfl (by kernel_rfl) (by kernel_rfl) (by kernel_rfl) (fun _ _ _ h => h) (by rfl) ?_
            simp only [Act.put, List.setIfInBounds_toArray, List.set_cons_zero, List.set_cons_succ]
            refine reg_skip (i := 23) rfl (by kernel_rfl) (by kernel_rfl) (by kernel_rfl) (fun _ _ _ h => h) (by rfl) ?_
            simp only [Act.put, List.setIfInBounds_toArray, List.set_cons_zero, List.set_cons_succ]
            refine reg_skip (i := 24) rfl (by kernel_rfl) (by kernel_rfl) (by kernel_rfl) (fun _ _ _ h => h) (by rfl) ?_
            simp only [Act.put, List.setIfInBounds_toArray, List.set_cons_zero, List.set_cons_succ]
            refine reg_skip (i := 25) rfl (by kernel_rfl) (by kernel_rfl) (by kernel_rfl) (fun _ _ _ h => h) (by rfl) ?_
            simp only [Act.put, List.setIfInBounds_toArray, List.set_cons_zero, List.set_cons_succ]
            refine reg_skip (i := 26) rfl (by kernel_rfl) (by kernel_rfl) (by kernel_rfl) (fun _ _ _ h => h) (by rfl) ?_
            simp only [Act.put, List.setIfInBounds_toArray, List.set_cons_zero, List.set_cons_succ]
            refine reg_skip (i := 27) rfl (by kernel_rfl) (by kernel_rfl) (by kernel_rfl) (fun _ _ _ h => h) (by rfl) ?_
            simp only [Act.put, List.setIfInBounds_toArray, List.set_cons_zero, List.set_cons_succ]
            refine reg_skip (i := 28) rfl (by kernel_rfl) (by kernel_rfl) (by kernel_rfl) (fun _ _ _ h => h) (by rfl) ?_
            simp only [Act.put, List.setIfInBounds_toArray, List.set_cons_zero, List.set_cons_succ]
            refine reg_skip (i := 29) rfl (by kernel_rfl) (by kernel_rfl) (by kernel_rfl) (fun _ _ _ h => h) (by rfl) ?_
            simp only [Act.put, List.setIfInBounds_toArray, List.set_cons_zero, List.set_cons_succ]
            refine reg_take (i := 30) (v := ?_) rfl (by kernel_rfl) (by kernel_rfl) (by kernel_rfl) (fun _ _ _ h => h) (by rfl) ?hy30 ?_
            case hy30 => intro w' hw'; go_simp; (try with_reducible rfl)
            simp only [Act.put, List.setIfInBounds_toArray, List.set_cons_zero, List.set_cons_succ]
            refine reg_end (by kernel_rfl) ?_
            go_wp2
            exact ⟨⟨k + 1, by omega, by go_num, rfl, S3.out, B3.out⟩, by simp [intOf]; omega⟩
          | true =>
            cases v1 with
            | false =>
              have HW := Lib.hid (HV.out.trans rfl : (true && (l.take (k + 1)).any (halfP s)) = false)
              go_wp2_with (first | (with_reducible refine wpList_load_whole Ses.isRec rfl _ rfl gS (by with_unfolding_all exact rfl) _ _ (Ses.len _) S0.out ?_) | (with_reducible refine wpList_load_rec Ent.isRec rfl _ rfl gS 2 (by with_unfolding_all exact rfl) _ (Ent.len _) (Ses.At.part_peer S0.out) ?_) | (with_reducible refine wpList_load_rec Win.isRec rfl _ rfl gS 16 (by with_unfolding_all exact rfl) _ (Win.len _) (Ses.At.part_seen S0.out) ?_))
              refine reg_begin (by kernel_rfl) fun w3 b3 z3 => ?_
              have S3 : Hid (Ses.At w3 gS s) := Lib.hid (Whole.below S0.out b3 S0.out.lt)
              have B3 := Lib.hid (B0.out.trans (b3.mono B0.out.size))
              clear b3 z3 S0 B0
              refine reg_take (i := 0) (v := ?_) rfl (by kernel_rfl) (by kernel_rfl) (by kernel_rfl) (fun _ _ _ h => h) (by rfl) ?hy0 ?_
              case hy0 => intro w' hw'; go_simp; (try with_reducible rfl)
              simp only [Act.put, List.setIfInBounds_toArray, List.set_cons_zero, List.set_cons_succ]
              refine reg_take (i := 1) (v := (.int .i64 (s).state)) rfl (by kernel_rfl) (by kernel_rfl) (by kernel_rfl) (fun _ _ _ h => h) (by rfl) ?hy1 ?_
              case hy1 => intro w' hw'; have c := Ses.At.at_state (Whole.below S3.out hw' S3.out.lt); go_simp; (try with_reducible rfl)
              simp only [Act.put, List.setIfInBounds_toArray, List.set_cons_zero, List.set_cons_succ]
              refine reg_take (i := 2) (v := ?_) rfl (by kernel_rfl) (by kernel_rfl) (by kernel_rfl) (fun _ _ _ h => h) (by rfl) ?hy2 ?_
              case hy2 => intro w' hw'; go_simp; (try with_reducible rfl)
              simp only [Act.put, List.setIfInBounds_toArray, List.set_cons_zero, List.set_cons_succ]
              refine reg_take (i := 3) (v := ?_) rfl (by kernel_rfl) (by kernel_rfl) (by kernel_rfl) (fun _ _ _ h => h) (by rfl) ?hy3 ?_
              case hy3 => intro w' hw'; go_simp; (try with_reducible rfl)
              simp only [Act.put, List.setIfInBounds_toArray, List.set_cons_zero, List.set_cons_succ]
              refine reg_take (i := 4) (v := ?_) rfl (by kernel_rfl) (by kernel_rfl) (by kernel_rfl) (fun _ _ _ h => h) (by rfl) ?hy4 ?_
              case hy4 => intro w' hw'; go_simp; (try with_reducible rfl)
              simp only [Act.put, List.setIfInBounds_toArray, List.set_cons_zero, List.set_cons_succ]
              refine reg_take (i := 5) (v := ?_) rfl (by kernel_rfl) (by kernel_rfl) (by kernel_rfl) (fun _ _ _ h => h) (by rfl) ?hy5 ?_
              case hy5 => intro w' hw'; go_simp; (try with_reducible rfl)
              simp only [Act.put, List.setIfInBounds_toArray, List.set_cons_zero, List.set_cons_succ]
              refine reg_take (i := 6) (v := ?_) rfl (by kernel_rfl) (by kernel_rfl) (by kernel_rfl) (fun _ _ _ h => h) (by rfl) ?hy6 ?_
              case hy6 => intro w' hw'; go_simp; (try with_reducible rfl)
              simp only [Act.put, List.setIfInBounds_toArray, List.set_cons_zero, List.set_cons_succ]
              refine reg_take (i := 7) (v := ?_) rfl (by kernel_rfl) (by kernel_rfl) (by kernel_rfl) (fun _ _ _ h => h) (by rfl) ?hy7 ?_
              case hy7 => intro w' hw'; go_simp; (try with_reducible rfl)
              simp only [Act.put, List.setIfInBounds_toArray, List.set_cons_zero, List.set_cons_succ]
              refine reg_take (i := 8) (v := .int .i64 x.role) rfl (by kernel_rfl) (by kernel_rfl) (by kernel_rfl) (fun _ _ _ h => h) (by rfl) ?hy8 ?_
              case hy8 => intro w' hw'; have c := HX.out w' (B3.out.trans (hw'.mono B3.out.size)) 8 _ rfl; go_simp; (try with_reducible rfl)
              simp only [Act.put, List.setIfInBounds_toArray, List.set_cons_zero, List.set_cons_succ]
              refine reg_take (i := 9) (v := ?_) rfl (by kernel_rfl) (by kernel_rfl) (by kernel_rfl) (fun _ _ _ h => h) (by rfl) ?hy9 ?_
              case hy9 => intro w' hw'; go_simp; (try with_reducible rfl)
              simp only [Act.put, List.setIfInBounds_toArray, List.set_cons_zero, List.set_cons_succ]
              refine reg_take (i := 10) (v := ?_) rfl (by kernel_rfl) (by kernel_rfl) (by kernel_rfl) (fun _ _ _ h => h) (by rfl) ?hy10 ?_
              case hy10 => intro w' hw'; go_simp; (try with_reducible rfl)
              simp only [Act.put, List.setIfInBounds_toArray, List.set_cons_zero, List.set_cons_succ]
              refine reg_take (i := 11) (v := ?_) rfl (by kernel_rfl) (by kernel_rfl) (by kernel_rfl) (fun _ _ _ h => h) (by rfl) ?hy11 ?_
              case hy11 => intro w' hw'; go_simp; (try with_reducible rfl)
              simp only [Act.put, List.setIfInBounds_toArray, List.set_cons_zero, List.set_cons_succ]
              refine reg_skip (i := 12) rfl (by kernel_rfl) (by kernel_rfl) (by kernel_rfl) (fun _ _ _ h => h) (by rfl) ?_
              simp only [Act.put, List.setIfInBounds_toArray, List.set_cons_zero, List.set_cons_succ]
              refine reg_skip (i := 13) rfl (by kernel_rfl) (by kernel_rfl) (by kernel_rfl) (fun _ _ _ h => h) (by rfl) ?_
              simp only [Act.put, List.setIfInBounds_toArray, List.set_cons_zero, List.set_cons_succ]
              refine reg_skip (i := 14) rfl (by kernel_rfl) (by kernel_rfl) (by kernel_rfl) (fun _ _ _ h => h) (by rfl) ?_
              simp only [Act.put, List.setIfInBounds_toArray, List.set_cons_zero, List.set_cons_succ]
              refine reg_skip (i := 15) rfl (by kernel_rfl) (by kernel_rfl) (by kernel_rfl) (fun _ _ _ h => h) (by rfl) ?_
              simp only [Act.put, List.setIfInBounds_toArray, List.set_cons_zero, List.set_cons_succ]
              refine reg_skip (i := 16) rfl (by kernel_rfl) (by kernel_rfl) (by kernel_rfl) (fun _ _ _ h => h) (by rfl) ?_
              simp only [Act.put, List.setIfInBounds_toArray, List.set_cons_zero, List.set_cons_succ]
              refine reg_skip (i := 17) rfl (by kernel_rfl) (by kernel_rfl) (by kernel_rfl) (fun _ _ _ h => h) (by rfl) ?_
              simp only [Act.put, List.setIfInBounds_toArray, List.set_cons_zero, List.set_cons_succ]
              refine reg_skip (i := 18) rfl (by kernel_rfl) (by kernel_rfl) (by kernel_rfl) (fun _ _ _ h => h) (by rfl) ?_
              simp only [Act.put, List.setIfInBounds_toArray, List.set_cons_zero, List.set_cons_succ]
              refine reg_skip (i := 19) rfl (by kernel_rfl) (by kernel_rfl) (by kernel_rfl) (fun _ _ _ h => h) (by rfl) ?_
              simp only [Act.put, List.setIfInBounds_toArray, List.set_cons_zero, List.set_cons_succ]
              refine reg_take (i := 20) (v := ?_) rfl (by kernel_rfl) (by kernel_rfl) (by kernel_rfl) (fun _ _ _ h => h) (by rfl) ?hy20 ?_
              case hy20 => intro w' hw'; go_simp; (try with_reducible rfl)
              simp only [Act.put, List.setIfInBounds_toArray, List.set_cons_zero, List.set_cons_succ]
              refine reg_take (i := 21) (v := ?_) rfl (by kernel_rfl) (by kernel_rfl) (by kernel_rfl) (fun _ _ _ h => h) (by rfl) ?hy21 ?_
              case hy21 => intro w' hw'; go_simp; (try with_reducible rfl)
              simp only [Act.put, List.setIfInBounds_toArray, List.set_cons_zero, List.set_cons_succ]
              refine reg_skip (i := 22) rfl (by kernel_rfl) (by kernel_rfl) (by kernel_rfl) (fun _ _ _ h => h) (by rfl) ?_
              simp only [Act.put, List.setIfInBounds_toArray, List.set_cons_zero, List.set_cons_succ]
              refine reg_skip (i := 23) rfl (by kernel_rfl) (by kernel_rfl) (by kernel_rfl) (fun _ _ _ h => h) (by rfl) ?_
              simp only [Act.put, List.setIfInBounds_toArray, List.set_cons_zero, List.set_cons_succ]
              refine reg_skip (i := 24) rfl (by kernel_rfl) (by kernel_rfl) (by kernel_rfl) (fun _ _ _ h => h) (by rfl) ?_
              simp only [Act.put, List.setIfInBounds_toArray, List.set_cons_zero, List.set_cons_succ]
              refine reg_skip (i := 25) rfl (by kernel_rfl) (by kernel_rfl) (by kernel_rfl) (fun _ _ _ h => h) (by rfl) ?_
              simp only [Act.put, List.setIfInBounds_toArray, List.set_cons_zero, List.set_cons_succ]
              refine reg_skip (i := 26) rfl (by kernel_rfl) (by kernel_rfl) (by kernel_rfl) (fun _ _ _ h => h) (by rfl) ?_
              simp only [Act.put, List.setIfInBounds_toArray, List.set_cons_zero, List.set_cons_succ]
              refine reg_skip (i := 27) rfl (by kernel_rfl) (by kernel_rfl) (by kernel_rfl) (fun _ _ _ h => h) (by rfl) ?_
              simp only [Act.put, List.setIfInBounds_toArray, List.set_cons_zero, List.set_cons_succ]
              refine reg_skip (i := 28) rfl (by kernel_rfl) (by kernel_rfl) (by kernel_rfl) (fun _ _ _ h => h) (by rfl) ?_
              simp only [Act.put, List.setIfInBounds_toArray, List.set_cons_zero, List.set_cons_succ]
              refine reg_skip (i := 29) rfl (by kernel_rfl) (by kernel_rfl) (by kernel_rfl) (fun _ _ _ h => h) (by rfl) ?_
              simp only [Act.put, List.setIfInBounds_toArray, List.set_cons_zero, List.set_cons_succ]
              refine reg_take (i := 30) (v := ?_) rfl (by kernel_rfl) (by kernel_rfl) (by kernel_rfl) (fun _ _ _ h => h) (by rfl) ?hy30 ?_
              case hy30 => intro w' hw'; go_simp; (try with_reducible rfl)
              simp only [Act.put, List.setIfInBounds_toArray, List.set_cons_zero, List.set_cons_succ]
              refine reg_end (by kernel_rfl) ?_
              go_wp2
              exact ⟨⟨k + 1, by omega, by go_num, HW.out, S3.out, B3.out⟩, by simp [intOf]; omega⟩
            | true =>
              cases v2 with
              | false =>
                have HW := Lib.hid (HV.out.trans rfl : (true && (l.take (k + 1)).any (halfP s)) = false)
                go_wp2_with (first | (with_reducible refine wpList_load_whole Ses.isRec rfl _ rfl gS (by with_unfolding_all exact rfl) _ _ (Ses.len _) S0.out ?_) | (with_reducible refine wpList_load_rec Ent.isRec rfl _ rfl gS 2 (by with_unfolding_all exact rfl) _ (Ent.len _) (Ses.At.part_peer S0.out) ?_) | (with_reducible refine wpList_load_rec Win.isRec rfl _ rfl gS 16 (by with_unfolding_all exact rfl) _ (Win.len _) (Ses.At.part_seen S0.out) ?_))
                refine reg_begin (by kernel_rfl) fun w3 b3 z3 => ?_
                have S3 : Hid (Ses.At w3 gS s) := Lib.hid (Whole.below S0.out b3 S0.out.lt)
                have B3 := Lib.hid (B0.out.trans (b3.mono B0.out.size))
                clear b3 z3 S0 B0
                refine reg_take (i := 0) (v := ?_) rfl (by kernel_rfl) (by kernel_rfl) (by kernel_rfl) (fun _ _ _ h => h) (by rfl) ?hy0 ?_
                case hy0 => intro w' hw'; go_simp; (try with_reducible rfl)
                simp only [Act.put, List.setIfInBounds_toArray, List.set_cons_zero, List.set_cons_succ]
                refine reg_take (i := 1) (v := (.int .i64 (s).state)) rfl (by kernel_rfl) (by kernel_rfl) (by kernel_rfl) (fun _ _ _ h => h) (by rfl) ?hy1 ?_
                case hy1 => intro w' hw'; have c := Ses.At.at_state (Whole.below S3.out hw' S3.out.lt); go_simp; (try with_reducible rfl)
                simp only [Act.put, List.setIfInBounds_toArray, List.set_cons_zero, List.set_cons_succ]
                refine reg_take (i := 2) (v := ?_) rfl (by kernel_rfl) (by kernel_rfl) (by kernel_rfl) (fun _ _ _ h => h) (by rfl) ?hy2 ?_
                case hy2 => intro w' hw'; go_simp; (try with_reducible rfl)
                simp only [Act.put, List.setIfInBounds_toArray, List.set_cons_zero, List.set_cons_succ]
                refine reg_take (i := 3) (v := ?_) rfl (by kernel_rfl) (by kernel_rfl) (by kernel_rfl) (fun _ _ _ h => h) (by rfl) ?hy3 ?_
                case hy3 => intro w' hw'; go_simp; (try with_reducible rfl)
                simp only [Act.put, List.setIfInBounds_toArray, List.set_cons_zero, List.set_cons_succ]
                refine reg_take (i := 4) (v := ?_) rfl (by kernel_rfl) (by kernel_rfl) (by kernel_rfl) (fun _ _ _ h => h) (by rfl) ?hy4 ?_
                case hy4 => intro w' hw'; go_simp; (try with_reducible rfl)
                simp only [Act.put, List.setIfInBounds_toArray, List.set_cons_zero, List.set_cons_succ]
                refine reg_take (i := 5) (v := ?_) rfl (by kernel_rfl) (by kernel_rfl) (by kernel_rfl) (fun _ _ _ h => h) (by rfl) ?hy5 ?_
                case hy5 => intro w' hw'; go_simp; (try with_reducible rfl)
                simp only [Act.put, List.setIfInBounds_toArray, List.set_cons_zero, List.set_cons_succ]
                refine reg_take (i := 6) (v := ?_) rfl (by kernel_rfl) (by kernel_rfl) (by kernel_rfl) (fun _ _ _ h => h) (by rfl) ?hy6 ?_
                case hy6 => intro w' hw'; go_simp; (try with_reducible rfl)
                simp only [Act.put, List.setIfInBounds_toArray, List.set_cons_zero, List.set_cons_succ]
                refine reg_take (i := 7) (v := ?_) rfl (by kernel_rfl) (by kernel_rfl) (by kernel_rfl) (fun _ _ _ h => h) (by rfl) ?hy7 ?_
                case hy7 => intro w' hw'; go_simp; (try with_reducible rfl)
                simp only [Act.put, List.setIfInBounds_toArray, List.set_cons_zero, List.set_cons_succ]
                refine reg_take (i := 8) (v := .int .i64 x.role) rfl (by kernel_rfl) (by kernel_rfl) (by kernel_rfl) (fun _ _ _ h => h) (by rfl) ?hy8 ?_
                case hy8 => intro w' hw'; have c := HX.out w' (B3.out.trans (hw'.mono B3.out.size)) 8 _ rfl; go_simp; (try with_reducible rfl)
                simp only [Act.put, List.setIfInBounds_toArray, List.set_cons_zero, List.set_cons_succ]
                refine reg_take (i := 9) (v := ?_) rfl (by kernel_rfl) (by kernel_rfl) (by kernel_rfl) (fun _ _ _ h => h) (by rfl) ?hy9 ?_
                case hy9 => intro w' hw'; go_simp; (try with_reducible rfl)
                simp only [Act.put, List.setIfInBounds_toArray, List.set_cons_zero, List.set_cons_succ]
                refine reg_take (i := 10) (v := ?_) rfl (by kernel_rfl) (by kernel_rfl) (by kernel_rfl) (fun _ _ _ h => h) (by rfl) ?hy10 ?_
                case hy10 => intro w' hw'; go_simp; (try with_reducible rfl)
                simp only [Act.put, List.setIfInBounds_toArray, List.set_cons_zero, List.set_cons_succ]
                refine reg_take (i := 11) (v := ?_) rfl (by kernel_rfl) (by kernel_rfl) (by kernel_rfl) (fun _ _ _ h => h) (by rfl) ?hy11 ?_
                case hy11 => intro w' hw'; go_simp; (try with_reducible rfl)
                simp only [Act.put, List.setIfInBounds_toArray, List.set_cons_zero, List.set_cons_succ]
                refine reg_take (i := 12) (v := ?_) rfl (by kernel_rfl) (by kernel_rfl) (by kernel_rfl) (fun _ _ _ h => h) (by rfl) ?hy12 ?_
                case hy12 => intro w' hw'; go_simp; (try with_reducible rfl)
                simp only [Act.put, List.setIfInBounds_toArray, List.set_cons_zero, List.set_cons_succ]
                refine reg_take (i := 13) (v := ?_) rfl (by kernel_rfl) (by kernel_rfl) (by kernel_rfl) (fun _ _ _ h => h) (by rfl) ?hy13 ?_
                case hy13 => intro w' hw'; go_simp; (try with_reducible rfl)
                simp only [Act.put, List.setIfInBounds_toArray, List.set_cons_zero, List.set_cons_succ]
                refine reg_take (i := 14) (v := ?_) rfl (by kernel_rfl) (by kernel_rfl) (by kernel_rfl) (fun _ _ _ h => h) (by rfl) ?hy14 ?_
                case hy14 => intro w' hw'; go_simp; (try with_reducible rfl)
                simp only [Act.put, List.setIfInBounds_toArray, List.set_cons_zero, List.set_cons_succ]
                refine reg_take (i := 15) (v := ?_) rfl (by kernel_rfl) (by kernel_rfl) (by kernel_rfl) (fun _ _ _ h => h) (by rfl) ?hy15 ?_
                case hy15 => intro w' hw'; go_simp; (try with_reducible rfl)
                simp only [Act.put, List.setIfInBounds_toArray, List.set_cons_zero, List.set_cons_succ]
                refine reg_take (i := 16) (v := .int .u64 (x.nonce : Int)) rfl (by kernel_rfl) (by kernel_rfl) (by kernel_rfl) (fun _ _ _ h => h) (by rfl) ?hy16 ?_
                case hy16 => intro w' hw'; have c := HX.out w' (B3.out.trans (hw'.mono B3.out.size)) 1 _ rfl; go_simp; (try with_reducible rfl)
                simp only [Act.put, List.setIfInBounds_toArray, List.set_cons_zero, List.set_cons_succ]
                refine reg_take (i := 17) (v := ?_) rfl (by kernel_rfl) (by kernel_rfl) (by kernel_rfl) (fun _ _ _ h => h) (by rfl) ?hy17 ?_
                case hy17 => intro w' hw'; go_simp; (try with_reducible rfl)
                simp only [Act.put, List.setIfInBounds_toArray, List.set_cons_zero, List.set_cons_succ]
                refine reg_take (i := 18) (v := (.int .u64 ((s).nonce : Int))) rfl (by kernel_rfl) (by kernel_rfl) (by kernel_rfl) (fun _ _ _ h => h) (by rfl) ?hy18 ?_
                case hy18 => intro w' hw'; have c := Ses.At.at_nonce (Whole.below S3.out hw' S3.out.lt); go_simp; (try with_reducible rfl)
                simp only [Act.put, List.setIfInBounds_toArray, List.set_cons_zero, List.set_cons_succ]
                refine reg_take (i := 19) (v := ?_) rfl (by kernel_rfl) (by kernel_rfl) (by kernel_rfl) (fun _ _ _ h => h) (by rfl) ?hy19 ?_
                case hy19 => intro w' hw'; go_simp; (try with_reducible rfl)
                simp only [Act.put, List.setIfInBounds_toArray, List.set_cons_zero, List.set_cons_succ]
                refine reg_take (i := 20) (v := ?_) rfl (by kernel_rfl) (by kernel_rfl) (by kernel_rfl) (fun _ _ _ h => h) (by rfl) ?hy20 ?_
                case hy20 => intro w' hw'; go_simp; (try with_reducible rfl)
                simp only [Act.put, List.setIfInBounds_toArray, List.set_cons_zero, List.set_cons_succ]
                refine reg_take (i := 21) (v := ?_) rfl (by kernel_rfl) (by kernel_rfl) (by kernel_rfl) (fun _ _ _ h => h) (by rfl) ?hy21 ?_
                case hy21 => intro w' hw'; go_simp; (try with_reducible rfl)
                simp only [Act.put, List.setIfInBounds_toArray, List.set_cons_zero, List.set_cons_succ]
                refine reg_skip (i := 22) rfl (by kernel_rfl) (by kernel_rfl) (by kernel_rfl) (fun _ _ _ h => h) (by rfl) ?_
                simp only [Act.put, List.setIfInBounds_toArray, List.set_cons_zero, List.set_cons_succ]
                refine reg_skip (i := 23) rfl (by kernel_rfl) (by kernel_rfl) (by kernel_rfl) (fun _ _ _ h => h) (by rfl) ?_
                simp only [Act.put, List.setIfInBounds_toArray, List.set_cons_zero, List.set_cons_succ]
                refine reg_skip (i := 24) rfl (by kernel_rfl) (by kernel_rfl) (by kernel_rfl) (fun _ _ _ h => h) (by rfl) ?_
                simp only [Act.put, List.setIfInBounds_toArray, List.set_cons_zero, List.set_cons_succ]
                refine reg_skip (i := 25) rfl (by kernel_rfl) (by kernel_rfl) (by kernel_rfl) (fun _ _ _ h => h) (by rfl) ?_
                simp only [Act.put, List.setIfInBounds_toArray, List.set_cons_zero, List.set_cons_succ]
                refine reg_skip (i := 26) rfl (by kernel_rfl) (by kernel_rfl) (by kernel_rfl) (fun _ _ _ h => h) (by rfl) ?_
                simp only [Act.put, List.setIfInBounds_toArray, List.set_cons_zero, List.set_cons_succ]
                refine reg_skip (i := 27) rfl (by kernel_rfl) (by kernel_rfl) (by kernel_rfl) (fun _ _ _ h => h) (by rfl) ?_
                simp only [Act.put, List.setIfInBounds_toArray, List.set_cons_zero, List.set_cons_succ]
                refine reg_skip (i := 28) rfl (by kernel_rfl) (by kernel_rfl) (by kernel_rfl) (fun _ _ _ h => h) (by rfl) ?_
                simp only [Act.put, List.setIfInBounds_toArray, List.set_cons_zero, List.set_cons_succ]
                refine reg_skip (i := 29) rfl (by kernel_rfl) (by kernel_rfl) (by kernel_rfl) (fun _ _ _ h => h) (by rfl) ?_
                simp only [Act.put, List.setIfInBounds_toArray, List.set_cons_zero, List.set_cons_succ]
                refine reg_take (i := 30) (v := ?_) rfl (by kernel_rfl) (by kernel_rfl) (by kernel_rfl) (fun _ _ _ h => h) (by rfl) ?hy30 ?_
                case hy30 => intro w' hw'; go_simp; (try with_reducible rfl)
                simp only [Act.put, List.setIfInBounds_toArray, List.set_cons_zero, List.set_cons_succ]
                refine reg_end (by kernel_rfl) ?_
                go_wp2
                exact ⟨⟨k + 1, by omega, by go_num, HW.out, S3.out, B3.out⟩, by simp [intOf]; omega⟩
              | true =>
                go_wp2_with (first | (with_reducible refine wpList_load_whole Ses.isRec rfl _ rfl gS (by with_unfolding_all exact rfl) _ _ (Ses.len _) S0.out ?_) | (with_reducible refine wpList_load_rec Ent.isRec rfl _ rfl gS 2 (by with_unfolding_all exact rfl) _ (Ent.len _) (Ses.At.part_peer S0.out) ?_) | (with_reducible refine wpList_load_rec Win.isRec rfl _ rfl gS 16 (by with_unfolding_all exact rfl) _ (Win.len _) (Ses.At.part_seen S0.out) ?_))
                refine reg_begin (by kernel_rfl) fun w3 b3 z3 => ?_
                have S3 : Hid (Ses.At w3 gS s) := Lib.hid (Whole.below S0.out b3 S0.out.lt)
                have B3 := Lib.hid (B0.out.trans (b3.mono B0.out.size))
                clear b3 z3 S0 B0
                refine reg_take (i := 0) (v := ?_) rfl (by kernel_rfl) (by kernel_rfl) (by kernel_rfl) (fun _ _ _ h => h) (by rfl) ?hy0 ?_
                case hy0 => intro w' hw'; go_simp; (try with_reducible rfl)
                simp only [Act.put, List.setIfInBounds_toArray, List.set_cons_zero, List.set_cons_succ]
                refine reg_take (i := 1) (v := (.int .i64 (s).state)) rfl (by kernel_rfl) (by kernel_rfl) (by kernel_rfl) (fun _ _ _ h => h) (by rfl) ?hy1 ?_
                case hy1 => intro w' hw'; have c := Ses.At.at_state (Whole.below S3.out hw' S3.out.lt); go_simp; (try with_reducible rfl)
                simp only [Act.put, List.setIfInBounds_toArray, List.set_cons_zero, List.set_cons_succ]
                refine reg_take (i := 2) (v := ?_) rfl (by kernel_rfl) (by kernel_rfl) (by kernel_rfl) (fun _ _ _ h => h) (by rfl) ?hy2 ?_
                case hy2 => intro w' hw'; go_simp; (try with_reducible rfl)
                simp only [Act.put, List.setIfInBounds_toArray, List.set_cons_zero, List.set_cons_succ]
                refine reg_take (i := 3) (v := ?_) rfl (by kernel_rfl) (by kernel_rfl) (by kernel_rfl) (fun _ _ _ h => h) (by rfl) ?hy3 ?_
                case hy3 => intro w' hw'; go_simp; (try with_reducible rfl)
                simp only [Act.put, List.setIfInBounds_toArray, List.set_cons_zero, List.set_cons_succ]
                refine reg_take (i := 4) (v := ?_) rfl (by kernel_rfl) (by kernel_rfl) (by kernel_rfl) (fun _ _ _ h => h) (by rfl) ?hy4 ?_
                case hy4 => intro w' hw'; go_simp; (try with_reducible rfl)
                simp only [Act.put, List.setIfInBounds_toArray, List.set_cons_zero, List.set_cons_succ]
                refine reg_take (i := 5) (v := ?_) rfl (by kernel_rfl) (by kernel_rfl) (by kernel_rfl) (fun _ _ _ h => h) (by rfl) ?hy5 ?_
                case hy5 => intro w' hw'; go_simp; (try with_reducible rfl)
                simp only [Act.put, List.setIfInBounds_toArray, List.set_cons_zero, List.set_cons_succ]
                refine reg_take (i := 6) (v := ?_) rfl (by kernel_rfl) (by kernel_rfl) (by kernel_rfl) (fun _ _ _ h => h) (by rfl) ?hy6 ?_
                case hy6 => intro w' hw'; go_simp; (try with_reducible rfl)
                simp only [Act.put, List.setIfInBounds_toArray, List.set_cons_zero, List.set_cons_succ]
                refine reg_take (i := 7) (v := ?_) rfl (by kernel_rfl) (by kernel_rfl) (by kernel_rfl) (fun _ _ _ h => h) (by rfl) ?hy7 ?_
                case hy7 => intro w' hw'; go_simp; (try with_reducible rfl)
                simp only [Act.put, List.setIfInBounds_toArray, List.set_cons_zero, List.set_cons_succ]
                refine reg_take (i := 8) (v := .int .i64 x.role) rfl (by kernel_rfl) (by kernel_rfl) (by kernel_rfl) (fun _ _ _ h => h) (by rfl) ?hy8 ?_
                case hy8 => intro w' hw'; have c := HX.out w' (B3.out.trans (hw'.mono B3.out.size)) 8 _ rfl; go_simp; (try with_reducible rfl)
                simp only [Act.put, List.setIfInBounds_toArray, List.set_cons_zero, List.set_cons_succ]
                refine reg_take (i := 9) (v := ?_) rfl (by kernel_rfl) (by kernel_rfl) (by kernel_rfl) (fun _ _ _ h => h) (by rfl) ?hy9 ?_
                case hy9 => intro w' hw'; go_simp; (try with_reducible rfl)
                simp only [Act.put, List.setIfInBounds_toArray, List.set_cons_zero, List.set_cons_succ]
                refine reg_take (i := 10) (v := ?_) rfl (by kernel_rfl) (by kernel_rfl) (by kernel_rfl) (fun _ _ _ h => h) (by rfl) ?hy10 ?_
                case hy10 => intro w' hw'; go_simp; (try with_reducible rfl)
                simp only [Act.put, List.setIfInBounds_toArray, List.set_cons_zero, List.set_cons_succ]
                refine reg_take (i := 11) (v := ?_) rfl (by kernel_rfl) (by kernel_rfl) (by kernel_rfl) (fun _ _ _ h => h) (by rfl) ?hy11 ?_
                case hy11 => intro w' hw'; go_simp; (try with_reducible rfl)
                simp only [Act.put, List.setIfInBounds_toArray, List.set_cons_zero, List.set_cons_succ]
                refine reg_take (i := 12) (v := ?_) rfl (by kernel_rfl) (by kernel_rfl) (by kernel_rfl) (fun _ _ _ h => h) (by rfl) ?hy12 ?_
                case hy12 => intro w' hw'; go_simp; (try with_reducible rfl)
                simp only [Act.put, List.setIfInBounds_toArray, List.set_cons_zero, List.set_cons_succ]
                refine reg_take (i := 13) (v := ?_) rfl (by kernel_rfl) (by kernel_rfl) (by kernel_rfl) (fun _ _ _ h => h) (by rfl) ?hy13 ?_
                case hy13 => intro w' hw'; go_simp; (try with_reducible rfl)
                simp only [Act.put, List.setIfInBounds_toArray, List.set_cons_zero, List.set_cons_succ]
                refine reg_take (i := 14) (v := ?_) rfl (by kernel_rfl) (by kernel_rfl) (by kernel_rfl) (fun _ _ _ h => h) (by rfl) ?hy14 ?_
                case hy14 => intro w' hw'; go_simp; (try with_reducible rfl)
                simp only [Act.put, List.setIfInBounds_toArray, List.set_cons_zero, List.set_cons_succ]
                refine reg_take (i := 15) (v := ?_) rfl (by kernel_rfl) (by kernel_rfl) (by kernel_rfl) (fun _ _ _ h => h) (by rfl) ?hy15 ?_
                case hy15 => intro w' hw'; go_simp; (try with_reducible rfl)
                simp only [Act.put, List.setIfInBounds_toArray, List.set_cons_zero, List.set_cons_succ]
                refine reg_take (i := 16) (v := .int .u64 (x.nonce : Int)) rfl (by kernel_rfl) (by kernel_rfl) (by kernel_rfl) (fun _ _ _ h => h) (by rfl) ?hy16 ?_
                case hy16 => intro w' hw'; have c := HX.out w' (B3.out.trans (hw'.mono B3.out.size)) 1 _ rfl; go_simp; (try with_reducible rfl)
                simp only [Act.put, List.setIfInBounds_toArray, List.set_cons_zero, List.set_cons_succ]
                refine reg_take (i := 17) (v := ?_) rfl (by kernel_rfl) (by kernel_rfl) (by kernel_rfl) (fun _ _ _ h => h) (by rfl) ?hy17 ?_
                case hy17 => intro w' hw'; go_simp; (try with_reducible rfl)
                simp only [Act.put, List.setIfInBounds_toArray, List.set_cons_zero, List.set_cons_succ]
                refine reg_take (i := 18) (v := (.int .u64 ((s).nonce : Int))) rfl (by kernel_rfl) (by kernel_rfl) (by kernel_rfl) (fun _ _ _ h => h) (by rfl) ?hy18 ?_
                case hy18 => intro w' hw'; have c := Ses.At.at_nonce (Whole.below S3.out hw' S3.out.lt); go_simp; (try with_reducible rfl)
                simp only [Act.put, List.setIfInBounds_toArray, List.set_cons_zero, List.set_cons_succ]
                refine reg_take (i := 19) (v := ?_) rfl (by kernel_rfl) (by kernel_rfl) (by kernel_rfl) (fun _ _ _ h => h) (by rfl) ?hy19 ?_
                case hy19 => intro w' hw'; go_simp; (try with_reducible rfl)
                simp only [Act.put, List.setIfInBounds_toArray, List.set_cons_zero, List.set_cons_succ]
                refine reg_take (i := 20) (v := ?_) rfl (by kernel_rfl) (by kernel_rfl) (by kernel_rfl) (fun _ _ _ h => h) (by rfl) ?hy20 ?_
                case hy20 => intro w' hw'; go_simp; (try with_reducible rfl)
                simp only [Act.put, List.setIfInBounds_toArray, List.set_cons_zero, List.set_cons_succ]
                refine reg_take (i := 21) (v := ?_) rfl (by kernel_rfl) (by kernel_rfl) (by kernel_rfl) (fun _ _ _ h => h) (by rfl) ?hy21 ?_
                case hy21 => intro w' hw'; go_simp; (try with_reducible rfl)
                simp only [Act.put, List.setIfInBounds_toArray, List.set_cons_zero, List.set_cons_succ]
                refine reg_take (i := 22) (v := ?_) rfl (by kernel_rfl) (by kernel_rfl) (by kernel_rfl) (fun _ _ _ h => h) (by rfl) ?hy22 ?_
                case hy22 => intro w' hw'; go_simp; (try with_reducible rfl)
                simp only [Act.put, List.setIfInBounds_toArray, List.set_cons_zero, List.set_cons_succ]
                refine reg_take (i := 23) (v := ?_) rfl (by kernel_rfl) (by kernel_rfl) (by kernel_rfl) (fun _ _ _ h => h) (by rfl) ?hy23 ?_
                case hy23 => intro w' hw'; go_simp; (try with_reducible rfl)
                simp only [Act.put, List.setIfInBounds_toArray, List.set_cons_zero, List.set_cons_succ]
                refine reg_take (i := 24) (v := ?_) rfl (by kernel_rfl) (by kernel_rfl) (by kernel_rfl) (fun _ _ _ h => h) (by rfl) ?hy24 ?_
                case hy24 => intro w' hw'; go_simp; (try with_reducible rfl)
                simp only [Act.put, List.setIfInBounds_toArray, List.set_cons_zero, List.set_cons_succ]
                refine reg_take (i := 25) (v := ?_) rfl (by kernel_rfl) (by kernel_rfl) (by kernel_rfl) (fun _ _ _ h => h) (by rfl) ?hy25 ?_
                case hy25 => intro w' hw'; go_simp; (try with_reducible rfl)
                simp only [Act.put, List.setIfInBounds_toArray, List.set_cons_zero, List.set_cons_succ]
                refine reg_take (i := 26) (v := x.peer.val) rfl (by kernel_rfl) (by kernel_rfl) (by kernel_rfl) (fun _ _ _ h => h) (by rfl) ?hy26 ?_
                case hy26 => intro w' hw'; exact exec_load_rec Ent.isRec _ rfl b (off + k * 20 + 2) rfl _ (Ent.len _) w' (HP.out w' (B3.out.trans (hw'.mono B3.out.size)))
                simp only [Act.put, List.setIfInBounds_toArray, List.set_cons_zero, List.set_cons_succ]
                refine reg_take (i := 27) (v := ?_) rfl (by kernel_rfl) (by kernel_rfl) (by kernel_rfl) (fun _ _ _ h => h) (by rfl) ?hy27 ?_
                case hy27 => intro w' hw'; go_simp; (try with_reducible rfl)
                simp only [Act.put, List.setIfInBounds_toArray, List.set_cons_zero, List.set_cons_succ]
                refine reg_take (i := 28) (v := Ent.val (s).peer) rfl (by kernel_rfl) (by kernel_rfl) (by kernel_rfl) (fun _ _ _ h => h) (by rfl) ?hy28 ?_
                case hy28 => intro w' hw'; exact exec_load_rec Ent.isRec _ rfl gS 2 rfl _ (Ent.len _) w' (Ses.At.part_peer (Whole.below S3.out hw' S3.out.lt))
                simp only [Act.put, List.setIfInBounds_toArray, List.set_cons_zero, List.set_cons_succ]
                refine reg_call (i := 29) rfl (by kernel_rfl) (fun K' hK => ?_)
                go_simp
                refine (CW.out w3).mono ?_
                rintro e4 w4 ⟨rfl, b4⟩
                have S4 : Hid (Ses.At w4 gS s) := Lib.hid (Whole.below S3.out b4 S3.out.lt)
                have B4 := Lib.hid (B3.out.trans (b4.mono B3.out.size))
                refine hK.out _ _ b4 ?_
                clear hK K' b4 S3 B3
                refine reg_take (i := 30) (v := ?_) rfl (by kernel_rfl) (by kernel_rfl) (by kernel_rfl) (fun _ _ _ h => h) (by rfl) ?hy30 ?_
                case hy30 => intro w' hw'; go_simp; (try with_reducible rfl)
                simp only [Act.put, List.setIfInBounds_toArray, List.set_cons_zero, List.set_cons_succ]
                refine reg_end (by kernel_rfl) ?_
                cases v3 with
                | false =>
                  have HW := Lib.hid (HV.out.trans rfl : (true && (l.take (k + 1)).any (halfP s)) = false)
                  go_wp2
                  exact ⟨⟨k + 1, by omega, by go_num, HW.out, S4.out, B4.out⟩, by simp [intOf]; omega⟩
                | true =>
                  have HW := Lib.hid (HT.out (by simp) (by simp) (by simp) (by simp))
                  go_wp2
                  go_ret
                  exact ⟨by rw [HW.out]; rfl, B4.out⟩
        · obtain rfl : k = m := by omega
          have dk : decide ((k : Int) < (k : Int)) = false := by simp
          have HW : Hid (r3 = false) := Lib.hid (by have t := HK.out; rw [HL.out, List.take_length] at t; rw [HR.out]; exact t)
          go_wp2
          go_ret
          exact ⟨by rw [HW.out]; rfl, B0.out⟩

set_option maxRecDepth 100000 in
set_option maxHeartbeats 4000000 in
theorem refAdd_any (A : Option Addr) (m cap : Nat) (l : List Ses) (C : Option Addr) (bn bc : Nat) (busy : List Nat) (s : Ses) (w : World) (hl : l.length ≤ 10000) (hbn : bn ≤ 1000000) (h : RowsAt w (.slice A m cap) 20 (l.map Ses.enc)) (hu : UsAt w (.slice C bn bc) busy) :
    Calls Try.prog 20 #[.slice A m cap, .slice C bn bc, s.val] w fun e w' => ∃ v, e = .returned (.tuple #[v, .int .i64 (addS l busy s).2]) ∧ RowsAt w' v 20 ((addS l busy s).1.map Ses.enc) ∧ Below w.heap.size w w' := by
  have hm : m = l.length := by have := h.size.1; simpa using this
  subst hm
  have HL := Lib.hid hl
  have H := Lib.hid h
  have HU := Lib.hid hu
  have CA := Lib.hid (fun w h => refAgain_any A l.length cap l s w (by omega) h)
  have CD := Lib.hid (fun i base w hb h => as_slice (refDrop_any A l.length cap l i base w hb (by omega) h))
  have CI := Lib.hid (fun n w h => quiet_below (refIn_any C bn bc busy n w hbn h))
  have HX : Hid (addS l busy s = if againS l s then (l, 26) else if l.length < 24 then (l ++ [s], 0) else if oldR (freeP busy) l < 0 then (l, 27) else (dropS l (oldR (freeP busy) l) ++ [s], 0)) := Lib.hid rfl
  have HI := Lib.hid (oldR_is (freeP busy) l)
  obtain ⟨X, hX⟩ : ∃ X, X = addS l busy s := ⟨_, rfl⟩
  obtain ⟨r, hr⟩ : ∃ r, r = againS l s := ⟨_, rfl⟩
  obtain ⟨j, hj⟩ : ∃ j, j = oldR (freeP busy) l := ⟨_, rfl⟩
  simp only [← hX, ← hr, ← hj] at HX CA HI ⊢
  clear hX hr hj hl hbn
  go_enter Try.func20, Try.ntmps20
  have L0 : Hid (RowsAt w (.slice A l.length cap) 20 (l.map Ses.enc)) := Lib.hid (h)
  clear h hu
  go_wp2_with (refine wpList_box_row rfl 36 _ rfl s.enc.toArray (by with_unfolding_all exact rfl) ?_)
  intro w1 b1 x1 z1
  obtain ⟨gS, hgS⟩ : ∃ g, g = w.heap.size := ⟨_, rfl⟩
  have M_S := Lib.hid (show w.heap.size ≤ gS from by rw [hgS]; exact Nat.le_refl _)
  have L1 : Hid (RowsAt w1 (.slice A l.length cap) 20 (l.map Ses.enc)) := Lib.hid (L0.out.below b1)
  have B1 := Lib.hid b1
  rw [← hgS] at x1 ⊢
  have S1 : Hid (Ses.At w1 gS s) := Lib.hid x1
  clear b1 x1 z1 hgS L0
  go_wp2_with (first | (with_reducible refine wpList_load_whole Ses.isRec rfl _ rfl gS (by with_unfolding_all exact rfl) _ _ (Ses.len _) S1.out ?_) | (with_reducible refine wpList_load_rec Ent.isRec rfl _ rfl gS 2 (by with_unfolding_all exact rfl) _ (Ent.len _) (Ses.At.part_peer S1.out) ?_) | (with_reducible refine wpList_load_rec Win.isRec rfl _ rfl gS 16 (by with_unfolding_all exact rfl) _ (Win.len _) (Ses.At.part_seen S1.out) ?_))
  refine (CA.out w1 L1.out).mono ?_
  rintro e2 w2 ⟨rfl, b2⟩
  have L2 : Hid (RowsAt w2 (.slice A l.length cap) 20 (l.map Ses.enc)) := Lib.hid (L1.out.below b2)
  have S2 : Hid (Ses.At w2 gS s) := Lib.hid (Whole.below S1.out b2 S1.out.lt)
  have B2 := Lib.hid (B1.out.trans (b2.mono B1.out.size))
  clear b2 L1 S1 B1
  cases r with
  | true =>
    have HF : Hid (X = (l, 26)) := Lib.hid (by rw [HX.out]; rfl)
    go_wp2
    go_ret2
    exact ⟨_, by rw [HF.out]; rfl, by rw [HF.out]; exact L2.out, B2.out⟩
  | false =>
    by_cases h24 : l.length < 24
    · have HF : Hid (X = (l ++ [s], 0)) := Lib.hid (by rw [HX.out, if_neg (by simp), if_pos h24])
      have d : decide ((l.length : Int) < 24) = true := by simp; omega
      clear h24 HX
      go_wp2_with (first | (with_reducible refine wpList_load_whole Ses.isRec rfl _ rfl gS (by with_unfolding_all exact rfl) _ _ (Ses.len _) S2.out ?_) | (with_reducible refine wpList_load_rec Ent.isRec rfl _ rfl gS 2 (by with_unfolding_all exact rfl) _ (Ent.len _) (Ses.At.part_peer S2.out) ?_) | (with_reducible refine wpList_load_rec Win.isRec rfl _ rfl gS 16 (by with_unfolding_all exact rfl) _ (Win.len _) (Ses.At.part_seen S2.out) ?_))
      have BK3 := B2
      refine regS_begin (From w2) (by kernel_rfl) (Below.refl _ _).drew ?_
      have b3 : Below w2.heap.size w2 w2.drew := (Below.refl _ _).drew
      generalize w2.drew = w3 at b3 ⊢
      have L3 : Hid (RowsAt w3 (.slice A l.length cap) 20 (l.map Ses.enc)) := Lib.hid (L2.out.below b3)
      have S3 : Hid (Ses.At w3 gS s) := Lib.hid (Whole.below S2.out b3 S2.out.lt)
      have B3 := Lib.hid (B2.out.trans (b3.mono B2.out.size))
      have HS3 : Hid (From w2 w3) := Lib.hid b3
      clear b3
      refine regS_take (i := 1) (v := ?_) rfl (by kernel_rfl) (by kernel_rfl) (by kernel_rfl) (fun _ _ _ h => h) (by rfl) HS3.out ?hy1 ?_
      case hy1 => intro w' hw'; go_simp; (try with_reducible rfl)
      simp only [Act.put, List.setIfInBounds_toArray, List.set_cons_zero, List.set_cons_succ]
      refine regS_take (i := 3) (v := Ses.val (s)) rfl (by kernel_rfl) (by kernel_rfl) (by kernel_rfl) (fun _ _ _ h => h) (by rfl) HS3.out ?hy3 ?_
      case hy3 => intro w' hw'; exact exec_load_whole Ses.isRec _ rfl gS rfl _ _ (Ses.len _) w' (Whole.below S2.out hw' S2.out.lt)
      simp only [Act.put, List.setIfInBounds_toArray, List.set_cons_zero, List.set_cons_succ]
      refine regS_two (i := 0) (j := 4) rfl rfl (by kernel_rfl) (fun K' hK => ?_) (fun K' hK => ?_)
      · refine wp_build_0 (base := w2.heap.size) rfl HS3.out.size ?_
        intro w4 b4 x4
        obtain ⟨gE, hgE⟩ : ∃ g, g = w3.heap.size := ⟨_, rfl⟩
        have L4 : Hid (RowsAt w4 (.slice A l.length cap) 20 (l.map Ses.enc)) := Lib.hid (L3.out.below b4)
        have S4 : Hid (Ses.At w4 gS s) := Lib.hid (Whole.below S3.out b4 S3.out.lt)
        have B4 := Lib.hid (B3.out.trans (b4.mono B3.out.size))
        have HS4 : Hid (From w2 w4) := Lib.hid (HS3.out.trans (b4.mono HS3.out.size))
        clear b4
        rw [← hgE] at x4 ⊢
        have E4 : Hid (LitAt w4 w2.heap.size gE) := Lib.hid x4
        clear x4 hgE
        refine hK.out _ _ HS4.out ?_
        clear hK K' L3 S3 B3 HS3
        refine regS_two (i := 2) (j := 4) rfl rfl (by kernel_rfl) (fun K' hK => ?_) (fun K' hK => ?_)
        · refine wp_append_lit _ _ rfl gE (by with_unfolding_all exact rfl) E4.out _ l (by with_unfolding_all exact rfl) L4.out (by have := HL.out; omega) HS4.out.size ?_
          intro v19 w5 b5 x5
          have L5 : Hid (RowsAt w5 (.slice A l.length cap) 20 (l.map Ses.enc)) := Lib.hid (L4.out.below b5)
          have S5 : Hid (Ses.At w5 gS s) := Lib.hid (Whole.below S4.out b5 S4.out.lt)
          have E5 : Hid (LitAt w5 w2.heap.size gE) := Lib.hid (E4.out.below b5)
          have B5 := Lib.hid (B4.out.trans (b5.mono B4.out.size))
          have HS5 : Hid (From w2 w5) := Lib.hid (HS4.out.trans (b5.mono HS4.out.size))
          clear b5
          have O5 : Hid (OwnRows w5 w2.heap.size 36 20 v19 (l.map Ses.enc)) := Lib.hid x5
          clear x5
          refine hK.out _ _ HS5.out ?_
          clear hK K' L4 S4 E4 B4 HS4
          refine regS_do (i := 4) rfl (by kernel_rfl) (fun K' hK => ?_)
          refine wp_one_ses _ rfl s (by with_unfolding_all exact rfl) ?_
          intro w6 b6 x6
          obtain ⟨gY, hgY⟩ : ∃ g, g = w5.heap.size := ⟨_, rfl⟩
          have L6 : Hid (RowsAt w6 (.slice A l.length cap) 20 (l.map Ses.enc)) := Lib.hid (L5.out.below b6)
          have S6 : Hid (Ses.At w6 gS s) := Lib.hid (Whole.below S5.out b6 S5.out.lt)
          have E6 : Hid (LitAt w6 w2.heap.size gE) := Lib.hid (E5.out.below b6)
          have O6 : Hid (OwnRows w6 w2.heap.size 36 20 v19 (l.map Ses.enc)) := Lib.hid (O5.out.below b6 rfl)
          have B6 := Lib.hid (B5.out.trans (b6.mono B5.out.size))
          have HS6 : Hid (From w2 w6) := Lib.hid (HS5.out.trans (b6.mono HS5.out.size))
          clear b6
          rw [← hgY] at x6 ⊢
          have Y6 : Hid (RowsAt w6 (.slice (some ⟨gY, 0, none⟩) 1 1) 20 ([s].map Ses.enc)) := Lib.hid x6
          clear x6 hgY
          refine hK.out _ _ HS6.out ?_
          clear hK K' L5 S5 E5 O5 B5 HS5
          refine regS_do (i := 5) rfl (by kernel_rfl) (fun K' hK => ?_)
          refine wp_append_last _ _ rfl _ l (by with_unfolding_all exact rfl) O6.out _ [s] (by with_unfolding_all exact rfl) Y6.out (by have := HL.out; simp; omega) HS6.out.size ?_
          intro v22 w7 b7 x7
          have B7 := Lib.hid (B6.out.trans (b7.mono BK3.out.size))
          have HS7 : Hid (From w2 w7) := Lib.hid (HS6.out.trans b7)
          have V7 : Hid (OwnRows w7 w2.heap.size 36 20 v22 ((l ++ [s]).map Ses.enc)) := Lib.hid x7
          clear x7 b7
          refine hK.out _ _ HS7.out ?_
          clear hK K' L6 S6 HS6 E6 O6 Y6 B6
          refine regS_take (i := 6) (v := ?_) rfl (by kernel_rfl) (by kernel_rfl) (by kernel_rfl) (fun _ _ _ h => h) (by rfl) HS7.out ?hy6 ?_
          case hy6 => intro w' hw'; go_simp; (try with_reducible rfl)
          simp only [Act.put, List.setIfInBounds_toArray, List.set_cons_zero, List.set_cons_succ]
          refine regS_take (i := 7) (v := ?_) rfl (by kernel_rfl) (by kernel_rfl) (by kernel_rfl) (fun _ _ _ h => h) (by rfl) HS7.out ?hy7 ?_
          case hy7 => intro w' hw'; go_simp; (try with_reducible rfl)
          simp only [Act.put, List.setIfInBounds_toArray, List.set_cons_zero, List.set_cons_succ]
          refine regS_end (by kernel_rfl) ?_
          clear HS7 L2 S2
          go_wp2
          go_ret2
          exact ⟨_, by rw [HF.out]; rfl, by rw [HF.out]; exact V7.out.rows, B7.out⟩
        · refine wp_one_ses _ rfl s (by with_unfolding_all exact rfl) ?_
          intro w5 b5 x5
          obtain ⟨gY, hgY⟩ : ∃ g, g = w4.heap.size := ⟨_, rfl⟩
          have L5 : Hid (RowsAt w5 (.slice A l.length cap) 20 (l.map Ses.enc)) := Lib.hid (L4.out.below b5)
          have S5 : Hid (Ses.At w5 gS s) := Lib.hid (Whole.below S4.out b5 S4.out.lt)
          have E5 : Hid (LitAt w5 w2.heap.size gE) := Lib.hid (E4.out.below b5)
          have B5 := Lib.hid (B4.out.trans (b5.mono B4.out.size))
          have HS5 : Hid (From w2 w5) := Lib.hid (HS4.out.trans (b5.mono HS4.out.size))
          clear b5
          rw [← hgY] at x5 ⊢
          have Y5 : Hid (RowsAt w5 (.slice (some ⟨gY, 0, none⟩) 1 1) 20 ([s].map Ses.enc)) := Lib.hid x5
          clear x5 hgY
          refine hK.out _ _ HS5.out ?_
          clear hK K' L4 S4 E4 B4 HS4
          refine regS_do (i := 2) rfl (by kernel_rfl) (fun K' hK => ?_)
          refine wp_append_lit _ _ rfl gE (by with_unfolding_all exact rfl) E5.out _ l (by with_unfolding_all exact rfl) L5.out (by have := HL.out; omega) HS5.out.size ?_
          intro v19 w6 b6 x6
          have L6 : Hid (RowsAt w6 (.slice A l.length cap) 20 (l.map Ses.enc)) := Lib.hid (L5.out.below b6)
          have S6 : Hid (Ses.At w6 gS s) := Lib.hid (Whole.below S5.out b6 S5.out.lt)
          have E6 : Hid (LitAt w6 w2.heap.size gE) := Lib.hid (E5.out.below b6)
          have Y6 : Hid (RowsAt w6 (.slice (some ⟨gY, 0, none⟩) 1 1) 20 ([s].map Ses.enc)) := Lib.hid (Y5.out.below b6)
          have B6 := Lib.hid (B5.out.trans (b6.mono B5.out.size))
          have HS6 : Hid (From w2 w6) := Lib.hid (HS5.out.trans (b6.mono HS5.out.size))
          clear b6
          have O6 : Hid (OwnRows w6 w2.heap.size 36 20 v19 (l.map Ses.enc)) := Lib.hid x6
          clear x6
          refine hK.out _ _ HS6.out ?_
          clear hK K' L5 S5 E5 Y5 B5 HS5
          refine regS_do (i := 5) rfl (by kernel_rfl) (fun K' hK => ?_)
          refine wp_append_last _ _ rfl _ l (by with_unfolding_all exact rfl) O6.out _ [s] (by with_unfolding_all exact rfl) Y6.out (by have := HL.out; simp; omega) HS6.out.size ?_
          intro v22 w7 b7 x7
          have B7 := Lib.hid (B6.out.trans (b7.mono BK3.out.size))
          have HS7 : Hid (From w2 w7) := Lib.hid (HS6.out.trans b7)
          have V7 : Hid (OwnRows w7 w2.heap.size 36 20 v22 ((l ++ [s]).map Ses.enc)) := Lib.hid x7
          clear x7 b7
          refine hK.out _ _ HS7.out ?_
          clear hK K' L6 S6 HS6 E6 Y6 O6 B6
          refine regS_take (i := 6) (v := ?_) rfl (by kernel_rfl) (by kernel_rfl) (by kernel_rfl) (fun _ _ _ h => h) (by rfl) HS7.out ?hy6 ?_
          case hy6 => intro w' hw'; go_simp; (try with_reducible rfl)
          simp only [Act.put, List.setIfInBounds_toArray, List.set_cons_zero, List.set_cons_succ]
          refine regS_take (i := 7) (v := ?_) rfl (by kernel_rfl) (by kernel_rfl) (by kernel_rfl) (fun _ _ _ h => h) (by rfl) HS7.out ?hy7 ?_
          case hy7 => intro w' hw'; go_simp; (try with_reducible rfl)
          simp only [Act.put, List.setIfInBounds_toArray, List.set_cons_zero, List.set_cons_succ]
          refine regS_end (by kernel_rfl) ?_
          clear HS7 L2 S2
          go_wp2
          go_ret2
          exact ⟨_, by rw [HF.out]; rfl, by rw [HF.out]; exact V7.out.rows, B7.out⟩
      · refine wp_one_ses _ rfl s (by with_unfolding_all exact rfl) ?_
        intro w4 b4 x4
        obtain ⟨gY, hgY⟩ : ∃ g, g = w3.heap.size := ⟨_, rfl⟩
        have L4 : Hid (RowsAt w4 (.slice A l.length cap) 20 (l.map Ses.enc)) := Lib.hid (L3.out.below b4)
        have S4 : Hid (Ses.At w4 gS s) := Lib.hid (Whole.below S3.out b4 S3.out.lt)
        have B4 := Lib.hid (B3.out.trans (b4.mono B3.out.size))
        have HS4 : Hid (From w2 w4) := Lib.hid (HS3.out.trans (b4.mono HS3.out.size))
        clear b4
        rw [← hgY] at x4 ⊢
        have Y4 : Hid (RowsAt w4 (.slice (some ⟨gY, 0, none⟩) 1 1) 20 ([s].map Ses.enc)) := Lib.hid x4
        clear x4 hgY
        refine hK.out _ _ HS4.out ?_
        clear hK K' L3 S3 B3 HS3
        refine regS_do (i := 0) rfl (by kernel_rfl) (fun K' hK => ?_)
        refine wp_build_0 (base := w2.heap.size) rfl HS4.out.size ?_
        intro w5 b5 x5
        obtain ⟨gE, hgE⟩ : ∃ g, g = w4.heap.size := ⟨_, rfl⟩
        have L5 : Hid (RowsAt w5 (.slice A l.length cap) 20 (l.map Ses.enc)) := Lib.hid (L4.out.below b5)
        have S5 : Hid (Ses.At w5 gS s) := Lib.hid (Whole.below S4.out b5 S4.out.lt)
        have Y5 : Hid (RowsAt w5 (.slice (some ⟨gY, 0, none⟩) 1 1) 20 ([s].map Ses.enc)) := Lib.hid (Y4.out.below b5)
        have B5 := Lib.hid (B4.out.trans (b5.mono B4.out.size))
        have HS5 : Hid (From w2 w5) := Lib.hid (HS4.out.trans (b5.mono HS4.out.size))
        clear b5
        rw [← hgE] at x5 ⊢
        have E5 : Hid (LitAt w5 w2.heap.size gE) := Lib.hid x5
        clear x5 hgE
        refine hK.out _ _ HS5.out ?_
        clear hK K' L4 S4 Y4 B4 HS4
        refine regS_do (i := 2) rfl (by kernel_rfl) (fun K' hK => ?_)
        refine wp_append_lit _ _ rfl gE (by with_unfolding_all exact rfl) E5.out _ l (by with_unfolding_all exact rfl) L5.out (by have := HL.out; omega) HS5.out.size ?_
        intro v19 w6 b6 x6
        have L6 : Hid (RowsAt w6 (.slice A l.length cap) 20 (l.map Ses.enc)) := Lib.hid (L5.out.below b6)
        have S6 : Hid (Ses.At w6 gS s) := Lib.hid (Whole.below S5.out b6 S5.out.lt)
        have Y6 : Hid (RowsAt w6 (.slice (some ⟨gY, 0, none⟩) 1 1) 20 ([s].map Ses.enc)) := Lib.hid (Y5.out.below b6)
        have E6 : Hid (LitAt w6 w2.heap.size gE) := Lib.hid (E5.out.below b6)
        have B6 := Lib.hid (B5.out.trans (b6.mono B5.out.size))
        have HS6 : Hid (From w2 w6) := Lib.hid (HS5.out.trans (b6.mono HS5.out.size))
        clear b6
        have O6 : Hid (OwnRows w6 w2.heap.size 36 20 v19 (l.map Ses.enc)) := Lib.hid x6
        clear x6
        refine hK.out _ _ HS6.out ?_
        clear hK K' L5 S5 Y5 E5 B5 HS5
        refine regS_do (i := 5) rfl (by kernel_rfl) (fun K' hK => ?_)
        refine wp_append_last _ _ rfl _ l (by with_unfolding_all exact rfl) O6.out _ [s] (by with_unfolding_all exact rfl) Y6.out (by have := HL.out; simp; omega) HS6.out.size ?_
        intro v22 w7 b7 x7
        have B7 := Lib.hid (B6.out.trans (b7.mono BK3.out.size))
        have HS7 : Hid (From w2 w7) := Lib.hid (HS6.out.trans b7)
        have V7 : Hid (OwnRows w7 w2.heap.size 36 20 v22 ((l ++ [s]).map Ses.enc)) := Lib.hid x7
        clear x7 b7
        refine hK.out _ _ HS7.out ?_
        clear hK K' L6 S6 HS6 Y6 E6 O6 B6
        refine regS_take (i := 6) (v := ?_) rfl (by kernel_rfl) (by kernel_rfl) (by kernel_rfl) (fun _ _ _ h => h) (by rfl) HS7.out ?hy6 ?_
        case hy6 => intro w' hw'; go_simp; (try with_reducible rfl)
        simp only [Act.put, List.setIfInBounds_toArray, List.set_cons_zero, List.set_cons_succ]
        refine regS_take (i := 7) (v := ?_) rfl (by kernel_rfl) (by kernel_rfl) (by kernel_rfl) (fun _ _ _ h => h) (by rfl) HS7.out ?hy7 ?_
        case hy7 => intro w' hw'; go_simp; (try with_reducible rfl)
        simp only [Act.put, List.setIfInBounds_toArray, List.set_cons_zero, List.set_cons_succ]
        refine regS_end (by kernel_rfl) ?_
        clear HS7 L2 S2
        go_wp2
        go_ret2
        exact ⟨_, by rw [HF.out]; rfl, by rw [HF.out]; exact V7.out.rows, B7.out⟩
    · have HY : Hid (X = if j < 0 then (l, 27) else (dropS l j ++ [s], 0)) := Lib.hid (by rw [HX.out, if_neg (by simp), if_neg h24])
      have d : decide ((l.length : Int) < 24) = false := by simp; omega
      have r0 : IntKind.i64.wrap ((l.length : Int) - 1) = (l.length : Int) - 1 := by have := HL.out; exact IntWalk.i64_in _ (by omega)
      clear h24 HX
      go_wp2_with fail
      go_loopw [8, 9] (fun f i wr => ∃ (k : Nat) (z : Int), k ≤ l.length ∧ i = .int .i64 ((k : Int) - 1) ∧ f = .int .i64 z ∧ IsOld (freeP busy) l k l.length z ∧ Ses.At wr gS s ∧ Below w.heap.size w wr) (fun _ i _ => (intOf i + 1).toNat)
      case atStart => exact ⟨l.length, -1, Nat.le_refl _, rfl, rfl, .inl ⟨rfl, fun j s h1 h2 => by omega⟩, S2.out, B2.out⟩
      case round =>
        obtain ⟨k, z, hk, hi, rfl, hr, hs, hb⟩ := hrel
        have HO := Lib.hid hr
        have S0 := Lib.hid hs
        have B0 := Lib.hid hb
        clear hr hs hb r0 L2 S2 B2 CA
        cases k with
        | zero =>
          have hi0 : u9 = .int .i64 (-1) := hi
          subst hi0
          obtain rfl : z = j := IsOld.one HO.out HI.out
          by_cases hz : z < 0
          · have HF : Hid (X = (l, 27)) := Lib.hid (by rw [HY.out, if_pos hz])
            have dz : decide (z < 0) = true := by simpa using hz
            clear hz HY
            go_wp2
            go_ret2
            exact ⟨_, by rw [HF.out]; rfl, by rw [HF.out]; exact H.out.below B0.out, B0.out⟩
          · have HF : Hid (X = (dropS l z ++ [s], 0)) := Lib.hid (by rw [HY.out, if_neg hz])
            have dz : decide (z < 0) = false := by simpa using hz
            have HLD := Lib.hid (dropS_length l z)
            clear hz HY
            go_wp2_with (first | (with_reducible refine wpList_load_whole Ses.isRec rfl _ rfl gS (by with_unfolding_all exact rfl) _ _ (Ses.len _) S0.out ?_) | (with_reducible refine wpList_load_rec Ent.isRec rfl _ rfl gS 2 (by with_unfolding_all exact rfl) _ (Ent.len _) (Ses.At.part_peer S0.out) ?_) | (with_reducible refine wpList_load_rec Win.isRec rfl _ rfl gS 16 (by with_unfolding_all exact rfl) _ (Win.len _) (Ses.At.part_seen S0.out) ?_))
            have BK3 := B0
            refine regS_begin (From wr) (by kernel_rfl) (Below.refl _ _).drew ?_
            have b3 : Below wr.heap.size wr wr.drew := (Below.refl _ _).drew
            generalize wr.drew = w3 at b3 ⊢
            have S3 : Hid (Ses.At w3 gS s) := Lib.hid (Whole.below S0.out b3 S0.out.lt)
            have B3 := Lib.hid (B0.out.trans (b3.mono B0.out.size))
            have HS3 : Hid (From wr w3) := Lib.hid b3
            clear b3
            refine regS_take (i := 0) (v := ?_) rfl (by kernel_rfl) (by kernel_rfl) (by kernel_rfl) (fun _ _ _ h => h) (by rfl) HS3.out ?hy0 ?_
            case hy0 => intro w' hw'; go_simp; (try with_reducible rfl)
            simp only [Act.put, List.setIfInBounds_toArray, List.set_cons_zero, List.set_cons_succ]
            refine regS_take (i := 1) (v := ?_) rfl (by kernel_rfl) (by kernel_rfl) (by kernel_rfl) (fun _ _ _ h => h) (by rfl) HS3.out ?hy1 ?_
            case hy1 => intro w' hw'; go_simp; (try with_reducible rfl)
            simp only [Act.put, List.setIfInBounds_toArray, List.set_cons_zero, List.set_cons_succ]
            refine regS_take (i := 3) (v := Ses.val (s)) rfl (by kernel_rfl) (by kernel_rfl) (by kernel_rfl) (fun _ _ _ h => h) (by rfl) HS3.out ?hy3 ?_
            case hy3 => intro w' hw'; exact exec_load_whole Ses.isRec _ rfl gS rfl _ _ (Ses.len _) w' (Whole.below S0.out hw' S0.out.lt)
            simp only [Act.put, List.setIfInBounds_toArray, List.set_cons_zero, List.set_cons_succ]
            refine regS_two (i := 2) (j := 4) rfl rfl (by kernel_rfl) (fun K' hK => ?_) (fun K' hK => ?_)
            · go_simp
              refine (CD.out z wr.heap.size w3 HS3.out.size (H.out.below B3.out)).mono ?_
              rintro e4 w4 ⟨A', c', rfl, o69, b4⟩
              have S4 : Hid (Ses.At w4 gS s) := Lib.hid (Whole.below S3.out b4 S3.out.lt)
              have B4 := Lib.hid (B3.out.trans (b4.mono B3.out.size))
              have HS4 : Hid (From wr w4) := Lib.hid (HS3.out.trans (b4.mono HS3.out.size))
              clear b4
              have O4 : Hid (OwnRows w4 wr.heap.size 36 20 (.slice A' (dropS l z).length c') ((dropS l z).map Ses.enc)) := Lib.hid o69
              refine hK.out _ _ HS4.out ?_
              clear hK K' S3 B3 HS3 o69
              refine regS_do (i := 4) rfl (by kernel_rfl) (fun K' hK => ?_)
              refine wp_one_ses _ rfl s (by with_unfolding_all exact rfl) ?_
              intro w5 b5 x5
              obtain ⟨gY, hgY⟩ : ∃ g, g = w4.heap.size := ⟨_, rfl⟩
              have S5 : Hid (Ses.At w5 gS s) := Lib.hid (Whole.below S4.out b5 S4.out.lt)
              have O5 : Hid (OwnRows w5 wr.heap.size 36 20 (.slice A' (dropS l z).length c') ((dropS l z).map Ses.enc)) := Lib.hid (O4.out.below b5 rfl)
              have B5 := Lib.hid (B4.out.trans (b5.mono B4.out.size))
              have HS5 : Hid (From wr w5) := Lib.hid (HS4.out.trans (b5.mono HS4.out.size))
              clear b5
              rw [← hgY] at x5 ⊢
              have Y5 : Hid (RowsAt w5 (.slice (some ⟨gY, 0, none⟩) 1 1) 20 ([s].map Ses.enc)) := Lib.hid x5
              clear x5 hgY
              refine hK.out _ _ HS5.out ?_
              clear hK K' S4 O4 B4 HS4
              refine regS_do (i := 5) rfl (by kernel_rfl) (fun K' hK => ?_)
              refine wp_append_last _ _ rfl _ (dropS l z) (by with_unfolding_all exact rfl) O5.out _ [s] (by with_unfolding_all exact rfl) Y5.out (by have := HL.out; have := HLD.out; simp; omega) HS5.out.size ?_
              intro v72 w6 b6 x6
              have B6 := Lib.hid (B5.out.trans (b6.mono BK3.out.size))
              have HS6 : Hid (From wr w6) := Lib.hid (HS5.out.trans b6)
              have V6 : Hid (OwnRows w6 wr.heap.size 36 20 v72 ((dropS l z ++ [s]).map Ses.enc)) := Lib.hid x6
              clear x6 b6
              refine hK.out _ _ HS6.out ?_
              clear hK K' S5 HS5 O5 Y5 B5
              refine regS_take (i := 6) (v := ?_) rfl (by kernel_rfl) (by kernel_rfl) (by kernel_rfl) (fun _ _ _ h => h) (by rfl) HS6.out ?hy6 ?_
              case hy6 => intro w' hw'; go_simp; (try with_reducible rfl)
              simp only [Act.put, List.setIfInBounds_toArray, List.set_cons_zero, List.set_cons_succ]
              refine regS_take (i := 7) (v := ?_) rfl (by kernel_rfl) (by kernel_rfl) (by kernel_rfl) (fun _ _ _ h => h) (by rfl) HS6.out ?hy7 ?_
              case hy7 => intro w' hw'; go_simp; (try with_reducible rfl)
              simp only [Act.put, List.setIfInBounds_toArray, List.set_cons_zero, List.set_cons_succ]
              refine regS_end (by kernel_rfl) ?_
              clear HS6 S0
              go_wp2
              go_ret2
              exact ⟨_, by rw [HF.out]; rfl, by rw [HF.out]; exact V6.out.rows, B6.out⟩
            · refine wp_one_ses _ rfl s (by with_unfolding_all exact rfl) ?_
              intro w4 b4 x4
              obtain ⟨gY, hgY⟩ : ∃ g, g = w3.heap.size := ⟨_, rfl⟩
              have S4 : Hid (Ses.At w4 gS s) := Lib.hid (Whole.below S3.out b4 S3.out.lt)
              have B4 := Lib.hid (B3.out.trans (b4.mono B3.out.size))
              have HS4 : Hid (From wr w4) := Lib.hid (HS3.out.trans (b4.mono HS3.out.size))
              clear b4
              rw [← hgY] at x4 ⊢
              have Y4 : Hid (RowsAt w4 (.slice (some ⟨gY, 0, none⟩) 1 1) 20 ([s].map Ses.enc)) := Lib.hid x4
              clear x4 hgY
              refine hK.out _ _ HS4.out ?_
              clear hK K' S3 B3 HS3
              refine regS_do (i := 2) rfl (by kernel_rfl) (fun K' hK => ?_)
              go_simp
              refine (CD.out z wr.heap.size w4 HS4.out.size (H.out.below B4.out)).mono ?_
              rintro e5 w5 ⟨A', c', rfl, o69, b5⟩
              have S5 : Hid (Ses.At w5 gS s) := Lib.hid (Whole.below S4.out b5 S4.out.lt)
              have Y5 : Hid (RowsAt w5 (.slice (some ⟨gY, 0, none⟩) 1 1) 20 ([s].map Ses.enc)) := Lib.hid (Y4.out.below b5)
              have B5 := Lib.hid (B4.out.trans (b5.mono B4.out.size))
              have HS5 : Hid (From wr w5) := Lib.hid (HS4.out.trans (b5.mono HS4.out.size))
              clear b5
              have O5 : Hid (OwnRows w5 wr.heap.size 36 20 (.slice A' (dropS l z).length c') ((dropS l z).map Ses.enc)) := Lib.hid o69
              refine hK.out _ _ HS5.out ?_
              clear hK K' S4 Y4 B4 HS4 o69
              refine regS_do (i := 5) rfl (by kernel_rfl) (fun K' hK => ?_)
              refine wp_append_last _ _ rfl _ (dropS l z) (by with_unfolding_all exact rfl) O5.out _ [s] (by with_unfolding_all exact rfl) Y5.out (by have := HL.out; have := HLD.out; simp; omega) HS5.out.size ?_
              intro v72 w6 b6 x6
              have B6 := Lib.hid (B5.out.trans (b6.mono BK3.out.size))
              have HS6 : Hid (From wr w6) := Lib.hid (HS5.out.trans b6)
              have V6 : Hid (OwnRows w6 wr.heap.size 36 20 v72 ((dropS l z ++ [s]).map Ses.enc)) := Lib.hid x6
              clear x6 b6
              refine hK.out _ _ HS6.out ?_
              clear hK K' S5 HS5 Y5 O5 B5
              refine regS_take (i := 6) (v := ?_) rfl (by kernel_rfl) (by kernel_rfl) (by kernel_rfl) (fun _ _ _ h => h) (by rfl) HS6.out ?hy6 ?_
              case hy6 => intro w' hw'; go_simp; (try with_reducible rfl)
              simp only [Act.put, List.setIfInBounds_toArray, List.set_cons_zero, List.set_cons_succ]
              refine regS_take (i := 7) (v := ?_) rfl (by kernel_rfl) (by kernel_rfl) (by kernel_rfl) (fun _ _ _ h => h) (by rfl) HS6.out ?hy7 ?_
              case hy7 => intro w' hw'; go_simp; (try with_reducible rfl)
              simp only [Act.put, List.setIfInBounds_toArray, List.set_cons_zero, List.set_cons_succ]
              refine regS_end (by kernel_rfl) ?_
              clear HS6 S0
              go_wp2
              go_ret2
              exact ⟨_, by rw [HF.out]; rfl, by rw [HF.out]; exact V6.out.rows, B6.out⟩
        | succ k =>
          have hi0 : u9 = .int .i64 (k : Int) := by rw [hi]; congr 1; omega
          subst hi0
          have hlt : k < l.length := hk
          obtain ⟨x, hx⟩ : ∃ x, l[k]? = some x := ⟨_, List.getElem?_eq_getElem hlt⟩
          have jk : (k : Int) < (l.length : Int) := by omega
          have r4 : IntKind.i64.wrap ((k : Int) - 1) = (k : Int) - 1 := by have := HL.out; exact IntWalk.i64_in _ (by omega)
          have d0 : decide ((k : Int) ≥ 0) = true := by simp
          obtain ⟨b, off, rfl, hc, -⟩ := ses_cells H.out hx
          have HXC := Lib.hid hc
          have HXX := Lib.hid hx
          obtain ⟨v1, hv1⟩ : ∃ q, q = decide (x.state ≠ 1) := ⟨_, rfl⟩
          obtain ⟨v2, hv2⟩ : ∃ q, q = busy.contains x.id := ⟨_, rfl⟩
          have HP : Hid (freeP busy x = (v1 && !v2)) := Lib.hid (by rw [freeP, hv1, hv2])
          have e5 : (x.state != 1) = v1 := by rw [hv1, Bool.eq_iff_iff, bne_iff_ne, decide_eq_true_eq]
          have e5' : (x.state == 1) = !v1 := by rw [← e5]; show (x.state == 1) = !!(x.state == 1); rw [Bool.not_not]
          have CX := Lib.hid (fun w h => CI.out x.id w h)
          simp only [← hv2] at CX
          clear hi hc hx hv1 hv2
          cases v1 with
          | false =>
            have HV := Lib.hid (HO.out.left HXX.out (.inr ⟨.inl (by rw [HP.out]; rfl), rfl⟩) : IsOld (freeP busy) l k l.length z)
            go_wp2_with (first | (with_reducible refine wpList_load_whole Ses.isRec rfl _ rfl gS (by with_unfolding_all exact rfl) _ _ (Ses.len _) S0.out ?_) | (with_reducible refine wpList_load_rec Ent.isRec rfl _ rfl gS 2 (by with_unfolding_all exact rfl) _ (Ent.len _) (Ses.At.part_peer S0.out) ?_) | (with_reducible refine wpList_load_rec Win.isRec rfl _ rfl gS 16 (by with_unfolding_all exact rfl) _ (Win.len _) (Ses.At.part_seen S0.out) ?_))
            refine reg_begin (by kernel_rfl) fun w3 b3 z3 => ?_
            have S3 : Hid (Ses.At w3 gS s) := Lib.hid (Whole.below S0.out b3 S0.out.lt)
            have B3 := Lib.hid (B0.out.trans (b3.mono B0.out.size))
            clear b3 z3 S0 B0
            refine reg_take (i := 0) (v := ?_) rfl (by kernel_rfl) (by kernel_rfl) (by kernel_rfl) (fun _ _ _ h => h) (by rfl) ?hy0 ?_
            case hy0 => intro w' hw'; go_simp; (try with_reducible rfl)
            simp only [Act.put, List.setIfInBounds_toArray, List.set_cons_zero, List.set_cons_succ]
            refine reg_take (i := 1) (v := ?_) rfl (by kernel_rfl) (by kernel_rfl) (by kernel_rfl) (fun _ _ _ h => h) (by rfl) ?hy1 ?_
            case hy1 => intro w' hw'; go_simp; (try with_reducible rfl)
            simp only [Act.put, List.setIfInBounds_toArray, List.set_cons_zero, List.set_cons_succ]
            refine reg_take (i := 2) (v := ?_) rfl (by kernel_rfl) (by kernel_rfl) (by kernel_rfl) (fun _ _ _ h => h) (by rfl) ?hy2 ?_
            case hy2 => intro w' hw'; go_simp; (try with_reducible rfl)
            simp only [Act.put, List.setIfInBounds_toArray, List.set_cons_zero, List.set_cons_succ]
            refine reg_take (i := 3) (v := ?_) rfl (by kernel_rfl) (by kernel_rfl) (by kernel_rfl) (fun _ _ _ h => h) (by rfl) ?hy3 ?_
            case hy3 => intro w' hw'; go_simp; (try with_reducible rfl)
            simp only [Act.put, List.setIfInBounds_toArray, List.set_cons_zero, List.set_cons_succ]
            refine reg_take (i := 4) (v := .int .i64 x.state) rfl (by kernel_rfl) (by kernel_rfl) (by kernel_rfl) (fun _ _ _ h => h) (by rfl) ?hy4 ?_
            case hy4 => intro w' hw'; have c := HXC.out w' (B3.out.trans (hw'.mono B3.out.size)) 9 _ rfl; go_simp; (try with_reducible rfl)
            simp only [Act.put, List.setIfInBounds_toArray, List.set_cons_zero, List.set_cons_succ]
            refine reg_take (i := 5) (v := ?_) rfl (by kernel_rfl) (by kernel_rfl) (by kernel_rfl) (fun _ _ _ h => h) (by rfl) ?hy5 ?_
            case hy5 => intro w' hw'; go_simp; (try with_reducible rfl)
            simp only [Act.put, List.setIfInBounds_toArray, List.set_cons_zero, List.set_cons_succ]
            refine reg_take (i := 6) (v := ?_) rfl (by kernel_rfl) (by kernel_rfl) (by kernel_rfl) (fun _ _ _ h => h) (by rfl) ?hy6 ?_
            case hy6 => intro w' hw'; go_simp; (try with_reducible rfl)
            simp only [Act.put, List.setIfInBounds_toArray, List.set_cons_zero, List.set_cons_succ]
            refine reg_skip (i := 7) rfl (by kernel_rfl) (by kernel_rfl) (by kernel_rfl) (fun _ _ _ h => h) (by rfl) ?_
            simp only [Act.put, List.setIfInBounds_toArray, List.set_cons_zero, List.set_cons_succ]
            refine reg_skip (i := 8) rfl (by kernel_rfl) (by kernel_rfl) (by kernel_rfl) (fun _ _ _ h => h) (by rfl) ?_
            simp only [Act.put, List.setIfInBounds_toArray, List.set_cons_zero, List.set_cons_succ]
            refine reg_skip (i := 9) rfl (by kernel_rfl) (by kernel_rfl) (by kernel_rfl) (fun _ _ _ h => h) (by rfl) ?_
            simp only [Act.put, List.setIfInBounds_toArray, List.set_cons_zero, List.set_cons_succ]
            refine reg_skip (i := 10) rfl (by kernel_rfl) (by kernel_rfl) (by kernel_rfl) (fun _ _ _ h => h) (by rfl) ?_
            simp only [Act.put, List.setIfInBounds_toArray, List.set_cons_zero, List.set_cons_succ]
            refine reg_skip (i := 11) rfl (by kernel_rfl) (by kernel_rfl) (by kernel_rfl) (fun _ _ _ h => h) (by rfl) ?_
            simp only [Act.put, List.setIfInBounds_toArray, List.set_cons_zero, List.set_cons_succ]
            refine reg_skip (i := 12) rfl (by kernel_rfl) (by kernel_rfl) (by kernel_rfl) (fun _ _ _ h => h) (by rfl) ?_
            simp only [Act.put, List.setIfInBounds_toArray, List.set_cons_zero, List.set_cons_succ]
            refine reg_skip (i := 13) rfl (by kernel_rfl) (by kernel_rfl) (by kernel_rfl) (fun _ _ _ h => h) (by rfl) ?_
            simp only [Act.put, List.setIfInBounds_toArray, List.set_cons_zero, List.set_cons_succ]
            refine reg_skip (i := 14) rfl (by kernel_rfl) (by kernel_rfl) (by kernel_rfl) (fun _ _ _ h => h) (by rfl) ?_
            simp only [Act.put, List.setIfInBounds_toArray, List.set_cons_zero, List.set_cons_succ]
            refine reg_take (i := 15) (v := ?_) rfl (by kernel_rfl) (by kernel_rfl) (by kernel_rfl) (fun _ _ _ h => h) (by rfl) ?hy15 ?_
            case hy15 => intro w' hw'; go_simp; (try with_reducible rfl)
            simp only [Act.put, List.setIfInBounds_toArray, List.set_cons_zero, List.set_cons_succ]
            refine reg_take (i := 16) (v := ?_) rfl (by kernel_rfl) (by kernel_rfl) (by kernel_rfl) (fun _ _ _ h => h) (by rfl) ?hy16 ?_
            case hy16 => intro w' hw'; go_simp; (try with_reducible rfl)
            simp only [Act.put, List.setIfInBounds_toArray, List.set_cons_zero, List.set_cons_succ]
            refine reg_skip (i := 17) rfl (by kernel_rfl) (by kernel_rfl) (by kernel_rfl) (fun _ _ _ h => h) (by rfl) ?_
            simp only [Act.put, List.setIfInBounds_toArray, List.set_cons_zero, List.set_cons_succ]
            refine reg_skip (i := 18) rfl (by kernel_rfl) (by kernel_rfl) (by kernel_rfl) (fun _ _ _ h => h) (by rfl) ?_
            simp only [Act.put, List.setIfInBounds_toArray, List.set_cons_zero, List.set_cons_succ]
            refine reg_skip (i := 19) rfl (by kernel_rfl) (by kernel_rfl) (by kernel_rfl) (fun _ _ _ h => h) (by rfl) ?_
            simp only [Act.put, List.setIfInBounds_toArray, List.set_cons_zero, List.set_cons_succ]
            refine reg_skip (i := 20) rfl (by kernel_rfl) (by kernel_rfl) (by kernel_rfl) (fun _ _ _ h => h) (by rfl) ?_
            simp only [Act.put, List.setIfInBounds_toArray, List.set_cons_zero, List.set_cons_succ]
            refine reg_skip (i := 21) rfl (by kernel_rfl) (by kernel_rfl) (by kernel_rfl) (fun _ _ _ h => h) (by rfl) ?_
            simp only [Act.put, List.setIfInBounds_toArray, List.set_cons_zero, List.set_cons_succ]
            refine reg_skip (i := 22) rfl (by kernel_rfl) (by kernel_rfl) (by kernel_rfl) (fun _ _ _ h => h) (by rfl) ?_
            simp only [Act.put, List.setIfInBounds_toArray, List.set_cons_zero, List.set_cons_succ]
            refine reg_skip (i := 23) rfl (by kernel_rfl) (by kernel_rfl) (by kernel_rfl) (fun _ _ _ h => h) (by rfl) ?_
            simp only [Act.put, List.setIfInBounds_toArray, List.set_cons_zero, List.set_cons_succ]
            refine reg_skip (i := 24) rfl (by kernel_rfl) (by kernel_rfl) (by kernel_rfl) (fun _ _ _ h => h) (by rfl) ?_
            simp only [Act.put, List.setIfInBounds_toArray, List.set_cons_zero, List.set_cons_succ]
            refine reg_skip (i := 25) rfl (by kernel_rfl) (by kernel_rfl) (by kernel_rfl) (fun _ _ _ h => h) (by rfl) ?_
            simp only [Act.put, List.setIfInBounds_toArray, List.set_cons_zero, List.set_cons_succ]
            refine reg_skip (i := 26) rfl (by kernel_rfl) (by kernel_rfl) (by kernel_rfl) (fun _ _ _ h => h) (by rfl) ?_
            simp only [Act.put, List.setIfInBounds_toArray, List.set_cons_zero, List.set_cons_succ]
            refine reg_skip (i := 27) rfl (by kernel_rfl) (by kernel_rfl) (by kernel_rfl) (fun _ _ _ h => h) (by rfl) ?_
            simp only [Act.put, List.setIfInBounds_toArray, List.set_cons_zero, List.set_cons_succ]
            refine reg_skip (i := 28) rfl (by kernel_rfl) (by kernel_rfl) (by kernel_rfl) (fun _ _ _ h => h) (by rfl) ?_
            simp only [Act.put, List.setIfInBounds_toArray, List.set_cons_zero, List.set_cons_succ]
            refine reg_skip (i := 29) rfl (by kernel_rfl) (by kernel_rfl) (by kernel_rfl) (fun _ _ _ h => h) (by rfl) ?_
            simp only [Act.put, List.setIfInBounds_toArray, List.set_cons_zero, List.set_cons_succ]
            refine reg_skip (i := 30) rfl (by kernel_rfl) (by kernel_rfl) (by kernel_rfl) (fun _ _ _ h => h) (by rfl) ?_
            simp only [Act.put, List.setIfInBounds_toArray, List.set_cons_zero, List.set_cons_succ]
            refine reg_skip (i := 31) rfl (by kernel_rfl) (by kernel_rfl) (by kernel_rfl) (fun _ _ _ h => h) (by rfl) ?_
            simp only [Act.put, List.setIfInBounds_toArray, List.set_cons_zero, List.set_cons_succ]
            refine reg_take (i := 32) (v := ?_) rfl (by kernel_rfl) (by kernel_rfl) (by kernel_rfl) (fun _ _ _ h => h) (by rfl) ?hy32 ?_
            case hy32 => intro w' hw'; go_simp; (try with_reducible rfl)
            simp only [Act.put, List.setIfInBounds_toArray, List.set_cons_zero, List.set_cons_succ]
            refine reg_end (by kernel_rfl) ?_
            go_wp2
            exact ⟨⟨k, z, by omega, rfl, rfl, HV.out, S3.out, B3.out⟩, by simp [intOf]⟩
          | true =>
            cases v2 with
            | true =>
              have HV := Lib.hid (HO.out.left HXX.out (.inr ⟨.inl (by rw [HP.out]; rfl), rfl⟩) : IsOld (freeP busy) l k l.length z)
              go_wp2_with (first | (with_reducible refine wpList_load_whole Ses.isRec rfl _ rfl gS (by with_unfolding_all exact rfl) _ _ (Ses.len _) S0.out ?_) | (with_reducible refine wpList_load_rec Ent.isRec rfl _ rfl gS 2 (by with_unfolding_all exact rfl) _ (Ent.len _) (Ses.At.part_peer S0.out) ?_) | (with_reducible refine wpList_load_rec Win.isRec rfl _ rfl gS 16 (by with_unfolding_all exact rfl) _ (Win.len _) (Ses.At.part_seen S0.out) ?_))
              refine reg_begin (by kernel_rfl) fun w3 b3 z3 => ?_
              have S3 : Hid (Ses.At w3 gS s) := Lib.hid (Whole.below S0.out b3 S0.out.lt)
              have B3 := Lib.hid (B0.out.trans (b3.mono B0.out.size))
              clear b3 z3 S0 B0
              refine reg_take (i := 0) (v := ?_) rfl (by kernel_rfl) (by kernel_rfl) (by kernel_rfl) (fun _ _ _ h => h) (by rfl) ?hy0 ?_
              case hy0 => intro w' hw'; go_simp; (try with_reducible rfl)
              simp only [Act.put, List.setIfInBounds_toArray, List.set_cons_zero, List.set_cons_succ]
              refine reg_take (i := 1) (v := ?_) rfl (by kernel_rfl) (by kernel_rfl) (by kernel_rfl) (fun _ _ _ h => h) (by rfl) ?hy1 ?_
              case hy1 => intro w' hw'; go_simp; (try with_reducible rfl)
              simp only [Act.put, List.setIfInBounds_toArray, List.set_cons_zero, List.set_cons_succ]
              refine reg_take (i := 2) (v := ?_) rfl (by kernel_rfl) (by kernel_rfl) (by kernel_rfl) (fun _ _ _ h => h) (by rfl) ?hy2 ?_
              case hy2 => intro w' hw'; go_simp; (try with_reducible rfl)
              simp only [Act.put, List.setIfInBounds_toArray, List.set_cons_zero, List.set_cons_succ]
              refine reg_take (i := 3) (v := ?_) rfl (by kernel_rfl) (by kernel_rfl) (by kernel_rfl) (fun _ _ _ h => h) (by rfl) ?hy3 ?_
              case hy3 => intro w' hw'; go_simp; (try with_reducible rfl)
              simp only [Act.put, List.setIfInBounds_toArray, List.set_cons_zero, List.set_cons_succ]
              refine reg_take (i := 4) (v := .int .i64 x.state) rfl (by kernel_rfl) (by kernel_rfl) (by kernel_rfl) (fun _ _ _ h => h) (by rfl) ?hy4 ?_
              case hy4 => intro w' hw'; have c := HXC.out w' (B3.out.trans (hw'.mono B3.out.size)) 9 _ rfl; go_simp; (try with_reducible rfl)
              simp only [Act.put, List.setIfInBounds_toArray, List.set_cons_zero, List.set_cons_succ]
              refine reg_take (i := 5) (v := ?_) rfl (by kernel_rfl) (by kernel_rfl) (by kernel_rfl) (fun _ _ _ h => h) (by rfl) ?hy5 ?_
              case hy5 => intro w' hw'; go_simp; (try with_reducible rfl)
              simp only [Act.put, List.setIfInBounds_toArray, List.set_cons_zero, List.set_cons_succ]
              refine reg_take (i := 6) (v := ?_) rfl (by kernel_rfl) (by kernel_rfl) (by kernel_rfl) (fun _ _ _ h => h) (by rfl) ?hy6 ?_
              case hy6 => intro w' hw'; go_simp; (try with_reducible rfl)
              simp only [Act.put, List.setIfInBounds_toArray, List.set_cons_zero, List.set_cons_succ]
              refine reg_take (i := 7) (v := ?_) rfl (by kernel_rfl) (by kernel_rfl) (by kernel_rfl) (fun _ _ _ h => h) (by rfl) ?hy7 ?_
              case hy7 => intro w' hw'; go_simp; (try with_reducible rfl)
              simp only [Act.put, List.setIfInBounds_toArray, List.set_cons_zero, List.set_cons_succ]
              refine reg_take (i := 8) (v := ?_) rfl (by kernel_rfl) (by kernel_rfl) (by kernel_rfl) (fun _ _ _ h => h) (by rfl) ?hy8 ?_
              case hy8 => intro w' hw'; go_simp; (try with_reducible rfl)
              simp only [Act.put, List.setIfInBounds_toArray, List.set_cons_zero, List.set_cons_succ]
              refine reg_take (i := 9) (v := ?_) rfl (by kernel_rfl) (by kernel_rfl) (by kernel_rfl) (fun _ _ _ h => h) (by rfl) ?hy9 ?_
              case hy9 => intro w' hw'; go_simp; (try with_reducible rfl)
              simp only [Act.put, List.setIfInBounds_toArray, List.set_cons_zero, List.set_cons_succ]
              refine reg_take (i := 10) (v := ?_) rfl (by kernel_rfl) (by kernel_rfl) (by kernel_rfl) (fun _ _ _ h => h) (by rfl) ?hy10 ?_
              case hy10 => intro w' hw'; go_simp; (try with_reducible rfl)
              simp only [Act.put, List.setIfInBounds_toArray, List.set_cons_zero, List.set_cons_succ]
              refine reg_take (i := 11) (v := ?_) rfl (by kernel_rfl) (by kernel_rfl) (by kernel_rfl) (fun _ _ _ h => h) (by rfl) ?hy11 ?_
              case hy11 => intro w' hw'; go_simp; (try with_reducible rfl)
              simp only [Act.put, List.setIfInBounds_toArray, List.set_cons_zero, List.set_cons_succ]
              refine reg_take (i := 12) (v := .int .u64 (x.id : Int)) rfl (by kernel_rfl) (by kernel_rfl) (by kernel_rfl) (fun _ _ _ h => h) (by rfl) ?hy12 ?_
              case hy12 => intro w' hw'; have c := (show w'.cell? ⟨b, off + k * 20, none⟩ = some (.int .u64 (x.id : Int)) from HXC.out w' (B3.out.trans (hw'.mono B3.out.size)) 0 _ rfl); go_simp; (try with_reducible rfl)
              simp only [Act.put, List.setIfInBounds_toArray, List.set_cons_zero, List.set_cons_succ]
              refine reg_call (i := 13) rfl (by kernel_rfl) (fun K' hK => ?_)
              go_simp
              refine (CX.out w3 (HU.out.below B3.out)).mono ?_
              rintro e4 w4 ⟨rfl, b4⟩
              have S4 : Hid (Ses.At w4 gS s) := Lib.hid (Whole.below S3.out b4 S3.out.lt)
              have B4 := Lib.hid (B3.out.trans (b4.mono B3.out.size))
              refine hK.out _ _ b4 ?_
              clear hK K' b4 S3 B3
              refine reg_take (i := 14) (v := ?_) rfl (by kernel_rfl) (by kernel_rfl) (by kernel_rfl) (fun _ _ _ h => h) (by rfl) ?hy14 ?_
              case hy14 => intro w' hw'; go_simp; (try with_reducible rfl)
              simp only [Act.put, List.setIfInBounds_toArray, List.set_cons_zero, List.set_cons_succ]
              refine reg_take (i := 15) (v := ?_) rfl (by kernel_rfl) (by kernel_rfl) (by kernel_rfl) (fun _ _ _ h => h) (by rfl) ?hy15 ?_
              case hy15 => intro w' hw'; go_simp; (try with_reducible rfl)
              simp only [Act.put, List.setIfInBounds_toArray, List.set_cons_zero, List.set_cons_succ]
              refine reg_take (i := 16) (v := ?_) rfl (by kernel_rfl) (by kernel_rfl) (by kernel_rfl) (fun _ _ _ h => h) (by rfl) ?hy16 ?_
              case hy16 => intro w' hw'; go_simp; (try with_reducible rfl)
              simp only [Act.put, List.setIfInBounds_toArray, List.set_cons_zero, List.set_cons_succ]
              refine reg_skip (i := 17) rfl (by kernel_rfl) (by kernel_rfl) (by kernel_rfl) (fun _ _ _ h => h) (by rfl) ?_
              simp only [Act.put, List.setIfInBounds_toArray, List.set_cons_zero, List.set_cons_succ]
              refine reg_skip (i := 18) rfl (by kernel_rfl) (by kernel_rfl) (by kernel_rfl) (fun _ _ _ h => h) (by rfl) ?_
              simp only [Act.put, List.setIfInBounds_toArray, List.set_cons_zero, List.set_cons_succ]
              refine reg_skip (i := 19) rfl (by kernel_rfl) (by kernel_rfl) (by kernel_rfl) (fun _ _ _ h => h) (by rfl) ?_
              simp only [Act.put, List.setIfInBounds_toArray, List.set_cons_zero, List.set_cons_succ]
              refine reg_skip (i := 20) rfl (by kernel_rfl) (by kernel_rfl) (by kernel_rfl) (fun _ _ _ h => h) (by rfl) ?_
              simp only [Act.put, List.setIfInBounds_toArray, List.set_cons_zero, List.set_cons_succ]
              refine reg_skip (i := 21) rfl (by kernel_rfl) (by kernel_rfl) (by kernel_rfl) (fun _ _ _ h => h) (by rfl) ?_
              simp only [Act.put, List.setIfInBounds_toArray, List.set_cons_zero, List.set_cons_succ]
              refine reg_skip (i := 22) rfl (by kernel_rfl) (by kernel_rfl) (by kernel_rfl) (fun _ _ _ h => h) (by rfl) ?_
              simp only [Act.put, List.setIfInBounds_toArray, List.set_cons_zero, List.set_cons_succ]
              refine reg_skip (i := 23) rfl (by kernel_rfl) (by kernel_rfl) (by kernel_rfl) (fun _ _ _ h => h) (by rfl) ?_
              simp only [Act.put, List.setIfInBounds_toArray, List.set_cons_zero, List.set_cons_succ]
              refine reg_skip (i := 24) rfl (by kernel_rfl) (by kernel_rfl) (by kernel_rfl) (fun _ _ _ h => h) (by rfl) ?_
              simp only [Act.put, List.setIfInBounds_toArray, List.set_cons_zero, List.set_cons_succ]
              refine reg_skip (i := 25) rfl (by kernel_rfl) (by kernel_rfl) (by kernel_rfl) (fun _ _ _ h => h) (by rfl) ?_
              simp only [Act.put, List.setIfInBounds_toArray, List.set_cons_zero, List.set_cons_succ]
              refine reg_skip (i := 26) rfl (by kernel_rfl) (by kernel_rfl) (by kernel_rfl) (fun _ _ _ h => h) (by rfl) ?_
              simp only [Act.put, List.setIfInBounds_toArray, List.set_cons_zero, List.set_cons_succ]
              refine reg_skip (i := 27) rfl (by kernel_rfl) (by kernel_rfl) (by kernel_rfl) (fun _ _ _ h => h) (by rfl) ?_
              simp only [Act.put, List.setIfInBounds_toArray, List.set_cons_zero, List.set_cons_succ]
              refine reg_skip (i := 28) rfl (by kernel_rfl) (by kernel_rfl) (by kernel_rfl) (fun _ _ _ h => h) (by rfl) ?_
              simp only [Act.put, List.setIfInBounds_toArray, List.set_cons_zero, List.set_cons_succ]
              refine reg_skip (i := 29) rfl (by kernel_rfl) (by kernel_rfl) (by kernel_rfl) (fun _ _ _ h => h) (by rfl) ?_
              simp only [Act.put, List.setIfInBounds_toArray, List.set_cons_zero, List.set_cons_succ]
              refine reg_skip (i := 30) rfl (by kernel_rfl) (by kernel_rfl) (by kernel_rfl) (fun _ _ _ h => h) (by rfl) ?_
              simp only [Act.put, List.setIfInBounds_toArray, List.set_cons_zero, List.set_cons_succ]
              refine reg_skip (i := 31) rfl (by kernel_rfl) (by kernel_rfl) (by kernel_rfl) (fun _ _ _ h => h) (by rfl) ?_
              simp only [Act.put, List.setIfInBounds_toArray, List.set_cons_zero, List.set_cons_succ]
              refine reg_take (i := 32) (v := ?_) rfl (by kernel_rfl) (by kernel_rfl) (by kernel_rfl) (fun _ _ _ h => h) (by rfl) ?hy32 ?_
              case hy32 => intro w' hw'; go_simp; (try with_reducible rfl)
              simp only [Act.put, List.setIfInBounds_toArray, List.set_cons_zero, List.set_cons_succ]
              refine reg_end (by kernel_rfl) ?_
              go_wp2
              exact ⟨⟨k, z, by omega, rfl, rfl, HV.out, S4.out, B4.out⟩, by simp [intOf]⟩
            | false =>
              rcases HO.out with ⟨hz, hn⟩ | ⟨jn, y, hz, h1, h2, h3, h4, h5⟩
              · have HV := Lib.hid (HO.out.left HXX.out (.inl ⟨by rw [HP.out]; rfl, .inl (by rw [hz]; decide), rfl⟩) : IsOld (freeP busy) l k l.length k)
                subst hz
                clear hn
                go_wp2_with (first | (with_reducible refine wpList_load_whole Ses.isRec rfl _ rfl gS (by with_unfolding_all exact rfl) _ _ (Ses.len _) S0.out ?_) | (with_reducible refine wpList_load_rec Ent.isRec rfl _ rfl gS 2 (by with_unfolding_all exact rfl) _ (Ent.len _) (Ses.At.part_peer S0.out) ?_) | (with_reducible refine wpList_load_rec Win.isRec rfl _ rfl gS 16 (by with_unfolding_all exact rfl) _ (Win.len _) (Ses.At.part_seen S0.out) ?_))
                refine reg_begin (by kernel_rfl) fun w3 b3 z3 => ?_
                have S3 : Hid (Ses.At w3 gS s) := Lib.hid (Whole.below S0.out b3 S0.out.lt)
                have B3 := Lib.hid (B0.out.trans (b3.mono B0.out.size))
                clear b3 z3 S0 B0
                refine reg_take (i := 0) (v := ?_) rfl (by kernel_rfl) (by kernel_rfl) (by kernel_rfl) (fun _ _ _ h => h) (by rfl) ?hy0 ?_
                case hy0 => intro w' hw'; go_simp; (try with_reducible rfl)
                simp only [Act.put, List.setIfInBounds_toArray, List.set_cons_zero, List.set_cons_succ]
                refine reg_take (i := 1) (v := ?_) rfl (by kernel_rfl) (by kernel_rfl) (by kernel_rfl) (fun _ _ _ h => h) (by rfl) ?hy1 ?_
                case hy1 => intro w' hw'; go_simp; (try with_reducible rfl)
                simp only [Act.put, List.setIfInBounds_toArray, List.set_cons_zero, List.set_cons_succ]
                refine reg_take (i := 2) (v := ?_) rfl (by kernel_rfl) (by kernel_rfl) (by kernel_rfl) (fun _ _ _ h => h) (by rfl) ?hy2 ?_
                case hy2 => intro w' hw'; go_simp; (try with_reducible rfl)
                simp only [Act.put, List.setIfInBounds_toArray, List.set_cons_zero, List.set_cons_succ]
                refine reg_take (i := 3) (v := ?_) rfl (by kernel_rfl) (by kernel_rfl) (by kernel_rfl) (fun _ _ _ h => h) (by rfl) ?hy3 ?_
                case hy3 => intro w' hw'; go_simp; (try with_reducible rfl)
                simp only [Act.put, List.setIfInBounds_toArray, List.set_cons_zero, List.set_cons_succ]
                refine reg_take (i := 4) (v := .int .i64 x.state) rfl (by kernel_rfl) (by kernel_rfl) (by kernel_rfl) (fun _ _ _ h => h) (by rfl) ?hy4 ?_
                case hy4 => intro w' hw'; have c := HXC.out w' (B3.out.trans (hw'.mono B3.out.size)) 9 _ rfl; go_simp; (try with_reducible rfl)
                simp only [Act.put, List.setIfInBounds_toArray, List.set_cons_zero, List.set_cons_succ]
                refine reg_take (i := 5) (v := ?_) rfl (by kernel_rfl) (by kernel_rfl) (by kernel_rfl) (fun _ _ _ h => h) (by rfl) ?hy5 ?_
                case hy5 => intro w' hw'; go_simp; (try with_reducible rfl)
                simp only [Act.put, List.setIfInBounds_toArray, List.set_cons_zero, List.set_cons_succ]
                refine reg_take (i := 6) (v := ?_) rfl (by kernel_rfl) (by kernel_rfl) (by kernel_rfl) (fun _ _ _ h => h) (by rfl) ?hy6 ?_
                case hy6 => intro w' hw'; go_simp; (try with_reducible rfl)
                simp only [Act.put, List.setIfInBounds_toArray, List.set_cons_zero, List.set_cons_succ]
                refine reg_take (i := 7) (v := ?_) rfl (by kernel_rfl) (by kernel_rfl) (by kernel_rfl) (fun _ _ _ h => h) (by rfl) ?hy7 ?_
                case hy7 => intro w' hw'; go_simp; (try with_reducible rfl)
                simp only [Act.put, List.setIfInBounds_toArray, List.set_cons_zero, List.set_cons_succ]
                refine reg_take (i := 8) (v := ?_) rfl (by kernel_rfl) (by kernel_rfl) (by kernel_rfl) (fun _ _ _ h => h) (by rfl) ?hy8 ?_
                case hy8 => intro w' hw'; go_simp; (try with_reducible rfl)
                simp only [Act.put, List.setIfInBounds_toArray, List.set_cons_zero, List.set_cons_succ]
                refine reg_take (i := 9) (v := ?_) rfl (by kernel_rfl) (by kernel_rfl) (by kernel_rfl) (fun _ _ _ h => h) (by rfl) ?hy9 ?_
                case hy9 => intro w' hw'; go_simp; (try with_reducible rfl)
                simp only [Act.put, List.setIfInBounds_toArray, List.set_cons_zero, List.set_cons_succ]
                refine reg_take (i := 10) (v := ?_) rfl (by kernel_rfl) (by kernel_rfl) (by kernel_rfl) (fun _ _ _ h => h) (by rfl) ?hy10 ?_
                case hy10 => intro w' hw'; go_simp; (try with_reducible rfl)
                simp only [Act.put, List.setIfInBounds_toArray, List.set_cons_zero, List.set_cons_succ]
                refine reg_take (i := 11) (v := ?_) rfl (by kernel_rfl) (by kernel_rfl) (by kernel_rfl) (fun _ _ _ h => h) (by rfl) ?hy11 ?_
                case hy11 => intro w' hw'; go_simp; (try with_reducible rfl)
                simp only [Act.put, List.setIfInBounds_toArray, List.set_cons_zero, List.set_cons_succ]
                refine reg_take (i := 12) (v := .int .u64 (x.id : Int)) rfl (by kernel_rfl) (by kernel_rfl) (by kernel_rfl) (fun _ _ _ h => h) (by rfl) ?hy12 ?_
                case hy12 => intro w' hw'; have c := (show w'.cell? ⟨b, off + k * 20, none⟩ = some (.int .u64 (x.id : Int)) from HXC.out w' (B3.out.trans (hw'.mono B3.out.size)) 0 _ rfl); go_simp; (try with_reducible rfl)
                simp only [Act.put, List.setIfInBounds_toArray, List.set_cons_zero, List.set_cons_succ]
                refine reg_call (i := 13) rfl (by kernel_rfl) (fun K' hK => ?_)
                go_simp
                refine (CX.out w3 (HU.out.below B3.out)).mono ?_
                rintro e4 w4 ⟨rfl, b4⟩
                have S4 : Hid (Ses.At w4 gS s) := Lib.hid (Whole.below S3.out b4 S3.out.lt)
                have B4 := Lib.hid (B3.out.trans (b4.mono B3.out.size))
                refine hK.out _ _ b4 ?_
                clear hK K' b4 S3 B3
                refine reg_take (i := 14) (v := ?_) rfl (by kernel_rfl) (by kernel_rfl) (by kernel_rfl) (fun _ _ _ h => h) (by rfl) ?hy14 ?_
                case hy14 => intro w' hw'; go_simp; (try with_reducible rfl)
                simp only [Act.put, List.setIfInBounds_toArray, List.set_cons_zero, List.set_cons_succ]
                refine reg_take (i := 15) (v := ?_) rfl (by kernel_rfl) (by kernel_rfl) (by kernel_rfl) (fun _ _ _ h => h) (by rfl) ?hy15 ?_
                case hy15 => intro w' hw'; go_simp; (try with_reducible rfl)
                simp only [Act.put, List.setIfInBounds_toArray, List.set_cons_zero, List.set_cons_succ]
                refine reg_take (i := 16) (v := ?_) rfl (by kernel_rfl) (by kernel_rfl) (by kernel_rfl) (fun _ _ _ h => h) (by rfl) ?hy16 ?_
                case hy16 => intro w' hw'; go_simp; (try with_reducible rfl)
                simp only [Act.put, List.setIfInBounds_toArray, List.set_cons_zero, List.set_cons_succ]
                refine reg_take (i := 17) (v := ?_) rfl (by kernel_rfl) (by kernel_rfl) (by kernel_rfl) (fun _ _ _ h => h) (by rfl) ?hy17 ?_
                case hy17 => intro w' hw'; go_simp; (try with_reducible rfl)
                simp only [Act.put, List.setIfInBounds_toArray, List.set_cons_zero, List.set_cons_succ]
                refine reg_take (i := 18) (v := ?_) rfl (by kernel_rfl) (by kernel_rfl) (by kernel_rfl) (fun _ _ _ h => h) (by rfl) ?hy18 ?_
                case hy18 => intro w' hw'; go_simp; (try with_reducible rfl)
                simp only [Act.put, List.setIfInBounds_toArray, List.set_cons_zero, List.set_cons_succ]
                refine reg_take (i := 19) (v := ?_) rfl (by kernel_rfl) (by kernel_rfl) (by kernel_rfl) (fun _ _ _ h => h) (by rfl) ?hy19 ?_
                case hy19 => intro w' hw'; go_simp; (try with_reducible rfl)
                simp only [Act.put, List.setIfInBounds_toArray, List.set_cons_zero, List.set_cons_succ]
                refine reg_skip (i := 20) rfl (by kernel_rfl) (by kernel_rfl) (by kernel_rfl) (fun _ _ _ h => h) (by rfl) ?_
                simp only [Act.put, List.setIfInBounds_toArray, List.set_cons_zero, List.set_cons_succ]
                refine reg_skip (i := 21) rfl (by kernel_rfl) (by kernel_rfl) (by kernel_rfl) (fun _ _ _ h => h) (by rfl) ?_
                simp only [Act.put, List.setIfInBounds_toArray, List.set_cons_zero, List.set_cons_succ]
                refine reg_skip (i := 22) rfl (by kernel_rfl) (by kernel_rfl) (by kernel_rfl) (fun _ _ _ h => h) (by rfl) ?_
                simp only [Act.put, List.setIfInBounds_toArray, List.set_cons_zero, List.set_cons_succ]
                refine reg_skip (i := 23) rfl (by kernel_rfl) (by kernel_rfl) (by kernel_rfl) (fun _ _ _ h => h) (by rfl) ?_
                simp only [Act.put, List.setIfInBounds_toArray, List.set_cons_zero, List.set_cons_succ]
                refine reg_skip (i := 24) rfl (by kernel_rfl) (by kernel_rfl) (by kernel_rfl) (fun _ _ _ h => h) (by rfl) ?_
                simp only [Act.put, List.setIfInBounds_toArray, List.set_cons_zero, List.set_cons_succ]
                refine reg_skip (i := 25) rfl (by kernel_rfl) (by kernel_rfl) (by kernel_rfl) (fun _ _ _ h => h) (by rfl) ?_
                simp only [Act.put, List.setIfInBounds_toArray, List.set_cons_zero, List.set_cons_succ]
                refine reg_skip (i := 26) rfl (by kernel_rfl) (by kernel_rfl) (by kernel_rfl) (fun _ _ _ h => h) (by rfl) ?_
                simp only [Act.put, List.setIfInBounds_toArray, List.set_cons_zero, List.set_cons_succ]
                refine reg_skip (i := 27) rfl (by kernel_rfl) (by kernel_rfl) (by kernel_rfl) (fun _ _ _ h => h) (by rfl) ?_
                simp only [Act.put, List.setIfInBounds_toArray, List.set_cons_zero, List.set_cons_succ]
                refine reg_skip (i := 28) rfl (by kernel_rfl) (by kernel_rfl) (by kernel_rfl) (fun _ _ _ h => h) (by rfl) ?_
                simp only [Act.put, List.setIfInBounds_toArray, List.set_cons_zero, List.set_cons_succ]
                refine reg_skip (i := 29) rfl (by kernel_rfl) (by kernel_rfl) (by kernel_rfl) (fun _ _ _ h => h) (by rfl) ?_
                simp only [Act.put, List.setIfInBounds_toArray, List.set_cons_zero, List.set_cons_succ]
                refine reg_skip (i := 30) rfl (by kernel_rfl) (by kernel_rfl) (by kernel_rfl) (fun _ _ _ h => h) (by rfl) ?_
                simp only [Act.put, List.setIfInBounds_toArray, List.set_cons_zero, List.set_cons_succ]
                refine reg_take (i := 31) (v := ?_) rfl (by kernel_rfl) (by kernel_rfl) (by kernel_rfl) (fun _ _ _ h => h) (by rfl) ?hy31 ?_
                case hy31 => intro w' hw'; go_simp; (try with_reducible rfl)
                simp only [Act.put, List.setIfInBounds_toArray, List.set_cons_zero, List.set_cons_succ]
                refine reg_take (i := 32) (v := ?_) rfl (by kernel_rfl) (by kernel_rfl) (by kernel_rfl) (fun _ _ _ h => h) (by rfl) ?hy32 ?_
                case hy32 => intro w' hw'; go_simp; (try with_reducible rfl)
                simp only [Act.put, List.setIfInBounds_toArray, List.set_cons_zero, List.set_cons_succ]
                refine reg_end (by kernel_rfl) ?_
                go_wp2
                exact ⟨⟨k, k, by omega, rfl, rfl, HV.out, S4.out, B4.out⟩, by simp [intOf]⟩
              · have hjn : 0 ≤ z := by omega
                obtain ⟨u, hu⟩ : ∃ u, u = decide (x.used ≤ y.used) := ⟨_, rfl⟩
                have HV : Hid (IsOld (freeP busy) l k l.length (if u then (k : Int) else z)) := Lib.hid (by
                  cases u with
                  | true => exact HO.out.left HXX.out (.inl ⟨by rw [HP.out]; rfl, .inr ⟨y, by rw [hz, Int.toNat_natCast]; exact h3, by simpa using hu.symm⟩, rfl⟩)
                  | false => exact HO.out.left HXX.out (.inr ⟨.inr ⟨hjn, y, by rw [hz, Int.toNat_natCast]; exact h3, by simpa using hu.symm⟩, rfl⟩))
                subst hz
                obtain ⟨b', off', hbo, hc', -⟩ := ses_cells H.out h3
                injection hbo with hbo
                injection hbo with hb1 hb2
                subst hb1 hb2
                have HYC := Lib.hid hc'
                have e0 : decide ((jn : Int) < 0) = false := by simp
                have e9 := hu.symm
                have jj : (jn : Int) < (l.length : Int) := by omega
                clear hc' h1 h2 h3 h4 h5 hjn hu
                go_wp2_with (first | (with_reducible refine wpList_load_whole Ses.isRec rfl _ rfl gS (by with_unfolding_all exact rfl) _ _ (Ses.len _) S0.out ?_) | (with_reducible refine wpList_load_rec Ent.isRec rfl _ rfl gS 2 (by with_unfolding_all exact rfl) _ (Ent.len _) (Ses.At.part_peer S0.out) ?_) | (with_reducible refine wpList_load_rec Win.isRec rfl _ rfl gS 16 (by with_unfolding_all exact rfl) _ (Win.len _) (Ses.At.part_seen S0.out) ?_))
                refine reg_begin (by kernel_rfl) fun w3 b3 z3 => ?_
                have S3 : Hid (Ses.At w3 gS s) := Lib.hid (Whole.below S0.out b3 S0.out.lt)
                have B3 := Lib.hid (B0.out.trans (b3.mono B0.out.size))
                clear b3 z3 S0 B0
                refine reg_take (i := 0) (v := ?_) rfl (by kernel_rfl) (by kernel_rfl) (by kernel_rfl) (fun _ _ _ h => h) (by rfl) ?hy0 ?_
                case hy0 => intro w' hw'; go_simp; (try with_reducible rfl)
                simp only [Act.put, List.setIfInBounds_toArray, List.set_cons_zero, List.set_cons_succ]
                refine reg_take (i := 1) (v := ?_) rfl (by kernel_rfl) (by kernel_rfl) (by kernel_rfl) (fun _ _ _ h => h) (by rfl) ?hy1 ?_
                case hy1 => intro w' hw'; go_simp; (try with_reducible rfl)
                simp only [Act.put, List.setIfInBounds_toArray, List.set_cons_zero, List.set_cons_succ]
                refine reg_take (i := 2) (v := ?_) rfl (by kernel_rfl) (by kernel_rfl) (by kernel_rfl) (fun _ _ _ h => h) (by rfl) ?hy2 ?_
                case hy2 => intro w' hw'; go_simp; (try with_reducible rfl)
                simp only [Act.put, List.setIfInBounds_toArray, List.set_cons_zero, List.set_cons_succ]
                refine reg_take (i := 3) (v := ?_) rfl (by kernel_rfl) (by kernel_rfl) (by kernel_rfl) (fun _ _ _ h => h) (by rfl) ?hy3 ?_
                case hy3 => intro w' hw'; go_simp; (try with_reducible rfl)
                simp only [Act.put, List.setIfInBounds_toArray, List.set_cons_zero, List.set_cons_succ]
                refine reg_take (i := 4) (v := .int .i64 x.state) rfl (by kernel_rfl) (by kernel_rfl) (by kernel_rfl) (fun _ _ _ h => h) (by rfl) ?hy4 ?_
                case hy4 => intro w' hw'; have c := HXC.out w' (B3.out.trans (hw'.mono B3.out.size)) 9 _ rfl; go_simp; (try with_reducible rfl)
                simp only [Act.put, List.setIfInBounds_toArray, List.set_cons_zero, List.set_cons_succ]
                refine reg_take (i := 5) (v := ?_) rfl (by kernel_rfl) (by kernel_rfl) (by kernel_rfl) (fun _ _ _ h => h) (by rfl) ?hy5 ?_
                case hy5 => intro w' hw'; go_simp; (try with_reducible rfl)
                simp only [Act.put, List.setIfInBounds_toArray, List.set_cons_zero, List.set_cons_succ]
                refine reg_take (i := 6) (v := ?_) rfl (by kernel_rfl) (by kernel_rfl) (by kernel_rfl) (fun _ _ _ h => h) (by rfl) ?hy6 ?_
                case hy6 => intro w' hw'; go_simp; (try with_reducible rfl)
                simp only [Act.put, List.setIfInBounds_toArray, List.set_cons_zero, List.set_cons_succ]
                refine reg_take (i := 7) (v := ?_) rfl (by kernel_rfl) (by kernel_rfl) (by kernel_rfl) (fun _ _ _ h => h) (by rfl) ?hy7 ?_
                case hy7 => intro w' hw'; go_simp; (try with_reducible rfl)
                simp only [Act.put, List.setIfInBounds_toArray, List.set_cons_zero, List.set_cons_succ]
                refine reg_take (i := 8) (v := ?_) rfl (by kernel_rfl) (by kernel_rfl) (by kernel_rfl) (fun _ _ _ h => h) (by rfl) ?hy8 ?_
                case hy8 => intro w' hw'; go_simp; (try with_reducible rfl)
                simp only [Act.put, List.setIfInBounds_toArray, List.set_cons_zero, List.set_cons_succ]
                refine reg_take (i := 9) (v := ?_) rfl (by kernel_rfl) (by kernel_rfl) (by kernel_rfl) (fun _ _ _ h => h) (by rfl) ?hy9 ?_
                case hy9 => intro w' hw'; go_simp; (try with_reducible rfl)
                simp only [Act.put, List.setIfInBounds_toArray, List.set_cons_zero, List.set_cons_succ]
                refine reg_take (i := 10) (v := ?_) rfl (by kernel_rfl) (by kernel_rfl) (by kernel_rfl) (fun _ _ _ h => h) (by rfl) ?hy10 ?_
                case hy10 => intro w' hw'; go_simp; (try with_reducible rfl)
                simp only [Act.put, List.setIfInBounds_toArray, List.set_cons_zero, List.set_cons_succ]
                refine reg_take (i := 11) (v := ?_) rfl (by kernel_rfl) (by kernel_rfl) (by kernel_rfl) (fun _ _ _ h => h) (by rfl) ?hy11 ?_
                case hy11 => intro w' hw'; go_simp; (try with_reducible rfl)
                simp only [Act.put, List.setIfInBounds_toArray, List.set_cons_zero, List.set_cons_succ]
                refine reg_take (i := 12) (v := .int .u64 (x.id : Int)) rfl (by kernel_rfl) (by kernel_rfl) (by kernel_rfl) (fun _ _ _ h => h) (by rfl) ?hy12 ?_
                case hy12 => intro w' hw'; have c := (show w'.cell? ⟨b, off + k * 20, none⟩ = some (.int .u64 (x.id : Int)) from HXC.out w' (B3.out.trans (hw'.mono B3.out.size)) 0 _ rfl); go_simp; (try with_reducible rfl)
                simp only [Act.put, List.setIfInBounds_toArray, List.set_cons_zero, List.set_cons_succ]
                refine reg_call (i := 13) rfl (by kernel_rfl) (fun K' hK => ?_)
                go_simp
                refine (CX.out w3 (HU.out.below B3.out)).mono ?_
                rintro e4 w4 ⟨rfl, b4⟩
                have S4 : Hid (Ses.At w4 gS s) := Lib.hid (Whole.below S3.out b4 S3.out.lt)
                have B4 := Lib.hid (B3.out.trans (b4.mono B3.out.size))
                refine hK.out _ _ b4 ?_
                clear hK K' b4 S3 B3
                refine reg_take (i := 14) (v := ?_) rfl (by kernel_rfl) (by kernel_rfl) (by kernel_rfl) (fun _ _ _ h => h) (by rfl) ?hy14 ?_
                case hy14 => intro w' hw'; go_simp; (try with_reducible rfl)
                simp only [Act.put, List.setIfInBounds_toArray, List.set_cons_zero, List.set_cons_succ]
                refine reg_take (i := 15) (v := ?_) rfl (by kernel_rfl) (by kernel_rfl) (by kernel_rfl) (fun _ _ _ h => h) (by rfl) ?hy15 ?_
                case hy15 => intro w' hw'; go_simp; (try with_reducible rfl)
                simp only [Act.put, List.setIfInBounds_toArray, List.set_cons_zero, List.set_cons_succ]
                refine reg_take (i := 16) (v := ?_) rfl (by kernel_rfl) (by kernel_rfl) (by kernel_rfl) (fun _ _ _ h => h) (by rfl) ?hy16 ?_
                case hy16 => intro w' hw'; go_simp; (try with_reducible rfl)
                simp only [Act.put, List.setIfInBounds_toArray, List.set_cons_zero, List.set_cons_succ]
                refine reg_take (i := 17) (v := ?_) rfl (by kernel_rfl) (by kernel_rfl) (by kernel_rfl) (fun _ _ _ h => h) (by rfl) ?hy17 ?_
                case hy17 => intro w' hw'; go_simp; (try with_reducible rfl)
                simp only [Act.put, List.setIfInBounds_toArray, List.set_cons_zero, List.set_cons_succ]
                refine reg_take (i := 18) (v := ?_) rfl (by kernel_rfl) (by kernel_rfl) (by kernel_rfl) (fun _ _ _ h => h) (by rfl) ?hy18 ?_
                case hy18 => intro w' hw'; go_simp; (try with_reducible rfl)
                simp only [Act.put, List.setIfInBounds_toArray, List.set_cons_zero, List.set_cons_succ]
                refine reg_take (i := 19) (v := ?_) rfl (by kernel_rfl) (by kernel_rfl) (by kernel_rfl) (fun _ _ _ h => h) (by rfl) ?hy19 ?_
                case hy19 => intro w' hw'; go_simp; (try with_reducible rfl)
                simp only [Act.put, List.setIfInBounds_toArray, List.set_cons_zero, List.set_cons_succ]
                refine reg_take (i := 20) (v := ?_) rfl (by kernel_rfl) (by kernel_rfl) (by kernel_rfl) (fun _ _ _ h => h) (by rfl) ?hy20 ?_
                case hy20 => intro w' hw'; go_simp; (try with_reducible rfl)
                simp only [Act.put, List.setIfInBounds_toArray, List.set_cons_zero, List.set_cons_succ]
                refine reg_take (i := 21) (v := ?_) rfl (by kernel_rfl) (by kernel_rfl) (by kernel_rfl) (fun _ _ _ h => h) (by rfl) ?hy21 ?_
                case hy21 => intro w' hw'; go_simp; (try with_reducible rfl)
                simp only [Act.put, List.setIfInBounds_toArray, List.set_cons_zero, List.set_cons_succ]
                refine reg_take (i := 22) (v := ?_) rfl (by kernel_rfl) (by kernel_rfl) (by kernel_rfl) (fun _ _ _ h => h) (by rfl) ?hy22 ?_
                case hy22 => intro w' hw'; go_simp; (try with_reducible rfl)
                simp only [Act.put, List.setIfInBounds_toArray, List.set_cons_zero, List.set_cons_succ]
                refine reg_take (i := 23) (v := ?_) rfl (by kernel_rfl) (by kernel_rfl) (by kernel_rfl) (fun _ _ _ h => h) (by rfl) ?hy23 ?_
                case hy23 => intro w' hw'; go_simp; (try with_reducible rfl)
                simp only [Act.put, List.setIfInBounds_toArray, List.set_cons_zero, List.set_cons_succ]
                refine reg_take (i := 24) (v := .int .i64 x.used) rfl (by kernel_rfl) (by kernel_rfl) (by kernel_rfl) (fun _ _ _ h => h) (by rfl) ?hy24 ?_
                case hy24 => intro w' hw'; have c := HXC.out w' (B4.out.trans (hw'.mono B4.out.size)) 19 _ rfl; go_simp; (try with_reducible rfl)
                simp only [Act.put, List.setIfInBounds_toArray, List.set_cons_zero, List.set_cons_succ]
                refine reg_take (i := 25) (v := ?_) rfl (by kernel_rfl) (by kernel_rfl) (by kernel_rfl) (fun _ _ _ h => h) (by rfl) ?hy25 ?_
                case hy25 => intro w' hw'; go_simp; (try with_reducible rfl)
                simp only [Act.put, List.setIfInBounds_toArray, List.set_cons_zero, List.set_cons_succ]
                refine reg_take (i := 26) (v := ?_) rfl (by kernel_rfl) (by kernel_rfl) (by kernel_rfl) (fun _ _ _ h => h) (by rfl) ?hy26 ?_
                case hy26 => intro w' hw'; go_simp; (try with_reducible rfl)
                simp only [Act.put, List.setIfInBounds_toArray, List.set_cons_zero, List.set_cons_succ]
                refine reg_take (i := 27) (v := ?_) rfl (by kernel_rfl) (by kernel_rfl) (by kernel_rfl) (fun _ _ _ h => h) (by rfl) ?hy27 ?_
                case hy27 => intro w' hw'; go_simp; (try with_reducible rfl)
                simp only [Act.put, List.setIfInBounds_toArray, List.set_cons_zero, List.set_cons_succ]
                refine reg_take (i := 28) (v := ?_) rfl (by kernel_rfl) (by kernel_rfl) (by kernel_rfl) (fun _ _ _ h => h) (by rfl) ?hy28 ?_
                case hy28 => intro w' hw'; go_simp; (try with_reducible rfl)
                simp only [Act.put, List.setIfInBounds_toArray, List.set_cons_zero, List.set_cons_succ]
                refine reg_take (i := 29) (v := .int .i64 y.used) rfl (by kernel_rfl) (by kernel_rfl) (by kernel_rfl) (fun _ _ _ h => h) (by rfl) ?hy29 ?_
                case hy29 => intro w' hw'; have c := HYC.out w' (B4.out.trans (hw'.mono B4.out.size)) 19 _ rfl; go_simp; (try with_reducible rfl)
                simp only [Act.put, List.setIfInBounds_toArray, List.set_cons_zero, List.set_cons_succ]
                refine reg_take (i := 30) (v := ?_) rfl (by kernel_rfl) (by kernel_rfl) (by kernel_rfl) (fun _ _ _ h => h) (by rfl) ?hy30 ?_
                case hy30 => intro w' hw'; go_simp; (try with_reducible rfl)
                simp only [Act.put, List.setIfInBounds_toArray, List.set_cons_zero, List.set_cons_succ]
                refine reg_take (i := 31) (v := ?_) rfl (by kernel_rfl) (by kernel_rfl) (by kernel_rfl) (fun _ _ _ h => h) (by rfl) ?hy31 ?_
                case hy31 => intro w' hw'; go_simp; (try with_reducible rfl)
                simp only [Act.put, List.setIfInBounds_toArray, List.set_cons_zero, List.set_cons_succ]
                refine reg_take (i := 32) (v := ?_) rfl (by kernel_rfl) (by kernel_rfl) (by kernel_rfl) (fun _ _ _ h => h) (by rfl) ?hy32 ?_
                case hy32 => intro w' hw'; go_simp; (try with_reducible rfl)
                simp only [Act.put, List.setIfInBounds_toArray, List.set_cons_zero, List.set_cons_succ]
                refine reg_end (by kernel_rfl) ?_
                cases u with
                | true =>
                  go_wp2
                  exact ⟨⟨k, k, by omega, rfl, rfl, HV.out, S4.out, B4.out⟩, by simp [intOf]⟩
                | false =>
                  go_wp2
                  exact ⟨⟨k, jn, by omega, rfl, rfl, HV.out, S4.out, B4.out⟩, by simp [intOf]⟩
end Go.Proofs.Ytjohlnpalcmhbaa
