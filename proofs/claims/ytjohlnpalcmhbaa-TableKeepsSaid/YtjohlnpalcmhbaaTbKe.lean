/- Layer 23: TableKeeps' core. -/
import Derived.Test.YtjohlnpalcmhbaaTbAd
import Derived.Test.YtjohlnpalcmhbaaTbKm
namespace Go.Proofs.Ytjohlnpalcmhbaa
set_option maxRecDepth 100000
open Go.RowKit

theorem exec_max {ev : Operand → Value} {o : Oper} (x y : Operand) (ts : Array TypeId) (ho : o.op = .call { callee := .builtin .max, args := #[x, y], argTypes := ts }) (a b z : Int) (hx : ev x = .int .i64 a) (hy : ev y = .int .i64 b) (hz : (if b > a then b else a) = z) (w : World) :
    (execOp ev o).run Try.prog w = .ok (.value (.int .i64 z)) w := by
  have h := run_max_int2 (P := Try.prog) (w := w) ts o.type .i64 .i64 a b
  rw [hz] at h
  unfold execOp
  simp only [ho, resolve, invoke, builtin, Sem.run_bind, Sem.run_pure, Result.andThen_ok, List.map_toArray, List.map_cons, List.map_nil, hx, hy, h]

set_option maxRecDepth 100000 in
set_option maxHeartbeats 4000000 in
theorem keeps_core (A : Option Addr) (m cap : Nat) (l : List Ses) (C : Option Addr) (bn bc : Nat) (busy : List Nat) (s : Ses) (w : World) (h : RowsAt w (.slice A m cap) 20 (l.map Ses.enc)) (hu : UsAt w (.slice C bn bc) busy) :
    Calls Try.prog 6 #[.slice A m cap, .slice C bn bc, s.val] w fun e w' => e = .returned (.bool true) ∧ Below w.heap.size w w' := by
  have hlen := h.size.1
  rw [List.length_map] at hlen
  subst hlen
  have CG := Lib.hid (fun w h => greatSs_any A l.length cap l w h)
  have CE := Lib.hid (fun w => greatSes_any s w)
  have HN : greatSs l = false → l.length ≤ 60 := greatSs_no
  obtain ⟨g1, hg1⟩ : ∃ g, g = greatSs l := ⟨_, rfl⟩
  obtain ⟨g2, hg2⟩ : ∃ g, g = greatSes s := ⟨_, rfl⟩
  simp only [← hg1, ← hg2] at CG CE HN
  have HN := Lib.hid HN
  clear hg1 hg2
  go_enter Try.func6, Try.ntmps6
  have L0 : Hid (RowsAt w (.slice A l.length cap) 20 (l.map Ses.enc)) := Lib.hid (h)
  have U0 : Hid (UsAt w (.slice C bn bc) busy) := Lib.hid (hu)
  clear h hu
  go_wp2_with (refine wpList_box_row rfl 36 _ rfl s.enc.toArray (by with_unfolding_all exact rfl) ?_)
  intro w1 b1 x1 z1
  obtain ⟨gS, hgS⟩ : ∃ g, g = w.heap.size := ⟨_, rfl⟩
  have M_S := Lib.hid (show w.heap.size ≤ gS from by rw [hgS]; exact Nat.le_refl _)
  have L1 : Hid (RowsAt w1 (.slice A l.length cap) 20 (l.map Ses.enc)) := Lib.hid (L0.out.below b1)
  have U1 : Hid (UsAt w1 (.slice C bn bc) busy) := Lib.hid (U0.out.below b1)
  have B1 := Lib.hid b1
  rw [← hgS] at x1 ⊢
  have S1 : Hid (Ses.At w1 gS s) := Lib.hid x1
  clear b1 x1 z1 hgS L0 U0
  go_wp2_with (first | (with_reducible refine wpList_load_whole Ses.isRec rfl _ rfl gS (by with_unfolding_all exact rfl) _ _ (Ses.len _) S1.out ?_) | (with_reducible refine wpList_load_rec Ent.isRec rfl _ rfl gS 2 (by with_unfolding_all exact rfl) _ (Ent.len _) (Ses.At.part_peer S1.out) ?_) | (with_reducible refine wpList_load_rec Win.isRec rfl _ rfl gS 16 (by with_unfolding_all exact rfl) _ (Win.len _) (Ses.At.part_seen S1.out) ?_))
  refine (works23 w1).mono ?_
  rintro e2 w2 ⟨rfl, b2⟩
  have L2 : Hid (RowsAt w2 (.slice A l.length cap) 20 (l.map Ses.enc)) := Lib.hid (L1.out.below b2)
  have U2 : Hid (UsAt w2 (.slice C bn bc) busy) := Lib.hid (U1.out.below b2)
  have S2 : Hid (Ses.At w2 gS s) := Lib.hid (Whole.below S1.out b2 S1.out.lt)
  have B2 := Lib.hid (B1.out.trans (b2.mono B1.out.size))
  clear b2 L1 U1 S1 B1
  go_wp2_with (first | (with_reducible refine wpList_load_whole Ses.isRec rfl _ rfl gS (by with_unfolding_all exact rfl) _ _ (Ses.len _) S2.out ?_) | (with_reducible refine wpList_load_rec Ent.isRec rfl _ rfl gS 2 (by with_unfolding_all exact rfl) _ (Ent.len _) (Ses.At.part_peer S2.out) ?_) | (with_reducible refine wpList_load_rec Win.isRec rfl _ rfl gS 16 (by with_unfolding_all exact rfl) _ (Win.len _) (Ses.At.part_seen S2.out) ?_))
  refine (CG.out w2 L2.out).mono ?_
  rintro e3 w3 ⟨rfl, b3⟩
  have L3 : Hid (RowsAt w3 (.slice A l.length cap) 20 (l.map Ses.enc)) := Lib.hid (L2.out.below b3)
  have U3 : Hid (UsAt w3 (.slice C bn bc) busy) := Lib.hid (U2.out.below b3)
  have S3 : Hid (Ses.At w3 gS s) := Lib.hid (Whole.below S2.out b3 S2.out.lt)
  have B3 := Lib.hid (B2.out.trans (b3.mono B2.out.size))
  clear b3 L2 U2 S2 B2
  cases g1 with
  | true =>
    go_wp2
    go_ret
    exact ⟨rfl, B3.out⟩
  | false =>
    have hl := HN.out rfl
    have HL := Lib.hid hl
    clear HN CG
    go_wp2_with (first | (with_reducible refine wpList_load_whole Ses.isRec rfl _ rfl gS (by with_unfolding_all exact rfl) _ _ (Ses.len _) S3.out ?_) | (with_reducible refine wpList_load_rec Ent.isRec rfl _ rfl gS 2 (by with_unfolding_all exact rfl) _ (Ent.len _) (Ses.At.part_peer S3.out) ?_) | (with_reducible refine wpList_load_rec Win.isRec rfl _ rfl gS 16 (by with_unfolding_all exact rfl) _ (Win.len _) (Ses.At.part_seen S3.out) ?_) | (with_reducible refine wpList_load_whole_w Ses.isRec (by kernel_rfl) _ rfl gS (by with_unfolding_all exact rfl) _ _ (Ses.len _) S3.out ?_))
    refine (CE.out w3).mono ?_
    rintro e4 w4 ⟨rfl, b4⟩
    have L4 : Hid (RowsAt w4 (.slice A l.length cap) 20 (l.map Ses.enc)) := Lib.hid (L3.out.below b4)
    have U4 : Hid (UsAt w4 (.slice C bn bc) busy) := Lib.hid (U3.out.below b4)
    have S4 : Hid (Ses.At w4 gS s) := Lib.hid (Whole.below S3.out b4 S3.out.lt)
    have B4 := Lib.hid (B3.out.trans (b4.mono B3.out.size))
    clear b4 L3 U3 S3 B3
    cases g2 with
    | true =>
      go_wp2
      go_ret
      exact ⟨rfl, B4.out⟩
    | false =>
      by_cases hb : 100 < bn
      · have d : decide ((100 : Int) < (bn : Int)) = true := by simp; omega
        go_wp2
        go_ret
        exact ⟨rfl, B4.out⟩
      · have d : decide ((100 : Int) < (bn : Int)) = false := by simp; omega
        have HBN : Hid (bn ≤ 100) := Lib.hid (by omega)
        have C1 := Lib.hid (fun w h hu => as_rows2 (tbAdd_any A l.length cap l C bn bc busy s w.heap.size w (Nat.le_refl _) (by omega) (by omega) h hu))
        have HNO := Lib.hid (fun h => addS_no (l := l) (busy := busy) (s := s) h)
        have HOK := Lib.hid (fun h => addS_ok (l := l) (busy := busy) (s := s) h)
        generalize addS l busy s = X at C1 HNO HOK
        obtain ⟨X, E⟩ := X
        simp only at C1 HNO HOK
        clear hb hl
        go_wp2_with (first | (with_reducible refine wpList_load_whole Ses.isRec rfl _ rfl gS (by with_unfolding_all exact rfl) _ _ (Ses.len _) S4.out ?_) | (with_reducible refine wpList_load_rec Ent.isRec rfl _ rfl gS 2 (by with_unfolding_all exact rfl) _ (Ent.len _) (Ses.At.part_peer S4.out) ?_) | (with_reducible refine wpList_load_rec Win.isRec rfl _ rfl gS 16 (by with_unfolding_all exact rfl) _ (Win.len _) (Ses.At.part_seen S4.out) ?_) | (with_reducible refine wpList_load_whole Ses.isRec rfl _ rfl gS (by with_unfolding_all exact rfl) _ _ (Ses.len _) S4.out ?_))
        refine (C1.out w4 L4.out U4.out).mono ?_
        rintro e5 w5 ⟨v1, rfl, y1, b5⟩
        have L5 : Hid (RowsAt w5 (.slice A l.length cap) 20 (l.map Ses.enc)) := Lib.hid (L4.out.below b5)
        have U5 : Hid (UsAt w5 (.slice C bn bc) busy) := Lib.hid (U4.out.below b5)
        have S5 : Hid (Ses.At w5 gS s) := Lib.hid (Whole.below S4.out b5 S4.out.lt)
        have B5 := Lib.hid (B4.out.trans (b5.mono B4.out.size))
        have PA5 : Hid (RowsAt w5 v1 20 (X.map Ses.enc)) := Lib.hid y1
        clear b5 L4 U4 S4 B4 y1
        clear C1 d
        by_cases hE : E = 0
        · obtain ⟨K, hX, hKp, hKl⟩ := HOK.out hE
          subst hE
          obtain ⟨p, hp⟩ : ∃ p, p = K.length := ⟨_, rfl⟩
          obtain ⟨nk, hnk⟩ : ∃ n, n = X.length := ⟨_, rfl⟩
          have hnp : nk = p + 1 := by rw [hnk, hX, hp]; simp
          have hs : X[p]? = some s := by rw [hX, hp]; simp
          obtain ⟨A', c', hv, -, -⟩ := id PA5.out
          rw [List.length_map, ← hnk] at hv
          subst hv
          obtain ⟨b', off', rfl, hcs, -⟩ := ses_cells PA5.out hs
          have HCS := Lib.hid hcs
          have HPA := PA5
          have HLL := L5
          have HUU := U5
          have BW := B5
          have HKP := Lib.hid hKp
          have HKX : Hid (∀ (a : Nat) (y : Ses), a < p → K[a]? = some y → X[a]? = some y) := Lib.hid (fun a y ha hy => by rw [hX, List.getElem?_append_left (by rw [← hp]; exact ha)]; exact hy)
          have HPP := Lib.hid hp
          have HPL : Hid (p ≤ 1000) := Lib.hid (by have := HL.out; omega)
          have e1 : ((nk : Int) == 0) = false := by rw [beq_eq_false_iff_ne]; omega
          have rS : IntKind.i64.wrap ((nk : Int) - 1) = (p : Int) := by rw [IntWalk.i64_in _ (by have := HL.out; omega)]; omega
          have jp : (p : Int) < (nk : Int) := by omega
          have HNK : Hid (nk = p + 1) := Lib.hid hnp
          have BZ := Lib.hid (Below.refl w5.heap.size w5)
          by_cases h24 : l.length < 24
          · have HJM : Hid ((l.length : Int) < 24) := Lib.hid (by omega)
            have d58 : decide ((24 : Int) < (nk : Int)) = false := by simp; omega
            clear h24 hX hKp hKl hp hnk hnp hs hcs HOK HNO
            go_wp2_with (first | (with_reducible refine wpList_load_whole Ses.isRec rfl _ rfl gS (by with_unfolding_all exact rfl) _ _ (Ses.len _) S5.out ?_) | (with_reducible refine wpList_load_rec Ent.isRec rfl _ rfl gS 2 (by with_unfolding_all exact rfl) _ (Ent.len _) (Ses.At.part_peer S5.out) ?_) | (with_reducible refine wpList_load_rec Win.isRec rfl _ rfl gS 16 (by with_unfolding_all exact rfl) _ (Win.len _) (Ses.At.part_seen S5.out) ?_))
            refine reg_begin (by kernel_rfl) fun w6 b6 z6 => ?_
            have L6 : Hid (RowsAt w6 (.slice A l.length cap) 20 (l.map Ses.enc)) := Lib.hid (L5.out.below b6)
            have U6 : Hid (UsAt w6 (.slice C bn bc) busy) := Lib.hid (U5.out.below b6)
            have S6 : Hid (Ses.At w6 gS s) := Lib.hid (Whole.below S5.out b6 S5.out.lt)
            have PA6 : Hid (RowsAt w6 (.slice (some ⟨b', off', none⟩) nk c') 20 (X.map Ses.enc)) := Lib.hid (PA5.out.below b6)
            have B6 := Lib.hid (BZ.out.trans (b6.mono BZ.out.size))
            clear b6 z6 L5 U5 S5 PA5 BZ
            refine reg_take (i := 0) (v := ?_) rfl (by kernel_rfl) (by kernel_rfl) (by kernel_rfl) (fun _ _ _ h => h) (by rfl) ?hy0 ?_
            case hy0 => intro w' hw'; go_simp; (try with_reducible rfl)
            simp only [Act.put, List.setIfInBounds_toArray, List.set_cons_zero, List.set_cons_succ]
            refine reg_take (i := 1) (v := ?_) rfl (by kernel_rfl) (by kernel_rfl) (by kernel_rfl) (fun _ _ _ h => h) (by rfl) ?hy1 ?_
            case hy1 => intro w' hw'; go_simp; (try with_reducible rfl)
            simp only [Act.put, List.setIfInBounds_toArray, List.set_cons_zero, List.set_cons_succ]
            refine reg_take (i := 2) (v := ?_) rfl (by kernel_rfl) (by kernel_rfl) (by kernel_rfl) (fun _ _ _ h => h) (by rfl) ?hy2 ?_
            case hy2 => intro w' hw'; go_simp; (try with_reducible rfl)
            simp only [Act.put, List.setIfInBounds_toArray, List.set_cons_zero, List.set_cons_succ]
            refine reg_take (i := 3) (v := ?_) rfl (by kernel_rfl) (by kernel_rfl) (by kernel_rfl) (fun _ _ _ h => h) (by rfl) ?hy3 ?_
            case hy3 => intro w' hw'; go_simp; (try with_reducible rfl)
            simp only [Act.put, List.setIfInBounds_toArray, List.set_cons_zero, List.set_cons_succ]
            refine reg_take (i := 4) (v := ?_) rfl (by kernel_rfl) (by kernel_rfl) (by kernel_rfl) (fun _ _ _ h => h) (by rfl) ?hy4 ?_
            case hy4 => intro w' hw'; go_simp; (try with_reducible rfl)
            simp only [Act.put, List.setIfInBounds_toArray, List.set_cons_zero, List.set_cons_succ]
            refine reg_take (i := 5) (v := ?_) rfl (by kernel_rfl) (by kernel_rfl) (by kernel_rfl) (fun _ _ _ h => h) (by rfl) ?hy5 ?_
            case hy5 => intro w' hw'; go_simp; (try with_reducible rfl)
            simp only [Act.put, List.setIfInBounds_toArray, List.set_cons_zero, List.set_cons_succ]
            refine reg_take (i := 6) (v := ?_) rfl (by kernel_rfl) (by kernel_rfl) (by kernel_rfl) (fun _ _ _ h => h) (by rfl) ?hy6 ?_
            case hy6 => intro w' hw'; go_simp; (try with_reducible rfl)
            simp only [Act.put, List.setIfInBounds_toArray, List.set_cons_zero, List.set_cons_succ]
            refine reg_take (i := 7) (v := ?_) rfl (by kernel_rfl) (by kernel_rfl) (by kernel_rfl) (fun _ _ _ h => h) (by rfl) ?hy7 ?_
            case hy7 => intro w' hw'; go_simp; (try with_reducible rfl)
            simp only [Act.put, List.setIfInBounds_toArray, List.set_cons_zero, List.set_cons_succ]
            refine reg_take (i := 8) (v := ?_) rfl (by kernel_rfl) (by kernel_rfl) (by kernel_rfl) (fun _ _ _ h => h) (by rfl) ?hy8 ?_
            case hy8 => intro w' hw'; go_simp; (try with_reducible rfl)
            simp only [Act.put, List.setIfInBounds_toArray, List.set_cons_zero, List.set_cons_succ]
            refine reg_take (i := 9) (v := s.val) rfl (by kernel_rfl) (by kernel_rfl) (by kernel_rfl) (fun _ _ _ h => h) (by rfl) ?hy9 ?_
            case hy9 => intro w' hw'; exact exec_load_rec Ses.isRec _ rfl b' (off' + p * 20) rfl _ (Ses.len _) w' (HCS.out w' (B6.out.trans (hw'.mono B6.out.size)))
            simp only [Act.put, List.setIfInBounds_toArray, List.set_cons_zero, List.set_cons_succ]
            refine reg_take (i := 10) (v := Ses.val (s)) rfl (by kernel_rfl) (by kernel_rfl) (by kernel_rfl) (fun _ _ _ h => h) (by rfl) ?hy10 ?_
            case hy10 => intro w' hw'; exact exec_load_whole Ses.isRec _ rfl gS rfl _ _ (Ses.len _) w' (Whole.below S6.out hw' S6.out.lt)
            simp only [Act.put, List.setIfInBounds_toArray, List.set_cons_zero, List.set_cons_succ]
            refine reg_take (i := 11) (v := .bool false) rfl (by kernel_rfl) (by kernel_rfl) (by kernel_rfl) (fun _ _ _ h => h) (by rfl) ?hy11 ?_
            case hy11 => intro w' hw'; exact exec_neq_rec Ses.isRec _ _ _ rfl s.enc s.enc (Ses.fits _) (Ses.fits _) rfl rfl false (by rw [eqCells_refl (Ses.fits _)]; rfl) w'
            simp only [Act.put, List.setIfInBounds_toArray, List.set_cons_zero, List.set_cons_succ]
            refine reg_take (i := 12) (v := ?_) rfl (by kernel_rfl) (by kernel_rfl) (by kernel_rfl) (fun _ _ _ h => h) (by rfl) ?hy12 ?_
            case hy12 => intro w' hw'; go_simp; (try with_reducible rfl)
            simp only [Act.put, List.setIfInBounds_toArray, List.set_cons_zero, List.set_cons_succ]
            refine reg_take (i := 13) (v := ?_) rfl (by kernel_rfl) (by kernel_rfl) (by kernel_rfl) (fun _ _ _ h => h) (by rfl) ?hy13 ?_
            case hy13 => intro w' hw'; go_simp; (try with_reducible rfl)
            simp only [Act.put, List.setIfInBounds_toArray, List.set_cons_zero, List.set_cons_succ]
            refine reg_take (i := 14) (v := ?_) rfl (by kernel_rfl) (by kernel_rfl) (by kernel_rfl) (fun _ _ _ h => h) (by rfl) ?hy14 ?_
            case hy14 => intro w' hw'; go_simp; (try with_reducible rfl)
            simp only [Act.put, List.setIfInBounds_toArray, List.set_cons_zero, List.set_cons_succ]
            refine reg_take (i := 15) (v := ?_) rfl (by kernel_rfl) (by kernel_rfl) (by kernel_rfl) (fun _ _ _ h => h) (by rfl) ?hy15 ?_
            case hy15 => intro w' hw'; go_simp; (try with_reducible rfl)
            simp only [Act.put, List.setIfInBounds_toArray, List.set_cons_zero, List.set_cons_succ]
            refine reg_take (i := 16) (v := ?_) rfl (by kernel_rfl) (by kernel_rfl) (by kernel_rfl) (fun _ _ _ h => h) (by rfl) ?hy16 ?_
            case hy16 => intro w' hw'; go_simp; (try with_reducible rfl)
            simp only [Act.put, List.setIfInBounds_toArray, List.set_cons_zero, List.set_cons_succ]
            refine reg_take (i := 17) (v := ?_) rfl (by kernel_rfl) (by kernel_rfl) (by kernel_rfl) (fun _ _ _ h => h) (by rfl) ?hy17 ?_
            case hy17 => intro w' hw'; go_simp; (try with_reducible rfl)
            simp only [Act.put, List.setIfInBounds_toArray, List.set_cons_zero, List.set_cons_succ]
            refine reg_take (i := 18) (v := .int .i64 24) rfl (by kernel_rfl) (by kernel_rfl) (by kernel_rfl) (fun _ _ _ h => h) (by rfl) ?hy18 ?_
            case hy18 => intro w' hw'; exact exec_max _ _ _ rfl (l.length : Int) 24 24 rfl rfl (if_pos HJM.out) w'
            simp only [Act.put, List.setIfInBounds_toArray, List.set_cons_zero, List.set_cons_succ]
            refine reg_take (i := 19) (v := ?_) rfl (by kernel_rfl) (by kernel_rfl) (by kernel_rfl) (fun _ _ _ h => h) (by rfl) ?hy19 ?_
            case hy19 => intro w' hw'; go_simp; (try with_reducible rfl)
            simp only [Act.put, List.setIfInBounds_toArray, List.set_cons_zero, List.set_cons_succ]
            refine reg_take (i := 20) (v := ?_) rfl (by kernel_rfl) (by kernel_rfl) (by kernel_rfl) (fun _ _ _ h => h) (by rfl) ?hy20 ?_
            case hy20 => intro w' hw'; go_simp; (try with_reducible rfl)
            simp only [Act.put, List.setIfInBounds_toArray, List.set_cons_zero, List.set_cons_succ]
            refine reg_end (by kernel_rfl) ?_
            clear HCS d58 HJM e1 jp
            go_wp2_with fail
            go_loopw [9, 62] (fun q i wr => ∃ (j a : Nat), j ≤ l.length ∧ i = .int .i64 (j : Int) ∧ q = .int .i64 (a : Int) ∧ Kp l K (freeP busy) j a ∧ Below w5.heap.size w5 wr) (fun _ i _ => l.length - (intOf i).toNat)
            case atStart => exact ⟨0, 0, Nat.zero_le _, rfl, rfl, HKP.out, B6.out⟩
            case round =>
              obtain ⟨j, a, hj, rfl, rfl, hkp, hb⟩ := hrel
              have HK := Lib.hid hkp
              have B0 := Lib.hid hb
              clear hkp hb HKP
              by_cases hlt : j < l.length
              · have dk : decide ((j : Int) < (l.length : Int)) = true := by simp; omega
                obtain ⟨x, hx⟩ : ∃ x, l[j]? = some x := ⟨_, List.getElem?_eq_getElem hlt⟩
                obtain ⟨b, off, rfl, hc, -⟩ := ses_cells HLL.out hx
                have HX := Lib.hid (hc wr B0.out)
                have HXX := Lib.hid hx
                have jk : (j : Int) < (l.length : Int) := by omega
                have r4 : IntKind.i64.wrap ((j : Int) + 1) = ((j + 1 : Nat) : Int) := by have := HL.out; rw [IntWalk.i64_in _ (by omega)]; omega
                have haj := HK.out.le
                have r9 : IntKind.i64.wrap ((a : Int) + 1) = ((a + 1 : Nat) : Int) := by have := HL.out; rw [IntWalk.i64_in _ (by omega)]; omega
                clear hc hx
                go_wp2_with (first | (refine wpList_alloc_row rfl 36 rfl Ses.zero.enc.toArray Ses.zero_is ?_) | (with_reducible refine wpList_load_rec Ses.isRec rfl _ rfl b (off + j * 20) (by with_unfolding_all exact rfl) x.enc (Ses.len _) HX.out ?_))
                intro w7 b7 x7 z7
                obtain ⟨gX, hgX⟩ : ∃ g, g = wr.heap.size := ⟨_, rfl⟩
                have M_X := Lib.hid (show w5.heap.size ≤ gX from by rw [hgX]; exact B0.out.size)
                have B7 := Lib.hid (B0.out.trans (b7.mono B0.out.size))
                rw [← hgX] at x7 ⊢
                have X7 : Hid (Ses.At w7 gX Ses.zero) := Lib.hid x7
                clear b7 x7 z7 hgX B0
                clear HX
                go_wp2_with (first | (with_reducible refine wpList_load_whole Ses.isRec rfl _ rfl gX (by with_unfolding_all exact rfl) _ _ (Ses.len _) X7.out ?_) | (with_reducible refine wpList_load_rec Ent.isRec rfl _ rfl gX 2 (by with_unfolding_all exact rfl) _ (Ent.len _) (Ses.At.part_peer X7.out) ?_) | (with_reducible refine wpList_load_rec Win.isRec rfl _ rfl gX 16 (by with_unfolding_all exact rfl) _ (Win.len _) (Ses.At.part_seen X7.out) ?_) | (with_reducible refine wpList_store_whole rfl 36 _ _ rfl gX x.enc.toArray (by with_unfolding_all exact rfl) (by with_unfolding_all exact rfl) _ _ X7.out (Ses.size _) rfl (Ses.one _) ?_))
                intro w8 q8 x8 z8
                have X8 : Hid (Ses.At w8 gX x) := Lib.hid x8
                have B8 := Lib.hid (B7.out.grown q8 B7.out.size (fun k hk => by injection hk with hk; have := M_X.out; omega))
                clear q8 x8 z8 X7 B7
                by_cases ha : a < p
                · have dA : decide ((a : Int) < (p : Int)) = true := by simp; omega
                  obtain ⟨y, hy⟩ : ∃ y, K[a]? = some y := ⟨_, List.getElem?_eq_getElem (by rw [← HPP.out]; exact ha)⟩
                  have HYK := Lib.hid hy
                  obtain ⟨b2, off2, hbo, hcy, -⟩ := ses_cells HPA.out (HKX.out a y ha hy)
                  injection hbo with hbo
                  injection hbo with hb1 hb2
                  subst hb1 hb2
                  have HY := Lib.hid hcy
                  have ja : (a : Int) < (nk : Int) := by have := HNK.out; omega
                  clear hcy hy
                  by_cases hxy : y = x
                  · have HV := Lib.hid (HK.out.hit HXX.out (by rw [HYK.out, hxy]))
                    go_wp2_with (first | (with_reducible refine wpList_load_whole Ses.isRec rfl _ rfl gX (by with_unfolding_all exact rfl) _ _ (Ses.len _) X8.out ?_) | (with_reducible refine wpList_load_rec Ent.isRec rfl _ rfl gX 2 (by with_unfolding_all exact rfl) _ (Ent.len _) (Ses.At.part_peer X8.out) ?_) | (with_reducible refine wpList_load_rec Win.isRec rfl _ rfl gX 16 (by with_unfolding_all exact rfl) _ (Win.len _) (Ses.At.part_seen X8.out) ?_))
                    refine reg_begin (by kernel_rfl) fun w9 b9 z9 => ?_
                    have X9 : Hid (Ses.At w9 gX x) := Lib.hid (Whole.below X8.out b9 X8.out.lt)
                    have B9 := Lib.hid (B8.out.trans (b9.mono B8.out.size))
                    clear b9 z9 X8 B8
                    refine reg_take (i := 0) (v := ?_) rfl (by kernel_rfl) (by kernel_rfl) (by kernel_rfl) (fun _ _ _ h => h) (by rfl) ?hy0 ?_
                    case hy0 => intro w' hw'; go_simp; (try with_reducible rfl)
                    simp only [Act.put, List.setIfInBounds_toArray, List.set_cons_zero, List.set_cons_succ]
                    refine reg_take (i := 1) (v := ?_) rfl (by kernel_rfl) (by kernel_rfl) (by kernel_rfl) (fun _ _ _ h => h) (by rfl) ?hy1 ?_
                    case hy1 => intro w' hw'; go_simp; (try with_reducible rfl)
                    simp only [Act.put, List.setIfInBounds_toArray, List.set_cons_zero, List.set_cons_succ]
                    refine reg_take (i := 2) (v := ?_) rfl (by kernel_rfl) (by kernel_rfl) (by kernel_rfl) (fun _ _ _ h => h) (by rfl) ?hy2 ?_
                    case hy2 => intro w' hw'; go_simp; (try with_reducible rfl)
                    simp only [Act.put, List.setIfInBounds_toArray, List.set_cons_zero, List.set_cons_succ]
                    refine reg_take (i := 3) (v := ?_) rfl (by kernel_rfl) (by kernel_rfl) (by kernel_rfl) (fun _ _ _ h => h) (by rfl) ?hy3 ?_
                    case hy3 => intro w' hw'; go_simp; (try with_reducible rfl)
                    simp only [Act.put, List.setIfInBounds_toArray, List.set_cons_zero, List.set_cons_succ]
                    refine reg_take (i := 4) (v := ?_) rfl (by kernel_rfl) (by kernel_rfl) (by kernel_rfl) (fun _ _ _ h => h) (by rfl) ?hy4 ?_
                    case hy4 => intro w' hw'; go_simp; (try with_reducible rfl)
                    simp only [Act.put, List.setIfInBounds_toArray, List.set_cons_zero, List.set_cons_succ]
                    refine reg_take (i := 5) (v := ?_) rfl (by kernel_rfl) (by kernel_rfl) (by kernel_rfl) (fun _ _ _ h => h) (by rfl) ?hy5 ?_
                    case hy5 => intro w' hw'; go_simp; (try with_reducible rfl)
                    simp only [Act.put, List.setIfInBounds_toArray, List.set_cons_zero, List.set_cons_succ]
                    refine reg_take (i := 6) (v := ?_) rfl (by kernel_rfl) (by kernel_rfl) (by kernel_rfl) (fun _ _ _ h => h) (by rfl) ?hy6 ?_
                    case hy6 => intro w' hw'; go_simp; (try with_reducible rfl)
                    simp only [Act.put, List.setIfInBounds_toArray, List.set_cons_zero, List.set_cons_succ]
                    refine reg_take (i := 7) (v := ?_) rfl (by kernel_rfl) (by kernel_rfl) (by kernel_rfl) (fun _ _ _ h => h) (by rfl) ?hy7 ?_
                    case hy7 => intro w' hw'; go_simp; (try with_reducible rfl)
                    simp only [Act.put, List.setIfInBounds_toArray, List.set_cons_zero, List.set_cons_succ]
                    refine reg_take (i := 8) (v := ?_) rfl (by kernel_rfl) (by kernel_rfl) (by kernel_rfl) (fun _ _ _ h => h) (by rfl) ?hy8 ?_
                    case hy8 => intro w' hw'; go_simp; (try with_reducible rfl)
                    simp only [Act.put, List.setIfInBounds_toArray, List.set_cons_zero, List.set_cons_succ]
                    refine reg_take (i := 9) (v := y.val) rfl (by kernel_rfl) (by kernel_rfl) (by kernel_rfl) (fun _ _ _ h => h) (by rfl) ?hy9 ?_
                    case hy9 => intro w' hw'; exact exec_load_rec Ses.isRec _ rfl b' (off' + a * 20) rfl _ (Ses.len _) w' (HY.out w' (B9.out.trans (hw'.mono B9.out.size)))
                    simp only [Act.put, List.setIfInBounds_toArray, List.set_cons_zero, List.set_cons_succ]
                    refine reg_take (i := 10) (v := Ses.val (x)) rfl (by kernel_rfl) (by kernel_rfl) (by kernel_rfl) (fun _ _ _ h => h) (by rfl) ?hy10 ?_
                    case hy10 => intro w' hw'; exact exec_load_whole Ses.isRec _ rfl gX rfl _ _ (Ses.len _) w' (Whole.below X9.out hw' X9.out.lt)
                    simp only [Act.put, List.setIfInBounds_toArray, List.set_cons_zero, List.set_cons_succ]
                    refine reg_take (i := 11) (v := .bool true) rfl (by kernel_rfl) (by kernel_rfl) (by kernel_rfl) (fun _ _ _ h => h) (by rfl) ?hy11 ?_
                    case hy11 => intro w' hw'; exact exec_eq_rec Ses.isRec _ _ _ rfl y.enc x.enc (Ses.fits _) (Ses.fits _) rfl rfl true (by rw [Ses.same, decide_eq_true hxy]) w'
                    simp only [Act.put, List.setIfInBounds_toArray, List.set_cons_zero, List.set_cons_succ]
                    refine reg_take (i := 12) (v := ?_) rfl (by kernel_rfl) (by kernel_rfl) (by kernel_rfl) (fun _ _ _ h => h) (by rfl) ?hy12 ?_
                    case hy12 => intro w' hw'; go_simp; (try with_reducible rfl)
                    simp only [Act.put, List.setIfInBounds_toArray, List.set_cons_zero, List.set_cons_succ]
                    refine reg_end (by kernel_rfl) ?_
                    go_wp2
                    exact ⟨⟨j + 1, a + 1, by omega, by go_num, by go_num, HV.out, B9.out⟩, by simp [intOf]; omega⟩
                  · have HMS := Lib.hid (HK.out.miss HXX.out (by rw [HYK.out]; intro e; injection e with e; exact hxy e))
                    go_wp2_with (first | (with_reducible refine wpList_load_whole Ses.isRec rfl _ rfl gX (by with_unfolding_all exact rfl) _ _ (Ses.len _) X8.out ?_) | (with_reducible refine wpList_load_rec Ent.isRec rfl _ rfl gX 2 (by with_unfolding_all exact rfl) _ (Ent.len _) (Ses.At.part_peer X8.out) ?_) | (with_reducible refine wpList_load_rec Win.isRec rfl _ rfl gX 16 (by with_unfolding_all exact rfl) _ (Win.len _) (Ses.At.part_seen X8.out) ?_))
                    refine reg_begin (by kernel_rfl) fun w9 b9 z9 => ?_
                    have X9 : Hid (Ses.At w9 gX x) := Lib.hid (Whole.below X8.out b9 X8.out.lt)
                    have B9 := Lib.hid (B8.out.trans (b9.mono B8.out.size))
                    clear b9 z9 X8 B8
                    refine reg_take (i := 0) (v := ?_) rfl (by kernel_rfl) (by kernel_rfl) (by kernel_rfl) (fun _ _ _ h => h) (by rfl) ?hy0 ?_
                    case hy0 => intro w' hw'; go_simp; (try with_reducible rfl)
                    simp only [Act.put, List.setIfInBounds_toArray, List.set_cons_zero, List.set_cons_succ]
                    refine reg_take (i := 1) (v := ?_) rfl (by kernel_rfl) (by kernel_rfl) (by kernel_rfl) (fun _ _ _ h => h) (by rfl) ?hy1 ?_
                    case hy1 => intro w' hw'; go_simp; (try with_reducible rfl)
                    simp only [Act.put, List.setIfInBounds_toArray, List.set_cons_zero, List.set_cons_succ]
                    refine reg_take (i := 2) (v := ?_) rfl (by kernel_rfl) (by kernel_rfl) (by kernel_rfl) (fun _ _ _ h => h) (by rfl) ?hy2 ?_
                    case hy2 => intro w' hw'; go_simp; (try with_reducible rfl)
                    simp only [Act.put, List.setIfInBounds_toArray, List.set_cons_zero, List.set_cons_succ]
                    refine reg_take (i := 3) (v := ?_) rfl (by kernel_rfl) (by kernel_rfl) (by kernel_rfl) (fun _ _ _ h => h) (by rfl) ?hy3 ?_
                    case hy3 => intro w' hw'; go_simp; (try with_reducible rfl)
                    simp only [Act.put, List.setIfInBounds_toArray, List.set_cons_zero, List.set_cons_succ]
                    refine reg_take (i := 4) (v := ?_) rfl (by kernel_rfl) (by kernel_rfl) (by kernel_rfl) (fun _ _ _ h => h) (by rfl) ?hy4 ?_
                    case hy4 => intro w' hw'; go_simp; (try with_reducible rfl)
                    simp only [Act.put, List.setIfInBounds_toArray, List.set_cons_zero, List.set_cons_succ]
                    refine reg_take (i := 5) (v := ?_) rfl (by kernel_rfl) (by kernel_rfl) (by kernel_rfl) (fun _ _ _ h => h) (by rfl) ?hy5 ?_
                    case hy5 => intro w' hw'; go_simp; (try with_reducible rfl)
                    simp only [Act.put, List.setIfInBounds_toArray, List.set_cons_zero, List.set_cons_succ]
                    refine reg_take (i := 6) (v := ?_) rfl (by kernel_rfl) (by kernel_rfl) (by kernel_rfl) (fun _ _ _ h => h) (by rfl) ?hy6 ?_
                    case hy6 => intro w' hw'; go_simp; (try with_reducible rfl)
                    simp only [Act.put, List.setIfInBounds_toArray, List.set_cons_zero, List.set_cons_succ]
                    refine reg_take (i := 7) (v := ?_) rfl (by kernel_rfl) (by kernel_rfl) (by kernel_rfl) (fun _ _ _ h => h) (by rfl) ?hy7 ?_
                    case hy7 => intro w' hw'; go_simp; (try with_reducible rfl)
                    simp only [Act.put, List.setIfInBounds_toArray, List.set_cons_zero, List.set_cons_succ]
                    refine reg_take (i := 8) (v := ?_) rfl (by kernel_rfl) (by kernel_rfl) (by kernel_rfl) (fun _ _ _ h => h) (by rfl) ?hy8 ?_
                    case hy8 => intro w' hw'; go_simp; (try with_reducible rfl)
                    simp only [Act.put, List.setIfInBounds_toArray, List.set_cons_zero, List.set_cons_succ]
                    refine reg_take (i := 9) (v := y.val) rfl (by kernel_rfl) (by kernel_rfl) (by kernel_rfl) (fun _ _ _ h => h) (by rfl) ?hy9 ?_
                    case hy9 => intro w' hw'; exact exec_load_rec Ses.isRec _ rfl b' (off' + a * 20) rfl _ (Ses.len _) w' (HY.out w' (B9.out.trans (hw'.mono B9.out.size)))
                    simp only [Act.put, List.setIfInBounds_toArray, List.set_cons_zero, List.set_cons_succ]
                    refine reg_take (i := 10) (v := Ses.val (x)) rfl (by kernel_rfl) (by kernel_rfl) (by kernel_rfl) (fun _ _ _ h => h) (by rfl) ?hy10 ?_
                    case hy10 => intro w' hw'; exact exec_load_whole Ses.isRec _ rfl gX rfl _ _ (Ses.len _) w' (Whole.below X9.out hw' X9.out.lt)
                    simp only [Act.put, List.setIfInBounds_toArray, List.set_cons_zero, List.set_cons_succ]
                    refine reg_take (i := 11) (v := .bool false) rfl (by kernel_rfl) (by kernel_rfl) (by kernel_rfl) (fun _ _ _ h => h) (by rfl) ?hy11 ?_
                    case hy11 => intro w' hw'; exact exec_eq_rec Ses.isRec _ _ _ rfl y.enc x.enc (Ses.fits _) (Ses.fits _) rfl rfl false (by rw [Ses.same, decide_eq_false hxy]) w'
                    simp only [Act.put, List.setIfInBounds_toArray, List.set_cons_zero, List.set_cons_succ]
                    refine reg_take (i := 12) (v := ?_) rfl (by kernel_rfl) (by kernel_rfl) (by kernel_rfl) (fun _ _ _ h => h) (by rfl) ?hy12 ?_
                    case hy12 => intro w' hw'; go_simp; (try with_reducible rfl)
                    simp only [Act.put, List.setIfInBounds_toArray, List.set_cons_zero, List.set_cons_succ]
                    refine reg_end (by kernel_rfl) ?_
                    have c1 := Ses.At.at_state X9.out
                    have c2 := Ses.At.at_id X9.out
                    have hf := HMS.out.1
                    rw [freeP, Bool.and_eq_true, decide_eq_true_eq, Bool.not_eq_true'] at hf
                    have e1 : (x.state == 1) = false := by rw [beq_eq_false_iff_ne]; exact hf.1
                    have HC := Lib.hid hf.2
                    have HUB := Lib.hid (HUU.out.below B9.out)
                    clear hf
                    go_wp2_with fail
                    go_loop [86] (fun i => ∃ k : Nat, k ≤ bn ∧ i = .int .i64 (k : Int)) (fun i => bn - (intOf i).toNat)
                    case atStart => exact ⟨0, Nat.zero_le _, rfl⟩
                    case round =>
                      obtain ⟨k, hk, rfl⟩ := hrel
                      by_cases hkn : k < bn
                      · have dn : decide ((k : Int) < (bn : Int)) = true := by simp; omega
                        have jn : (k : Int) < (bn : Int) := by omega
                        have hbn := HUB.out.size.1
                        obtain ⟨c, hc⟩ : ∃ c, busy[k]? = some c := ⟨_, List.getElem?_eq_getElem (by rw [← hbn]; exact hkn)⟩
                        obtain ⟨bu, offu, rfl, -, hcs⟩ := HUB.out.spots (by rintro rfl; simp at hc)
                        have c0 := hcs k c hc
                        have e2 : ((c : Int) == (x.id : Int)) = false := by
                          rw [beq_eq_false_iff_ne]
                          intro e
                          have e' : c = x.id := by omega
                          have := HC.out
                          rw [← e', List.contains_eq_mem, decide_eq_false_iff_not] at this
                          exact this (List.mem_of_getElem? hc)
                        have r6 : IntKind.i64.wrap ((k : Int) + 1) = ((k + 1 : Nat) : Int) := by have := HBN.out; rw [IntWalk.i64_in _ (by omega)]; omega
                        clear hcs hc hbn
                        go_wp2
                        exact ⟨⟨k + 1, by omega, by go_num⟩, by simp [intOf]; omega⟩
                      · have dn : decide ((k : Int) < (bn : Int)) = false := by simp; omega
                        go_wp2
                        exact ⟨⟨j + 1, a, by omega, by go_num, rfl, HMS.out.2, B9.out⟩, by simp [intOf]; omega⟩

                · have dA : decide ((a : Int) < (p : Int)) = false := by simp; omega
                  have HMS := Lib.hid (HK.out.miss HXX.out (by rw [List.getElem?_eq_none (by rw [← HPP.out]; omega)]; intro e; cases e))
                  go_wp2_with (first | (with_reducible refine wpList_load_whole Ses.isRec rfl _ rfl gX (by with_unfolding_all exact rfl) _ _ (Ses.len _) X8.out ?_) | (with_reducible refine wpList_load_rec Ent.isRec rfl _ rfl gX 2 (by with_unfolding_all exact rfl) _ (Ent.len _) (Ses.At.part_peer X8.out) ?_) | (with_reducible refine wpList_load_rec Win.isRec rfl _ rfl gX 16 (by with_unfolding_all exact rfl) _ (Win.len _) (Ses.At.part_seen X8.out) ?_))
                  refine reg_begin (by kernel_rfl) fun w9 b9 z9 => ?_
                  have X9 : Hid (Ses.At w9 gX x) := Lib.hid (Whole.below X8.out b9 X8.out.lt)
                  have B9 := Lib.hid (B8.out.trans (b9.mono B8.out.size))
                  clear b9 z9 X8 B8
                  refine reg_take (i := 0) (v := ?_) rfl (by kernel_rfl) (by kernel_rfl) (by kernel_rfl) (fun _ _ _ h => h) (by rfl) ?hy0 ?_
                  case hy0 => intro w' hw'; go_simp; (try with_reducible rfl)
                  simp only [Act.put, List.setIfInBounds_toArray, List.set_cons_zero, List.set_cons_succ]
                  refine reg_take (i := 1) (v := ?_) rfl (by kernel_rfl) (by kernel_rfl) (by kernel_rfl) (fun _ _ _ h => h) (by rfl) ?hy1 ?_
                  case hy1 => intro w' hw'; go_simp; (try with_reducible rfl)
                  simp only [Act.put, List.setIfInBounds_toArray, List.set_cons_zero, List.set_cons_succ]
                  refine reg_take (i := 2) (v := ?_) rfl (by kernel_rfl) (by kernel_rfl) (by kernel_rfl) (fun _ _ _ h => h) (by rfl) ?hy2 ?_
                  case hy2 => intro w' hw'; go_simp; (try with_reducible rfl)
                  simp only [Act.put, List.setIfInBounds_toArray, List.set_cons_zero, List.set_cons_succ]
                  refine reg_take (i := 3) (v := ?_) rfl (by kernel_rfl) (by kernel_rfl) (by kernel_rfl) (fun _ _ _ h => h) (by rfl) ?hy3 ?_
                  case hy3 => intro w' hw'; go_simp; (try with_reducible rfl)
                  simp only [Act.put, List.setIfInBounds_toArray, List.set_cons_zero, List.set_cons_succ]
                  refine reg_take (i := 4) (v := ?_) rfl (by kernel_rfl) (by kernel_rfl) (by kernel_rfl) (fun _ _ _ h => h) (by rfl) ?hy4 ?_
                  case hy4 => intro w' hw'; go_simp; (try with_reducible rfl)
                  simp only [Act.put, List.setIfInBounds_toArray, List.set_cons_zero, List.set_cons_succ]
                  refine reg_take (i := 5) (v := ?_) rfl (by kernel_rfl) (by kernel_rfl) (by kernel_rfl) (fun _ _ _ h => h) (by rfl) ?hy5 ?_
                  case hy5 => intro w' hw'; go_simp; (try with_reducible rfl)
                  simp only [Act.put, List.setIfInBounds_toArray, List.set_cons_zero, List.set_cons_succ]
                  refine reg_skip (i := 6) rfl (by kernel_rfl) (by kernel_rfl) (by kernel_rfl) (fun _ _ _ h => h) (by rfl) ?_
                  simp only [Act.put, List.setIfInBounds_toArray, List.set_cons_zero, List.set_cons_succ]
                  refine reg_skip (i := 7) rfl (by kernel_rfl) (by kernel_rfl) (by kernel_rfl) (fun _ _ _ h => h) (by rfl) ?_
                  simp only [Act.put, List.setIfInBounds_toArray, List.set_cons_zero, List.set_cons_succ]
                  refine reg_skip (i := 8) rfl (by kernel_rfl) (by kernel_rfl) (by kernel_rfl) (fun _ _ _ h => h) (by rfl) ?_
                  simp only [Act.put, List.setIfInBounds_toArray, List.set_cons_zero, List.set_cons_succ]
                  refine reg_skip (i := 9) rfl (by kernel_rfl) (by kernel_rfl) (by kernel_rfl) (fun _ _ _ h => h) (by rfl) ?_
                  simp only [Act.put, List.setIfInBounds_toArray, List.set_cons_zero, List.set_cons_succ]
                  refine reg_skip (i := 10) rfl (by kernel_rfl) (by kernel_rfl) (by kernel_rfl) (fun _ _ _ h => h) (by rfl) ?_
                  simp only [Act.put, List.setIfInBounds_toArray, List.set_cons_zero, List.set_cons_succ]
                  refine reg_skip (i := 11) rfl (by kernel_rfl) (by kernel_rfl) (by kernel_rfl) (fun _ _ _ h => h) (by rfl) ?_
                  simp only [Act.put, List.setIfInBounds_toArray, List.set_cons_zero, List.set_cons_succ]
                  refine reg_take (i := 12) (v := ?_) rfl (by kernel_rfl) (by kernel_rfl) (by kernel_rfl) (fun _ _ _ h => h) (by rfl) ?hy12 ?_
                  case hy12 => intro w' hw'; go_simp; (try with_reducible rfl)
                  simp only [Act.put, List.setIfInBounds_toArray, List.set_cons_zero, List.set_cons_succ]
                  refine reg_end (by kernel_rfl) ?_
                  have c1 := Ses.At.at_state X9.out
                  have c2 := Ses.At.at_id X9.out
                  have hf := HMS.out.1
                  rw [freeP, Bool.and_eq_true, decide_eq_true_eq, Bool.not_eq_true'] at hf
                  have e1 : (x.state == 1) = false := by rw [beq_eq_false_iff_ne]; exact hf.1
                  have HC := Lib.hid hf.2
                  have HUB := Lib.hid (HUU.out.below B9.out)
                  clear hf
                  go_wp2_with fail
                  go_loop [86] (fun i => ∃ k : Nat, k ≤ bn ∧ i = .int .i64 (k : Int)) (fun i => bn - (intOf i).toNat)
                  case atStart => exact ⟨0, Nat.zero_le _, rfl⟩
                  case round =>
                    obtain ⟨k, hk, rfl⟩ := hrel
                    by_cases hkn : k < bn
                    · have dn : decide ((k : Int) < (bn : Int)) = true := by simp; omega
                      have jn : (k : Int) < (bn : Int) := by omega
                      have hbn := HUB.out.size.1
                      obtain ⟨c, hc⟩ : ∃ c, busy[k]? = some c := ⟨_, List.getElem?_eq_getElem (by rw [← hbn]; exact hkn)⟩
                      obtain ⟨bu, offu, rfl, -, hcs⟩ := HUB.out.spots (by rintro rfl; simp at hc)
                      have c0 := hcs k c hc
                      have e2 : ((c : Int) == (x.id : Int)) = false := by
                        rw [beq_eq_false_iff_ne]
                        intro e
                        have e' : c = x.id := by omega
                        have := HC.out
                        rw [← e', List.contains_eq_mem, decide_eq_false_iff_not] at this
                        exact this (List.mem_of_getElem? hc)
                      have r6 : IntKind.i64.wrap ((k : Int) + 1) = ((k + 1 : Nat) : Int) := by have := HBN.out; rw [IntWalk.i64_in _ (by omega)]; omega
                      clear hcs hc hbn
                      go_wp2
                      exact ⟨⟨k + 1, by omega, by go_num⟩, by simp [intOf]; omega⟩
                    · have dn : decide ((k : Int) < (bn : Int)) = false := by simp; omega
                      go_wp2
                      exact ⟨⟨j + 1, a, by omega, by go_num, rfl, HMS.out.2, B9.out⟩, by simp [intOf]; omega⟩

              · have hjl : j = l.length := by omega
                have dk : decide ((j : Int) < (l.length : Int)) = false := by simp; omega
                have hfin := Kp.fin (by have := HK.out; rw [hjl] at this; exact this)
                rw [← HPP.out] at hfin
                have ea : ((a : Int) == (p : Int)) = true := by rw [beq_iff_eq]; omega
                have rL : IntKind.i64.wrap ((l.length : Int) - 1) = (l.length : Int) - 1 := by have := HL.out; exact IntWalk.i64_in _ (by omega)
                have dL : decide ((a : Int) ≥ (l.length : Int) - 1) = true := by simp; omega
                have dL' : decide ((l.length : Int) - 1 ≤ (a : Int)) = true := by simp; omega
                have dL2 : decide ((l.length : Int) ≤ (a : Int) + 1) = true := by simp; omega
                have BB := Lib.hid (BW.out.trans (B0.out.mono BW.out.size))
                clear hfin
                go_wp2
                go_ret
                exact ⟨rfl, BB.out⟩
          · have HJM : Hid ((24 : Int) ≤ (l.length : Int)) := Lib.hid (by omega)
            have d58 : decide ((l.length : Int) < (nk : Int)) = false := by simp; omega
            have d59 : decide (l.length < nk) = false := by rw [decide_eq_false_iff_not]; omega
            clear h24 hX hKp hKl hp hnk hnp hs hcs HOK HNO
            go_wp2_with (first | (with_reducible refine wpList_load_whole Ses.isRec rfl _ rfl gS (by with_unfolding_all exact rfl) _ _ (Ses.len _) S5.out ?_) | (with_reducible refine wpList_load_rec Ent.isRec rfl _ rfl gS 2 (by with_unfolding_all exact rfl) _ (Ent.len _) (Ses.At.part_peer S5.out) ?_) | (with_reducible refine wpList_load_rec Win.isRec rfl _ rfl gS 16 (by with_unfolding_all exact rfl) _ (Win.len _) (Ses.At.part_seen S5.out) ?_))
            refine reg_begin (by kernel_rfl) fun w6 b6 z6 => ?_
            have L6 : Hid (RowsAt w6 (.slice A l.length cap) 20 (l.map Ses.enc)) := Lib.hid (L5.out.below b6)
            have U6 : Hid (UsAt w6 (.slice C bn bc) busy) := Lib.hid (U5.out.below b6)
            have S6 : Hid (Ses.At w6 gS s) := Lib.hid (Whole.below S5.out b6 S5.out.lt)
            have PA6 : Hid (RowsAt w6 (.slice (some ⟨b', off', none⟩) nk c') 20 (X.map Ses.enc)) := Lib.hid (PA5.out.below b6)
            have B6 := Lib.hid (BZ.out.trans (b6.mono BZ.out.size))
            clear b6 z6 L5 U5 S5 PA5 BZ
            refine reg_take (i := 0) (v := ?_) rfl (by kernel_rfl) (by kernel_rfl) (by kernel_rfl) (fun _ _ _ h => h) (by rfl) ?hy0 ?_
            case hy0 => intro w' hw'; go_simp; (try with_reducible rfl)
            simp only [Act.put, List.setIfInBounds_toArray, List.set_cons_zero, List.set_cons_succ]
            refine reg_take (i := 1) (v := ?_) rfl (by kernel_rfl) (by kernel_rfl) (by kernel_rfl) (fun _ _ _ h => h) (by rfl) ?hy1 ?_
            case hy1 => intro w' hw'; go_simp; (try with_reducible rfl)
            simp only [Act.put, List.setIfInBounds_toArray, List.set_cons_zero, List.set_cons_succ]
            refine reg_take (i := 2) (v := ?_) rfl (by kernel_rfl) (by kernel_rfl) (by kernel_rfl) (fun _ _ _ h => h) (by rfl) ?hy2 ?_
            case hy2 => intro w' hw'; go_simp; (try with_reducible rfl)
            simp only [Act.put, List.setIfInBounds_toArray, List.set_cons_zero, List.set_cons_succ]
            refine reg_take (i := 3) (v := ?_) rfl (by kernel_rfl) (by kernel_rfl) (by kernel_rfl) (fun _ _ _ h => h) (by rfl) ?hy3 ?_
            case hy3 => intro w' hw'; go_simp; (try with_reducible rfl)
            simp only [Act.put, List.setIfInBounds_toArray, List.set_cons_zero, List.set_cons_succ]
            refine reg_take (i := 4) (v := ?_) rfl (by kernel_rfl) (by kernel_rfl) (by kernel_rfl) (fun _ _ _ h => h) (by rfl) ?hy4 ?_
            case hy4 => intro w' hw'; go_simp; (try with_reducible rfl)
            simp only [Act.put, List.setIfInBounds_toArray, List.set_cons_zero, List.set_cons_succ]
            refine reg_take (i := 5) (v := ?_) rfl (by kernel_rfl) (by kernel_rfl) (by kernel_rfl) (fun _ _ _ h => h) (by rfl) ?hy5 ?_
            case hy5 => intro w' hw'; go_simp; (try with_reducible rfl)
            simp only [Act.put, List.setIfInBounds_toArray, List.set_cons_zero, List.set_cons_succ]
            refine reg_take (i := 6) (v := ?_) rfl (by kernel_rfl) (by kernel_rfl) (by kernel_rfl) (fun _ _ _ h => h) (by rfl) ?hy6 ?_
            case hy6 => intro w' hw'; go_simp; (try with_reducible rfl)
            simp only [Act.put, List.setIfInBounds_toArray, List.set_cons_zero, List.set_cons_succ]
            refine reg_take (i := 7) (v := ?_) rfl (by kernel_rfl) (by kernel_rfl) (by kernel_rfl) (fun _ _ _ h => h) (by rfl) ?hy7 ?_
            case hy7 => intro w' hw'; go_simp; (try with_reducible rfl)
            simp only [Act.put, List.setIfInBounds_toArray, List.set_cons_zero, List.set_cons_succ]
            refine reg_take (i := 8) (v := ?_) rfl (by kernel_rfl) (by kernel_rfl) (by kernel_rfl) (fun _ _ _ h => h) (by rfl) ?hy8 ?_
            case hy8 => intro w' hw'; go_simp; (try with_reducible rfl)
            simp only [Act.put, List.setIfInBounds_toArray, List.set_cons_zero, List.set_cons_succ]
            refine reg_take (i := 9) (v := s.val) rfl (by kernel_rfl) (by kernel_rfl) (by kernel_rfl) (fun _ _ _ h => h) (by rfl) ?hy9 ?_
            case hy9 => intro w' hw'; exact exec_load_rec Ses.isRec _ rfl b' (off' + p * 20) rfl _ (Ses.len _) w' (HCS.out w' (B6.out.trans (hw'.mono B6.out.size)))
            simp only [Act.put, List.setIfInBounds_toArray, List.set_cons_zero, List.set_cons_succ]
            refine reg_take (i := 10) (v := Ses.val (s)) rfl (by kernel_rfl) (by kernel_rfl) (by kernel_rfl) (fun _ _ _ h => h) (by rfl) ?hy10 ?_
            case hy10 => intro w' hw'; exact exec_load_whole Ses.isRec _ rfl gS rfl _ _ (Ses.len _) w' (Whole.below S6.out hw' S6.out.lt)
            simp only [Act.put, List.setIfInBounds_toArray, List.set_cons_zero, List.set_cons_succ]
            refine reg_take (i := 11) (v := .bool false) rfl (by kernel_rfl) (by kernel_rfl) (by kernel_rfl) (fun _ _ _ h => h) (by rfl) ?hy11 ?_
            case hy11 => intro w' hw'; exact exec_neq_rec Ses.isRec _ _ _ rfl s.enc s.enc (Ses.fits _) (Ses.fits _) rfl rfl false (by rw [eqCells_refl (Ses.fits _)]; rfl) w'
            simp only [Act.put, List.setIfInBounds_toArray, List.set_cons_zero, List.set_cons_succ]
            refine reg_take (i := 12) (v := ?_) rfl (by kernel_rfl) (by kernel_rfl) (by kernel_rfl) (fun _ _ _ h => h) (by rfl) ?hy12 ?_
            case hy12 => intro w' hw'; go_simp; (try with_reducible rfl)
            simp only [Act.put, List.setIfInBounds_toArray, List.set_cons_zero, List.set_cons_succ]
            refine reg_take (i := 13) (v := ?_) rfl (by kernel_rfl) (by kernel_rfl) (by kernel_rfl) (fun _ _ _ h => h) (by rfl) ?hy13 ?_
            case hy13 => intro w' hw'; go_simp; (try with_reducible rfl)
            simp only [Act.put, List.setIfInBounds_toArray, List.set_cons_zero, List.set_cons_succ]
            refine reg_take (i := 14) (v := ?_) rfl (by kernel_rfl) (by kernel_rfl) (by kernel_rfl) (fun _ _ _ h => h) (by rfl) ?hy14 ?_
            case hy14 => intro w' hw'; go_simp; (try with_reducible rfl)
            simp only [Act.put, List.setIfInBounds_toArray, List.set_cons_zero, List.set_cons_succ]
            refine reg_take (i := 15) (v := ?_) rfl (by kernel_rfl) (by kernel_rfl) (by kernel_rfl) (fun _ _ _ h => h) (by rfl) ?hy15 ?_
            case hy15 => intro w' hw'; go_simp; (try with_reducible rfl)
            simp only [Act.put, List.setIfInBounds_toArray, List.set_cons_zero, List.set_cons_succ]
            refine reg_take (i := 16) (v := ?_) rfl (by kernel_rfl) (by kernel_rfl) (by kernel_rfl) (fun _ _ _ h => h) (by rfl) ?hy16 ?_
            case hy16 => intro w' hw'; go_simp; (try with_reducible rfl)
            simp only [Act.put, List.setIfInBounds_toArray, List.set_cons_zero, List.set_cons_succ]
            refine reg_take (i := 17) (v := ?_) rfl (by kernel_rfl) (by kernel_rfl) (by kernel_rfl) (fun _ _ _ h => h) (by rfl) ?hy17 ?_
            case hy17 => intro w' hw'; go_simp; (try with_reducible rfl)
            simp only [Act.put, List.setIfInBounds_toArray, List.set_cons_zero, List.set_cons_succ]
            refine reg_take (i := 18) (v := .int .i64 (l.length : Int)) rfl (by kernel_rfl) (by kernel_rfl) (by kernel_rfl) (fun _ _ _ h => h) (by rfl) ?hy18 ?_
            case hy18 => intro w' hw'; exact exec_max _ _ _ rfl (l.length : Int) 24 _ rfl rfl (if_neg (Int.not_lt.mpr HJM.out)) w'
            simp only [Act.put, List.setIfInBounds_toArray, List.set_cons_zero, List.set_cons_succ]
            refine reg_take (i := 19) (v := ?_) rfl (by kernel_rfl) (by kernel_rfl) (by kernel_rfl) (fun _ _ _ h => h) (by rfl) ?hy19 ?_
            case hy19 => intro w' hw'; go_simp; (try with_reducible rfl)
            simp only [Act.put, List.setIfInBounds_toArray, List.set_cons_zero, List.set_cons_succ]
            refine reg_take (i := 20) (v := ?_) rfl (by kernel_rfl) (by kernel_rfl) (by kernel_rfl) (fun _ _ _ h => h) (by rfl) ?hy20 ?_
            case hy20 => intro w' hw'; go_simp; (try with_reducible rfl)
            simp only [Act.put, List.setIfInBounds_toArray, List.set_cons_zero, List.set_cons_succ]
            refine reg_end (by kernel_rfl) ?_
            clear HCS d58 d59 HJM e1 jp
            go_wp2_with fail
            go_loopw [9, 62] (fun q i wr => ∃ (j a : Nat), j ≤ l.length ∧ i = .int .i64 (j : Int) ∧ q = .int .i64 (a : Int) ∧ Kp l K (freeP busy) j a ∧ Below w5.heap.size w5 wr) (fun _ i _ => l.length - (intOf i).toNat)
            case atStart => exact ⟨0, 0, Nat.zero_le _, rfl, rfl, HKP.out, B6.out⟩
            case round =>
              obtain ⟨j, a, hj, rfl, rfl, hkp, hb⟩ := hrel
              have HK := Lib.hid hkp
              have B0 := Lib.hid hb
              clear hkp hb HKP
              by_cases hlt : j < l.length
              · have dk : decide ((j : Int) < (l.length : Int)) = true := by simp; omega
                obtain ⟨x, hx⟩ : ∃ x, l[j]? = some x := ⟨_, List.getElem?_eq_getElem hlt⟩
                obtain ⟨b, off, rfl, hc, -⟩ := ses_cells HLL.out hx
                have HX := Lib.hid (hc wr B0.out)
                have HXX := Lib.hid hx
                have jk : (j : Int) < (l.length : Int) := by omega
                have r4 : IntKind.i64.wrap ((j : Int) + 1) = ((j + 1 : Nat) : Int) := by have := HL.out; rw [IntWalk.i64_in _ (by omega)]; omega
                have haj := HK.out.le
                have r9 : IntKind.i64.wrap ((a : Int) + 1) = ((a + 1 : Nat) : Int) := by have := HL.out; rw [IntWalk.i64_in _ (by omega)]; omega
                clear hc hx
                go_wp2_with (first | (refine wpList_alloc_row rfl 36 rfl Ses.zero.enc.toArray Ses.zero_is ?_) | (with_reducible refine wpList_load_rec Ses.isRec rfl _ rfl b (off + j * 20) (by with_unfolding_all exact rfl) x.enc (Ses.len _) HX.out ?_))
                intro w7 b7 x7 z7
                obtain ⟨gX, hgX⟩ : ∃ g, g = wr.heap.size := ⟨_, rfl⟩
                have M_X := Lib.hid (show w5.heap.size ≤ gX from by rw [hgX]; exact B0.out.size)
                have B7 := Lib.hid (B0.out.trans (b7.mono B0.out.size))
                rw [← hgX] at x7 ⊢
                have X7 : Hid (Ses.At w7 gX Ses.zero) := Lib.hid x7
                clear b7 x7 z7 hgX B0
                clear HX
                go_wp2_with (first | (with_reducible refine wpList_load_whole Ses.isRec rfl _ rfl gX (by with_unfolding_all exact rfl) _ _ (Ses.len _) X7.out ?_) | (with_reducible refine wpList_load_rec Ent.isRec rfl _ rfl gX 2 (by with_unfolding_all exact rfl) _ (Ent.len _) (Ses.At.part_peer X7.out) ?_) | (with_reducible refine wpList_load_rec Win.isRec rfl _ rfl gX 16 (by with_unfolding_all exact rfl) _ (Win.len _) (Ses.At.part_seen X7.out) ?_) | (with_reducible refine wpList_store_whole rfl 36 _ _ rfl gX x.enc.toArray (by with_unfolding_all exact rfl) (by with_unfolding_all exact rfl) _ _ X7.out (Ses.size _) rfl (Ses.one _) ?_))
                intro w8 q8 x8 z8
                have X8 : Hid (Ses.At w8 gX x) := Lib.hid x8
                have B8 := Lib.hid (B7.out.grown q8 B7.out.size (fun k hk => by injection hk with hk; have := M_X.out; omega))
                clear q8 x8 z8 X7 B7
                by_cases ha : a < p
                · have dA : decide ((a : Int) < (p : Int)) = true := by simp; omega
                  obtain ⟨y, hy⟩ : ∃ y, K[a]? = some y := ⟨_, List.getElem?_eq_getElem (by rw [← HPP.out]; exact ha)⟩
                  have HYK := Lib.hid hy
                  obtain ⟨b2, off2, hbo, hcy, -⟩ := ses_cells HPA.out (HKX.out a y ha hy)
                  injection hbo with hbo
                  injection hbo with hb1 hb2
                  subst hb1 hb2
                  have HY := Lib.hid hcy
                  have ja : (a : Int) < (nk : Int) := by have := HNK.out; omega
                  clear hcy hy
                  by_cases hxy : y = x
                  · have HV := Lib.hid (HK.out.hit HXX.out (by rw [HYK.out, hxy]))
                    go_wp2_with (first | (with_reducible refine wpList_load_whole Ses.isRec rfl _ rfl gX (by with_unfolding_all exact rfl) _ _ (Ses.len _) X8.out ?_) | (with_reducible refine wpList_load_rec Ent.isRec rfl _ rfl gX 2 (by with_unfolding_all exact rfl) _ (Ent.len _) (Ses.At.part_peer X8.out) ?_) | (with_reducible refine wpList_load_rec Win.isRec rfl _ rfl gX 16 (by with_unfolding_all exact rfl) _ (Win.len _) (Ses.At.part_seen X8.out) ?_))
                    refine reg_begin (by kernel_rfl) fun w9 b9 z9 => ?_
                    have X9 : Hid (Ses.At w9 gX x) := Lib.hid (Whole.below X8.out b9 X8.out.lt)
                    have B9 := Lib.hid (B8.out.trans (b9.mono B8.out.size))
                    clear b9 z9 X8 B8
                    refine reg_take (i := 0) (v := ?_) rfl (by kernel_rfl) (by kernel_rfl) (by kernel_rfl) (fun _ _ _ h => h) (by rfl) ?hy0 ?_
                    case hy0 => intro w' hw'; go_simp; (try with_reducible rfl)
                    simp only [Act.put, List.setIfInBounds_toArray, List.set_cons_zero, List.set_cons_succ]
                    refine reg_take (i := 1) (v := ?_) rfl (by kernel_rfl) (by kernel_rfl) (by kernel_rfl) (fun _ _ _ h => h) (by rfl) ?hy1 ?_
                    case hy1 => intro w' hw'; go_simp; (try with_reducible rfl)
                    simp only [Act.put, List.setIfInBounds_toArray, List.set_cons_zero, List.set_cons_succ]
                    refine reg_take (i := 2) (v := ?_) rfl (by kernel_rfl) (by kernel_rfl) (by kernel_rfl) (fun _ _ _ h => h) (by rfl) ?hy2 ?_
                    case hy2 => intro w' hw'; go_simp; (try with_reducible rfl)
                    simp only [Act.put, List.setIfInBounds_toArray, List.set_cons_zero, List.set_cons_succ]
                    refine reg_take (i := 3) (v := ?_) rfl (by kernel_rfl) (by kernel_rfl) (by kernel_rfl) (fun _ _ _ h => h) (by rfl) ?hy3 ?_
                    case hy3 => intro w' hw'; go_simp; (try with_reducible rfl)
                    simp only [Act.put, List.setIfInBounds_toArray, List.set_cons_zero, List.set_cons_succ]
                    refine reg_take (i := 4) (v := ?_) rfl (by kernel_rfl) (by kernel_rfl) (by kernel_rfl) (fun _ _ _ h => h) (by rfl) ?hy4 ?_
                    case hy4 => intro w' hw'; go_simp; (try with_reducible rfl)
                    simp only [Act.put, List.setIfInBounds_toArray, List.set_cons_zero, List.set_cons_succ]
                    refine reg_take (i := 5) (v := ?_) rfl (by kernel_rfl) (by kernel_rfl) (by kernel_rfl) (fun _ _ _ h => h) (by rfl) ?hy5 ?_
                    case hy5 => intro w' hw'; go_simp; (try with_reducible rfl)
                    simp only [Act.put, List.setIfInBounds_toArray, List.set_cons_zero, List.set_cons_succ]
                    refine reg_take (i := 6) (v := ?_) rfl (by kernel_rfl) (by kernel_rfl) (by kernel_rfl) (fun _ _ _ h => h) (by rfl) ?hy6 ?_
                    case hy6 => intro w' hw'; go_simp; (try with_reducible rfl)
                    simp only [Act.put, List.setIfInBounds_toArray, List.set_cons_zero, List.set_cons_succ]
                    refine reg_take (i := 7) (v := ?_) rfl (by kernel_rfl) (by kernel_rfl) (by kernel_rfl) (fun _ _ _ h => h) (by rfl) ?hy7 ?_
                    case hy7 => intro w' hw'; go_simp; (try with_reducible rfl)
                    simp only [Act.put, List.setIfInBounds_toArray, List.set_cons_zero, List.set_cons_succ]
                    refine reg_take (i := 8) (v := ?_) rfl (by kernel_rfl) (by kernel_rfl) (by kernel_rfl) (fun _ _ _ h => h) (by rfl) ?hy8 ?_
                    case hy8 => intro w' hw'; go_simp; (try with_reducible rfl)
                    simp only [Act.put, List.setIfInBounds_toArray, List.set_cons_zero, List.set_cons_succ]
                    refine reg_take (i := 9) (v := y.val) rfl (by kernel_rfl) (by kernel_rfl) (by kernel_rfl) (fun _ _ _ h => h) (by rfl) ?hy9 ?_
                    case hy9 => intro w' hw'; exact exec_load_rec Ses.isRec _ rfl b' (off' + a * 20) rfl _ (Ses.len _) w' (HY.out w' (B9.out.trans (hw'.mono B9.out.size)))
                    simp only [Act.put, List.setIfInBounds_toArray, List.set_cons_zero, List.set_cons_succ]
                    refine reg_take (i := 10) (v := Ses.val (x)) rfl (by kernel_rfl) (by kernel_rfl) (by kernel_rfl) (fun _ _ _ h => h) (by rfl) ?hy10 ?_
                    case hy10 => intro w' hw'; exact exec_load_whole Ses.isRec _ rfl gX rfl _ _ (Ses.len _) w' (Whole.below X9.out hw' X9.out.lt)
                    simp only [Act.put, List.setIfInBounds_toArray, List.set_cons_zero, List.set_cons_succ]
                    refine reg_take (i := 11) (v := .bool true) rfl (by kernel_rfl) (by kernel_rfl) (by kernel_rfl) (fun _ _ _ h => h) (by rfl) ?hy11 ?_
                    case hy11 => intro w' hw'; exact exec_eq_rec Ses.isRec _ _ _ rfl y.enc x.enc (Ses.fits _) (Ses.fits _) rfl rfl true (by rw [Ses.same, decide_eq_true hxy]) w'
                    simp only [Act.put, List.setIfInBounds_toArray, List.set_cons_zero, List.set_cons_succ]
                    refine reg_take (i := 12) (v := ?_) rfl (by kernel_rfl) (by kernel_rfl) (by kernel_rfl) (fun _ _ _ h => h) (by rfl) ?hy12 ?_
                    case hy12 => intro w' hw'; go_simp; (try with_reducible rfl)
                    simp only [Act.put, List.setIfInBounds_toArray, List.set_cons_zero, List.set_cons_succ]
                    refine reg_end (by kernel_rfl) ?_
                    go_wp2
                    exact ⟨⟨j + 1, a + 1, by omega, by go_num, by go_num, HV.out, B9.out⟩, by simp [intOf]; omega⟩
                  · have HMS := Lib.hid (HK.out.miss HXX.out (by rw [HYK.out]; intro e; injection e with e; exact hxy e))
                    go_wp2_with (first | (with_reducible refine wpList_load_whole Ses.isRec rfl _ rfl gX (by with_unfolding_all exact rfl) _ _ (Ses.len _) X8.out ?_) | (with_reducible refine wpList_load_rec Ent.isRec rfl _ rfl gX 2 (by with_unfolding_all exact rfl) _ (Ent.len _) (Ses.At.part_peer X8.out) ?_) | (with_reducible refine wpList_load_rec Win.isRec rfl _ rfl gX 16 (by with_unfolding_all exact rfl) _ (Win.len _) (Ses.At.part_seen X8.out) ?_))
                    refine reg_begin (by kernel_rfl) fun w9 b9 z9 => ?_
                    have X9 : Hid (Ses.At w9 gX x) := Lib.hid (Whole.below X8.out b9 X8.out.lt)
                    have B9 := Lib.hid (B8.out.trans (b9.mono B8.out.size))
                    clear b9 z9 X8 B8
                    refine reg_take (i := 0) (v := ?_) rfl (by kernel_rfl) (by kernel_rfl) (by kernel_rfl) (fun _ _ _ h => h) (by rfl) ?hy0 ?_
                    case hy0 => intro w' hw'; go_simp; (try with_reducible rfl)
                    simp only [Act.put, List.setIfInBounds_toArray, List.set_cons_zero, List.set_cons_succ]
                    refine reg_take (i := 1) (v := ?_) rfl (by kernel_rfl) (by kernel_rfl) (by kernel_rfl) (fun _ _ _ h => h) (by rfl) ?hy1 ?_
                    case hy1 => intro w' hw'; go_simp; (try with_reducible rfl)
                    simp only [Act.put, List.setIfInBounds_toArray, List.set_cons_zero, List.set_cons_succ]
                    refine reg_take (i := 2) (v := ?_) rfl (by kernel_rfl) (by kernel_rfl) (by kernel_rfl) (fun _ _ _ h => h) (by rfl) ?hy2 ?_
                    case hy2 => intro w' hw'; go_simp; (try with_reducible rfl)
                    simp only [Act.put, List.setIfInBounds_toArray, List.set_cons_zero, List.set_cons_succ]
                    refine reg_take (i := 3) (v := ?_) rfl (by kernel_rfl) (by kernel_rfl) (by kernel_rfl) (fun _ _ _ h => h) (by rfl) ?hy3 ?_
                    case hy3 => intro w' hw'; go_simp; (try with_reducible rfl)
                    simp only [Act.put, List.setIfInBounds_toArray, List.set_cons_zero, List.set_cons_succ]
                    refine reg_take (i := 4) (v := ?_) rfl (by kernel_rfl) (by kernel_rfl) (by kernel_rfl) (fun _ _ _ h => h) (by rfl) ?hy4 ?_
                    case hy4 => intro w' hw'; go_simp; (try with_reducible rfl)
                    simp only [Act.put, List.setIfInBounds_toArray, List.set_cons_zero, List.set_cons_succ]
                    refine reg_take (i := 5) (v := ?_) rfl (by kernel_rfl) (by kernel_rfl) (by kernel_rfl) (fun _ _ _ h => h) (by rfl) ?hy5 ?_
                    case hy5 => intro w' hw'; go_simp; (try with_reducible rfl)
                    simp only [Act.put, List.setIfInBounds_toArray, List.set_cons_zero, List.set_cons_succ]
                    refine reg_take (i := 6) (v := ?_) rfl (by kernel_rfl) (by kernel_rfl) (by kernel_rfl) (fun _ _ _ h => h) (by rfl) ?hy6 ?_
                    case hy6 => intro w' hw'; go_simp; (try with_reducible rfl)
                    simp only [Act.put, List.setIfInBounds_toArray, List.set_cons_zero, List.set_cons_succ]
                    refine reg_take (i := 7) (v := ?_) rfl (by kernel_rfl) (by kernel_rfl) (by kernel_rfl) (fun _ _ _ h => h) (by rfl) ?hy7 ?_
                    case hy7 => intro w' hw'; go_simp; (try with_reducible rfl)
                    simp only [Act.put, List.setIfInBounds_toArray, List.set_cons_zero, List.set_cons_succ]
                    refine reg_take (i := 8) (v := ?_) rfl (by kernel_rfl) (by kernel_rfl) (by kernel_rfl) (fun _ _ _ h => h) (by rfl) ?hy8 ?_
                    case hy8 => intro w' hw'; go_simp; (try with_reducible rfl)
                    simp only [Act.put, List.setIfInBounds_toArray, List.set_cons_zero, List.set_cons_succ]
                    refine reg_take (i := 9) (v := y.val) rfl (by kernel_rfl) (by kernel_rfl) (by kernel_rfl) (fun _ _ _ h => h) (by rfl) ?hy9 ?_
                    case hy9 => intro w' hw'; exact exec_load_rec Ses.isRec _ rfl b' (off' + a * 20) rfl _ (Ses.len _) w' (HY.out w' (B9.out.trans (hw'.mono B9.out.size)))
                    simp only [Act.put, List.setIfInBounds_toArray, List.set_cons_zero, List.set_cons_succ]
                    refine reg_take (i := 10) (v := Ses.val (x)) rfl (by kernel_rfl) (by kernel_rfl) (by kernel_rfl) (fun _ _ _ h => h) (by rfl) ?hy10 ?_
                    case hy10 => intro w' hw'; exact exec_load_whole Ses.isRec _ rfl gX rfl _ _ (Ses.len _) w' (Whole.below X9.out hw' X9.out.lt)
                    simp only [Act.put, List.setIfInBounds_toArray, List.set_cons_zero, List.set_cons_succ]
                    refine reg_take (i := 11) (v := .bool false) rfl (by kernel_rfl) (by kernel_rfl) (by kernel_rfl) (fun _ _ _ h => h) (by rfl) ?hy11 ?_
                    case hy11 => intro w' hw'; exact exec_eq_rec Ses.isRec _ _ _ rfl y.enc x.enc (Ses.fits _) (Ses.fits _) rfl rfl false (by rw [Ses.same, decide_eq_false hxy]) w'
                    simp only [Act.put, List.setIfInBounds_toArray, List.set_cons_zero, List.set_cons_succ]
                    refine reg_take (i := 12) (v := ?_) rfl (by kernel_rfl) (by kernel_rfl) (by kernel_rfl) (fun _ _ _ h => h) (by rfl) ?hy12 ?_
                    case hy12 => intro w' hw'; go_simp; (try with_reducible rfl)
                    simp only [Act.put, List.setIfInBounds_toArray, List.set_cons_zero, List.set_cons_succ]
                    refine reg_end (by kernel_rfl) ?_
                    have c1 := Ses.At.at_state X9.out
                    have c2 := Ses.At.at_id X9.out
                    have hf := HMS.out.1
                    rw [freeP, Bool.and_eq_true, decide_eq_true_eq, Bool.not_eq_true'] at hf
                    have e1 : (x.state == 1) = false := by rw [beq_eq_false_iff_ne]; exact hf.1
                    have HC := Lib.hid hf.2
                    have HUB := Lib.hid (HUU.out.below B9.out)
                    clear hf
                    go_wp2_with fail
                    go_loop [86] (fun i => ∃ k : Nat, k ≤ bn ∧ i = .int .i64 (k : Int)) (fun i => bn - (intOf i).toNat)
                    case atStart => exact ⟨0, Nat.zero_le _, rfl⟩
                    case round =>
                      obtain ⟨k, hk, rfl⟩ := hrel
                      by_cases hkn : k < bn
                      · have dn : decide ((k : Int) < (bn : Int)) = true := by simp; omega
                        have jn : (k : Int) < (bn : Int) := by omega
                        have hbn := HUB.out.size.1
                        obtain ⟨c, hc⟩ : ∃ c, busy[k]? = some c := ⟨_, List.getElem?_eq_getElem (by rw [← hbn]; exact hkn)⟩
                        obtain ⟨bu, offu, rfl, -, hcs⟩ := HUB.out.spots (by rintro rfl; simp at hc)
                        have c0 := hcs k c hc
                        have e2 : ((c : Int) == (x.id : Int)) = false := by
                          rw [beq_eq_false_iff_ne]
                          intro e
                          have e' : c = x.id := by omega
                          have := HC.out
                          rw [← e', List.contains_eq_mem, decide_eq_false_iff_not] at this
                          exact this (List.mem_of_getElem? hc)
                        have r6 : IntKind.i64.wrap ((k : Int) + 1) = ((k + 1 : Nat) : Int) := by have := HBN.out; rw [IntWalk.i64_in _ (by omega)]; omega
                        clear hcs hc hbn
                        go_wp2
                        exact ⟨⟨k + 1, by omega, by go_num⟩, by simp [intOf]; omega⟩
                      · have dn : decide ((k : Int) < (bn : Int)) = false := by simp; omega
                        go_wp2
                        exact ⟨⟨j + 1, a, by omega, by go_num, rfl, HMS.out.2, B9.out⟩, by simp [intOf]; omega⟩

                · have dA : decide ((a : Int) < (p : Int)) = false := by simp; omega
                  have HMS := Lib.hid (HK.out.miss HXX.out (by rw [List.getElem?_eq_none (by rw [← HPP.out]; omega)]; intro e; cases e))
                  go_wp2_with (first | (with_reducible refine wpList_load_whole Ses.isRec rfl _ rfl gX (by with_unfolding_all exact rfl) _ _ (Ses.len _) X8.out ?_) | (with_reducible refine wpList_load_rec Ent.isRec rfl _ rfl gX 2 (by with_unfolding_all exact rfl) _ (Ent.len _) (Ses.At.part_peer X8.out) ?_) | (with_reducible refine wpList_load_rec Win.isRec rfl _ rfl gX 16 (by with_unfolding_all exact rfl) _ (Win.len _) (Ses.At.part_seen X8.out) ?_))
                  refine reg_begin (by kernel_rfl) fun w9 b9 z9 => ?_
                  have X9 : Hid (Ses.At w9 gX x) := Lib.hid (Whole.below X8.out b9 X8.out.lt)
                  have B9 := Lib.hid (B8.out.trans (b9.mono B8.out.size))
                  clear b9 z9 X8 B8
                  refine reg_take (i := 0) (v := ?_) rfl (by kernel_rfl) (by kernel_rfl) (by kernel_rfl) (fun _ _ _ h => h) (by rfl) ?hy0 ?_
                  case hy0 => intro w' hw'; go_simp; (try with_reducible rfl)
                  simp only [Act.put, List.setIfInBounds_toArray, List.set_cons_zero, List.set_cons_succ]
                  refine reg_take (i := 1) (v := ?_) rfl (by kernel_rfl) (by kernel_rfl) (by kernel_rfl) (fun _ _ _ h => h) (by rfl) ?hy1 ?_
                  case hy1 => intro w' hw'; go_simp; (try with_reducible rfl)
                  simp only [Act.put, List.setIfInBounds_toArray, List.set_cons_zero, List.set_cons_succ]
                  refine reg_take (i := 2) (v := ?_) rfl (by kernel_rfl) (by kernel_rfl) (by kernel_rfl) (fun _ _ _ h => h) (by rfl) ?hy2 ?_
                  case hy2 => intro w' hw'; go_simp; (try with_reducible rfl)
                  simp only [Act.put, List.setIfInBounds_toArray, List.set_cons_zero, List.set_cons_succ]
                  refine reg_take (i := 3) (v := ?_) rfl (by kernel_rfl) (by kernel_rfl) (by kernel_rfl) (fun _ _ _ h => h) (by rfl) ?hy3 ?_
                  case hy3 => intro w' hw'; go_simp; (try with_reducible rfl)
                  simp only [Act.put, List.setIfInBounds_toArray, List.set_cons_zero, List.set_cons_succ]
                  refine reg_take (i := 4) (v := ?_) rfl (by kernel_rfl) (by kernel_rfl) (by kernel_rfl) (fun _ _ _ h => h) (by rfl) ?hy4 ?_
                  case hy4 => intro w' hw'; go_simp; (try with_reducible rfl)
                  simp only [Act.put, List.setIfInBounds_toArray, List.set_cons_zero, List.set_cons_succ]
                  refine reg_take (i := 5) (v := ?_) rfl (by kernel_rfl) (by kernel_rfl) (by kernel_rfl) (fun _ _ _ h => h) (by rfl) ?hy5 ?_
                  case hy5 => intro w' hw'; go_simp; (try with_reducible rfl)
                  simp only [Act.put, List.setIfInBounds_toArray, List.set_cons_zero, List.set_cons_succ]
                  refine reg_skip (i := 6) rfl (by kernel_rfl) (by kernel_rfl) (by kernel_rfl) (fun _ _ _ h => h) (by rfl) ?_
                  simp only [Act.put, List.setIfInBounds_toArray, List.set_cons_zero, List.set_cons_succ]
                  refine reg_skip (i := 7) rfl (by kernel_rfl) (by kernel_rfl) (by kernel_rfl) (fun _ _ _ h => h) (by rfl) ?_
                  simp only [Act.put, List.setIfInBounds_toArray, List.set_cons_zero, List.set_cons_succ]
                  refine reg_skip (i := 8) rfl (by kernel_rfl) (by kernel_rfl) (by kernel_rfl) (fun _ _ _ h => h) (by rfl) ?_
                  simp only [Act.put, List.setIfInBounds_toArray, List.set_cons_zero, List.set_cons_succ]
                  refine reg_skip (i := 9) rfl (by kernel_rfl) (by kernel_rfl) (by kernel_rfl) (fun _ _ _ h => h) (by rfl) ?_
                  simp only [Act.put, List.setIfInBounds_toArray, List.set_cons_zero, List.set_cons_succ]
                  refine reg_skip (i := 10) rfl (by kernel_rfl) (by kernel_rfl) (by kernel_rfl) (fun _ _ _ h => h) (by rfl) ?_
                  simp only [Act.put, List.setIfInBounds_toArray, List.set_cons_zero, List.set_cons_succ]
                  refine reg_skip (i := 11) rfl (by kernel_rfl) (by kernel_rfl) (by kernel_rfl) (fun _ _ _ h => h) (by rfl) ?_
                  simp only [Act.put, List.setIfInBounds_toArray, List.set_cons_zero, List.set_cons_succ]
                  refine reg_take (i := 12) (v := ?_) rfl (by kernel_rfl) (by kernel_rfl) (by kernel_rfl) (fun _ _ _ h => h) (by rfl) ?hy12 ?_
                  case hy12 => intro w' hw'; go_simp; (try with_reducible rfl)
                  simp only [Act.put, List.setIfInBounds_toArray, List.set_cons_zero, List.set_cons_succ]
                  refine reg_end (by kernel_rfl) ?_
                  have c1 := Ses.At.at_state X9.out
                  have c2 := Ses.At.at_id X9.out
                  have hf := HMS.out.1
                  rw [freeP, Bool.and_eq_true, decide_eq_true_eq, Bool.not_eq_true'] at hf
                  have e1 : (x.state == 1) = false := by rw [beq_eq_false_iff_ne]; exact hf.1
                  have HC := Lib.hid hf.2
                  have HUB := Lib.hid (HUU.out.below B9.out)
                  clear hf
                  go_wp2_with fail
                  go_loop [86] (fun i => ∃ k : Nat, k ≤ bn ∧ i = .int .i64 (k : Int)) (fun i => bn - (intOf i).toNat)
                  case atStart => exact ⟨0, Nat.zero_le _, rfl⟩
                  case round =>
                    obtain ⟨k, hk, rfl⟩ := hrel
                    by_cases hkn : k < bn
                    · have dn : decide ((k : Int) < (bn : Int)) = true := by simp; omega
                      have jn : (k : Int) < (bn : Int) := by omega
                      have hbn := HUB.out.size.1
                      obtain ⟨c, hc⟩ : ∃ c, busy[k]? = some c := ⟨_, List.getElem?_eq_getElem (by rw [← hbn]; exact hkn)⟩
                      obtain ⟨bu, offu, rfl, -, hcs⟩ := HUB.out.spots (by rintro rfl; simp at hc)
                      have c0 := hcs k c hc
                      have e2 : ((c : Int) == (x.id : Int)) = false := by
                        rw [beq_eq_false_iff_ne]
                        intro e
                        have e' : c = x.id := by omega
                        have := HC.out
                        rw [← e', List.contains_eq_mem, decide_eq_false_iff_not] at this
                        exact this (List.mem_of_getElem? hc)
                      have r6 : IntKind.i64.wrap ((k : Int) + 1) = ((k + 1 : Nat) : Int) := by have := HBN.out; rw [IntWalk.i64_in _ (by omega)]; omega
                      clear hcs hc hbn
                      go_wp2
                      exact ⟨⟨k + 1, by omega, by go_num⟩, by simp [intOf]; omega⟩
                    · have dn : decide ((k : Int) < (bn : Int)) = false := by simp; omega
                      go_wp2
                      exact ⟨⟨j + 1, a, by omega, by go_num, rfl, HMS.out.2, B9.out⟩, by simp [intOf]; omega⟩

              · have hjl : j = l.length := by omega
                have dk : decide ((j : Int) < (l.length : Int)) = false := by simp; omega
                have hfin := Kp.fin (by have := HK.out; rw [hjl] at this; exact this)
                rw [← HPP.out] at hfin
                have ea : ((a : Int) == (p : Int)) = true := by rw [beq_iff_eq]; omega
                have rL : IntKind.i64.wrap ((l.length : Int) - 1) = (l.length : Int) - 1 := by have := HL.out; exact IntWalk.i64_in _ (by omega)
                have dL : decide ((a : Int) ≥ (l.length : Int) - 1) = true := by simp; omega
                have dL' : decide ((l.length : Int) - 1 ≤ (a : Int)) = true := by simp; omega
                have dL2 : decide ((l.length : Int) ≤ (a : Int) + 1) = true := by simp; omega
                have BB := Lib.hid (BW.out.trans (B0.out.mono BW.out.size))
                clear hfin
                go_wp2
                go_ret
                exact ⟨rfl, BB.out⟩
        · have e : (E != 0) = true := by rw [bne_iff_ne]; exact hE
          have hXl : l = X := (HNO.out hE).symm
          subst hXl
          clear HOK HNO hE
          go_wp2_with (first | (with_reducible refine wpList_load_whole Ses.isRec rfl _ rfl gS (by with_unfolding_all exact rfl) _ _ (Ses.len _) S5.out ?_) | (with_reducible refine wpList_load_rec Ent.isRec rfl _ rfl gS 2 (by with_unfolding_all exact rfl) _ (Ent.len _) (Ses.At.part_peer S5.out) ?_) | (with_reducible refine wpList_load_rec Win.isRec rfl _ rfl gS 16 (by with_unfolding_all exact rfl) _ (Win.len _) (Ses.At.part_seen S5.out) ?_))
          refine (refSameV_any v1 _ l w5 (by have := HL.out; omega) PA5.out L5.out).mono ?_
          rintro e6 w6 ⟨rfl, b6⟩
          have L6 : Hid (RowsAt w6 (.slice A l.length cap) 20 (l.map Ses.enc)) := Lib.hid (L5.out.below b6)
          have U6 : Hid (UsAt w6 (.slice C bn bc) busy) := Lib.hid (U5.out.below b6)
          have S6 : Hid (Ses.At w6 gS s) := Lib.hid (Whole.below S5.out b6 S5.out.lt)
          have PA6 : Hid (RowsAt w6 v1 20 (l.map Ses.enc)) := Lib.hid (PA5.out.below b6)
          have B6 := Lib.hid (B5.out.trans (b6.mono B5.out.size))
          clear b6 L5 U5 S5 PA5 B5
          go_wp2
          go_ret
          exact ⟨rfl, B6.out⟩
end Go.Proofs.Ytjohlnpalcmhbaa
