/- TokenValids' core: over what package token answers. -/
import Derived.Test.YtghehomcabckcaaDoorGx
import Derived.Test.YtghehomcabckcaaDoorGb
namespace Go.Proofs.YtghehomcabckcaaDoor
open Go.RowKit

theorem cut_great {e : Ent} (h : greatB e = false) : e.name.length ≤ 1000 ∧ e.tag.length ≤ 1000 := by
  simp only [greatB, Bool.or_eq_false_iff, decide_eq_false_iff_not] at h
  omega

set_option maxRecDepth 100000 in
set_option maxHeartbeats 4000000 in
theorem tokValids_core (H : TokenIs) (gi : Int) (gk : List UInt8) (a : Ent) (now : Int) (hi : a.id < 18446744073709551616) (w : World) (T : Tab w) :
    Calls Tryd.prog 3 #[gateV gi gk, a.val, .int .i64 now] w fun e w' => e = .returned (.bool true) ∧ Below w.heap.size w w' := by
  have HH := Lib.hid H
  have T0 := Lib.hid T
  have HI := Lib.hid hi
  obtain ⟨gn, hgn⟩ : ∃ q, q = decide (1000 < gk.length) := ⟨_, rfl⟩
  obtain ⟨ga, hga⟩ : ∃ q, q = greatB a := ⟨_, rfl⟩
  have CA := fun w => Lib.hid (great_any a w)
  simp only [← hga] at CA
  have r0 : decide ((1000 : Int) < (gk.length : Int)) = gn := by rw [hgn]; congr 1; apply propext; omega
  have r0n := hgn.symm
  have HG := Lib.hid (And.intro hgn hga)
  have hv : a.val = .agg a.cells := rfl
  have hg0 : gateV gi gk = .agg (gateC gi gk) := rfl
  rw [hv, hg0]
  clear hgn hga hv hg0 H T hi
  go_enter Tryd.func3, Tryd.ntmps3
  go_wp2_with (refine wpList_box_row rfl 23 (.tmp 0) rfl (gateC gi gk) rfl ?_)
  intro w1 b1 x1 z1
  have X1 : Hid (GateAt w1 w.heap.size gi gk) := Lib.hid x1
  have B1 := Lib.hid b1
  clear b1 x1 z1
  go_wp2_with (refine wpList_box_row rfl 26 _ rfl a.cells rfl ?_)
  intro w2 b2 x2 z2
  have X2 : Hid (GateAt w2 w.heap.size gi gk) := Lib.hid (Whole.below X1.out b2 X1.out.lt)
  have Y2 : Hid (EntAt w2 w1.heap.size a) := Lib.hid x2
  have B2 := Lib.hid (B1.out.trans (b2.mono B1.out.size))
  obtain ⟨g, hg⟩ : ∃ g, g = w.heap.size := ⟨_, rfl⟩
  rw [← hg] at X2 ⊢
  obtain ⟨x, hx⟩ : ∃ x, x = w1.heap.size := ⟨_, rfl⟩
  rw [← hx] at Y2 ⊢
  clear b2 x2 z2 X1 B1 hg hx
  obtain ⟨g0, g1⟩ := X2.out.two
  cases gn with
  | true =>
    go_wp2_with fail
    refine (works13 HH.out w2 (T0.out.below B2.out T0.out.pos)).mono ?_
    rintro e wf ⟨rfl, hb⟩
    have BF := Lib.hid (B2.out.trans (hb.mono B2.out.size))
    clear hb
    go_wp2
    go_ret
    exact ⟨rfl, BF.out⟩
  | false =>
    obtain ⟨a0, a1, a2, a3, a4, a5⟩ := Y2.out.six
    go_wp2_with fail
    refine (CA w2).out.mono ?_
    rintro e w3 ⟨rfl, hb⟩
    have X3 : Hid (GateAt w3 g gi gk) := Lib.hid (Whole.below X2.out hb X2.out.lt)
    have Y3 : Hid (EntAt w3 x a) := Lib.hid (Whole.below Y2.out hb Y2.out.lt)
    have B3 := Lib.hid (B2.out.trans (hb.mono B2.out.size))
    clear hb X2 Y2 B2 CA g0 g1 a0 a1 a2 a3 a4 a5
    cases ga with
    | true =>
      go_wp2_with fail
      refine (works13 HH.out w3 (T0.out.below B3.out T0.out.pos)).mono ?_
      rintro e wf ⟨rfl, hb⟩
      have BF := Lib.hid (B3.out.trans (hb.mono B3.out.size))
      clear hb
      go_wp2
      go_ret
      exact ⟨rfl, BF.out⟩
    | false =>
      have LA := Lib.hid (cut_great HG.out.2.symm)
      have LK := Lib.hid (show gk.length ≤ 4000 by have q := HG.out.1; simp at q; omega)
      clear r0 r0n
      go_wp2_with fail
      refine reg_begin (by kernel_rfl) fun w4 hb hz => ?_
      have X4 : Hid (GateAt w4 g gi gk) := Lib.hid (Whole.below X3.out hb X3.out.lt)
      have Y4 : Hid (EntAt w4 x a) := Lib.hid (Whole.below Y3.out hb Y3.out.lt)
      have B4 := Lib.hid (B3.out.trans (hb.mono B3.out.size))
      clear hb hz X3 Y3 B3
      refine reg_take (i := 0) (v := ?_) rfl (by kernel_rfl) (by kernel_rfl) (by kernel_rfl) (fun _ _ _ h => h) (by rfl) ?hy0 ?_
      case hy0 => intro w' hw'; go_simp; (try with_reducible rfl)
      simp only [Act.put, List.setIfInBounds_toArray, List.set_cons_zero, List.set_cons_succ]
      refine reg_take (i := 4) (v := ?_) rfl (by kernel_rfl) (by kernel_rfl) (by kernel_rfl) (fun _ _ _ h => h) (by rfl) ?hy4 ?_
      case hy4 => intro w' hw'; go_simp; (try with_reducible rfl)
      simp only [Act.put, List.setIfInBounds_toArray, List.set_cons_zero, List.set_cons_succ]
      refine reg_take (i := 1) (v := .string ⟨gk.toArray⟩) rfl (by kernel_rfl) (by kernel_rfl) (by kernel_rfl) (fun _ _ _ h => h) (by rfl) ?hy1 ?_
      case hy1 => intro w' hw'; have c := (GateAt.two (Whole.below X4.out hw' X4.out.lt)).2; go_simp; (try with_reducible rfl)
      simp only [Act.put, List.setIfInBounds_toArray, List.set_cons_zero, List.set_cons_succ]
      refine reg_take (i := 5) (v := .string ⟨gk.toArray⟩) rfl (by kernel_rfl) (by kernel_rfl) (by kernel_rfl) (fun _ _ _ h => h) (by rfl) ?hy5 ?_
      case hy5 => intro w' hw'; have c := (GateAt.two (Whole.below X4.out hw' X4.out.lt)).2; go_simp; (try with_reducible rfl)
      simp only [Act.put, List.setIfInBounds_toArray, List.set_cons_zero, List.set_cons_succ]
      refine reg_take (i := 2) (v := a.val) rfl (by kernel_rfl) (by kernel_rfl) (by kernel_rfl) (fun _ _ _ h => h) (by rfl) ?hy2 ?_
      case hy2 => intro w' hw'; exact exec_load_ent _ rfl x rfl a w' (Whole.below Y4.out hw' Y4.out.lt)
      simp only [Act.put, List.setIfInBounds_toArray, List.set_cons_zero, List.set_cons_succ]
      refine reg_take (i := 6) (v := a.val) rfl (by kernel_rfl) (by kernel_rfl) (by kernel_rfl) (fun _ _ _ h => h) (by rfl) ?hy6 ?_
      case hy6 => intro w' hw'; exact exec_load_ent _ rfl x rfl a w' (Whole.below Y4.out hw' Y4.out.lt)
      simp only [Act.put, List.setIfInBounds_toArray, List.set_cons_zero, List.set_cons_succ]
      refine reg_call (i := 3) rfl (by kernel_rfl) (fun K' hK => ?_)
      go_simp
      refine (HH.out.sign gk a w4 LK.out LA.out.1 HI.out (T0.out.below B4.out T0.out.pos)).mono ?_
      rintro e w5 ⟨rfl, hb⟩
      have X5 : Hid (GateAt w5 g gi gk) := Lib.hid (Whole.below X4.out hb X4.out.lt)
      have Y5 : Hid (EntAt w5 x a) := Lib.hid (Whole.below Y4.out hb Y4.out.lt)
      have B5 := Lib.hid (B4.out.trans (hb.mono B4.out.size))
      refine hK.out _ _ hb ?_
      clear hK K' hb X4 Y4 B4
      refine reg_call (i := 7) rfl (by kernel_rfl) (fun K' hK => ?_)
      go_simp
      refine (refSign_any gk a LK.out LA.out.1 HI.out w5).mono ?_
      rintro e w6 ⟨rfl, hb⟩
      have X6 : Hid (GateAt w6 g gi gk) := Lib.hid (Whole.below X5.out hb X5.out.lt)
      have Y6 : Hid (EntAt w6 x a) := Lib.hid (Whole.below Y5.out hb Y5.out.lt)
      have B6 := Lib.hid (B5.out.trans (hb.mono B5.out.size))
      refine hK.out _ _ hb ?_
      clear hK K' hb X5 Y5 B5
      refine reg_take (i := 8) (v := .bool true) rfl (by kernel_rfl) (by kernel_rfl) (by kernel_rfl) (fun _ _ _ h => h) (by rfl) ?hy8 ?_
      case hy8 => intro w' hw'; exact exec_eq_ent _ _ _ rfl (signE gk a) (signE gk a) rfl rfl true (by simp) w'
      simp only [Act.put, List.setIfInBounds_toArray, List.set_cons_zero, List.set_cons_succ]
      refine reg_take (i := 9) (v := ?_) rfl (by kernel_rfl) (by kernel_rfl) (by kernel_rfl) (fun _ _ _ h => h) (by rfl) ?hy9 ?_
      case hy9 => intro w' hw'; go_simp; (try with_reducible rfl)
      simp only [Act.put, List.setIfInBounds_toArray, List.set_cons_zero, List.set_cons_succ]
      refine reg_take (i := 10) (v := ?_) rfl (by kernel_rfl) (by kernel_rfl) (by kernel_rfl) (fun _ _ _ h => h) (by rfl) ?hy10 ?_
      case hy10 => intro w' hw'; go_simp; (try with_reducible rfl)
      simp only [Act.put, List.setIfInBounds_toArray, List.set_cons_zero, List.set_cons_succ]
      refine reg_take (i := 14) (v := ?_) rfl (by kernel_rfl) (by kernel_rfl) (by kernel_rfl) (fun _ _ _ h => h) (by rfl) ?hy14 ?_
      case hy14 => intro w' hw'; go_simp; (try with_reducible rfl)
      simp only [Act.put, List.setIfInBounds_toArray, List.set_cons_zero, List.set_cons_succ]
      refine reg_take (i := 11) (v := .string ⟨gk.toArray⟩) rfl (by kernel_rfl) (by kernel_rfl) (by kernel_rfl) (fun _ _ _ h => h) (by rfl) ?hy11 ?_
      case hy11 => intro w' hw'; have c := (GateAt.two (Whole.below X6.out hw' X6.out.lt)).2; go_simp; (try with_reducible rfl)
      simp only [Act.put, List.setIfInBounds_toArray, List.set_cons_zero, List.set_cons_succ]
      refine reg_take (i := 15) (v := .string ⟨gk.toArray⟩) rfl (by kernel_rfl) (by kernel_rfl) (by kernel_rfl) (fun _ _ _ h => h) (by rfl) ?hy15 ?_
      case hy15 => intro w' hw'; have c := (GateAt.two (Whole.below X6.out hw' X6.out.lt)).2; go_simp; (try with_reducible rfl)
      simp only [Act.put, List.setIfInBounds_toArray, List.set_cons_zero, List.set_cons_succ]
      refine reg_take (i := 12) (v := a.val) rfl (by kernel_rfl) (by kernel_rfl) (by kernel_rfl) (fun _ _ _ h => h) (by rfl) ?hy12 ?_
      case hy12 => intro w' hw'; exact exec_load_ent _ rfl x rfl a w' (Whole.below Y6.out hw' Y6.out.lt)
      simp only [Act.put, List.setIfInBounds_toArray, List.set_cons_zero, List.set_cons_succ]
      refine reg_take (i := 16) (v := a.val) rfl (by kernel_rfl) (by kernel_rfl) (by kernel_rfl) (fun _ _ _ h => h) (by rfl) ?hy16 ?_
      case hy16 => intro w' hw'; exact exec_load_ent _ rfl x rfl a w' (Whole.below Y6.out hw' Y6.out.lt)
      simp only [Act.put, List.setIfInBounds_toArray, List.set_cons_zero, List.set_cons_succ]
      refine reg_call (i := 13) rfl (by kernel_rfl) (fun K' hK => ?_)
      go_simp
      refine (HH.out.check gk a w6 LK.out LA.out.1 LA.out.2 HI.out (T0.out.below B6.out T0.out.pos)).mono ?_
      rintro e w7 ⟨rfl, hb⟩
      have X7 : Hid (GateAt w7 g gi gk) := Lib.hid (Whole.below X6.out hb X6.out.lt)
      have Y7 : Hid (EntAt w7 x a) := Lib.hid (Whole.below Y6.out hb Y6.out.lt)
      have B7 := Lib.hid (B6.out.trans (hb.mono B6.out.size))
      refine hK.out _ _ hb ?_
      clear hK K' hb X6 Y6 B6
      refine reg_call (i := 17) rfl (by kernel_rfl) (fun K' hK => ?_)
      go_simp
      refine (refCheckT_any gk a LK.out LA.out.1 HI.out w7).mono ?_
      rintro e w8 ⟨rfl, hb⟩
      have X8 : Hid (GateAt w8 g gi gk) := Lib.hid (Whole.below X7.out hb X7.out.lt)
      have Y8 : Hid (EntAt w8 x a) := Lib.hid (Whole.below Y7.out hb Y7.out.lt)
      have B8 := Lib.hid (B7.out.trans (hb.mono B7.out.size))
      refine hK.out _ _ hb ?_
      clear hK K' hb X7 Y7 B7
      refine reg_take (i := 18) (v := ?_) rfl (by kernel_rfl) (by kernel_rfl) (by kernel_rfl) (fun _ _ _ h => h) (by rfl) ?hy18 ?_
      case hy18 => intro w' hw'; go_simp; (try with_reducible rfl)
      simp only [Act.put, List.setIfInBounds_toArray, List.set_cons_zero, List.set_cons_succ]
      refine reg_take (i := 19) (v := ?_) rfl (by kernel_rfl) (by kernel_rfl) (by kernel_rfl) (fun _ _ _ h => h) (by rfl) ?hy19 ?_
      case hy19 => intro w' hw'; go_simp; (try with_reducible rfl)
      simp only [Act.put, List.setIfInBounds_toArray, List.set_cons_zero, List.set_cons_succ]
      refine reg_take (i := 20) (v := ?_) rfl (by kernel_rfl) (by kernel_rfl) (by kernel_rfl) (fun _ _ _ h => h) (by rfl) ?hy20 ?_
      case hy20 => intro w' hw'; go_simp; (try with_reducible rfl)
      simp only [Act.put, List.setIfInBounds_toArray, List.set_cons_zero, List.set_cons_succ]
      refine reg_take (i := 21) (v := gateV gi gk) rfl (by kernel_rfl) (by kernel_rfl) (by kernel_rfl) (fun _ _ _ h => h) (by rfl) ?hy21 ?_
      case hy21 => intro w' hw'; exact exec_load_gate _ rfl g rfl gi gk w' (Whole.below X8.out hw' X8.out.lt)
      simp only [Act.put, List.setIfInBounds_toArray, List.set_cons_zero, List.set_cons_succ]
      refine reg_take (i := 25) (v := gateV gi gk) rfl (by kernel_rfl) (by kernel_rfl) (by kernel_rfl) (fun _ _ _ h => h) (by rfl) ?hy25 ?_
      case hy25 => intro w' hw'; exact exec_load_gate _ rfl g rfl gi gk w' (Whole.below X8.out hw' X8.out.lt)
      simp only [Act.put, List.setIfInBounds_toArray, List.set_cons_zero, List.set_cons_succ]
      refine reg_take (i := 22) (v := a.val) rfl (by kernel_rfl) (by kernel_rfl) (by kernel_rfl) (fun _ _ _ h => h) (by rfl) ?hy22 ?_
      case hy22 => intro w' hw'; exact exec_load_ent _ rfl x rfl a w' (Whole.below Y8.out hw' Y8.out.lt)
      simp only [Act.put, List.setIfInBounds_toArray, List.set_cons_zero, List.set_cons_succ]
      refine reg_take (i := 26) (v := a.val) rfl (by kernel_rfl) (by kernel_rfl) (by kernel_rfl) (fun _ _ _ h => h) (by rfl) ?hy26 ?_
      case hy26 => intro w' hw'; exact exec_load_ent _ rfl x rfl a w' (Whole.below Y8.out hw' Y8.out.lt)
      simp only [Act.put, List.setIfInBounds_toArray, List.set_cons_zero, List.set_cons_succ]
      refine reg_take (i := 23) (v := ?_) rfl (by kernel_rfl) (by kernel_rfl) (by kernel_rfl) (fun _ _ _ h => h) (by rfl) ?hy23 ?_
      case hy23 => intro w' hw'; go_simp; (try with_reducible rfl)
      simp only [Act.put, List.setIfInBounds_toArray, List.set_cons_zero, List.set_cons_succ]
      refine reg_take (i := 27) (v := ?_) rfl (by kernel_rfl) (by kernel_rfl) (by kernel_rfl) (fun _ _ _ h => h) (by rfl) ?hy27 ?_
      case hy27 => intro w' hw'; go_simp; (try with_reducible rfl)
      simp only [Act.put, List.setIfInBounds_toArray, List.set_cons_zero, List.set_cons_succ]
      refine reg_call (i := 24) rfl (by kernel_rfl) (fun K' hK => ?_)
      go_simp
      refine (HH.out.valid gi gk a now w8 LK.out LA.out.1 LA.out.2 HI.out (T0.out.below B8.out T0.out.pos)).mono ?_
      rintro e w9 ⟨rfl, hb⟩
      have X9 : Hid (GateAt w9 g gi gk) := Lib.hid (Whole.below X8.out hb X8.out.lt)
      have Y9 : Hid (EntAt w9 x a) := Lib.hid (Whole.below Y8.out hb Y8.out.lt)
      have B9 := Lib.hid (B8.out.trans (hb.mono B8.out.size))
      refine hK.out _ _ hb ?_
      clear hK K' hb X8 Y8 B8
      refine reg_call (i := 28) rfl (by kernel_rfl) (fun K' hK => ?_)
      go_simp
      refine (refValid_any gi gk a now LK.out LA.out.1 HI.out w9).mono ?_
      rintro e w10 ⟨rfl, hb⟩
      have X10 : Hid (GateAt w10 g gi gk) := Lib.hid (Whole.below X9.out hb X9.out.lt)
      have Y10 : Hid (EntAt w10 x a) := Lib.hid (Whole.below Y9.out hb Y9.out.lt)
      have B10 := Lib.hid (B9.out.trans (hb.mono B9.out.size))
      refine hK.out _ _ hb ?_
      clear hK K' hb X9 Y9 B9
      refine reg_take (i := 29) (v := ?_) rfl (by kernel_rfl) (by kernel_rfl) (by kernel_rfl) (fun _ _ _ h => h) (by rfl) ?hy29 ?_
      case hy29 => intro w' hw'; go_simp; (try with_reducible rfl)
      simp only [Act.put, List.setIfInBounds_toArray, List.set_cons_zero, List.set_cons_succ]
      refine reg_take (i := 30) (v := ?_) rfl (by kernel_rfl) (by kernel_rfl) (by kernel_rfl) (fun _ _ _ h => h) (by rfl) ?hy30 ?_
      case hy30 => intro w' hw'; go_simp; (try with_reducible rfl)
      simp only [Act.put, List.setIfInBounds_toArray, List.set_cons_zero, List.set_cons_succ]
      refine reg_take (i := 31) (v := ?_) rfl (by kernel_rfl) (by kernel_rfl) (by kernel_rfl) (fun _ _ _ h => h) (by rfl) ?hy31 ?_
      case hy31 => intro w' hw'; go_simp; (try with_reducible rfl)
      simp only [Act.put, List.setIfInBounds_toArray, List.set_cons_zero, List.set_cons_succ]
      refine reg_call (i := 32) rfl (by kernel_rfl) (fun K' hK => ?_)
      go_simp
      refine (works13 HH.out w10 (T0.out.below B10.out T0.out.pos)).mono ?_
      rintro e w11 ⟨rfl, hb⟩
      have X11 : Hid (GateAt w11 g gi gk) := Lib.hid (Whole.below X10.out hb X10.out.lt)
      have Y11 : Hid (EntAt w11 x a) := Lib.hid (Whole.below Y10.out hb Y10.out.lt)
      have B11 := Lib.hid (B10.out.trans (hb.mono B10.out.size))
      refine hK.out _ _ hb ?_
      clear hK K' hb X10 Y10 B10
      refine reg_take (i := 33) (v := ?_) rfl (by kernel_rfl) (by kernel_rfl) (by kernel_rfl) (fun _ _ _ h => h) (by rfl) ?hy33 ?_
      case hy33 => intro w' hw'; go_simp; (try with_reducible rfl)
      simp only [Act.put, List.setIfInBounds_toArray, List.set_cons_zero, List.set_cons_succ]
      refine reg_take (i := 34) (v := ?_) rfl (by kernel_rfl) (by kernel_rfl) (by kernel_rfl) (fun _ _ _ h => h) (by rfl) ?hy34 ?_
      case hy34 => intro w' hw'; go_simp; (try with_reducible rfl)
      simp only [Act.put, List.setIfInBounds_toArray, List.set_cons_zero, List.set_cons_succ]
      refine reg_end (by kernel_rfl) ?_
      clear X11 Y11
      go_wp2
      go_ret
      exact ⟨rfl, B11.out⟩
end Go.Proofs.YtghehomcabckcaaDoor
