/- What package poly's rest answers. -/
import Derived.Test.YtbdcligpbogkjaaPoP
namespace Go.Proofs.Ytbdcligpbogkjaa
open Go.RowKit

set_option maxRecDepth 100000 in
set_option maxHeartbeats 4000000 in
theorem rest_any (l : List Nat) (hl : l.length = 5) (hu : Under l (2 ^ 62)) (w : World) :
    Calls Try.prog 17 #[.agg (uv l)] w fun e w' => e = .returned (.agg (uv (restL l))) ∧ Below w.heap.size w w' := by
  have LL := Lib.hid hl
  have S5 := Lib.hid (size_of5 l hl)
  have Z5 := Lib.hid (same5 [0, 0, 0, 0, 0] l rfl hl)
  have LM := (moreL_length l).trans hl
  have SM := Lib.hid (size_of5 _ LM)
  have x1 := hu 0
  have uM : Under (moreL l) (2 ^ 63) := (hu.mono (by decide)).set _ _ (by have := hu 0; omega)
  have o1 := overN_lt (moreL l) uM
  have CM := fun w => Lib.hid (carry_any (moreL l) LM uM w)
  have LC := (carryL_length (moreL l)).trans LM
  have SC := Lib.hid (size_of5 _ LC)
  have ZC := Lib.hid (same5 [0, 0, 0, 0, 0] _ rfl LC)
  have uN : Under (l.set 0 (l.getD 0 0 + overN (moreL l) * 5)) (2 ^ 63) := (hu.mono (by decide)).set _ _ (by have := hu 0; omega)
  have LN : (l.set 0 (l.getD 0 0 + overN (moreL l) * 5)).length = 5 := (List.length_set ..).trans hl
  have CN := fun w => Lib.hid (carry_any _ LN uN w)
  have SN := Lib.hid (size_of5 _ LN)
  have LR : (restL l).length = 5 := (restL_length l).trans hl
  have SR := Lib.hid (size_of5 _ LR)
  have ZR := Lib.hid (same5 [0, 0, 0, 0, 0] _ rfl LR)
  have ZN := Lib.hid (same5 _ (restL l) LN LR)
  have ER : carryL (l.set 0 (l.getD 0 0 + overN (moreL l) * 5)) = restL l := rfl
  rw [ER] at CN
  have EM : Hid (l.set 0 (l.getD 0 0 + 5) = moreL l) := Lib.hid rfl
  clear ER uN uM LM LC LN LR
  obtain ⟨R, hR⟩ : ∃ R, R = restL l := ⟨_, rfl⟩
  rw [← hR] at CN SR ZR ZN
  have HR := Lib.hid hR
  obtain ⟨C, hC⟩ : ∃ C, C = carryL (moreL l) := ⟨_, rfl⟩
  rw [← hC] at CM SC ZC
  obtain ⟨o, ho⟩ : ∃ o, o = overN (moreL l) := ⟨_, rfl⟩
  simp only [← ho] at o1 CM CN SN ZN
  obtain ⟨M, hM⟩ : ∃ M, M = moreL l := ⟨_, rfl⟩
  rw [← hM] at EM CM SM
  obtain ⟨x, hx⟩ : ∃ x, x = l.getD 0 0 := ⟨_, rfl⟩
  rw [← hx] at x1 EM
  simp only [← hx] at CN SN ZN
  obtain ⟨m, hm⟩ : ∃ m, m = x + 5 := ⟨_, rfl⟩
  rw [← hm] at EM
  obtain ⟨p, hp⟩ : ∃ p, p = o * 5 := ⟨_, rfl⟩
  simp only [← hp] at CN SN ZN
  obtain ⟨y, hy⟩ : ∃ y, y = x + p := ⟨_, rfl⟩
  simp only [← hy] at CN SN ZN
  have hxk : l[0]? = some x := by rw [hx]; simp [List.getD, List.getElem?_eq_getElem (show 0 < l.length by rw [hl]; decide)]
  have HX := Lib.hid hxk
  have s0 : IntKind.u64.wrap ((x : Int) + 5) = (m : Int) := by rw [IntWalk.u64_in _ (by omega)]; omega
  have s1 : IntKind.u64.wrap ((o : Int) * 5) = (p : Int) := by rw [IntWalk.u64_in _ (by omega)]; omega
  have s2 : IntKind.u64.wrap ((x : Int) + (p : Int)) = (y : Int) := by rw [IntWalk.u64_in _ (by omega)]; omega
  obtain ⟨N, hN⟩ : ∃ N, N = l.set 0 y := ⟨_, rfl⟩
  have EN := Lib.hid hN
  rw [← hN] at SN ZN
  simp only [← hN] at CN
  clear hl hu hR hC ho hM hx hm hp hy hxk hN x1 o1
  go_enter Try.func17, Try.ntmps17
  go_wp2_with (refine wpList_box_row rfl 36 _ rfl _ rfl ?_)
  intro w1 b1 x1 z1
  go_wp2_with (refine wpList_alloc_row rfl 36 rfl _ zero_q5 ?_)
  intro w2 b2 x2 z2
  have X1 : Hid (Whole w2 w.heap.size 36 (uv l)) := x1.below b2 (by omega)
  have HB : Hid (Below w.heap.size w w2) := b1.trans (b2.mono (by omega))
  have X2 : Hid (Whole w2 (w.heap.size + 1) 36 (uv [0, 0, 0, 0, 0])) := x2
  have hz2 : w2.heap.size = w.heap.size + 2 := by omega
  clear b1 b2 x1 x2 z1 z2
  go_wp2_with (first | refine wpList_load_row rfl 36 _ rfl _ rfl _ _ _ _ X1.out Try.underlying36 rfl S5.out ?_ | refine wpList_alloc_row rfl 36 rfl _ zero_q5 ?_)
  intro w3 b3 x3 z3
  have Y1 := Lib.hid (X1.out.below b3 (by omega))
  have Y2 := Lib.hid (X2.out.below b3 (by omega))
  have B3 := Lib.hid (HB.out.trans (b3.mono (by omega)))
  have X3 : Hid (Whole w3 (w.heap.size + 2) 36 (uv [0, 0, 0, 0, 0])) := x3
  clear b3 x3 z3 X1 X2 HB hz2
  go_wp2_with (refine wpList_store_whole rfl 36 _ _ rfl _ _ rfl rfl _ _ X3.out S5.out Z5.out (uv_one _) ?_)
  intro w4 g4 x4 z4
  have X4 := Lib.hid x4
  have V1 := Lib.hid (Y1.out.grown g4 (by simp))
  have V2 := Lib.hid (Y2.out.grown g4 (by simp))
  have B4 := Lib.hid (B3.out.grown g4 B3.out.size (fun k hk => by injection hk; omega))
  clear g4 x4 z4 Y1 Y2 B3 X3
  have c1 := (X4.out.at_ 0).trans (uv_at _ _ _ HX.out)
  go_wp2_with (refine wpList_put_q rfl _ _ rfl (w.heap.size + 2) 0 rfl m rfl _ l X4.out (by rw [LL.out]; decide) ?_)
  intro w5 g5 x5 z5
  rw [EM.out] at x5
  have X5 := Lib.hid x5
  have Y1 := Lib.hid (V1.out.grown g5 (by simp))
  have Y2 := Lib.hid (V2.out.grown g5 (by simp))
  have B5 := Lib.hid (B4.out.grown g5 B4.out.size (fun k hk => by injection hk; omega))
  clear g5 x5 z5 V1 V2 B4 X4 c1 s0
  go_wp2_with (refine wpList_load_row rfl 36 _ rfl _ rfl _ _ _ _ X5.out Try.underlying36 rfl SM.out ?_)
  refine (CM w5).out.mono ?_
  rintro e w6 ⟨rfl, b6⟩
  have V1 := Lib.hid (Y1.out.below b6 Y1.out.lt)
  have V2 := Lib.hid (Y2.out.below b6 Y2.out.lt)
  have B6 := Lib.hid (B5.out.trans (b6.mono B5.out.size))
  clear b6 Y1 Y2 B5 X5 CM
  go_wp2_with (refine wpList_alloc_row rfl 36 rfl _ zero_q5 ?_)
  intro w7 b7 x7 z7
  have X7 := Lib.hid x7
  have L1 := Lib.hid V1.out.lt
  have L2 := Lib.hid V2.out.lt
  have Y1 := Lib.hid (V1.out.below b7 V1.out.lt)
  have Y2 := Lib.hid (V2.out.below b7 V2.out.lt)
  have B7 := Lib.hid (B6.out.trans (b7.mono B6.out.size))
  clear b7 x7 z7 V1 V2
  go_wp2_with (refine wpList_store_whole rfl 36 _ _ rfl _ _ rfl rfl _ _ X7.out SC.out ZC.out (uv_one _) ?_)
  intro w8 g8 x8 z8
  have V1 := Lib.hid (Y1.out.grown g8 (by have := L1.out; simp; omega))
  have V2 := Lib.hid (Y2.out.grown g8 (by have := L2.out; simp; omega))
  have B8 := Lib.hid (B7.out.grown g8 B7.out.size (fun k hk => by have := B6.out.size; injection hk; omega))
  clear g8 x8 z8 Y1 Y2 B7 X7 L1 L2 B6
  have c2 := (V1.out.at_ 0).trans (uv_at _ _ _ HX.out)
  go_wp2_with (refine wpList_put_q rfl _ _ rfl w.heap.size 0 rfl y rfl _ l V1.out (by rw [LL.out]; decide) ?_)
  intro w9 g9 x9 z9
  rw [← EN.out] at x9
  have Y1 := Lib.hid x9
  have Y2 := Lib.hid (V2.out.grown g9 (by simp))
  have B9 := Lib.hid (B8.out.grown g9 B8.out.size (fun k hk => by injection hk; omega))
  clear g9 x9 z9 V1 V2 B8 c2 s1 s2
  go_wp2_with (refine wpList_load_row rfl 36 _ rfl _ rfl _ _ _ _ Y1.out Try.underlying36 rfl SN.out ?_)
  refine (CN w9).out.mono ?_
  rintro e w10 ⟨rfl, b10⟩
  have V1 := Lib.hid (Y1.out.below b10 Y1.out.lt)
  have V2 := Lib.hid (Y2.out.below b10 Y2.out.lt)
  have B10 := Lib.hid (B9.out.trans (b10.mono B9.out.size))
  clear b10 Y1 Y2 B9 CN
  go_wp2_with (refine wpList_store_whole rfl 36 _ _ rfl _ _ rfl rfl _ _ V1.out SR.out ZN.out (uv_one _) ?_)
  intro w11 g11 x11 z11
  have Y1 := Lib.hid x11
  have Y2 := Lib.hid (V2.out.grown g11 (by simp))
  have B11 := Lib.hid (B10.out.grown g11 B10.out.size (fun k hk => by injection hk; omega))
  clear g11 x11 z11 V1 V2 B10
  go_wp2_with (first | refine wpList_load_row rfl 36 _ rfl _ rfl _ _ _ _ Y1.out Try.underlying36 rfl SR.out ?_ | refine wpList_store_whole rfl 36 _ _ rfl _ _ rfl rfl _ _ Y2.out SR.out ZR.out (uv_one _) ?_)
  intro w12 g12 x12 z12
  have X12 := Lib.hid x12
  have HB12 := Lib.hid (B11.out.grown g12 B11.out.size (fun k hk => by injection hk; omega))
  clear x12 g12 z12
  go_wp2_with fail
  refine bodyPost_ret (results_cell_row rfl _ _ _ _ _ _ _ rfl X12.out Try.underlying36 rfl SR.out) rfl ?_
  exact ⟨by rw [HR.out], HB12.out⟩
end Go.Proofs.Ytbdcligpbogkjaa
