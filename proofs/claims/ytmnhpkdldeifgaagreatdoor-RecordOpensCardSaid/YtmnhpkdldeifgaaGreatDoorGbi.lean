/- What package poly's first, carry and fold answer. What package poly's rest answers. What package poly's plus answers. -/
import Derived.Test.YtmnhpkdldeifgaaGreatDoorGbh
import Derived.Test.YtmnhpkdldeifgaaGreatDoorGbc
import Derived.Test.YtmnhpkdldeifgaaGreatDoorGb
import Derived.Deep.DeepCutAuto
import Derived.Deep.LoopGhost
import Derived.ChangeAlike
import Derived.StillTailTactics
namespace Go.Proofs.YtmnhpkdldeifgaaGreatDoor
set_option maxRecDepth 100000
open Go.RowKit

theorem results_row_tmp {P : Program} {fn : Func} {p t : Tmp} {ty : TypeId} (h : fn.results = #[.cell p ty, .tmp t]) (tmps : Array Value) (w : World) (g : Nat) (ty2 : TypeId) (cs : Array Value) (fr : Nat × Nat) (d : TypeDesc)
    (hp : tmps.getD p undef = .pointer (some ⟨g, 0, none⟩)) (hg : w.heap[g]? = some (.cells cs ty2 fr))
    (hu : P.underlying ty = some d) (hd : (match d with | .struct _ | .array _ _ => true | _ => false) = true) (hi : (P.info? ty).map (·.size) = some cs.size) :
    (results fn tmps).run P w = .ok (.tuple #[.agg cs, tmps.getD t undef]) w := by
  have hp' : tmps[p]?.getD undef = .pointer (some ⟨g, 0, none⟩) := by simpa using hp
  simp [results, h, hp', asAddr, run_loadVar_row w g ty2 ty cs fr d hg hu hd hi]

theorem zero_q5 : (Tryz.prog.info? 81).map (·.zero) = some (some (.agg (uv [0, 0, 0, 0, 0]))) := by kernel_rfl
theorem size_q5 : (Tryz.prog.info? 81).map (·.size) = some 5 := by kernel_rfl
theorem size_of5 (l : List Nat) (hl : l.length = 5) : (Tryz.prog.info? 81).map (·.size) = some (uv l).size := by rw [uv_size, hl]; exact size_q5
theorem same5 (l l' : List Nat) (hl : l.length = 5) (hl' : l'.length = 5) : (uv l).size = (uv l').size := by rw [uv_size, uv_size, hl, hl']

theorem first_any (i : Nat) (hi : i < 5) (w : World) : Calls Tryz.prog 75 #[.int .i64 (i : Int)] w fun e w' => e = .returned (.tuple #[.int .i64 (atN i : Int), .int .i64 (bitN i : Int)]) ∧ w = w' := by
  have t1 : IntKind.i64.wrap ((i : Int) * 26) = ((i * 26 : Nat) : Int) := by rw [IntWalk.i64_in _ (by omega)]; omega
  have t2 : IntKind.i64.wrap (((i * 26 : Nat) : Int) / 8) = (atN i : Int) := by rw [IntWalk.i64_in _ (by omega), atN]; omega
  have t3 : ((i * 26 : Nat) : Int).tmod 8 = (bitN i : Int) := by rw [Int.tmod_eq_emod_of_nonneg (by omega), bitN]; omega
  generalize i * 26 = m at *
  generalize atN i = p at *
  generalize bitN i = q at *
  go_enter Tryz.func75, Tryz.ntmps75
  go_wp2
  go_ret2
  exact ⟨rfl, rfl⟩

set_option maxRecDepth 100000 in
set_option maxHeartbeats 2000000 in
theorem carry_any (l : List Nat) (hl : l.length = 5) (hu : Under l (2 ^ 63)) (w : World) :
    Calls Tryz.prog 57 #[.agg (uv l)] w fun e w' => e = .returned (.tuple #[.agg (uv (carryL l)), .int .u64 (overN l : Int)]) ∧ Below w.heap.size w w' := by
  have HL := Lib.hid hl
  have HU := Lib.hid hu
  clear hl hu
  go_enter Tryz.func57, Tryz.ntmps57
  go_wp2_with (refine wpList_box_row rfl 81 _ rfl _ rfl ?_)
  intro w1 b1 x1 z1
  go_wp2_with (refine wpList_alloc_row rfl 81 rfl _ zero_q5 ?_)
  intro w2 b2 x2 z2
  have X1 : Hid (Whole w2 w.heap.size 81 (uv (carryTo l 0).1)) := x1.below b2 (by omega)
  have HB : Hid (Below w.heap.size w w2) := b1.trans (b2.mono (by omega))
  have X2 : Hid (Whole w2 (w.heap.size + 1) 81 (uv [0, 0, 0, 0, 0])) := x2
  clear b1 b2 x1 x2 z1 z2
  go_wp2_with fail
  go_loopw [4, 6] (fun o i wr => ∃ k : Nat, k ≤ 5 ∧ i = .int .i64 (k : Int) ∧ o = .int .u64 ((carryTo l k).2 : Int) ∧ Whole wr w.heap.size 81 (uv (carryTo l k).1) ∧ Whole wr (w.heap.size + 1) 81 (uv [0, 0, 0, 0, 0]) ∧ Below w.heap.size w wr) (fun _ i _ => 5 - (intOf i).toNat)
  case atStart => exact ⟨0, Nat.zero_le _, rfl, rfl, X1.out, X2.out, HB.out⟩
  case round =>
    obtain ⟨k, hk, rfl, rfl, x1, x2, hb⟩ := hrel
    have Y1 := Lib.hid x1
    have Y2 := Lib.hid x2
    have HBr := Lib.hid hb
    clear x1 x2 hb X1 X2 HB
    have LT : Hid ((carryTo l k).1.length = 5) := by rw [Hid, carryTo_length]; exact HL.out
    by_cases hlt : k < 5
    · have jk : (k : Int) < 5 := by omega
      have o1 := carryTo_over l k HU.out
      have x1 := carryTo_under l _ k HU.out (by decide) k
      have HN : Hid (carryTo l (k + 1) = _) := Lib.hid (carryTo.eq_2 l k)
      obtain ⟨N, hN⟩ : ∃ N, N = carryTo l (k + 1) := ⟨_, rfl⟩
      rw [← hN] at HN
      have HM := Lib.hid hN
      clear hN
      obtain ⟨L, hL⟩ : ∃ L, L = (carryTo l k).1 := ⟨_, rfl⟩
      obtain ⟨o, ho⟩ : ∃ o, o = (carryTo l k).2 := ⟨_, rfl⟩
      rw [← hL] at Y1 LT x1 HN
      rw [← ho] at o1 HN ⊢
      clear hL ho
      obtain ⟨x, hx⟩ : ∃ x, x = L.getD k 0 := ⟨_, rfl⟩
      rw [← hx] at x1 HN
      obtain ⟨y, hy⟩ : ∃ y, y = x + o := ⟨_, rfl⟩
      rw [← hy] at HN
      have hxk : L[k]? = some x := by rw [hx]; simp [List.getD, List.getElem?_eq_getElem (show k < L.length by rw [LT.out]; exact hlt)]
      have c1 := (Y1.out.at_ k).trans (uv_at _ _ _ hxk)
      have s1 : IntKind.u64.wrap ((x : Int) + (o : Int)) = (y : Int) := by rw [IntWalk.u64_in _ (by omega)]; omega
      have HY : Hid (y < 2 ^ 64) := Lib.hid (by omega)
      clear hxk hx hy
      have ji : k < L.length := by rw [LT.out]; exact hlt
      go_wp2_with (refine wpList_put_q rfl _ _ rfl w.heap.size k rfl y rfl _ L Y1.out ji ?_)
      intro w5 g5 x5 z5
      have Y1' := Lib.hid x5
      have Y2' := Lib.hid (Y2.out.grown g5 (by simp))
      have HB5 := Lib.hid (HBr.out.grown g5 HBr.out.size (fun k hk => by injection hk; omega))
      clear c1 s1 x5 g5 z5 Y1 Y2 HBr
      have c2 := (Y1'.out.at_ k).trans (uv_at _ _ y (by simp [ji]))
      have s2 : (y : Int) / 67108864 = ((y / 2 ^ 26 : Nat) : Int) := by omega
      have s3 := bits_mask 26 (by decide) 67108863 rfl y HY.out
      obtain ⟨p, hp⟩ : ∃ p, p = y / 2 ^ 26 := ⟨_, rfl⟩
      obtain ⟨r, hr⟩ : ∃ r, r = y % 2 ^ 26 := ⟨_, rfl⟩
      rw [← hp] at s2 HN
      rw [← hr] at s3 HN
      have HPR := Lib.hid (And.intro hp hr)
      clear hp hr
      go_wp2_with (refine wpList_put_q rfl _ _ rfl w.heap.size k rfl r rfl _ _ Y1'.out (by rw [List.length_set]; exact ji) ?_)
      intro w6 g6 x6 z6
      have Z1 := Lib.hid x6
      have Z2 := Lib.hid (Y2'.out.grown g6 (by simp))
      have HB6 := Lib.hid (HB5.out.grown g6 HB5.out.size (fun k hk => by injection hk; omega))
      clear c2 s2 s3 x6 g6 z6 Y1' Y2' HB5
      go_wp2_with fail
      refine ⟨⟨k + 1, by omega, by go_num, ?_, ?_, Z2.out, HB6.out⟩, by simp [intOf]; omega⟩
      · rw [← HM.out, HN.out]
      · rw [← HM.out, HN.out]
        exact Z1.out
    · obtain rfl : k = 5 := by omega
      have S5 := Lib.hid (size_of5 _ LT.out)
      have Z5 := Lib.hid (same5 [0, 0, 0, 0, 0] _ rfl LT.out)
      have HE : Hid (carryL l = (carryTo l 5).1 ∧ overN l = (carryTo l 5).2) := Lib.hid ⟨rfl, rfl⟩
      generalize carryTo l 5 = N at *
      obtain ⟨L, o⟩ := N
      simp only at Y1 S5 Z5 LT HE ⊢
      go_wp2_with (first | refine wpList_load_row rfl 81 _ rfl _ rfl _ _ _ _ Y1.out Tryz.underlying81 rfl S5.out ?_ | refine wpList_store_whole rfl 81 _ _ rfl _ _ rfl rfl _ _ Y2.out S5.out Z5.out (uv_one _) ?_)
      intro w6 g6 x6 z6
      have X6 := Lib.hid x6
      have HB6 := Lib.hid (HBr.out.grown g6 HBr.out.size (fun k hk => by injection hk; omega))
      clear x6 g6 z6
      go_wp2_with fail
      refine bodyPost_ret (results_row_tmp rfl _ _ _ _ _ _ _ rfl X6.out Tryz.underlying81 rfl S5.out) rfl ?_
      exact ⟨by rw [HE.out.1, HE.out.2]; rfl, HB6.out⟩

set_option maxRecDepth 100000 in
set_option maxHeartbeats 2000000 in
theorem fold_any (l : List Nat) (hl : l.length = 5) (hu : Under l (2 ^ 63)) (w : World) :
    Calls Tryz.prog 76 #[.agg (uv l)] w fun e w' => e = .returned (.agg (uv (foldL l))) ∧ Below w.heap.size w w' := by
  have HL := Lib.hid hl
  have LC := Lib.hid ((carryL_length l).trans hl)
  have S5 := Lib.hid (size_of5 l hl)
  have SC := Lib.hid (size_of5 _ LC.out)
  have ZC := Lib.hid (same5 l _ hl LC.out)
  have o1 := overN_lt l hu
  have x1 := carryL_under l hl 0
  have CC := fun w => Lib.hid (carry_any l hl hu w)
  have LF := Lib.hid ((foldL_length l).trans hl)
  obtain ⟨R, hR⟩ : ∃ R, R = foldL l := ⟨_, rfl⟩
  have HN : Hid (R = _) := Lib.hid hR
  rw [← hR] at LF
  have HM := Lib.hid hR
  clear hR
  rw [foldL] at HN
  have SF := Lib.hid (size_of5 R LF.out)
  have ZF := Lib.hid (same5 [0, 0, 0, 0, 0] R rfl LF.out)
  obtain ⟨C, hC⟩ : ∃ C, C = carryL l := ⟨_, rfl⟩
  obtain ⟨o, ho⟩ : ∃ o, o = overN l := ⟨_, rfl⟩
  rw [← hC] at x1 LC SC ZC HN CC
  rw [← ho] at o1 HN CC
  obtain ⟨x, hx⟩ : ∃ x, x = C.getD 0 0 := ⟨_, rfl⟩
  rw [← hx] at x1 HN
  obtain ⟨p, hp⟩ : ∃ p, p = o * 5 := ⟨_, rfl⟩
  rw [← hp] at HN
  obtain ⟨y, hy⟩ : ∃ y, y = x + p := ⟨_, rfl⟩
  rw [← hy] at HN
  have hxk : C[0]? = some x := by rw [hx]; simp [List.getD, List.getElem?_eq_getElem (show 0 < C.length by rw [LC.out]; decide)]
  have HX := Lib.hid hxk
  have s1 : IntKind.u64.wrap ((o : Int) * 5) = (p : Int) := by rw [IntWalk.u64_in _ (by omega)]; omega
  have s2 : IntKind.u64.wrap ((x : Int) + (p : Int)) = (y : Int) := by rw [IntWalk.u64_in _ (by omega)]; omega
  clear hl hu hC ho hx hp hy hxk x1 o1
  go_enter Tryz.func76, Tryz.ntmps76
  go_wp2_with (refine wpList_box_row rfl 81 _ rfl _ rfl ?_)
  intro w1 b1 x1 z1
  go_wp2_with (refine wpList_alloc_row rfl 81 rfl _ zero_q5 ?_)
  intro w2 b2 x2 z2
  have X1 : Hid (Whole w2 w.heap.size 81 (uv l)) := x1.below b2 (by omega)
  have HB : Hid (Below w.heap.size w w2) := b1.trans (b2.mono (by omega))
  have X2 : Hid (Whole w2 (w.heap.size + 1) 81 (uv [0, 0, 0, 0, 0])) := x2
  clear b1 b2 x1 x2 z1 z2
  go_wp2_with (refine wpList_load_row rfl 81 _ rfl _ rfl _ _ _ _ X1.out Tryz.underlying81 rfl S5.out ?_)
  refine (CC w2).out.mono ?_
  rintro e w3 ⟨rfl, b3⟩
  have Y1 := Lib.hid (X1.out.below b3 X1.out.lt)
  have Y2 := Lib.hid (X2.out.below b3 X2.out.lt)
  have B3 := Lib.hid (HB.out.trans (b3.mono HB.out.size))
  clear b3 X1 X2 HB CC
  go_wp2_with (refine wpList_store_whole rfl 81 _ _ rfl _ _ rfl rfl _ _ Y1.out SC.out ZC.out (uv_one _) ?_)
  intro w4 g4 x4 z4
  have X4 := Lib.hid x4
  have V2 := Lib.hid (Y2.out.grown g4 (by simp))
  have B4 := Lib.hid (B3.out.grown g4 B3.out.size (fun k hk => by injection hk; omega))
  clear g4 x4 z4 Y1 Y2 B3
  have c1 := (X4.out.at_ 0).trans (uv_at _ _ _ HX.out)
  go_wp2_with (refine wpList_put_q rfl _ _ rfl w.heap.size 0 rfl y rfl _ C X4.out (by rw [LC.out]; decide) ?_)
  intro w5 g5 x5 z5
  rw [← HN.out] at x5
  have X5 := Lib.hid x5
  have V5 := Lib.hid (V2.out.grown g5 (by simp))
  have B5 := Lib.hid (B4.out.grown g5 B4.out.size (fun k hk => by injection hk; omega))
  clear g5 x5 z5 V2 X4 B4 c1
  go_wp2_with (first | refine wpList_load_row rfl 81 _ rfl _ rfl _ _ _ _ X5.out Tryz.underlying81 rfl SF.out ?_ | refine wpList_store_whole rfl 81 _ _ rfl _ _ rfl rfl _ _ V5.out SF.out ZF.out (uv_one _) ?_)
  intro w6 g6 x6 z6
  have X6 := Lib.hid x6
  have HB6 := Lib.hid (B5.out.grown g6 B5.out.size (fun k hk => by injection hk; omega))
  clear x6 g6 z6
  go_wp2_with fail
  refine bodyPost_ret (results_cell_row rfl _ _ _ _ _ _ _ rfl X6.out Tryz.underlying81 rfl SF.out) rfl ?_
  exact ⟨by rw [HM.out], HB6.out⟩
end Go.Proofs.YtmnhpkdldeifgaaGreatDoor

namespace Go.Proofs.YtmnhpkdldeifgaaGreatDoor
set_option maxRecDepth 100000
open Go.RowKit

set_option maxRecDepth 100000 in
set_option maxHeartbeats 4000000 in
theorem rest_any (l : List Nat) (hl : l.length = 5) (hu : Under l (2 ^ 62)) (w : World) :
    Calls Tryz.prog 58 #[.agg (uv l)] w fun e w' => e = .returned (.agg (uv (restL l))) ∧ Below w.heap.size w w' := by
  have LL := Lib.hid hl
  have S5 := Lib.hid (size_of5 l hl)
  have Z5 := Lib.hid (same5 [0, 0, 0, 0, 0] l rfl hl)
  have LM := (moreL_length l).trans hl
  have SM := Lib.hid (size_of5 _ LM)
  have x1 := hu 0
  have uM : Under (moreL l) (2 ^ 63) := (hu.mono (by decide)).set _ _ (by have := hu 0; omega)
  have o1 := overN_lt (moreL l) uM
  have CM := fun w => Lib.hid (carry_any (moreL l) LM uM w)
  have LC := (carryL_length (moreL l)).trans LM
  have SC := Lib.hid (size_of5 _ LC)
  have ZC := Lib.hid (same5 [0, 0, 0, 0, 0] _ rfl LC)
  have uN : Under (l.set 0 (l.getD 0 0 + overN (moreL l) * 5)) (2 ^ 63) := (hu.mono (by decide)).set _ _ (by have := hu 0; omega)
  have LN : (l.set 0 (l.getD 0 0 + overN (moreL l) * 5)).length = 5 := (List.length_set ..).trans hl
  have CN := fun w => Lib.hid (carry_any _ LN uN w)
  have SN := Lib.hid (size_of5 _ LN)
  have LR : (restL l).length = 5 := (restL_length l).trans hl
  have SR := Lib.hid (size_of5 _ LR)
  have ZR := Lib.hid (same5 [0, 0, 0, 0, 0] _ rfl LR)
  have ZN := Lib.hid (same5 _ (restL l) LN LR)
  have ER : carryL (l.set 0 (l.getD 0 0 + overN (moreL l) * 5)) = restL l := rfl
  rw [ER] at CN
  have EM : Hid (l.set 0 (l.getD 0 0 + 5) = moreL l) := Lib.hid rfl
  clear ER uN uM LM LC LN LR
  obtain ⟨R, hR⟩ : ∃ R, R = restL l := ⟨_, rfl⟩
  rw [← hR] at CN SR ZR ZN
  have HR := Lib.hid hR
  obtain ⟨C, hC⟩ : ∃ C, C = carryL (moreL l) := ⟨_, rfl⟩
  rw [← hC] at CM SC ZC
  obtain ⟨o, ho⟩ : ∃ o, o = overN (moreL l) := ⟨_, rfl⟩
  simp only [← ho] at o1 CM CN SN ZN
  obtain ⟨M, hM⟩ : ∃ M, M = moreL l := ⟨_, rfl⟩
  rw [← hM] at EM CM SM
  obtain ⟨x, hx⟩ : ∃ x, x = l.getD 0 0 := ⟨_, rfl⟩
  rw [← hx] at x1 EM
  simp only [← hx] at CN SN ZN
  obtain ⟨m, hm⟩ : ∃ m, m = x + 5 := ⟨_, rfl⟩
  rw [← hm] at EM
  obtain ⟨p, hp⟩ : ∃ p, p = o * 5 := ⟨_, rfl⟩
  simp only [← hp] at CN SN ZN
  obtain ⟨y, hy⟩ : ∃ y, y = x + p := ⟨_, rfl⟩
  simp only [← hy] at CN SN ZN
  have hxk : l[0]? = some x := by rw [hx]; simp [List.getD, List.getElem?_eq_getElem (show 0 < l.length by rw [hl]; decide)]
  have HX := Lib.hid hxk
  have s0 : IntKind.u64.wrap ((x : Int) + 5) = (m : Int) := by rw [IntWalk.u64_in _ (by omega)]; omega
  have s1 : IntKind.u64.wrap ((o : Int) * 5) = (p : Int) := by rw [IntWalk.u64_in _ (by omega)]; omega
  have s2 : IntKind.u64.wrap ((x : Int) + (p : Int)) = (y : Int) := by rw [IntWalk.u64_in _ (by omega)]; omega
  obtain ⟨N, hN⟩ : ∃ N, N = l.set 0 y := ⟨_, rfl⟩
  have EN := Lib.hid hN
  rw [← hN] at SN ZN
  simp only [← hN] at CN
  clear hl hu hR hC ho hM hx hm hp hy hxk hN x1 o1
  go_enter Tryz.func58, Tryz.ntmps58
  go_wp2_with (refine wpList_box_row rfl 81 _ rfl _ rfl ?_)
  intro w1 b1 x1 z1
  go_wp2_with (refine wpList_alloc_row rfl 81 rfl _ zero_q5 ?_)
  intro w2 b2 x2 z2
  have X1 : Hid (Whole w2 w.heap.size 81 (uv l)) := x1.below b2 (by omega)
  have HB : Hid (Below w.heap.size w w2) := b1.trans (b2.mono (by omega))
  have X2 : Hid (Whole w2 (w.heap.size + 1) 81 (uv [0, 0, 0, 0, 0])) := x2
  have hz2 : w2.heap.size = w.heap.size + 2 := by omega
  clear b1 b2 x1 x2 z1 z2
  go_wp2_with (first | refine wpList_load_row rfl 81 _ rfl _ rfl _ _ _ _ X1.out Tryz.underlying81 rfl S5.out ?_ | refine wpList_alloc_row rfl 81 rfl _ zero_q5 ?_)
  intro w3 b3 x3 z3
  have Y1 := Lib.hid (X1.out.below b3 (by omega))
  have Y2 := Lib.hid (X2.out.below b3 (by omega))
  have B3 := Lib.hid (HB.out.trans (b3.mono (by omega)))
  have X3 : Hid (Whole w3 (w.heap.size + 2) 81 (uv [0, 0, 0, 0, 0])) := x3
  clear b3 x3 z3 X1 X2 HB hz2
  go_wp2_with (refine wpList_store_whole rfl 81 _ _ rfl _ _ rfl rfl _ _ X3.out S5.out Z5.out (uv_one _) ?_)
  intro w4 g4 x4 z4
  have X4 := Lib.hid x4
  have V1 := Lib.hid (Y1.out.grown g4 (by simp))
  have V2 := Lib.hid (Y2.out.grown g4 (by simp))
  have B4 := Lib.hid (B3.out.grown g4 B3.out.size (fun k hk => by injection hk; omega))
  clear g4 x4 z4 Y1 Y2 B3 X3
  have c1 := (X4.out.at_ 0).trans (uv_at _ _ _ HX.out)
  go_wp2_with (refine wpList_put_q rfl _ _ rfl (w.heap.size + 2) 0 rfl m rfl _ l X4.out (by rw [LL.out]; decide) ?_)
  intro w5 g5 x5 z5
  rw [EM.out] at x5
  have X5 := Lib.hid x5
  have Y1 := Lib.hid (V1.out.grown g5 (by simp))
  have Y2 := Lib.hid (V2.out.grown g5 (by simp))
  have B5 := Lib.hid (B4.out.grown g5 B4.out.size (fun k hk => by injection hk; omega))
  clear g5 x5 z5 V1 V2 B4 X4 c1 s0
  go_wp2_with (refine wpList_load_row rfl 81 _ rfl _ rfl _ _ _ _ X5.out Tryz.underlying81 rfl SM.out ?_)
  refine (CM w5).out.mono ?_
  rintro e w6 ⟨rfl, b6⟩
  have V1 := Lib.hid (Y1.out.below b6 Y1.out.lt)
  have V2 := Lib.hid (Y2.out.below b6 Y2.out.lt)
  have B6 := Lib.hid (B5.out.trans (b6.mono B5.out.size))
  clear b6 Y1 Y2 B5 X5 CM
  go_wp2_with (refine wpList_alloc_row rfl 81 rfl _ zero_q5 ?_)
  intro w7 b7 x7 z7
  have X7 := Lib.hid x7
  have L1 := Lib.hid V1.out.lt
  have L2 := Lib.hid V2.out.lt
  have Y1 := Lib.hid (V1.out.below b7 V1.out.lt)
  have Y2 := Lib.hid (V2.out.below b7 V2.out.lt)
  have B7 := Lib.hid (B6.out.trans (b7.mono B6.out.size))
  clear b7 x7 z7 V1 V2
  go_wp2_with (refine wpList_store_whole rfl 81 _ _ rfl _ _ rfl rfl _ _ X7.out SC.out ZC.out (uv_one _) ?_)
  intro w8 g8 x8 z8
  have V1 := Lib.hid (Y1.out.grown g8 (by have := L1.out; simp; omega))
  have V2 := Lib.hid (Y2.out.grown g8 (by have := L2.out; simp; omega))
  have B8 := Lib.hid (B7.out.grown g8 B7.out.size (fun k hk => by have := B6.out.size; injection hk; omega))
  clear g8 x8 z8 Y1 Y2 B7 X7 L1 L2 B6
  have c2 := (V1.out.at_ 0).trans (uv_at _ _ _ HX.out)
  go_wp2_with (refine wpList_put_q rfl _ _ rfl w.heap.size 0 rfl y rfl _ l V1.out (by rw [LL.out]; decide) ?_)
  intro w9 g9 x9 z9
  rw [← EN.out] at x9
  have Y1 := Lib.hid x9
  have Y2 := Lib.hid (V2.out.grown g9 (by simp))
  have B9 := Lib.hid (B8.out.grown g9 B8.out.size (fun k hk => by injection hk; omega))
  clear g9 x9 z9 V1 V2 B8 c2 s1 s2
  go_wp2_with (refine wpList_load_row rfl 81 _ rfl _ rfl _ _ _ _ Y1.out Tryz.underlying81 rfl SN.out ?_)
  refine (CN w9).out.mono ?_
  rintro e w10 ⟨rfl, b10⟩
  have V1 := Lib.hid (Y1.out.below b10 Y1.out.lt)
  have V2 := Lib.hid (Y2.out.below b10 Y2.out.lt)
  have B10 := Lib.hid (B9.out.trans (b10.mono B9.out.size))
  clear b10 Y1 Y2 B9 CN
  go_wp2_with (refine wpList_store_whole rfl 81 _ _ rfl _ _ rfl rfl _ _ V1.out SR.out ZN.out (uv_one _) ?_)
  intro w11 g11 x11 z11
  have Y1 := Lib.hid x11
  have Y2 := Lib.hid (V2.out.grown g11 (by simp))
  have B11 := Lib.hid (B10.out.grown g11 B10.out.size (fun k hk => by injection hk; omega))
  clear g11 x11 z11 V1 V2 B10
  go_wp2_with (first | refine wpList_load_row rfl 81 _ rfl _ rfl _ _ _ _ Y1.out Tryz.underlying81 rfl SR.out ?_ | refine wpList_store_whole rfl 81 _ _ rfl _ _ rfl rfl _ _ Y2.out SR.out ZR.out (uv_one _) ?_)
  intro w12 g12 x12 z12
  have X12 := Lib.hid x12
  have HB12 := Lib.hid (B11.out.grown g12 B11.out.size (fun k hk => by injection hk; omega))
  clear x12 g12 z12
  go_wp2_with fail
  refine bodyPost_ret (results_cell_row rfl _ _ _ _ _ _ _ rfl X12.out Tryz.underlying81 rfl SR.out) rfl ?_
  exact ⟨by rw [HR.out], HB12.out⟩
end Go.Proofs.YtmnhpkdldeifgaaGreatDoor

namespace Go.Proofs.YtmnhpkdldeifgaaGreatDoor
set_option maxRecDepth 100000
open Go.RowKit

set_option maxRecDepth 100000 in
set_option maxHeartbeats 4000000 in
theorem plus_any (a b : List Nat) (hl : a.length = 5) (hb : b.length = 5) (ua : Under a (2 ^ 62)) (ub : Under b (2 ^ 62)) (w : World) :
    Calls Tryz.prog 56 #[.agg (uv a), .agg (uv b)] w fun e w' => e = .returned (.agg (uv (plusL a b))) ∧ Below w.heap.size w w' := by
  have LA := Lib.hid hl
  have LB := Lib.hid hb
  have UA := Lib.hid ua
  have UB := Lib.hid ub
  clear hl hb ua ub
  go_enter Tryz.func56, Tryz.ntmps56
  go_wp2_with (refine wpList_box_row rfl 81 _ rfl _ rfl ?_)
  intro w1 b1 x1 z1
  go_wp2_with (refine wpList_box_row rfl 81 _ rfl _ rfl ?_)
  intro w2 b2 x2 z2
  go_wp2_with (refine wpList_alloc_row rfl 81 rfl _ zero_q5 ?_)
  intro w3 b3 x3 z3
  have X1 : Hid (Whole w3 w.heap.size 81 (uv (plusTo a b 0))) := (Whole.below x1 b2 (by omega)).below b3 (by omega)
  have X2 : Hid (Whole w3 (w.heap.size + 1) 81 (uv b)) := Whole.below x2 b3 (by omega)
  have X3 : Hid (Whole w3 (w.heap.size + 2) 81 (uv [0, 0, 0, 0, 0])) := x3
  have HB : Hid (Below w.heap.size w w3) := (b1.trans (b2.mono (by omega))).trans (b3.mono (by omega))
  clear b1 b2 b3 x1 x2 x3 z1 z2 z3
  go_wp2_with fail
  go_loopw [6] (fun i wr => ∃ k : Nat, k ≤ 5 ∧ i = .int .i64 (k : Int) ∧ Whole wr w.heap.size 81 (uv (plusTo a b k)) ∧ Whole wr (w.heap.size + 1) 81 (uv b) ∧ Whole wr (w.heap.size + 2) 81 (uv [0, 0, 0, 0, 0]) ∧ Below w.heap.size w wr) (fun i _ => 5 - (intOf i).toNat)
  case atStart => exact ⟨0, Nat.zero_le _, rfl, X1.out, X2.out, X3.out, HB.out⟩
  case round =>
    obtain ⟨k, hk, rfl, x1, x2, x3, hb⟩ := hrel
    have Y1 := Lib.hid x1
    have Y2 := Lib.hid x2
    have Y3 := Lib.hid x3
    have HBr := Lib.hid hb
    clear x1 x2 x3 hb X1 X2 X3 HB
    have LT : Hid ((plusTo a b k).length = 5) := by rw [Hid, plusTo_length]; exact LA.out
    by_cases hlt : k < 5
    · have jk : (k : Int) < 5 := by omega
      have x1 := plusTo_under a b k _ _ (by rw [LA.out]; omega) UA.out UB.out k
      have x2 := UB.out k
      have HN : Hid (plusTo a b (k + 1) = _) := Lib.hid (plusTo.eq_2 a b k)
      obtain ⟨N, hN⟩ : ∃ N, N = plusTo a b (k + 1) := ⟨_, rfl⟩
      rw [← hN] at HN
      have HM := Lib.hid hN
      clear hN
      obtain ⟨L, hL⟩ : ∃ L, L = plusTo a b k := ⟨_, rfl⟩
      rw [← hL] at Y1 LT x1 HN
      clear hL
      obtain ⟨x, hx⟩ : ∃ x, x = L.getD k 0 := ⟨_, rfl⟩
      rw [← hx] at x1 HN
      obtain ⟨z, hz⟩ : ∃ z, z = b.getD k 0 := ⟨_, rfl⟩
      rw [← hz] at x2 HN
      obtain ⟨y, hy⟩ : ∃ y, y = x + z := ⟨_, rfl⟩
      rw [← hy] at HN
      have hxk : L[k]? = some x := by rw [hx]; simp [List.getD, List.getElem?_eq_getElem (show k < L.length by rw [LT.out]; exact hlt)]
      have hzk : b[k]? = some z := by rw [hz]; simp [List.getD, List.getElem?_eq_getElem (show k < b.length by rw [LB.out]; exact hlt)]
      have C1 := Lib.hid ((Y1.out.at_ k).trans (uv_at _ _ _ hxk))
      have C2 := Lib.hid ((Y2.out.at_ k).trans (uv_at _ _ _ hzk))
      have s1 : IntKind.u64.wrap ((x : Int) + (z : Int)) = (y : Int) := by rw [IntWalk.u64_in _ (by omega)]; omega
      have ji : k < L.length := by rw [LT.out]; exact hlt
      clear hxk hx hy hzk hz x1 x2
      go_wp2_with fail
      refine still_tail 8 (by kernel_rfl) (by kernel_rfl) fun w4 h4 b4 => ?_
      simp only [List.take_succ_cons, List.take_zero, List.drop_succ_cons, List.drop_zero]
      have c1 := (World.cell?_of_block (a := ⟨w.heap.size, k, none⟩) (by rw [h4])).trans C1.out
      have c2 := (World.cell?_of_block (a := ⟨w.heap.size + 1, k, none⟩) (by rw [h4])).trans C2.out
      repeat still_step
      refine wpStill_nil ?_
      have WX := Lib.hid (Y1.out.of_heap h4)
      have W2 := Lib.hid (Y2.out.of_heap h4)
      have W3 := Lib.hid (Y3.out.of_heap h4)
      refine wpList_put_q rfl _ _ rfl w.heap.size k rfl y rfl _ L WX.out ji ?_
      intro w5 g5 x5 z5
      rw [← HN.out] at x5
      have V1 := Lib.hid x5
      have V2 := Lib.hid (W2.out.grown g5 (by simp))
      have V3 := Lib.hid (W3.out.grown g5 (by simp))
      have HB4 := HBr.out.trans (b4.mono HBr.out.size)
      have HB5 := Lib.hid (HB4.grown g5 HB4.size (fun k hk => by injection hk; omega))
      clear c1 c2 h4 b4 HB4 x5 g5 z5 WX W2 W3 C1 C2 HBr Y1 Y2 Y3 s1
      refine wpList_nil ?_
      go_wp2_with fail
      exact ⟨⟨k + 1, by omega, by go_num, by rw [← HM.out]; exact V1.out, V2.out, V3.out, HB5.out⟩, by simp [intOf]; omega⟩
    · obtain rfl : k = 5 := by omega
      have S5 := Lib.hid (size_of5 _ LT.out)
      have Z5 := Lib.hid (same5 [0, 0, 0, 0, 0] _ rfl LT.out)
      obtain ⟨L, hL⟩ : ∃ L, L = plusTo a b 5 := ⟨_, rfl⟩
      rw [← hL] at Y1 LT S5 Z5
      have HE := Lib.hid hL
      clear hL
      go_wp2_with (first | refine wpList_load_row rfl 81 _ rfl _ rfl _ _ _ _ Y1.out Tryz.underlying81 rfl S5.out ?_ | refine wpList_store_whole rfl 81 _ _ rfl _ _ rfl rfl _ _ Y3.out S5.out Z5.out (uv_one _) ?_)
      intro w6 g6 x6 z6
      have X6 := Lib.hid x6
      have HB6 := Lib.hid (HBr.out.grown g6 HBr.out.size (fun k hk => by injection hk; omega))
      clear x6 g6 z6
      go_wp2_with fail
      refine bodyPost_ret (results_cell_row rfl _ _ _ _ _ _ _ rfl X6.out Tryz.underlying81 rfl S5.out) rfl ?_
      exact ⟨by rw [HE.out]; rfl, HB6.out⟩
end Go.Proofs.YtmnhpkdldeifgaaGreatDoor
