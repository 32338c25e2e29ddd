/- What package poly's first, carry and fold answer. -/
import Derived.Test.YtbdcligpbogkjaaPoN
import Derived.Test.YtbdcligpbogkjaaArrQ
import Derived.Test.YtbdcligpbogkjaaGenT
import Derived.Deep.DeepCutAuto
import Derived.Deep.LoopGhost
import Derived.ChangeAlike
namespace Go.Proofs.Ytbdcligpbogkjaa
open Go.RowKit

theorem results_row_tmp {P : Program} {fn : Func} {p t : Tmp} {ty : TypeId} (h : fn.results = #[.cell p ty, .tmp t]) (tmps : Array Value) (w : World) (g : Nat) (ty2 : TypeId) (cs : Array Value) (fr : Nat × Nat) (d : TypeDesc)
    (hp : tmps.getD p undef = .pointer (some ⟨g, 0, none⟩)) (hg : w.heap[g]? = some (.cells cs ty2 fr))
    (hu : P.underlying ty = some d) (hd : (match d with | .struct _ | .array _ _ => true | _ => false) = true) (hi : (P.info? ty).map (·.size) = some cs.size) :
    (results fn tmps).run P w = .ok (.tuple #[.agg cs, tmps.getD t undef]) w := by
  have hp' : tmps[p]?.getD undef = .pointer (some ⟨g, 0, none⟩) := by simpa using hp
  simp [results, h, hp', asAddr, run_loadVar_row w g ty2 ty cs fr d hg hu hd hi]

theorem zero_q5 : (Try.prog.info? 36).map (·.zero) = some (some (.agg (uv [0, 0, 0, 0, 0]))) := by kernel_rfl
theorem size_q5 : (Try.prog.info? 36).map (·.size) = some 5 := by kernel_rfl
theorem size_of5 (l : List Nat) (hl : l.length = 5) : (Try.prog.info? 36).map (·.size) = some (uv l).size := by rw [uv_size, hl]; exact size_q5
theorem same5 (l l' : List Nat) (hl : l.length = 5) (hl' : l'.length = 5) : (uv l).size = (uv l').size := by rw [uv_size, uv_size, hl, hl']

theorem first_any (i : Nat) (hi : i < 5) (w : World) : Calls Try.prog 23 #[.int .i64 (i : Int)] w fun e w' => e = .returned (.tuple #[.int .i64 (atN i : Int), .int .i64 (bitN i : Int)]) ∧ w = w' := by
  have t1 : IntKind.i64.wrap ((i : Int) * 26) = ((i * 26 : Nat) : Int) := by rw [IntWalk.i64_in _ (by omega)]; omega
  have t2 : IntKind.i64.wrap (((i * 26 : Nat) : Int) / 8) = (atN i : Int) := by rw [IntWalk.i64_in _ (by omega), atN]; omega
  have t3 : ((i * 26 : Nat) : Int).tmod 8 = (bitN i : Int) := by rw [Int.tmod_eq_emod_of_nonneg (by omega), bitN]; omega
  generalize i * 26 = m at *
  generalize atN i = p at *
  generalize bitN i = q at *
  go_enter Try.func23, Try.ntmps23
  go_wp2
  go_ret2
  exact ⟨rfl, rfl⟩

set_option maxRecDepth 100000 in
set_option maxHeartbeats 2000000 in
theorem carry_any (l : List Nat) (hl : l.length = 5) (hu : Under l (2 ^ 63)) (w : World) :
    Calls Try.prog 16 #[.agg (uv l)] w fun e w' => e = .returned (.tuple #[.agg (uv (carryL l)), .int .u64 (overN l : Int)]) ∧ Below w.heap.size w w' := by
  have HL := Lib.hid hl
  have HU := Lib.hid hu
  clear hl hu
  go_enter Try.func16, Try.ntmps16
  go_wp2_with (refine wpList_box_row rfl 36 _ rfl _ rfl ?_)
  intro w1 b1 x1 z1
  go_wp2_with (refine wpList_alloc_row rfl 36 rfl _ zero_q5 ?_)
  intro w2 b2 x2 z2
  have X1 : Hid (Whole w2 w.heap.size 36 (uv (carryTo l 0).1)) := x1.below b2 (by omega)
  have HB : Hid (Below w.heap.size w w2) := b1.trans (b2.mono (by omega))
  have X2 : Hid (Whole w2 (w.heap.size + 1) 36 (uv [0, 0, 0, 0, 0])) := x2
  clear b1 b2 x1 x2 z1 z2
  go_wp2_with fail
  go_loopw [4, 6] (fun o i wr => ∃ k : Nat, k ≤ 5 ∧ i = .int .i64 (k : Int) ∧ o = .int .u64 ((carryTo l k).2 : Int) ∧ Whole wr w.heap.size 36 (uv (carryTo l k).1) ∧ Whole wr (w.heap.size + 1) 36 (uv [0, 0, 0, 0, 0]) ∧ Below w.heap.size w wr) (fun _ i _ => 5 - (intOf i).toNat)
  case atStart => exact ⟨0, Nat.zero_le _, rfl, rfl, X1.out, X2.out, HB.out⟩
  case round =>
    obtain ⟨k, hk, rfl, rfl, x1, x2, hb⟩ := hrel
    have Y1 := Lib.hid x1
    have Y2 := Lib.hid x2
    have HBr := Lib.hid hb
    clear x1 x2 hb X1 X2 HB
    have LT : Hid ((carryTo l k).1.length = 5) := by rw [Hid, carryTo_length]; exact HL.out
    by_cases hlt : k < 5
    · have jk : (k : Int) < 5 := by omega
      have o1 := carryTo_over l k HU.out
      have x1 := carryTo_under l _ k HU.out (by decide) k
      have HN : Hid (carryTo l (k + 1) = _) := Lib.hid (carryTo.eq_2 l k)
      obtain ⟨N, hN⟩ : ∃ N, N = carryTo l (k + 1) := ⟨_, rfl⟩
      rw [← hN] at HN
      have HM := Lib.hid hN
      clear hN
      obtain ⟨L, hL⟩ : ∃ L, L = (carryTo l k).1 := ⟨_, rfl⟩
      obtain ⟨o, ho⟩ : ∃ o, o = (carryTo l k).2 := ⟨_, rfl⟩
      rw [← hL] at Y1 LT x1 HN
      rw [← ho] at o1 HN ⊢
      clear hL ho
      obtain ⟨x, hx⟩ : ∃ x, x = L.getD k 0 := ⟨_, rfl⟩
      rw [← hx] at x1 HN
      obtain ⟨y, hy⟩ : ∃ y, y = x + o := ⟨_, rfl⟩
      rw [← hy] at HN
      have hxk : L[k]? = some x := by rw [hx]; simp [List.getD, List.getElem?_eq_getElem (show k < L.length by rw [LT.out]; exact hlt)]
      have c1 := (Y1.out.at_ k).trans (uv_at _ _ _ hxk)
      have s1 : IntKind.u64.wrap ((x : Int) + (o : Int)) = (y : Int) := by rw [IntWalk.u64_in _ (by omega)]; omega
      have HY : Hid (y < 2 ^ 64) := Lib.hid (by omega)
      clear hxk hx hy
      have ji : k < L.length := by rw [LT.out]; exact hlt
      go_wp2_with (refine wpList_put_q rfl _ _ rfl w.heap.size k rfl y rfl _ L Y1.out ji ?_)
      intro w5 g5 x5 z5
      have Y1' := Lib.hid x5
      have Y2' := Lib.hid (Y2.out.grown g5 (by simp))
      have HB5 := Lib.hid (HBr.out.grown g5 HBr.out.size (fun k hk => by injection hk; omega))
      clear c1 s1 x5 g5 z5 Y1 Y2 HBr
      have c2 := (Y1'.out.at_ k).trans (uv_at _ _ y (by simp [ji]))
      have s2 : (y : Int) / 67108864 = ((y / 2 ^ 26 : Nat) : Int) := by omega
      have s3 := bits_mask 26 (by decide) 67108863 rfl y HY.out
      obtain ⟨p, hp⟩ : ∃ p, p = y / 2 ^ 26 := ⟨_, rfl⟩
      obtain ⟨r, hr⟩ : ∃ r, r = y % 2 ^ 26 := ⟨_, rfl⟩
      rw [← hp] at s2 HN
      rw [← hr] at s3 HN
      have HPR := Lib.hid (And.intro hp hr)
      clear hp hr
      go_wp2_with (refine wpList_put_q rfl _ _ rfl w.heap.size k rfl r rfl _ _ Y1'.out (by rw [List.length_set]; exact ji) ?_)
      intro w6 g6 x6 z6
      have Z1 := Lib.hid x6
      have Z2 := Lib.hid (Y2'.out.grown g6 (by simp))
      have HB6 := Lib.hid (HB5.out.grown g6 HB5.out.size (fun k hk => by injection hk; omega))
      clear c2 s2 s3 x6 g6 z6 Y1' Y2' HB5
      go_wp2_with fail
      refine ⟨⟨k + 1, by omega, by go_num, ?_, ?_, Z2.out, HB6.out⟩, by simp [intOf]; omega⟩
      · rw [← HM.out, HN.out]
      · rw [← HM.out, HN.out]
        exact Z1.out
    · obtain rfl : k = 5 := by omega
      have S5 := Lib.hid (size_of5 _ LT.out)
      have Z5 := Lib.hid (same5 [0, 0, 0, 0, 0] _ rfl LT.out)
      have HE : Hid (carryL l = (carryTo l 5).1 ∧ overN l = (carryTo l 5).2) := Lib.hid ⟨rfl, rfl⟩
      generalize carryTo l 5 = N at *
      obtain ⟨L, o⟩ := N
      simp only at Y1 S5 Z5 LT HE ⊢
      go_wp2_with (first | refine wpList_load_row rfl 36 _ rfl _ rfl _ _ _ _ Y1.out Try.underlying36 rfl S5.out ?_ | refine wpList_store_whole rfl 36 _ _ rfl _ _ rfl rfl _ _ Y2.out S5.out Z5.out (uv_one _) ?_)
      intro w6 g6 x6 z6
      have X6 := Lib.hid x6
      have HB6 := Lib.hid (HBr.out.grown g6 HBr.out.size (fun k hk => by injection hk; omega))
      clear x6 g6 z6
      go_wp2_with fail
      refine bodyPost_ret (results_row_tmp rfl _ _ _ _ _ _ _ rfl X6.out Try.underlying36 rfl S5.out) rfl ?_
      exact ⟨by rw [HE.out.1, HE.out.2]; rfl, HB6.out⟩

set_option maxRecDepth 100000 in
set_option maxHeartbeats 2000000 in
theorem fold_any (l : List Nat) (hl : l.length = 5) (hu : Under l (2 ^ 63)) (w : World) :
    Calls Try.prog 24 #[.agg (uv l)] w fun e w' => e = .returned (.agg (uv (foldL l))) ∧ Below w.heap.size w w' := by
  have HL := Lib.hid hl
  have LC := Lib.hid ((carryL_length l).trans hl)
  have S5 := Lib.hid (size_of5 l hl)
  have SC := Lib.hid (size_of5 _ LC.out)
  have ZC := Lib.hid (same5 l _ hl LC.out)
  have o1 := overN_lt l hu
  have x1 := carryL_under l hl 0
  have CC := fun w => Lib.hid (carry_any l hl hu w)
  have LF := Lib.hid ((foldL_length l).trans hl)
  obtain ⟨R, hR⟩ : ∃ R, R = foldL l := ⟨_, rfl⟩
  have HN : Hid (R = _) := Lib.hid hR
  rw [← hR] at LF
  have HM := Lib.hid hR
  clear hR
  rw [foldL] at HN
  have SF := Lib.hid (size_of5 R LF.out)
  have ZF := Lib.hid (same5 [0, 0, 0, 0, 0] R rfl LF.out)
  obtain ⟨C, hC⟩ : ∃ C, C = carryL l := ⟨_, rfl⟩
  obtain ⟨o, ho⟩ : ∃ o, o = overN l := ⟨_, rfl⟩
  rw [← hC] at x1 LC SC ZC HN CC
  rw [← ho] at o1 HN CC
  obtain ⟨x, hx⟩ : ∃ x, x = C.getD 0 0 := ⟨_, rfl⟩
  rw [← hx] at x1 HN
  obtain ⟨p, hp⟩ : ∃ p, p = o * 5 := ⟨_, rfl⟩
  rw [← hp] at HN
  obtain ⟨y, hy⟩ : ∃ y, y = x + p := ⟨_, rfl⟩
  rw [← hy] at HN
  have hxk : C[0]? = some x := by rw [hx]; simp [List.getD, List.getElem?_eq_getElem (show 0 < C.length by rw [LC.out]; decide)]
  have HX := Lib.hid hxk
  have s1 : IntKind.u64.wrap ((o : Int) * 5) = (p : Int) := by rw [IntWalk.u64_in _ (by omega)]; omega
  have s2 : IntKind.u64.wrap ((x : Int) + (p : Int)) = (y : Int) := by rw [IntWalk.u64_in _ (by omega)]; omega
  clear hl hu hC ho hx hp hy hxk x1 o1
  go_enter Try.func24, Try.ntmps24
  go_wp2_with (refine wpList_box_row rfl 36 _ rfl _ rfl ?_)
  intro w1 b1 x1 z1
  go_wp2_with (refine wpList_alloc_row rfl 36 rfl _ zero_q5 ?_)
  intro w2 b2 x2 z2
  have X1 : Hid (Whole w2 w.heap.size 36 (uv l)) := x1.below b2 (by omega)
  have HB : Hid (Below w.heap.size w w2) := b1.trans (b2.mono (by omega))
  have X2 : Hid (Whole w2 (w.heap.size + 1) 36 (uv [0, 0, 0, 0, 0])) := x2
  clear b1 b2 x1 x2 z1 z2
  go_wp2_with (refine wpList_load_row rfl 36 _ rfl _ rfl _ _ _ _ X1.out Try.underlying36 rfl S5.out ?_)
  refine (CC w2).out.mono ?_
  rintro e w3 ⟨rfl, b3⟩
  have Y1 := Lib.hid (X1.out.below b3 X1.out.lt)
  have Y2 := Lib.hid (X2.out.below b3 X2.out.lt)
  have B3 := Lib.hid (HB.out.trans (b3.mono HB.out.size))
  clear b3 X1 X2 HB CC
  go_wp2_with (refine wpList_store_whole rfl 36 _ _ rfl _ _ rfl rfl _ _ Y1.out SC.out ZC.out (uv_one _) ?_)
  intro w4 g4 x4 z4
  have X4 := Lib.hid x4
  have V2 := Lib.hid (Y2.out.grown g4 (by simp))
  have B4 := Lib.hid (B3.out.grown g4 B3.out.size (fun k hk => by injection hk; omega))
  clear g4 x4 z4 Y1 Y2 B3
  have c1 := (X4.out.at_ 0).trans (uv_at _ _ _ HX.out)
  go_wp2_with (refine wpList_put_q rfl _ _ rfl w.heap.size 0 rfl y rfl _ C X4.out (by rw [LC.out]; decide) ?_)
  intro w5 g5 x5 z5
  rw [← HN.out] at x5
  have X5 := Lib.hid x5
  have V5 := Lib.hid (V2.out.grown g5 (by simp))
  have B5 := Lib.hid (B4.out.grown g5 B4.out.size (fun k hk => by injection hk; omega))
  clear g5 x5 z5 V2 X4 B4 c1
  go_wp2_with (first | refine wpList_load_row rfl 36 _ rfl _ rfl _ _ _ _ X5.out Try.underlying36 rfl SF.out ?_ | refine wpList_store_whole rfl 36 _ _ rfl _ _ rfl rfl _ _ V5.out SF.out ZF.out (uv_one _) ?_)
  intro w6 g6 x6 z6
  have X6 := Lib.hid x6
  have HB6 := Lib.hid (B5.out.grown g6 B5.out.size (fun k hk => by injection hk; omega))
  clear x6 g6 z6
  go_wp2_with fail
  refine bodyPost_ret (results_cell_row rfl _ _ _ _ _ _ _ rfl X6.out Try.underlying36 rfl SF.out) rfl ?_
  exact ⟨by rw [HM.out], HB6.out⟩
end Go.Proofs.Ytbdcligpbogkjaa
