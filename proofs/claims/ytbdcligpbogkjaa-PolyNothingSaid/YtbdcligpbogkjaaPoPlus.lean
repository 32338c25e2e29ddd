/- What package poly's plus answers. -/
import Derived.Test.YtbdcligpbogkjaaPoP
import Derived.StillTailTactics
namespace Go.Proofs.Ytbdcligpbogkjaa
open Go.RowKit

set_option maxRecDepth 100000 in
set_option maxHeartbeats 4000000 in
theorem plus_any (a b : List Nat) (hl : a.length = 5) (hb : b.length = 5) (ua : Under a (2 ^ 62)) (ub : Under b (2 ^ 62)) (w : World) :
    Calls Try.prog 15 #[.agg (uv a), .agg (uv b)] w fun e w' => e = .returned (.agg (uv (plusL a b))) ∧ Below w.heap.size w w' := by
  have LA := Lib.hid hl
  have LB := Lib.hid hb
  have UA := Lib.hid ua
  have UB := Lib.hid ub
  clear hl hb ua ub
  go_enter Try.func15, Try.ntmps15
  go_wp2_with (refine wpList_box_row rfl 36 _ rfl _ rfl ?_)
  intro w1 b1 x1 z1
  go_wp2_with (refine wpList_box_row rfl 36 _ rfl _ rfl ?_)
  intro w2 b2 x2 z2
  go_wp2_with (refine wpList_alloc_row rfl 36 rfl _ zero_q5 ?_)
  intro w3 b3 x3 z3
  have X1 : Hid (Whole w3 w.heap.size 36 (uv (plusTo a b 0))) := (Whole.below x1 b2 (by omega)).below b3 (by omega)
  have X2 : Hid (Whole w3 (w.heap.size + 1) 36 (uv b)) := Whole.below x2 b3 (by omega)
  have X3 : Hid (Whole w3 (w.heap.size + 2) 36 (uv [0, 0, 0, 0, 0])) := x3
  have HB : Hid (Below w.heap.size w w3) := (b1.trans (b2.mono (by omega))).trans (b3.mono (by omega))
  clear b1 b2 b3 x1 x2 x3 z1 z2 z3
  go_wp2_with fail
  go_loopw [6] (fun i wr => ∃ k : Nat, k ≤ 5 ∧ i = .int .i64 (k : Int) ∧ Whole wr w.heap.size 36 (uv (plusTo a b k)) ∧ Whole wr (w.heap.size + 1) 36 (uv b) ∧ Whole wr (w.heap.size + 2) 36 (uv [0, 0, 0, 0, 0]) ∧ Below w.heap.size w wr) (fun i _ => 5 - (intOf i).toNat)
  case atStart => exact ⟨0, Nat.zero_le _, rfl, X1.out, X2.out, X3.out, HB.out⟩
  case round =>
    obtain ⟨k, hk, rfl, x1, x2, x3, hb⟩ := hrel
    have Y1 := Lib.hid x1
    have Y2 := Lib.hid x2
    have Y3 := Lib.hid x3
    have HBr := Lib.hid hb
    clear x1 x2 x3 hb X1 X2 X3 HB
    have LT : Hid ((plusTo a b k).length = 5) := by rw [Hid, plusTo_length]; exact LA.out
    by_cases hlt : k < 5
    · have jk : (k : Int) < 5 := by omega
      have x1 := plusTo_under a b k _ _ (by rw [LA.out]; omega) UA.out UB.out k
      have x2 := UB.out k
      have HN : Hid (plusTo a b (k + 1) = _) := Lib.hid (plusTo.eq_2 a b k)
      obtain ⟨N, hN⟩ : ∃ N, N = plusTo a b (k + 1) := ⟨_, rfl⟩
      rw [← hN] at HN
      have HM := Lib.hid hN
      clear hN
      obtain ⟨L, hL⟩ : ∃ L, L = plusTo a b k := ⟨_, rfl⟩
      rw [← hL] at Y1 LT x1 HN
      clear hL
      obtain ⟨x, hx⟩ : ∃ x, x = L.getD k 0 := ⟨_, rfl⟩
      rw [← hx] at x1 HN
      obtain ⟨z, hz⟩ : ∃ z, z = b.getD k 0 := ⟨_, rfl⟩
      rw [← hz] at x2 HN
      obtain ⟨y, hy⟩ : ∃ y, y = x + z := ⟨_, rfl⟩
      rw [← hy] at HN
      have hxk : L[k]? = some x := by rw [hx]; simp [List.getD, List.getElem?_eq_getElem (show k < L.length by rw [LT.out]; exact hlt)]
      have hzk : b[k]? = some z := by rw [hz]; simp [List.getD, List.getElem?_eq_getElem (show k < b.length by rw [LB.out]; exact hlt)]
      have C1 := Lib.hid ((Y1.out.at_ k).trans (uv_at _ _ _ hxk))
      have C2 := Lib.hid ((Y2.out.at_ k).trans (uv_at _ _ _ hzk))
      have s1 : IntKind.u64.wrap ((x : Int) + (z : Int)) = (y : Int) := by rw [IntWalk.u64_in _ (by omega)]; omega
      have ji : k < L.length := by rw [LT.out]; exact hlt
      clear hxk hx hy hzk hz x1 x2
      go_wp2_with fail
      refine still_tail 8 (by kernel_rfl) (by kernel_rfl) fun w4 h4 b4 => ?_
      simp only [List.take_succ_cons, List.take_zero, List.drop_succ_cons, List.drop_zero]
      have c1 := (World.cell?_of_block (a := ⟨w.heap.size, k, none⟩) (by rw [h4])).trans C1.out
      have c2 := (World.cell?_of_block (a := ⟨w.heap.size + 1, k, none⟩) (by rw [h4])).trans C2.out
      repeat still_step
      refine wpStill_nil ?_
      have WX := Lib.hid (Y1.out.of_heap h4)
      have W2 := Lib.hid (Y2.out.of_heap h4)
      have W3 := Lib.hid (Y3.out.of_heap h4)
      refine wpList_put_q rfl _ _ rfl w.heap.size k rfl y rfl _ L WX.out ji ?_
      intro w5 g5 x5 z5
      rw [← HN.out] at x5
      have V1 := Lib.hid x5
      have V2 := Lib.hid (W2.out.grown g5 (by simp))
      have V3 := Lib.hid (W3.out.grown g5 (by simp))
      have HB4 := HBr.out.trans (b4.mono HBr.out.size)
      have HB5 := Lib.hid (HB4.grown g5 HB4.size (fun k hk => by injection hk; omega))
      clear c1 c2 h4 b4 HB4 x5 g5 z5 WX W2 W3 C1 C2 HBr Y1 Y2 Y3 s1
      refine wpList_nil ?_
      go_wp2_with fail
      exact ⟨⟨k + 1, by omega, by go_num, by rw [← HM.out]; exact V1.out, V2.out, V3.out, HB5.out⟩, by simp [intOf]; omega⟩
    · obtain rfl : k = 5 := by omega
      have S5 := Lib.hid (size_of5 _ LT.out)
      have Z5 := Lib.hid (same5 [0, 0, 0, 0, 0] _ rfl LT.out)
      obtain ⟨L, hL⟩ : ∃ L, L = plusTo a b 5 := ⟨_, rfl⟩
      rw [← hL] at Y1 LT S5 Z5
      have HE := Lib.hid hL
      clear hL
      go_wp2_with (first | refine wpList_load_row rfl 36 _ rfl _ rfl _ _ _ _ Y1.out Try.underlying36 rfl S5.out ?_ | refine wpList_store_whole rfl 36 _ _ rfl _ _ rfl rfl _ _ Y3.out S5.out Z5.out (uv_one _) ?_)
      intro w6 g6 x6 z6
      have X6 := Lib.hid x6
      have HB6 := Lib.hid (HBr.out.grown g6 HBr.out.size (fun k hk => by injection hk; omega))
      clear x6 g6 z6
      go_wp2_with fail
      refine bodyPost_ret (results_cell_row rfl _ _ _ _ _ _ _ rfl X6.out Try.underlying36 rfl S5.out) rfl ?_
      exact ⟨by rw [HE.out]; rfl, HB6.out⟩
end Go.Proofs.Ytbdcligpbogkjaa
