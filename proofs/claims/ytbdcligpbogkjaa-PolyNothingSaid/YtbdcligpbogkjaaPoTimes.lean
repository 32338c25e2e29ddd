/- What package poly's times answers. -/
import Derived.Test.YtbdcligpbogkjaaPoP
import Derived.StillTailTactics
namespace Go.Proofs.Ytbdcligpbogkjaa
open Go.RowKit

theorem cell_of (w : World) (g : Nat) (t : TypeId) (l : List Nat) (i x : Nat) (h : Whole w g t (uv l)) (hi : i < l.length) (hx : x = l.getD i 0) : w.cell? ⟨g, i, none⟩ = some (.int .u64 (x : Int)) := by
  refine (h.at_ i).trans (uv_at _ _ _ ?_)
  rw [hx]
  simp [List.getD, List.getElem?_eq_getElem hi]

set_option maxRecDepth 100000 in
set_option maxHeartbeats 4000000 in
theorem mul_any (a b : List Nat) (hl : a.length = 5) (hb : b.length = 5) (ua : Under a (2 ^ 28)) (ub : Under b (2 ^ 26)) (w : World) :
    Calls Try.prog 14 #[.agg (uv a), .agg (uv b)] w fun e w' => e = .returned (.agg (uv (timesL a b))) ∧ Below w.heap.size w w' := by
  have LA := Lib.hid hl
  have LB := Lib.hid hb
  have UA := Lib.hid ua
  have UB := Lib.hid ub
  have LM : ∀ n, Hid ((mulTo a b n).length = 5) := fun n => Lib.hid (mulTo_length a b n)
  have UM : ∀ n, n ≤ 25 → Hid (Under (mulTo a b n) (2 ^ 62)) := fun n hn => Lib.hid (mulTo_small a b ua ub n hn)
  have UP : ∀ i k, Hid (a.getD i 0 * b.getD k 0 < 2 ^ 54) := fun i k => Lib.hid (by
    have h3 : a.getD i 0 * b.getD k 0 ≤ (2 ^ 28 - 1) * (2 ^ 26 - 1) := Nat.mul_le_mul (by have := ua i; omega) (by have := ub k; omega)
    exact Nat.lt_of_le_of_lt h3 (by decide))
  clear hl hb ua ub
  go_enter Try.func14, Try.ntmps14
  go_wp2_with (refine wpList_box_row rfl 36 _ rfl _ rfl ?_)
  intro w1 b1 x1 z1
  go_wp2_with (refine wpList_box_row rfl 36 _ rfl _ rfl ?_)
  intro w2 b2 x2 z2
  go_wp2_with (refine wpList_alloc_row rfl 36 rfl _ zero_q5 ?_)
  intro w3 b3 x3 z3
  go_wp2_with (refine wpList_alloc_row rfl 36 rfl _ zero_q5 ?_)
  intro w4 b4 x4 z4
  have X1 : Hid (Whole w4 w.heap.size 36 (uv a)) := ((Whole.below x1 b2 (by omega)).below b3 (by omega)).below b4 (by omega)
  have X2 : Hid (Whole w4 (w.heap.size + 1) 36 (uv b)) := (Whole.below x2 b3 (by omega)).below b4 (by omega)
  have X3 : Hid (Whole w4 (w.heap.size + 2) 36 (uv [0, 0, 0, 0, 0])) := Whole.below x3 b4 (by omega)
  have X4 : Hid (Whole w4 (w.heap.size + 3) 36 (uv (mulTo a b 0))) := x4
  have HB : Hid (Below w.heap.size w w4) := ((b1.trans (b2.mono (by omega))).trans (b3.mono (by omega))).trans (b4.mono (by omega))
  clear b1 b2 b3 b4 x1 x2 x3 x4 z1 z2 z3 z4
  go_wp2_with fail
  go_loopw [8] (fun s wr => ∃ i : Nat, i ≤ 5 ∧ s = .int .i64 (i : Int) ∧ Whole wr w.heap.size 36 (uv a) ∧ Whole wr (w.heap.size + 1) 36 (uv b) ∧ Whole wr (w.heap.size + 2) 36 (uv [0, 0, 0, 0, 0]) ∧ Whole wr (w.heap.size + 3) 36 (uv (mulTo a b (5 * i))) ∧ Below w.heap.size w wr) (fun s _ => 5 - (intOf s).toNat)
  case atStart => exact ⟨0, by decide, rfl, X1.out, X2.out, X3.out, X4.out, HB.out⟩
  case round =>
    obtain ⟨i, hi5, rfl, x1, x2, x3, x4, hb⟩ := hrel
    have Y1 := Lib.hid x1
    have Y2 := Lib.hid x2
    have Y3 := Lib.hid x3
    have Y4 := Lib.hid x4
    have HBr := Lib.hid hb
    clear x1 x2 x3 x4 hb X1 X2 X3 X4 HB
    by_cases hlt : i < 5
    · have di : decide ((i : Int) < 5) = true := by simp; omega
      go_wp2_with fail
      go_loopw [11] (fun s wr => ∃ k : Nat, k ≤ 5 ∧ s = .int .i64 (k : Int) ∧ Whole wr w.heap.size 36 (uv a) ∧ Whole wr (w.heap.size + 1) 36 (uv b) ∧ Whole wr (w.heap.size + 2) 36 (uv [0, 0, 0, 0, 0]) ∧ Whole wr (w.heap.size + 3) 36 (uv (mulTo a b (5 * i + k))) ∧ Below w.heap.size w wr) (fun s _ => 5 - (intOf s).toNat)
      case atStart => exact ⟨0, by decide, rfl, Y1.out, Y2.out, Y3.out, Y4.out, HBr.out⟩
      case round =>
        rename_i wr
        obtain ⟨k, hk5, rfl, x1, x2, x3, x4, hb⟩ := hrel
        clear Y1 Y2 Y3 Y4 HBr
        have Y1 := Lib.hid x1
        have Y2 := Lib.hid x2
        have Y3 := Lib.hid x3
        have Y4 := Lib.hid x4
        have HBr := Lib.hid hb
        clear x1 x2 x3 x4 hb
        by_cases hlk : k < 5
        · have dk : decide ((k : Int) < 5) = true := by simp; omega
          obtain ⟨n, hn⟩ : ∃ n, n = 5 * i + k := ⟨_, rfl⟩
          have LT := LM n
          have UT := UM n (by omega)
          have HN : Hid (mulTo a b (n + 1) = _) := Lib.hid (mulTo.eq_2 a b n)
          rw [show n / 5 = i by omega, show n % 5 = k by omega, mulPut] at HN
          rw [← hn] at Y4
          obtain ⟨N, hN⟩ : ∃ N, N = mulTo a b (n + 1) := ⟨_, rfl⟩
          rw [← hN] at HN
          have HM : Hid (N = mulTo a b (5 * i + (k + 1))) := Lib.hid (by rw [hN, hn]; rfl)
          clear hN
          obtain ⟨L, hL⟩ : ∃ L, L = mulTo a b n := ⟨_, rfl⟩
          rw [← hL] at Y4 LT UT HN
          clear hL hn
          obtain ⟨x, hx⟩ : ∃ x, x = a.getD i 0 := ⟨_, rfl⟩
          obtain ⟨y, hy⟩ : ∃ y, y = b.getD k 0 := ⟨_, rfl⟩
          have up := (UP i k).out
          rw [← hx, ← hy] at up HN
          obtain ⟨m, hm⟩ : ∃ m, m = x * y := ⟨_, rfl⟩
          rw [← hm] at up HN
          have C1 := Lib.hid (cell_of _ _ _ _ _ _ Y1.out (show i < a.length by rw [LA.out]; exact hlt) hx)
          have C2 := Lib.hid (cell_of _ _ _ _ _ _ Y2.out (show k < b.length by rw [LB.out]; exact hlk) hy)
          obtain ⟨s, hs⟩ : ∃ s, s = i + k := ⟨_, rfl⟩
          rw [← hs] at HN
          have t1 : IntKind.i64.wrap ((i : Int) + (k : Int)) = (s : Int) := by rw [IntWalk.i64_in _ (by omega)]; omega
          have t2 : IntKind.u64.wrap ((x : Int) * (y : Int)) = (m : Int) := by
            have e : (x : Int) * (y : Int) = (m : Int) := by rw [hm]; exact (Int.natCast_mul x y).symm
            rw [e, IntWalk.u64_in _ (by omega)]
          have ji : (i : Int) < 5 := by omega
          have jk : (k : Int) < 5 := by omega
          by_cases h5 : s < 5
          · rw [if_pos h5] at HN
            have d5 : decide ((s : Int) < 5) = true := by simp; omega
            obtain ⟨z, hz⟩ : ∃ z, z = L.getD s 0 := ⟨_, rfl⟩
            have C4 := Lib.hid (cell_of _ _ _ _ _ _ Y4.out (show s < L.length by rw [LT.out]; exact h5) hz)
            have uz := UT.out s
            rw [← hz] at uz HN
            obtain ⟨q, hq⟩ : ∃ q, q = z + m := ⟨_, rfl⟩
            rw [← hq] at HN
            have t3 : IntKind.u64.wrap ((z : Int) + (m : Int)) = (q : Int) := by rw [IntWalk.u64_in _ (by omega)]; omega
            have js : (s : Int) < 5 := by omega
            have jl : s < L.length := by rw [LT.out]; exact h5
            clear hx hy hm hs hz hq up uz UT
            go_wp2_with fail
            refine still_tail 14 (by kernel_rfl) (by kernel_rfl) fun w5 h5 b5 => ?_
            simp only [List.take_succ_cons, List.take_zero, List.drop_succ_cons, List.drop_zero]
            have c1 := (World.cell?_of_block (a := ⟨w.heap.size, i, none⟩) (by rw [h5])).trans C1.out
            have c2 := (World.cell?_of_block (a := ⟨w.heap.size + 1, k, none⟩) (by rw [h5])).trans C2.out
            have c4 := (World.cell?_of_block (a := ⟨w.heap.size + 3, s, none⟩) (by rw [h5])).trans C4.out
            repeat still_step
            refine wpStill_nil ?_
            have W1 := Lib.hid (Y1.out.of_heap h5)
            have W2 := Lib.hid (Y2.out.of_heap h5)
            have W3 := Lib.hid (Y3.out.of_heap h5)
            have W4 := Lib.hid (Y4.out.of_heap h5)
            refine wpList_put_q rfl _ _ rfl (w.heap.size + 3) s rfl q rfl _ L W4.out jl ?_
            intro w6 g6 x6 z6
            rw [← HN.out, HM.out] at x6
            have V4 := Lib.hid x6
            have V1 := Lib.hid (W1.out.grown g6 (by simp))
            have V2 := Lib.hid (W2.out.grown g6 (by simp))
            have V3 := Lib.hid (W3.out.grown g6 (by simp))
            have HB5 := HBr.out.trans (b5.mono HBr.out.size)
            have HB6 := Lib.hid (HB5.grown g6 HB5.size (fun k hk => by injection hk; omega))
            clear c1 c2 c4 h5 b5 HB5 x6 g6 z6 W1 W2 W3 W4 C1 C2 C4 HBr Y1 Y2 Y3 Y4 t3 t2
            refine wpList_nil ?_
            go_wp2_with fail
            exact ⟨⟨k + 1, by omega, by go_num, V1.out, V2.out, V3.out, V4.out, HB6.out⟩, by simp [intOf]; omega⟩
          · rw [if_neg h5] at HN
            have d5 : decide ((s : Int) < 5) = false := by simp; omega
            obtain ⟨r, hr⟩ : ∃ r, r = s - 5 := ⟨_, rfl⟩
            rw [← hr] at HN
            obtain ⟨z, hz⟩ : ∃ z, z = L.getD r 0 := ⟨_, rfl⟩
            have r5 : r < 5 := by omega
            have C4 := Lib.hid (cell_of _ _ _ _ _ _ Y4.out (show r < L.length by rw [LT.out]; exact r5) hz)
            have uz := UT.out r
            rw [← hz] at uz HN
            obtain ⟨p, hp⟩ : ∃ p, p = m * 5 := ⟨_, rfl⟩
            rw [← hp] at HN
            obtain ⟨q, hq⟩ : ∃ q, q = z + p := ⟨_, rfl⟩
            rw [← hq] at HN
            have t3 : IntKind.i64.wrap ((s : Int) - 5) = (r : Int) := by rw [IntWalk.i64_in _ (by omega)]; omega
            have t4 : IntKind.u64.wrap ((m : Int) * 5) = (p : Int) := by rw [IntWalk.u64_in _ (by omega)]; omega
            have t5 : IntKind.u64.wrap ((z : Int) + (p : Int)) = (q : Int) := by rw [IntWalk.u64_in _ (by omega)]; omega
            have js : (r : Int) < 5 := by omega
            have jl : r < L.length := by rw [LT.out]; exact r5
            clear hx hy hm hs hz hq hr hp up uz UT r5
            go_wp2_with fail
            refine still_tail 16 (by kernel_rfl) (by kernel_rfl) fun w5 h5 b5 => ?_
            simp only [List.take_succ_cons, List.take_zero, List.drop_succ_cons, List.drop_zero]
            have c1 := (World.cell?_of_block (a := ⟨w.heap.size, i, none⟩) (by rw [h5])).trans C1.out
            have c2 := (World.cell?_of_block (a := ⟨w.heap.size + 1, k, none⟩) (by rw [h5])).trans C2.out
            have c4 := (World.cell?_of_block (a := ⟨w.heap.size + 3, r, none⟩) (by rw [h5])).trans C4.out
            repeat still_step
            refine wpStill_nil ?_
            have W1 := Lib.hid (Y1.out.of_heap h5)
            have W2 := Lib.hid (Y2.out.of_heap h5)
            have W3 := Lib.hid (Y3.out.of_heap h5)
            have W4 := Lib.hid (Y4.out.of_heap h5)
            refine wpList_put_q rfl _ _ rfl (w.heap.size + 3) r rfl q rfl _ L W4.out jl ?_
            intro w6 g6 x6 z6
            rw [← HN.out, HM.out] at x6
            have V4 := Lib.hid x6
            have V1 := Lib.hid (W1.out.grown g6 (by simp))
            have V2 := Lib.hid (W2.out.grown g6 (by simp))
            have V3 := Lib.hid (W3.out.grown g6 (by simp))
            have HB5 := HBr.out.trans (b5.mono HBr.out.size)
            have HB6 := Lib.hid (HB5.grown g6 HB5.size (fun k hk => by injection hk; omega))
            clear c1 c2 c4 h5 b5 HB5 x6 g6 z6 W1 W2 W3 W4 C1 C2 C4 HBr Y1 Y2 Y3 Y4 t3 t4 t5 t2
            refine wpList_nil ?_
            go_wp2_with fail
            exact ⟨⟨k + 1, by omega, by go_num, V1.out, V2.out, V3.out, V4.out, HB6.out⟩, by simp [intOf]; omega⟩
        · obtain rfl : k = 5 := by omega
          have E : Hid (5 * i + 5 = 5 * (i + 1)) := Lib.hid (by omega)
          rw [E.out] at Y4
          go_wp2_with fail
          exact ⟨⟨i + 1, by omega, by go_num, Y1.out, Y2.out, Y3.out, Y4.out, HBr.out⟩, by simp [intOf]; omega⟩
    · obtain rfl : i = 5 := by omega
      have LT := LM 25
      have L1 := (foldL_length (mulTo a b 25)).trans LT.out
      have L2 := timesL_length a b
      have u0 := (UM 25 (by decide)).out.mono (show 2 ^ 62 ≤ 2 ^ 63 by decide)
      have u1 : Under (foldL (mulTo a b 25)) (2 ^ 63) := foldL_under _ LT.out _ (by have := overN_lt _ u0; omega)
      have F1 := fun w => Lib.hid (fold_any _ LT.out u0 w)
      have F2 := fun w => Lib.hid (fold_any _ L1 u1 w)
      have E : foldL (foldL (mulTo a b 25)) = timesL a b := rfl
      rw [E] at F2
      have S4 := Lib.hid (size_of5 _ LT.out)
      have S5 := Lib.hid (size_of5 _ L2)
      have Z5 := Lib.hid (same5 [0, 0, 0, 0, 0] _ rfl L2)
      rw [show 5 * 5 = 25 by decide] at Y4
      clear u0 u1 L1 L2 E
      generalize hR : timesL a b = R at F2 S5 Z5
      have HR := Lib.hid hR
      generalize foldL (mulTo a b 25) = F at F1 F2
      generalize mulTo a b 25 = M at Y4 F1 S4 LT
      clear hR
      go_wp2_with (refine wpList_load_row rfl 36 _ rfl _ rfl _ _ _ _ Y4.out Try.underlying36 rfl S4.out ?_)
      refine (F1 _).out.mono ?_
      rintro e w5 ⟨rfl, b5⟩
      have V3 := Lib.hid (Y3.out.below b5 Y3.out.lt)
      have B5 := Lib.hid (HBr.out.trans (b5.mono HBr.out.size))
      clear b5 Y1 Y2 Y3 Y4 HBr F1
      go_wp2_with fail
      refine (F2 _).out.mono ?_
      rintro e w6 ⟨rfl, b6⟩
      have W3 := Lib.hid (V3.out.below b6 V3.out.lt)
      have B6 := Lib.hid (B5.out.trans (b6.mono B5.out.size))
      clear b6 V3 B5 F2
      go_wp2_with (refine wpList_store_whole rfl 36 _ _ rfl _ _ rfl rfl _ _ W3.out S5.out Z5.out (uv_one _) ?_)
      intro w7 g7 x7 z7
      have X7 := Lib.hid x7
      have B7 := Lib.hid (B6.out.grown g7 B6.out.size (fun k hk => by injection hk; omega))
      clear x7 g7 z7
      go_wp2_with fail
      refine bodyPost_ret (results_cell_row rfl _ _ _ _ _ _ _ rfl X7.out Try.underlying36 rfl S5.out) rfl ?_
      exact ⟨by rw [HR.out], B7.out⟩
end Go.Proofs.Ytbdcligpbogkjaa
