/- What package poly's times answers. What package poly's read answers: the number of bytes and of one more behind them, in five parts. -/
import Derived.Test.YtmnhpkdldeifgaaGreatDoorGbi
import Derived.StillTailTactics
import Derived.Test.YtmnhpkdldeifgaaGreatDoorGt
import Derived.Test.YtmnhpkdldeifgaaGreatDoorGbd
namespace Go.Proofs.YtmnhpkdldeifgaaGreatDoor
set_option maxRecDepth 100000
open Go.RowKit

theorem cell_of (w : World) (g : Nat) (t : TypeId) (l : List Nat) (i x : Nat) (h : Whole w g t (uv l)) (hi : i < l.length) (hx : x = l.getD i 0) : w.cell? ⟨g, i, none⟩ = some (.int .u64 (x : Int)) := by
  refine (h.at_ i).trans (uv_at _ _ _ ?_)
  rw [hx]
  simp [List.getD, List.getElem?_eq_getElem hi]

set_option maxRecDepth 100000 in
set_option maxHeartbeats 4000000 in
theorem mul_any (a b : List Nat) (hl : a.length = 5) (hb : b.length = 5) (ua : Under a (2 ^ 28)) (ub : Under b (2 ^ 26)) (w : World) :
    Calls Tryz.prog 55 #[.agg (uv a), .agg (uv b)] w fun e w' => e = .returned (.agg (uv (timesL a b))) ∧ Below w.heap.size w w' := by
  have LA := Lib.hid hl
  have LB := Lib.hid hb
  have UA := Lib.hid ua
  have UB := Lib.hid ub
  have LM : ∀ n, Hid ((mulTo a b n).length = 5) := fun n => Lib.hid (mulTo_length a b n)
  have UM : ∀ n, n ≤ 25 → Hid (Under (mulTo a b n) (2 ^ 62)) := fun n hn => Lib.hid (mulTo_small a b ua ub n hn)
  have UP : ∀ i k, Hid (a.getD i 0 * b.getD k 0 < 2 ^ 54) := fun i k => Lib.hid (by
    have h3 : a.getD i 0 * b.getD k 0 ≤ (2 ^ 28 - 1) * (2 ^ 26 - 1) := Nat.mul_le_mul (by have := ua i; omega) (by have := ub k; omega)
    exact Nat.lt_of_le_of_lt h3 (by decide))
  clear hl hb ua ub
  go_enter Tryz.func55, Tryz.ntmps55
  go_wp2_with (refine wpList_box_row rfl 81 _ rfl _ rfl ?_)
  intro w1 b1 x1 z1
  go_wp2_with (refine wpList_box_row rfl 81 _ rfl _ rfl ?_)
  intro w2 b2 x2 z2
  go_wp2_with (refine wpList_alloc_row rfl 81 rfl _ zero_q5 ?_)
  intro w3 b3 x3 z3
  go_wp2_with (refine wpList_alloc_row rfl 81 rfl _ zero_q5 ?_)
  intro w4 b4 x4 z4
  have X1 : Hid (Whole w4 w.heap.size 81 (uv a)) := ((Whole.below x1 b2 (by omega)).below b3 (by omega)).below b4 (by omega)
  have X2 : Hid (Whole w4 (w.heap.size + 1) 81 (uv b)) := (Whole.below x2 b3 (by omega)).below b4 (by omega)
  have X3 : Hid (Whole w4 (w.heap.size + 2) 81 (uv [0, 0, 0, 0, 0])) := Whole.below x3 b4 (by omega)
  have X4 : Hid (Whole w4 (w.heap.size + 3) 81 (uv (mulTo a b 0))) := x4
  have HB : Hid (Below w.heap.size w w4) := ((b1.trans (b2.mono (by omega))).trans (b3.mono (by omega))).trans (b4.mono (by omega))
  clear b1 b2 b3 b4 x1 x2 x3 x4 z1 z2 z3 z4
  go_wp2_with fail
  go_loopw [8] (fun s wr => ∃ i : Nat, i ≤ 5 ∧ s = .int .i64 (i : Int) ∧ Whole wr w.heap.size 81 (uv a) ∧ Whole wr (w.heap.size + 1) 81 (uv b) ∧ Whole wr (w.heap.size + 2) 81 (uv [0, 0, 0, 0, 0]) ∧ Whole wr (w.heap.size + 3) 81 (uv (mulTo a b (5 * i))) ∧ Below w.heap.size w wr) (fun s _ => 5 - (intOf s).toNat)
  case atStart => exact ⟨0, by decide, rfl, X1.out, X2.out, X3.out, X4.out, HB.out⟩
  case round =>
    obtain ⟨i, hi5, rfl, x1, x2, x3, x4, hb⟩ := hrel
    have Y1 := Lib.hid x1
    have Y2 := Lib.hid x2
    have Y3 := Lib.hid x3
    have Y4 := Lib.hid x4
    have HBr := Lib.hid hb
    clear x1 x2 x3 x4 hb X1 X2 X3 X4 HB
    by_cases hlt : i < 5
    · have di : decide ((i : Int) < 5) = true := by simp; omega
      go_wp2_with fail
      go_loopw [11] (fun s wr => ∃ k : Nat, k ≤ 5 ∧ s = .int .i64 (k : Int) ∧ Whole wr w.heap.size 81 (uv a) ∧ Whole wr (w.heap.size + 1) 81 (uv b) ∧ Whole wr (w.heap.size + 2) 81 (uv [0, 0, 0, 0, 0]) ∧ Whole wr (w.heap.size + 3) 81 (uv (mulTo a b (5 * i + k))) ∧ Below w.heap.size w wr) (fun s _ => 5 - (intOf s).toNat)
      case atStart => exact ⟨0, by decide, rfl, Y1.out, Y2.out, Y3.out, Y4.out, HBr.out⟩
      case round =>
        rename_i wr
        obtain ⟨k, hk5, rfl, x1, x2, x3, x4, hb⟩ := hrel
        clear Y1 Y2 Y3 Y4 HBr
        have Y1 := Lib.hid x1
        have Y2 := Lib.hid x2
        have Y3 := Lib.hid x3
        have Y4 := Lib.hid x4
        have HBr := Lib.hid hb
        clear x1 x2 x3 x4 hb
        by_cases hlk : k < 5
        · have dk : decide ((k : Int) < 5) = true := by simp; omega
          obtain ⟨n, hn⟩ : ∃ n, n = 5 * i + k := ⟨_, rfl⟩
          have LT := LM n
          have UT := UM n (by omega)
          have HN : Hid (mulTo a b (n + 1) = _) := Lib.hid (mulTo.eq_2 a b n)
          rw [show n / 5 = i by omega, show n % 5 = k by omega, mulPut] at HN
          rw [← hn] at Y4
          obtain ⟨N, hN⟩ : ∃ N, N = mulTo a b (n + 1) := ⟨_, rfl⟩
          rw [← hN] at HN
          have HM : Hid (N = mulTo a b (5 * i + (k + 1))) := Lib.hid (by rw [hN, hn]; rfl)
          clear hN
          obtain ⟨L, hL⟩ : ∃ L, L = mulTo a b n := ⟨_, rfl⟩
          rw [← hL] at Y4 LT UT HN
          clear hL hn
          obtain ⟨x, hx⟩ : ∃ x, x = a.getD i 0 := ⟨_, rfl⟩
          obtain ⟨y, hy⟩ : ∃ y, y = b.getD k 0 := ⟨_, rfl⟩
          have up := (UP i k).out
          rw [← hx, ← hy] at up HN
          obtain ⟨m, hm⟩ : ∃ m, m = x * y := ⟨_, rfl⟩
          rw [← hm] at up HN
          have C1 := Lib.hid (cell_of _ _ _ _ _ _ Y1.out (show i < a.length by rw [LA.out]; exact hlt) hx)
          have C2 := Lib.hid (cell_of _ _ _ _ _ _ Y2.out (show k < b.length by rw [LB.out]; exact hlk) hy)
          obtain ⟨s, hs⟩ : ∃ s, s = i + k := ⟨_, rfl⟩
          rw [← hs] at HN
          have t1 : IntKind.i64.wrap ((i : Int) + (k : Int)) = (s : Int) := by rw [IntWalk.i64_in _ (by omega)]; omega
          have t2 : IntKind.u64.wrap ((x : Int) * (y : Int)) = (m : Int) := by
            have e : (x : Int) * (y : Int) = (m : Int) := by rw [hm]; exact (Int.natCast_mul x y).symm
            rw [e, IntWalk.u64_in _ (by omega)]
          have ji : (i : Int) < 5 := by omega
          have jk : (k : Int) < 5 := by omega
          by_cases h5 : s < 5
          · rw [if_pos h5] at HN
            have d5 : decide ((s : Int) < 5) = true := by simp; omega
            obtain ⟨z, hz⟩ : ∃ z, z = L.getD s 0 := ⟨_, rfl⟩
            have C4 := Lib.hid (cell_of _ _ _ _ _ _ Y4.out (show s < L.length by rw [LT.out]; exact h5) hz)
            have uz := UT.out s
            rw [← hz] at uz HN
            obtain ⟨q, hq⟩ : ∃ q, q = z + m := ⟨_, rfl⟩
            rw [← hq] at HN
            have t3 : IntKind.u64.wrap ((z : Int) + (m : Int)) = (q : Int) := by rw [IntWalk.u64_in _ (by omega)]; omega
            have js : (s : Int) < 5 := by omega
            have jl : s < L.length := by rw [LT.out]; exact h5
            clear hx hy hm hs hz hq up uz UT
            go_wp2_with fail
            refine still_tail 14 (by kernel_rfl) (by kernel_rfl) fun w5 h5 b5 => ?_
            simp only [List.take_succ_cons, List.take_zero, List.drop_succ_cons, List.drop_zero]
            have c1 := (World.cell?_of_block (a := ⟨w.heap.size, i, none⟩) (by rw [h5])).trans C1.out
            have c2 := (World.cell?_of_block (a := ⟨w.heap.size + 1, k, none⟩) (by rw [h5])).trans C2.out
            have c4 := (World.cell?_of_block (a := ⟨w.heap.size + 3, s, none⟩) (by rw [h5])).trans C4.out
            repeat still_step
            refine wpStill_nil ?_
            have W1 := Lib.hid (Y1.out.of_heap h5)
            have W2 := Lib.hid (Y2.out.of_heap h5)
            have W3 := Lib.hid (Y3.out.of_heap h5)
            have W4 := Lib.hid (Y4.out.of_heap h5)
            refine wpList_put_q rfl _ _ rfl (w.heap.size + 3) s rfl q rfl _ L W4.out jl ?_
            intro w6 g6 x6 z6
            rw [← HN.out, HM.out] at x6
            have V4 := Lib.hid x6
            have V1 := Lib.hid (W1.out.grown g6 (by simp))
            have V2 := Lib.hid (W2.out.grown g6 (by simp))
            have V3 := Lib.hid (W3.out.grown g6 (by simp))
            have HB5 := HBr.out.trans (b5.mono HBr.out.size)
            have HB6 := Lib.hid (HB5.grown g6 HB5.size (fun k hk => by injection hk; omega))
            clear c1 c2 c4 h5 b5 HB5 x6 g6 z6 W1 W2 W3 W4 C1 C2 C4 HBr Y1 Y2 Y3 Y4 t3 t2
            refine wpList_nil ?_
            go_wp2_with fail
            exact ⟨⟨k + 1, by omega, by go_num, V1.out, V2.out, V3.out, V4.out, HB6.out⟩, by simp [intOf]; omega⟩
          · rw [if_neg h5] at HN
            have d5 : decide ((s : Int) < 5) = false := by simp; omega
            obtain ⟨r, hr⟩ : ∃ r, r = s - 5 := ⟨_, rfl⟩
            rw [← hr] at HN
            obtain ⟨z, hz⟩ : ∃ z, z = L.getD r 0 := ⟨_, rfl⟩
            have r5 : r < 5 := by omega
            have C4 := Lib.hid (cell_of _ _ _ _ _ _ Y4.out (show r < L.length by rw [LT.out]; exact r5) hz)
            have uz := UT.out r
            rw [← hz] at uz HN
            obtain ⟨p, hp⟩ : ∃ p, p = m * 5 := ⟨_, rfl⟩
            rw [← hp] at HN
            obtain ⟨q, hq⟩ : ∃ q, q = z + p := ⟨_, rfl⟩
            rw [← hq] at HN
            have t3 : IntKind.i64.wrap ((s : Int) - 5) = (r : Int) := by rw [IntWalk.i64_in _ (by omega)]; omega
            have t4 : IntKind.u64.wrap ((m : Int) * 5) = (p : Int) := by rw [IntWalk.u64_in _ (by omega)]; omega
            have t5 : IntKind.u64.wrap ((z : Int) + (p : Int)) = (q : Int) := by rw [IntWalk.u64_in _ (by omega)]; omega
            have js : (r : Int) < 5 := by omega
            have jl : r < L.length := by rw [LT.out]; exact r5
            clear hx hy hm hs hz hq hr hp up uz UT r5
            go_wp2_with fail
            refine still_tail 16 (by kernel_rfl) (by kernel_rfl) fun w5 h5 b5 => ?_
            simp only [List.take_succ_cons, List.take_zero, List.drop_succ_cons, List.drop_zero]
            have c1 := (World.cell?_of_block (a := ⟨w.heap.size, i, none⟩) (by rw [h5])).trans C1.out
            have c2 := (World.cell?_of_block (a := ⟨w.heap.size + 1, k, none⟩) (by rw [h5])).trans C2.out
            have c4 := (World.cell?_of_block (a := ⟨w.heap.size + 3, r, none⟩) (by rw [h5])).trans C4.out
            repeat still_step
            refine wpStill_nil ?_
            have W1 := Lib.hid (Y1.out.of_heap h5)
            have W2 := Lib.hid (Y2.out.of_heap h5)
            have W3 := Lib.hid (Y3.out.of_heap h5)
            have W4 := Lib.hid (Y4.out.of_heap h5)
            refine wpList_put_q rfl _ _ rfl (w.heap.size + 3) r rfl q rfl _ L W4.out jl ?_
            intro w6 g6 x6 z6
            rw [← HN.out, HM.out] at x6
            have V4 := Lib.hid x6
            have V1 := Lib.hid (W1.out.grown g6 (by simp))
            have V2 := Lib.hid (W2.out.grown g6 (by simp))
            have V3 := Lib.hid (W3.out.grown g6 (by simp))
            have HB5 := HBr.out.trans (b5.mono HBr.out.size)
            have HB6 := Lib.hid (HB5.grown g6 HB5.size (fun k hk => by injection hk; omega))
            clear c1 c2 c4 h5 b5 HB5 x6 g6 z6 W1 W2 W3 W4 C1 C2 C4 HBr Y1 Y2 Y3 Y4 t3 t4 t5 t2
            refine wpList_nil ?_
            go_wp2_with fail
            exact ⟨⟨k + 1, by omega, by go_num, V1.out, V2.out, V3.out, V4.out, HB6.out⟩, by simp [intOf]; omega⟩
        · obtain rfl : k = 5 := by omega
          have E : Hid (5 * i + 5 = 5 * (i + 1)) := Lib.hid (by omega)
          rw [E.out] at Y4
          go_wp2_with fail
          exact ⟨⟨i + 1, by omega, by go_num, Y1.out, Y2.out, Y3.out, Y4.out, HBr.out⟩, by simp [intOf]; omega⟩
    · obtain rfl : i = 5 := by omega
      have LT := LM 25
      have L1 := (foldL_length (mulTo a b 25)).trans LT.out
      have L2 := timesL_length a b
      have u0 := (UM 25 (by decide)).out.mono (show 2 ^ 62 ≤ 2 ^ 63 by decide)
      have u1 : Under (foldL (mulTo a b 25)) (2 ^ 63) := foldL_under _ LT.out _ (by have := overN_lt _ u0; omega)
      have F1 := fun w => Lib.hid (fold_any _ LT.out u0 w)
      have F2 := fun w => Lib.hid (fold_any _ L1 u1 w)
      have E : foldL (foldL (mulTo a b 25)) = timesL a b := rfl
      rw [E] at F2
      have S4 := Lib.hid (size_of5 _ LT.out)
      have S5 := Lib.hid (size_of5 _ L2)
      have Z5 := Lib.hid (same5 [0, 0, 0, 0, 0] _ rfl L2)
      rw [show 5 * 5 = 25 by decide] at Y4
      clear u0 u1 L1 L2 E
      generalize hR : timesL a b = R at F2 S5 Z5
      have HR := Lib.hid hR
      generalize foldL (mulTo a b 25) = F at F1 F2
      generalize mulTo a b 25 = M at Y4 F1 S4 LT
      clear hR
      go_wp2_with (refine wpList_load_row rfl 81 _ rfl _ rfl _ _ _ _ Y4.out Tryz.underlying81 rfl S4.out ?_)
      refine (F1 _).out.mono ?_
      rintro e w5 ⟨rfl, b5⟩
      have V3 := Lib.hid (Y3.out.below b5 Y3.out.lt)
      have B5 := Lib.hid (HBr.out.trans (b5.mono HBr.out.size))
      clear b5 Y1 Y2 Y3 Y4 HBr F1
      go_wp2_with fail
      refine (F2 _).out.mono ?_
      rintro e w6 ⟨rfl, b6⟩
      have W3 := Lib.hid (V3.out.below b6 V3.out.lt)
      have B6 := Lib.hid (B5.out.trans (b6.mono B5.out.size))
      clear b6 V3 B5 F2
      go_wp2_with (refine wpList_store_whole rfl 81 _ _ rfl _ _ rfl rfl _ _ W3.out S5.out Z5.out (uv_one _) ?_)
      intro w7 g7 x7 z7
      have X7 := Lib.hid x7
      have B7 := Lib.hid (B6.out.grown g7 B6.out.size (fun k hk => by injection hk; omega))
      clear x7 g7 z7
      go_wp2_with fail
      refine bodyPost_ret (results_cell_row rfl _ _ _ _ _ _ _ rfl X7.out Tryz.underlying81 rfl S5.out) rfl ?_
      exact ⟨by rw [HR.out], B7.out⟩
end Go.Proofs.YtmnhpkdldeifgaaGreatDoor

namespace Go.Proofs.YtmnhpkdldeifgaaGreatDoor
set_option maxRecDepth 100000
open Go.RowKit

theorem zero_b17 : (Tryz.prog.info? 100).map (·.zero) = some (some (.agg (bv (List.replicate 17 0)).toArray)) := by kernel_rfl
theorem room_set (b : List UInt8) (x : UInt8) (h : b.length ≤ 16) : (b.take 17 ++ (List.replicate 17 (0 : UInt8)).drop b.length).set b.length x = roomL b x := by
  rw [List.take_of_length_le (by omega), List.drop_replicate, List.set_append_right _ _ (Nat.le_refl _), Nat.sub_self, show 17 - b.length = (16 - b.length) + 1 by omega, List.replicate_succ, List.set_cons_zero, roomL]
theorem u64_byte (c : UInt8) : IntKind.u64.wrap (c.toNat : Int) = (c.toNat : Int) := by
  have := c.toNat_lt
  rw [IntWalk.u64_in _ (by omega)]

set_option maxRecDepth 100000 in
set_option maxHeartbeats 4000000 in
theorem read_any (A : Option Addr) (n cap : Nat) (b : List UInt8) (x : UInt8) (w : World) (h : BytesAt w (.slice A n cap) b) (hn : n ≤ 16) :
    Calls Tryz.prog 53 #[.slice A n cap, .int .u8 (x.toNat : Int)] w fun e w' => e = .returned (.agg (uv (partsL (leNat (roomL b x))))) ∧ Below w.heap.size w w' := by
  obtain ⟨rfl, hcap⟩ := h.size
  have H := Lib.hid h
  have RL := Lib.hid (roomL_length b x hn)
  have RS := Lib.hid (room_set b x hn)
  have FB := Lib.hid (four_bytes (roomL b x))
  have hcap' : (b.length : Int) ≤ cap := by omega
  clear h
  obtain ⟨R, hR⟩ : ∃ R, R = roomL b x := ⟨_, rfl⟩
  rw [← hR] at RL RS FB
  obtain ⟨V, hV⟩ : ∃ V, V = leNat R := ⟨_, rfl⟩
  rw [← hV] at FB
  have HR : Hid (V = leNat (roomL b x)) := Lib.hid (by rw [hV, hR])
  clear hR hV
  go_enter Tryz.func53, Tryz.ntmps53
  go_wp2_with (refine wpList_alloc_row rfl 81 rfl _ zero_q5 ?_)
  intro w1 b1 x1 z1
  go_wp2_with (refine wpList_alloc_row rfl 100 rfl _ zero_b17 ?_)
  intro w2 b2 x2 z2
  have X1 : Hid (Whole w2 w.heap.size 81 (uv [0, 0, 0, 0, 0])) := Whole.below x1 b2 (by omega)
  have X2 : Hid (Whole w2 (w.heap.size + 1) 100 (bv (List.replicate 17 0)).toArray) := x2
  have HB : Hid (Below w.heap.size w w2) := b1.trans (b2.mono (by omega))
  have Z2 : Hid (w2.heap.size = w.heap.size + 2) := Lib.hid (by omega)
  clear b1 b2 x1 x2 z1 z2
  obtain ⟨w3, hr, x3, g3, z3⟩ := run_copy_in w2 3 (w.heap.size + 1) 17 17 100 (List.replicate 17 0) _ b X2.out (by rfl) (H.out.below (Below.mono HB.out (by omega))) b.length (by omega)
  obtain ⟨L0, hL0⟩ : ∃ L0, L0 = b.take 17 ++ (List.replicate 17 (0 : UInt8)).drop b.length := ⟨_, rfl⟩
  rw [← hL0] at RS x3
  have LL : Hid (b.length < L0.length) := Lib.hid (by have := congrArg List.length RS.out; rw [List.length_set, RL.out] at this; omega)
  clear hL0
  have X3 := Lib.hid x3
  have Y1 := Lib.hid (X1.out.grown g3 (by simp))
  have B3 := Lib.hid (HB.out.grown g3 HB.out.size (fun k hk => by injection hk; omega))
  have Z3 : Hid (w3.heap.size = w.heap.size + 2) := Lib.hid (z3.trans Z2.out)
  have jn : (b.length : Int) < 17 := by omega
  clear x3 g3 z3 X1 X2 HB
  go_wp2_with (refine wpList_put_b rfl _ _ rfl (w.heap.size + 1) b.length rfl x rfl _ L0 X3.out LL.out ?_)
  intro w4 g4 x4 z4
  rw [RS.out] at x4
  have X4 := Lib.hid x4
  have V1 := Lib.hid (Y1.out.grown g4 (by simp))
  have B4 := Lib.hid (B3.out.grown g4 B3.out.size (fun k hk => by injection hk; omega))
  have z4' : w4.heap.size = w.heap.size + 2 := z4.trans Z3.out
  clear x4 g4 z4 X3 Y1 B3 hr jn
  go_wp2_with (refine wpList_alloc_row rfl 81 rfl _ zero_q5 ?_)
  intro w5 b5 x5 z5
  have X5 : Hid (Whole w5 (w.heap.size + 2) 81 (uv (partsTo V 0))) := Lib.hid x5
  have Y1 := Lib.hid (V1.out.below b5 (by omega))
  have Y4 := Lib.hid (X4.out.below b5 (by omega))
  have B5 := Lib.hid (B4.out.trans (b5.mono (by omega)))
  clear b5 x5 z5 z4' V1 X4 B4 LL RS L0
  go_wp2_with fail
  go_loopw [18] (fun s wr => ∃ k : Nat, k ≤ 5 ∧ s = .int .i64 (k : Int) ∧ Whole wr w.heap.size 81 (uv [0, 0, 0, 0, 0]) ∧ Whole wr (w.heap.size + 1) 100 (bv R).toArray ∧ Whole wr (w.heap.size + 2) 81 (uv (partsTo V k)) ∧ Below w.heap.size w wr) (fun s _ => 5 - (intOf s).toNat)
  case atStart => exact ⟨0, by decide, rfl, Y1.out, Y4.out, X5.out, B5.out⟩
  case round =>
    obtain ⟨k, hk, rfl, x1, x2, x3, hb⟩ := hrel
    clear Y1 Y4 X5 B5
    have Y1 := Lib.hid x1
    have Y2 := Lib.hid x2
    have Y3 := Lib.hid x3
    have HBr := Lib.hid hb
    clear x1 x2 x3 hb
    have LT := Lib.hid (partsTo_length V k)
    by_cases hlt : k < 5
    · have dk : decide ((k : Int) < 5) = true := by simp; omega
      have FC := Lib.hid (first_any k hlt wr)
      have a13 := atN_le k hlt
      have d6 := bitN_le k hlt
      have HS := Lib.hid (partsTo_set V k hlt)
      have PO := part_of V k hlt
      have fb := FB.out (atN k)
      obtain ⟨a, ha⟩ : ∃ a, a = atN k := ⟨_, rfl⟩
      obtain ⟨d, hd⟩ : ∃ d, d = bitN k := ⟨_, rfl⟩
      rw [← ha] at FC a13 PO fb
      rw [← hd] at FC d6 PO
      clear ha hd
      obtain ⟨N, hN⟩ : ∃ N, N = partsTo V (k + 1) := ⟨_, rfl⟩
      rw [← hN] at HS
      have HM := Lib.hid hN
      clear hN
      obtain ⟨L, hL⟩ : ∃ L, L = partsTo V k := ⟨_, rfl⟩
      rw [← hL] at Y3 LT HS
      clear hL
      obtain ⟨y, hy⟩ : ∃ y, y = V / (2 ^ 26) ^ k % 2 ^ 26 := ⟨_, rfl⟩
      rw [← hy] at HS PO
      clear hy
      obtain ⟨a1, h1⟩ : ∃ a1, a1 = a + 1 := ⟨_, rfl⟩
      obtain ⟨a2, h2⟩ : ∃ a2, a2 = a + 2 := ⟨_, rfl⟩
      obtain ⟨a3, h3⟩ : ∃ a3, a3 = a + 3 := ⟨_, rfl⟩
      rw [← h1, ← h2, ← h3] at fb
      have cb : ∀ i, i < 17 → Hid (wr.cell? ⟨w.heap.size + 1, i, none⟩ = some (.int .u8 ((R.getD i 0).toNat : Int))) := fun i hi => Lib.hid (block_cell Y2.out i _ (by simp [List.getD, List.getElem?_eq_getElem (show i < R.length by rw [RL.out]; exact hi)]))
      have C0 := cb a (by omega)
      have C1 := cb a1 (by omega)
      have C2 := cb a2 (by omega)
      have C3 := cb a3 (by omega)
      obtain ⟨x0, e0⟩ : ∃ x0, x0 = (R.getD a 0).toNat := ⟨_, rfl⟩
      obtain ⟨x1, e1⟩ : ∃ x1, x1 = (R.getD a1 0).toNat := ⟨_, rfl⟩
      obtain ⟨x2, e2⟩ : ∃ x2, x2 = (R.getD a2 0).toNat := ⟨_, rfl⟩
      obtain ⟨x3, e3⟩ : ∃ x3, x3 = (R.getD a3 0).toNat := ⟨_, rfl⟩
      have l0 := (R.getD a 0).toNat_lt
      have l1 := (R.getD a1 0).toNat_lt
      have l2 := (R.getD a2 0).toNat_lt
      have l3 := (R.getD a3 0).toNat_lt
      rw [← e0] at C0 l0 fb
      rw [← e1] at C1 l1 fb
      rw [← e2] at C2 l2 fb
      rw [← e3] at C3 l3 fb
      have u0 : IntKind.u64.wrap (x0 : Int) = (x0 : Int) := by rw [IntWalk.u64_in _ (by omega)]
      have u1 : IntKind.u64.wrap (x1 : Int) = (x1 : Int) := by rw [IntWalk.u64_in _ (by omega)]
      have u2 : IntKind.u64.wrap (x2 : Int) = (x2 : Int) := by rw [IntWalk.u64_in _ (by omega)]
      have u3 : IntKind.u64.wrap (x3 : Int) = (x3 : Int) := by rw [IntWalk.u64_in _ (by omega)]
      have t1 : IntKind.i64.wrap ((a : Int) + 1) = (a1 : Int) := by rw [IntWalk.i64_in _ (by omega)]; omega
      have t2 : IntKind.i64.wrap ((a : Int) + 2) = (a2 : Int) := by rw [IntWalk.i64_in _ (by omega)]; omega
      have t3 : IntKind.i64.wrap ((a : Int) + 3) = (a3 : Int) := by rw [IntWalk.i64_in _ (by omega)]; omega
      have j0 : (a : Int) < 17 := by omega
      have j1 : (a1 : Int) < 17 := by omega
      have j2 : (a2 : Int) < 17 := by omega
      have j3 : (a3 : Int) < 17 := by omega
      obtain ⟨q1, hq1⟩ : ∃ q1, q1 = x1 * 2 ^ 8 := ⟨_, rfl⟩
      obtain ⟨q2, hq2⟩ : ∃ q2, q2 = x2 * 2 ^ 16 := ⟨_, rfl⟩
      obtain ⟨q3, hq3⟩ : ∃ q3, q3 = x3 * 2 ^ 24 := ⟨_, rfl⟩
      obtain ⟨m1, hm1⟩ : ∃ m1, m1 = x0 + q1 := ⟨_, rfl⟩
      obtain ⟨m2, hm2⟩ : ∃ m2, m2 = m1 + q2 := ⟨_, rfl⟩
      obtain ⟨m3, hm3⟩ : ∃ m3, m3 = m2 + q3 := ⟨_, rfl⟩
      have s1 : IntKind.u64.wrap ((x1 : Int) * 256) = (q1 : Int) := by rw [IntWalk.u64_in _ (by omega)]; omega
      have s2 : IntKind.u64.wrap ((x2 : Int) * 65536) = (q2 : Int) := by rw [IntWalk.u64_in _ (by omega)]; omega
      have s3 : IntKind.u64.wrap ((x3 : Int) * 16777216) = (q3 : Int) := by rw [IntWalk.u64_in _ (by omega)]; omega
      have o1 : bits .or .u64 (x0 : Int) (q1 : Int) = (m1 : Int) := by rw [hq1]; exact bits_or 8 x0 x1 m1 (by omega) (by omega) (by omega)
      have o2 : bits .or .u64 (m1 : Int) (q2 : Int) = (m2 : Int) := by rw [hq2]; exact bits_or 16 m1 x2 m2 (by omega) (by omega) (by omega)
      have o3 : bits .or .u64 (m2 : Int) (q3 : Int) = (m3 : Int) := by rw [hq3]; exact bits_or 24 m2 x3 m3 (by omega) (by omega) (by omega)
      obtain ⟨p, hp⟩ : ∃ p, p = m3 / 2 ^ d := ⟨_, rfl⟩
      have sh : (m3 : Int) / 2 ^ d = (p : Int) := by rw [hp]; simp
      have pl : p < 2 ^ 64 := by rw [hp]; exact Nat.lt_of_le_of_lt (Nat.div_le_self _ _) (by omega)
      have om : bits .and .u64 (p : Int) 67108863 = (y : Int) := by
        rw [bits_mask 26 (by decide) 67108863 rfl p pl, hp, ← PO, ← fb, hm3, hm2, hm1, hq1, hq2, hq3]
      have SH := Lib.hid sh
      have jk : (k : Int) < 5 := by omega
      have ji : k < L.length := by rw [LT.out]; exact hlt
      clear cb e0 e1 e2 e3 h1 h2 h3 a13 hq1 hq2 hq3 hm1 hm2 hm3 hp sh pl PO fb FB
      go_wp2_with fail
      refine FC.out.mono ?_
      rintro e w6 ⟨rfl, rfl⟩
      go_wp2_with fail
      refine still_all (by kernel_rfl) (by kernel_rfl) fun w7 h7 b7 => ?_
      have c0 := (World.cell?_of_block (a := ⟨w.heap.size + 1, a, none⟩) (by rw [h7])).trans C0.out
      have c1 := (World.cell?_of_block (a := ⟨w.heap.size + 1, a1, none⟩) (by rw [h7])).trans C1.out
      have c2 := (World.cell?_of_block (a := ⟨w.heap.size + 1, a2, none⟩) (by rw [h7])).trans C2.out
      have c3 := (World.cell?_of_block (a := ⟨w.heap.size + 1, a3, none⟩) (by rw [h7])).trans C3.out
      repeat still_step
      refine wpStill_nil ?_
      have W1 := Lib.hid (Y1.out.of_heap h7)
      have W2 := Lib.hid (Y2.out.of_heap h7)
      have W3 := Lib.hid (Y3.out.of_heap h7)
      have B7 := Lib.hid (HBr.out.trans (b7.mono HBr.out.size))
      clear c0 c1 c2 c3 h7 b7 C0 C1 C2 C3 HBr Y1 Y2 Y3 t1 t2 t3 u0 u1 u2 u3 s1 s2 s3 o1 o2 o3 FC
      have sh := SH.out
      go_wp2_with (refine wpList_put_q rfl _ _ rfl (w.heap.size + 2) k rfl y rfl _ L W3.out ji ?_)
      intro w8 g8 x8 z8
      rw [HS.out, HM.out] at x8
      have V3 := Lib.hid x8
      have V1 := Lib.hid (W1.out.grown g8 (by simp))
      have V2 := Lib.hid (W2.out.grown g8 (by simp))
      have B8 := Lib.hid (B7.out.grown g8 B7.out.size (fun k hk => by injection hk; omega))
      clear x8 g8 z8 W1 W2 W3 B7 sh SH om
      go_wp2_with fail
      exact ⟨⟨k + 1, by omega, by go_num, V1.out, V2.out, V3.out, B8.out⟩, by simp [intOf]; omega⟩
    · obtain rfl : k = 5 := by omega
      have S5 := Lib.hid (size_of5 _ LT.out)
      have Z5 := Lib.hid (same5 [0, 0, 0, 0, 0] _ rfl LT.out)
      obtain ⟨L, hL⟩ : ∃ L, L = partsTo V 5 := ⟨_, rfl⟩
      rw [← hL] at Y3 LT S5 Z5
      have HE := Lib.hid hL
      clear hL
      go_wp2_with (first | refine wpList_load_row rfl 81 _ rfl _ rfl _ _ _ _ Y3.out Tryz.underlying81 rfl S5.out ?_ | refine wpList_store_whole rfl 81 _ _ rfl _ _ rfl rfl _ _ Y1.out S5.out Z5.out (uv_one _) ?_)
      intro w6 g6 x6 z6
      have X6 := Lib.hid x6
      have HB6 := Lib.hid (HBr.out.grown g6 HBr.out.size (fun k hk => by injection hk; omega))
      clear x6 g6 z6
      go_wp2_with fail
      refine bodyPost_ret (results_cell_row rfl _ _ _ _ _ _ _ rfl X6.out Tryz.underlying81 rfl S5.out) rfl ?_
      exact ⟨by rw [HE.out, HR.out]; rfl, HB6.out⟩
end Go.Proofs.YtmnhpkdldeifgaaGreatDoor
