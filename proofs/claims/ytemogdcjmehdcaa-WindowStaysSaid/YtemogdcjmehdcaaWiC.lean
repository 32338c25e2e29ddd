/- What package window's halves, has, with and moved answer. -/
import Derived.Test.YtemogdcjmehdcaaWiB
import Derived.Test.YtemogdcjmehdcaaWiA
import Derived.Test.YtemogdcjmehdcaaArrQ
import Derived.Test.YtemogdcjmehdcaaGenP
import Derived.StillTailTactics
namespace Go.Proofs.Ytemogdcjmehdcaa
set_option maxRecDepth 100000
open Go.RowKit

theorem two_zero : (Try.prog.info? 37).map (·.zero) = some (some (.agg (uv [0, 0]))) := by kernel_rfl
theorem two_size (a b : Nat) : (Try.prog.info? 37).map (·.size) = some (uv [a, b]).size := by
  have h : (Try.prog.info? 37).map (·.size) = some 2 := by kernel_rfl
  exact h

set_option maxRecDepth 100000 in
set_option maxHeartbeats 1000000 in
theorem winHalves_any (W : Win) (w : World) : Calls Try.prog 15 #[W.val] w fun e w' => e = .returned (.agg (uv [W.low, W.high])) ∧ Below w.heap.size w w' := by
  have hv : W.val = .agg W.cells := rfl
  rw [hv]
  obtain ⟨lo, hlo⟩ : ∃ lo, lo = W.low := ⟨_, rfl⟩
  obtain ⟨hi, hhi⟩ : ∃ hi, hi = W.high := ⟨_, rfl⟩
  rw [← hlo, ← hhi]
  have HLH := Lib.hid (And.intro hlo hhi)
  clear hv hlo hhi
  go_enter Try.func15, Try.ntmps15
  go_wp2_with (refine wpList_box_row rfl 24 (.tmp 0) rfl W.cells rfl ?_)
  intro w1 b1 x1 z1
  go_wp2_with (refine wpList_alloc_row rfl 37 rfl (uv [0, 0]) two_zero ?_)
  intro w2 b2 x2 z2
  obtain ⟨g, hg⟩ : ∃ g, g = w.heap.size + 1 := ⟨_, rfl⟩
  rw [← hg] at x2 ⊢
  have X2 := Lib.hid x2
  obtain ⟨c0, c1, c2⟩ := WinAt.three (Whole.below (show WinAt w1 w.heap.size W from x1) b2 (by omega))
  have M1 := Lib.hid (show w.heap.size ≤ g from by rw [hg]; omega)
  have B2 := Lib.hid (b1.trans (b2.mono (by omega)))
  rw [← HLH.out.1] at c1
  rw [← HLH.out.2] at c2
  clear b1 x1 z1 b2 x2 z2 hg HLH
  go_wp2_with (with_reducible refine wpList_store_whole rfl 37 _ _ rfl g (uv [lo, hi]) (by with_unfolding_all exact rfl) (by with_unfolding_all exact rfl) _ _ X2.out (two_size _ _) rfl (uv_one _) ?_)
  intro w3 g3 x3 z3
  have X3 := Lib.hid x3
  have B3 := Lib.hid (B2.out.grown g3 B2.out.size (fun k hk => by injection hk with hk; have := M1.out; omega))
  clear g3 x3 z3 X2 B2 c0 c1 c2
  go_wp2_with fail
  refine bodyPost_ret (v := .agg (uv [lo, hi])) ?_ rfl ⟨rfl, B3.out⟩
  exact results_cell_row rfl _ _ _ _ _ _ _ rfl X3.out Try.underlying37 rfl (two_size _ _)

set_option maxRecDepth 100000 in
set_option maxHeartbeats 1000000 in
theorem winHas_any (W : Win) (hok : W.ok) (k : Nat) (hk : k < 128) (w : World) : Calls Try.prog 14 #[.agg (uv [W.low, W.high]), .int .i64 (k : Int)] w fun e w' => e = .returned (.bool (W.bit k)) ∧ Below w.heap.size w w' := by
  obtain ⟨q, x, r, hq, hr, hx, hxl, hb⟩ : ∃ q x r : Nat, q = k / 64 ∧ r = k % 64 ∧ [W.low, W.high][q]? = some x ∧ x < 18446744073709551616 ∧ W.bit k = decide (x / 2 ^ r % 2 = 1) := by
    by_cases h : k < 64
    · exact ⟨0, W.low, k, by omega, by omega, rfl, hok.1, bit_lo W k h⟩
    · exact ⟨1, W.high, k - 64, by omega, by omega, rfl, hok.2, bit_hi W k h⟩
  obtain ⟨l, hl⟩ : ∃ l, l = [W.low, W.high] := ⟨_, rfl⟩
  have LL := Lib.hid (show l.length = 2 by rw [hl]; rfl)
  rw [← hl] at hx ⊢
  obtain ⟨b, hbb⟩ : ∃ b, b = W.bit k := ⟨_, rfl⟩
  rw [← hbb] at hb ⊢
  obtain ⟨y, hy⟩ : ∃ y, y = x / 2 ^ r := ⟨_, rfl⟩
  rw [← hy] at hb
  have yl : y < 18446744073709551616 := by rw [hy]; exact div_lt64 _ hxl
  have s1 : (k : Int) / 64 = (q : Int) := by omega
  have s2 : (k : Int).tmod 64 = (r : Int) := by rw [Int.tmod_eq_emod_of_nonneg (by omega)]; omega
  have s2' : (k : Int) % 64 = (r : Int) := by omega
  have s3 : (x : Int) / 2 ^ r = (y : Int) := by rw [hy]; simp
  have s4 : min r 64 = r := by omega
  have s5 : bits .and .u64 (y : Int) 1 = ((y % 2 : Nat) : Int) := bits_mask 1 (by decide) 1 rfl y yl
  obtain ⟨p, hp⟩ : ∃ p, p = y % 2 := ⟨_, rfl⟩
  rw [← hp] at s5 hb
  have s6 : ((p : Int) == 1) = b := by rw [hb]; by_cases h : p = 1 <;> simp [h] <;> omega
  have jq : (q : Int) < 2 := by omega
  have jn : q < 2 := by omega
  clear hl hbb hb hy yl hp hxl hok hk hq hr
  go_enter Try.func14, Try.ntmps14
  go_wp2_with (refine wpList_box_row rfl 37 (.tmp 0) rfl (uv l) rfl ?_)
  intro w1 b1 x1 z1
  have c1 := (x1.at_ q).trans (uv_at _ _ _ hx)
  have B1 := Lib.hid b1
  clear b1 x1 z1 hx
  go_wp2
  go_ret
  exact ⟨rfl, B1.out⟩

set_option maxRecDepth 100000 in
set_option maxHeartbeats 1000000 in
theorem winMoved_any (lo hi : Nat) (hlo : lo < 18446744073709551616) (p : Nat) (hp : p ≤ 1073741824) (w : World) :
    Calls Try.prog 18 #[.agg (uv [lo, hi]), .int .i64 (p : Int)] w fun e w' => e = .returned (.agg (uv [upLo lo p, upHi lo hi p])) ∧ Below w.heap.size w w' := by
  obtain ⟨L, hL⟩ : ∃ L, L = upLo lo p := ⟨_, rfl⟩
  obtain ⟨H, hH⟩ : ∃ H, H = upHi lo hi p := ⟨_, rfl⟩
  rw [← hL, ← hH]
  have HP := Lib.hid hp
  by_cases h64 : 64 ≤ p
  · obtain rfl : L = 0 := by rw [hL, upLo, if_pos h64]
    rw [upHi, if_pos h64] at hH
    have d1 : decide ((p : Int) ≥ 64) = true := by simp; omega
    obtain ⟨d, hd⟩ : ∃ d, d = p - 64 := ⟨_, rfl⟩
    rw [← hd] at hH
    have s1 : IntKind.i64.wrap ((p : Int) - 64) = (d : Int) := by rw [IntWalk.i64_in _ (by omega)]; omega
    obtain ⟨m, hm, s2⟩ : ∃ m, min d 64 = m ∧ IntKind.u64.wrap ((lo : Int) * 2 ^ m) = (H : Int) := by
      refine ⟨_, rfl, ?_⟩
      by_cases h : d < 64
      · rw [show min d 64 = d by omega, IntKind.wrap_u64, hH]
        have e : (lo : Int) * 2 ^ d = ((lo * 2 ^ d : Nat) : Int) := by simp
        rw [e]; omega
      · rw [show min d 64 = 64 by omega, IntKind.wrap_u64, hH]
        obtain ⟨t, rfl⟩ : ∃ t, d = 64 + t := ⟨d - 64, by omega⟩
        rw [Nat.pow_add, ← Nat.mul_assoc]
        have e : lo * 2 ^ 64 * 2 ^ t % 18446744073709551616 = 0 := by rw [Nat.mul_right_comm]; exact Nat.mul_mod_left _ (2 ^ 64)
        rw [e]
        omega
    clear hL hH hd hp HP
    go_enter Try.func18, Try.ntmps18
    go_wp2_with (refine wpList_box_row rfl 37 (.tmp 0) rfl (uv [lo, hi]) rfl ?_)
    intro w1 b1 x1 z1
    go_wp2_with (refine wpList_alloc_row rfl 37 rfl (uv [0, 0]) two_zero ?_)
    intro w2 b2 x2 z2
    obtain ⟨g, hg⟩ : ∃ g, g = w.heap.size + 1 := ⟨_, rfl⟩
    rw [← hg] at x2 ⊢
    have X2 := Lib.hid x2
    have c0 := ((x1.below b2 (by omega)).at_ 0).trans (uv_at _ _ lo rfl)
    have M1 := Lib.hid (show w.heap.size ≤ g from by rw [hg]; omega)
    have B2 := Lib.hid (b1.trans (b2.mono (by omega)))
    clear b1 x1 z1 b2 x2 z2 hg
    go_wp2_with (with_reducible refine wpList_store_whole rfl 37 _ _ rfl g (uv [0, H]) (by with_unfolding_all exact rfl) (by with_unfolding_all exact rfl) _ _ X2.out (two_size _ _) rfl (uv_one _) ?_)
    intro w3 g3 x3 z3
    have X3 := Lib.hid x3
    have B3 := Lib.hid (B2.out.grown g3 B2.out.size (fun k hk => by injection hk with hk; have := M1.out; omega))
    clear g3 x3 z3 X2 B2 c0
    go_wp2_with fail
    refine bodyPost_ret (v := .agg (uv [0, H])) ?_ rfl ⟨rfl, B3.out⟩
    exact results_cell_row rfl _ _ _ _ _ _ _ rfl X3.out Try.underlying37 rfl (two_size _ _)
  · rw [upLo, if_neg h64] at hL
    rw [upHi, if_neg h64] at hH
    have d1 : decide ((p : Int) ≥ 64) = false := by simp; omega
    obtain ⟨d, hd⟩ : ∃ d, d = 64 - p := ⟨_, rfl⟩
    obtain ⟨a, ha⟩ : ∃ a, a = hi * 2 ^ p % 18446744073709551616 := ⟨_, rfl⟩
    obtain ⟨b, hb⟩ : ∃ b, b = lo / 2 ^ d := ⟨_, rfl⟩
    rw [← hd, ← hb, ← ha] at hH
    have s1 : IntKind.i64.wrap (64 - (p : Int)) = (d : Int) := by rw [IntWalk.i64_in _ (by omega)]; omega
    have m1 : min p 64 = p := by omega
    have m2 : min d 64 = d := by omega
    have s2 : IntKind.u64.wrap ((lo : Int) * 2 ^ p) = (L : Int) := by
      have e : (lo : Int) * 2 ^ p = ((lo * 2 ^ p : Nat) : Int) := by simp
      rw [e, IntKind.wrap_u64, hL]; omega
    have s3 : IntKind.u64.wrap ((hi : Int) * 2 ^ p) = (a : Int) := by
      have e : (hi : Int) * 2 ^ p = ((hi * 2 ^ p : Nat) : Int) := by simp
      rw [e, IntKind.wrap_u64, ha]; omega
    have s4 : (lo : Int) / 2 ^ d = (b : Int) := by rw [hb]; simp
    have s5 : bits .or .u64 (a : Int) (b : Int) = (H : Int) := by
      rw [hH]
      exact u64_or_nat a b (by rw [ha]; exact shl_lt _ _) (by rw [hb]; exact div_lt64 _ hlo)
    clear hL hH hd hp HP ha hb
    go_enter Try.func18, Try.ntmps18
    go_wp2_with (refine wpList_box_row rfl 37 (.tmp 0) rfl (uv [lo, hi]) rfl ?_)
    intro w1 b1 x1 z1
    go_wp2_with (refine wpList_alloc_row rfl 37 rfl (uv [0, 0]) two_zero ?_)
    intro w2 b2 x2 z2
    obtain ⟨f, hf⟩ : ∃ f, f = w.heap.size := ⟨_, rfl⟩
    obtain ⟨g, hg⟩ : ∃ g, g = w.heap.size + 1 := ⟨_, rfl⟩
    have X2 := Lib.hid (show Whole w2 g _ _ by rw [hg]; exact x2)
    have X1 := Lib.hid (show Whole w2 f _ _ by rw [hf]; exact x1.below b2 (by omega))
    have M1 := Lib.hid (show w.heap.size ≤ g from by rw [hg]; omega)
    have B2 := Lib.hid (b1.trans (b2.mono (by omega)))
    rw [← hg, ← hf]
    clear b1 x1 z1 b2 x2 z2 hg hf
    go_wp2_with fail
    refine still_tail 15 (by kernel_rfl) (by kernel_rfl) fun w3 h3 b3 => ?_
    simp only [List.take_succ_cons, List.take_zero, List.drop_succ_cons, List.drop_zero]
    have c0 := ((X1.out.of_heap h3).at_ 0).trans (uv_at _ _ lo rfl)
    have c1 := ((X1.out.of_heap h3).at_ 1).trans (uv_at _ _ hi rfl)
    repeat still_step
    refine wpStill_nil ?_
    have X3 := Lib.hid (X2.out.of_heap h3)
    have B3 := Lib.hid (B2.out.trans (b3.mono B2.out.size))
    clear h3 b3 X2 B2 c0 c1 X1
    go_wp2_with (with_reducible refine wpList_store_whole rfl 37 _ _ rfl g (uv [L, H]) (by with_unfolding_all exact rfl) (by with_unfolding_all exact rfl) _ _ X3.out (two_size _ _) rfl (uv_one _) ?_)
    intro w4 g4 x4 z4
    have X4 := Lib.hid x4
    have B4 := Lib.hid (B3.out.grown g4 B3.out.size (fun k hk => by injection hk with hk; have := M1.out; omega))
    clear g4 x4 z4 X3 B3
    go_wp2_with fail
    refine bodyPost_ret (v := .agg (uv [L, H])) ?_ rfl ⟨rfl, B4.out⟩
    exact results_cell_row rfl _ _ _ _ _ _ _ rfl X4.out Try.underlying37 rfl (two_size _ _)
end Go.Proofs.Ytemogdcjmehdcaa
