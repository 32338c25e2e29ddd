/- What package arc's Dist, Within, Inside and Start answer, and the function that tells which place is met first. -/
import Derived.Test.YtknccbdcfpncnaaAcR
import Derived.Test.YtknccbdcfpncnaaUs
import Derived.BigQuiet
import Derived.Deep.QuietTactic
import Derived.Shelf.SlSortCmp.Kit1
import Derived.Sort.WalkB2
import Derived.Sort.WalkB12
namespace Go.Proofs.Ytknccbdcfpncnaa
set_option maxRecDepth 100000
open Go.RowKit Go.Sort Go.Shelf

/-- b less a, as a word of 64 bits, of whatever numbers. -/
def distW (a b : Nat) : Nat := (((b : Int) - (a : Int)) % 18446744073709551616).toNat
theorem distW_eq (a b : Nat) : IntKind.u64.wrap ((b : Int) - (a : Int)) = (distW a b : Int) := by
  rw [distW, IntKind.wrap_u64]
  omega
theorem distW_lt (a b : Nat) : distW a b < 18446744073709551616 := by rw [distW]; omega
theorem distW_dist (a b : Nat) (ha : a < 18446744073709551616) (hb : b < 18446744073709551616) : distW a b = distN a b := by
  rw [distW, distN]
  split <;> omega
/-- The place behind a. -/
def nx (a : Nat) : Nat := (a + 1) % 18446744073709551616
theorem nx_lt (a : Nat) : nx a < 18446744073709551616 := Nat.mod_lt _ (by decide)
theorem nx_eq (a : Nat) : IntKind.u64.wrap ((a : Int) + 1) = (nx a : Int) := by
  rw [nx, IntKind.wrap_u64]
  omega
theorem within_behind (a x b : Nat) (ha : a < 18446744073709551616) (hx : x < 18446744073709551616) (hb : b < 18446744073709551616) : withinB a x b = decide (distN (nx a) x ≤ distN (nx a) b) := by
  obtain ⟨c, hc⟩ : ∃ c, c = nx a := ⟨_, rfl⟩
  have hc2 : (a = 18446744073709551615 ∧ c = 0) ∨ (a < 18446744073709551615 ∧ c = a + 1) := by rw [hc, nx]; omega
  rw [← hc, Bool.eq_iff_iff]
  clear hc
  unfold withinB distN
  (repeat' split) <;> simp only [decide_eq_true_eq, Bool.and_eq_true, Bool.or_eq_true, true_iff] <;> omega
theorem inside_behind (a x b : Nat) (ha : a < 18446744073709551616) (hx : x < 18446744073709551616) (hb : b < 18446744073709551616) : insideB a x b = decide (distN (nx a) x < distN (nx a) b) := by
  obtain ⟨c, hc⟩ : ∃ c, c = nx a := ⟨_, rfl⟩
  have hc2 : (a = 18446744073709551615 ∧ c = 0) ∨ (a < 18446744073709551615 ∧ c = a + 1) := by rw [hc, nx]; omega
  rw [← hc, Bool.eq_iff_iff]
  clear hc
  unfold insideB withinB distN
  (repeat' split) <;> simp only [decide_eq_true_eq, Bool.and_eq_true, Bool.or_eq_true, ne_eq] <;> omega

theorem dist_all (a b : Nat) (w : World) :
    Calls Try.prog 46 #[.int .u64 (a : Int), .int .u64 (b : Int)] w fun e w' => e = .returned (.int .u64 (distW a b : Int)) ∧ w' = w := by
  have t1 := distW_eq a b
  generalize distW a b = z at t1 ⊢
  go_enter Try.func46, Try.ntmps46
  go_wp2
  go_ret
  exact ⟨rfl, rfl⟩
theorem behind_all (a x : Nat) (w : World) :
    Calls Try.prog 40 #[.int .u64 (a : Int), .int .u64 (x : Int)] w fun e w' => e = .returned (.int .u64 (distW (nx a) x : Int)) ∧ w' = w := by
  have C := Lib.hid (dist_all (nx a) x w)
  have t1 := nx_eq a
  generalize distW (nx a) x = z at C ⊢
  generalize nx a = c at t1 C
  go_enter Try.func40, Try.ntmps40
  go_wp2_with (go_at_call 46; refine C.out.mono ?_; rintro e w' ⟨rfl, rfl⟩)
  go_ret
  exact ⟨rfl, rfl⟩
theorem within_any (a x b : Nat) (ha : a < 18446744073709551616) (hx : x < 18446744073709551616) (hb : b < 18446744073709551616) (w : World) :
    Calls Try.prog 28 #[.int .u64 (a : Int), .int .u64 (x : Int), .int .u64 (b : Int)] w fun e w' => e = .returned (.bool (withinB a x b)) ∧ w' = w := by
  have C1 := Lib.hid (behind_all a x w)
  have C2 := Lib.hid (behind_all a b w)
  have E : Hid (withinB a x b = decide (distW (nx a) x ≤ distW (nx a) b)) := Lib.hid (by rw [within_behind a x b ha hx hb, distW_dist _ _ (nx_lt a) hx, distW_dist _ _ (nx_lt a) hb])
  rw [E.out]
  clear E ha hx hb
  generalize distW (nx a) x = p at C1 ⊢
  generalize distW (nx a) b = q at C2 ⊢
  go_enter Try.func28, Try.ntmps28
  go_wp2_with (go_at_call 40; first | (refine C1.out.mono ?_; rintro e w' ⟨rfl, rfl⟩; clear C1) | (refine C2.out.mono ?_; rintro e w' ⟨rfl, rfl⟩))
  go_ret
  exact ⟨by simp, rfl⟩
/-- What cmp.Compare answers of two words. -/
def cmpZ (x y : Nat) : Int := if x < y then -1 else if y < x then 1 else 0
theorem isNaN_any (x : Nat) (w : World) : Calls Try.prog 51 #[.int .u64 (x : Int)] w fun e w' => e = .returned (.bool false) ∧ w' = w := by
  have d : ((x : Int) != (x : Int)) = false := by simp
  go_enter Try.func51, Try.ntmps51
  go_wp2
  go_ret
  exact ⟨rfl, rfl⟩
theorem compare_any (x y : Nat) (w : World) : Calls Try.prog 50 #[.int .u64 (x : Int), .int .u64 (y : Int)] w fun e w' => e = .returned (.int .i64 (cmpZ x y)) ∧ w' = w := by
  have C1 : ∀ x w, Hid (Calls Try.prog 51 #[.int .u64 ((x : Nat) : Int)] w fun e w' => e = .returned (.bool false) ∧ w' = w) := fun x w => Lib.hid (isNaN_any x w)
  by_cases h : x < y
  · have d : (x : Int) < (y : Int) := by omega
    rw [cmpZ, if_pos h]
    go_enter Try.func50, Try.ntmps50
    go_wp2_with (go_at_call 51; refine (C1 _ _).out.mono ?_; rintro e w' ⟨rfl, rfl⟩)
    go_ret
    exact ⟨rfl, rfl⟩
  · have d : ¬ (x : Int) < (y : Int) := by omega
    by_cases h2 : y < x
    · have d2 : (y : Int) < (x : Int) := by omega
      rw [cmpZ, if_neg h, if_pos h2]
      go_enter Try.func50, Try.ntmps50
      go_wp2_with (go_at_call 51; refine (C1 _ _).out.mono ?_; rintro e w' ⟨rfl, rfl⟩)
      go_ret
      exact ⟨rfl, rfl⟩
    · have d2 : ¬ (y : Int) < (x : Int) := by omega
      rw [cmpZ, if_neg h, if_neg h2]
      go_enter Try.func50, Try.ntmps50
      go_wp2_with (go_at_call 51; refine (C1 _ _).out.mono ?_; rintro e w' ⟨rfl, rfl⟩)
      go_ret
      exact ⟨rfl, rfl⟩
/-- Which of two places is met first from a on. -/
def metZ (a x y : Nat) : Int := cmpZ (distW a x) (distW a y)
theorem met_any (B a x y : Nat) (w : World) (hc : w.cell? ⟨B, 0, none⟩ = some (.int .u64 (a : Int))) :
    Calls Try.prog 49 #[.int .u64 (x : Int), .int .u64 (y : Int), .pointer (some ⟨B, 0, none⟩)] w fun e w' => e = .returned (.int .i64 (metZ a x y)) ∧ ∃ q, w' = w.drewN q := by
  have C1 : ∀ w, Hid (Calls Try.prog 46 #[.int .u64 (a : Int), .int .u64 (x : Int)] w fun e w' => e = .returned (.int .u64 (distW a x : Int)) ∧ w' = w) := fun w => Lib.hid (dist_all a x w)
  have C2 : ∀ w, Hid (Calls Try.prog 46 #[.int .u64 (a : Int), .int .u64 (y : Int)] w fun e w' => e = .returned (.int .u64 (distW a y : Int)) ∧ w' = w) := fun w => Lib.hid (dist_all a y w)
  have C3 : ∀ w, Hid (Calls Try.prog 50 #[.int .u64 (distW a x : Int), .int .u64 (distW a y : Int)] w fun e w' => e = .returned (.int .i64 (metZ a x y)) ∧ w' = w) := fun w => Lib.hid (compare_any _ _ w)
  generalize metZ a x y = r at C3 ⊢
  generalize distW a x = p at C1 C3
  generalize distW a y = q at C2 C3
  go_enter Try.func49, Try.ntmps49
  go_wp2_with fail
  go_quiet (first | (go_at_call 46; first | exact Calls.quiet_of_same (C1 _).out | exact Calls.quiet_of_same (C2 _).out) | (go_at_call 50; exact Calls.quiet_of_same (C3 _).out))
  go_wp2
  go_ret
  exact ⟨rfl, _, rfl⟩
theorem order_any (a : Nat) (w : World) :
    Calls Try.prog 48 #[.int .u64 (a : Int)] w fun e w' => e = .returned (.func (.func 49) #[] #[.pointer (some ⟨w.heap.size, 0, none⟩)]) ∧ w' = w.alloc (.cells #[.int .u64 (a : Int)] 22) := by
  go_enter Try.func48, Try.ntmps48
  go_wp2
  go_ret
  exact ⟨rfl, rfl⟩
end Go.Proofs.Ytknccbdcfpncnaa
