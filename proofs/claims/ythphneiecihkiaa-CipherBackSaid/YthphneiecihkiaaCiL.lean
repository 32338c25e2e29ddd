/- What math/bits.RotateLeft32, and package cipher's Quarter and fit answer. -/
import Derived.Test.YthphneiecihkiaaCiM
import Derived.Test.YthphneiecihkiaaGenS
import Derived.Test.YthphneiecihkiaaGenT
namespace Go.Proofs.Ythphneiecihkiaa
open Go.RowKit

theorem left_16 (x : UInt32) (w : World) : Calls Try.prog 14 #[wd x, .int .i64 16] w fun e w' => e = .returned (wd (rotl x 16)) ∧ w = w' := by
  obtain ⟨-, -, -, r4, -⟩ := rules_w
  have s1 := run_shl 16 (by decide) 16 rfl
  have s2 := run_shr 16 (by decide) 16 rfl
  have hb : bits .and .u64 16 31 = 16 := by decide
  go_enter Try.func14, Try.ntmps14
  go_wp2
  go_ret
  exact ⟨rfl, rfl⟩
theorem left_12 (x : UInt32) (w : World) : Calls Try.prog 14 #[wd x, .int .i64 12] w fun e w' => e = .returned (wd (rotl x 12)) ∧ w = w' := by
  obtain ⟨-, -, -, r4, -⟩ := rules_w
  have s1 := run_shl 12 (by decide) 12 rfl
  have s2 := run_shr 20 (by decide) 20 rfl
  have hb : bits .and .u64 12 31 = 12 := by decide
  go_enter Try.func14, Try.ntmps14
  go_wp2
  go_ret
  exact ⟨rfl, rfl⟩
theorem left_8 (x : UInt32) (w : World) : Calls Try.prog 14 #[wd x, .int .i64 8] w fun e w' => e = .returned (wd (rotl x 8)) ∧ w = w' := by
  obtain ⟨-, -, -, r4, -⟩ := rules_w
  have s1 := run_shl 8 (by decide) 8 rfl
  have s2 := run_shr 24 (by decide) 24 rfl
  have hb : bits .and .u64 8 31 = 8 := by decide
  go_enter Try.func14, Try.ntmps14
  go_wp2
  go_ret
  exact ⟨rfl, rfl⟩
theorem left_7 (x : UInt32) (w : World) : Calls Try.prog 14 #[wd x, .int .i64 7] w fun e w' => e = .returned (wd (rotl x 7)) ∧ w = w' := by
  obtain ⟨-, -, -, r4, -⟩ := rules_w
  have s1 := run_shl 7 (by decide) 7 rfl
  have s2 := run_shr 25 (by decide) 25 rfl
  have hb : bits .and .u64 7 31 = 7 := by decide
  go_enter Try.func14, Try.ntmps14
  go_wp2
  go_ret
  exact ⟨rfl, rfl⟩

set_option maxHeartbeats 1000000 in
theorem quarter_any (a b c d : UInt32) (w : World) :
    Calls Try.prog 7 #[wd a, wd b, wd c, wd d] w fun e w' => e = .returned (.tuple #[wd (quarter a b c d).1, wd (quarter a b c d).2.1, wd (quarter a b c d).2.2.1, wd (quarter a b c d).2.2.2]) ∧ Below w.heap.size w w' := by
  obtain ⟨r1, r2, -, -, -⟩ := rules_w
  go_enter Try.func7, Try.ntmps7
  go_wp2_with fail
  refine (left_16 _ w).mono ?_
  rintro _ _ ⟨rfl, rfl⟩
  go_wp2_with fail
  refine (left_12 _ w).mono ?_
  rintro _ _ ⟨rfl, rfl⟩
  go_wp2_with fail
  refine (left_8 _ w).mono ?_
  rintro _ _ ⟨rfl, rfl⟩
  go_wp2_with fail
  refine (left_7 _ w).mono ?_
  rintro _ _ ⟨rfl, rfl⟩
  go_wp2_with fail
  refine bodyPost_ret (results_tmp4 rfl _ _ _) rfl ?_
  exact ⟨rfl, Below.refl _ _⟩

theorem fit_any (A0 A1 : Option Addr) (n0 n1 cap0 cap1 : Nat) (w : World) : Calls Try.prog 16 #[.slice A0 n0 cap0, .slice A1 n1 cap1] w fun e w' => e = .returned (.bool (decide (n0 = 32 ∧ n1 = 12))) ∧ w = w' := by
  by_cases h0 : n0 = 32
  · subst h0
    by_cases h1 : n1 = 12
    · subst h1
      go_enter Try.func16, Try.ntmps16
      go_wp2
      go_ret
      exact ⟨rfl, rfl⟩
    · have d1 : ((n1 : Int) == 12) = false := by simp; omega
      have e : decide (32 = 32 ∧ n1 = 12) = false := by simp [h1]
      rw [e]
      go_enter Try.func16, Try.ntmps16
      go_wp2
      go_ret
      exact ⟨rfl, rfl⟩
  · have d0 : ((n0 : Int) == 32) = false := by simp; omega
    have e : decide (n0 = 32 ∧ n1 = 12) = false := by simp [h0]
    rw [e]
    go_enter Try.func16, Try.ntmps16
    go_wp2
    go_ret
    exact ⟨rfl, rfl⟩
end Go.Proofs.Ythphneiecihkiaa
