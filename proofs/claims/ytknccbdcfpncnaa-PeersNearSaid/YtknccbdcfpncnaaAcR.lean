/- What the document's Dist, Within, Inside, Start of layer 9 answer. -/
import Derived.Test.YtknccbdcfpncnaaAcM
import Derived.Test.YtknccbdcfpncnaaGenS
import Derived.Test.YtknccbdcfpncnaaGenT
import Derived.IntWalk
import Derived.Deep.DeepCutAuto
import Derived.Deep.LoopGhost
import Derived.ChangeAlike
namespace Go.Proofs.Ytknccbdcfpncnaa
set_option maxRecDepth 100000
open Go.RowKit

theorem refDist_any (a b : Nat) (ha : a < 18446744073709551616) (hb : b < 18446744073709551616) (w : World) :
    Calls Try.prog 39 #[.int .u64 (a : Int), .int .u64 (b : Int)] w fun e w' => e = .returned (.int .u64 (distN a b : Int)) ∧ w = w' := by
  by_cases h : a ≤ b
  · have d : decide ((a : Int) ≤ (b : Int)) = true := by simp; omega
    have d2 : decide (a ≤ b) = true := by simp; omega
    obtain ⟨z, hz⟩ : ∃ z, z = distN a b := ⟨_, rfl⟩
    have t1 : IntKind.u64.wrap ((b : Int) - (a : Int)) = (z : Int) := by rw [IntWalk.u64_in _ (by omega), hz, distN, if_pos h]; omega
    rw [← hz]
    clear hz ha hb
    go_enter Try.func39, Try.ntmps39
    go_wp2
    go_ret
    exact ⟨rfl, rfl⟩
  · have d : decide ((a : Int) ≤ (b : Int)) = false := by simp; omega
    have d2 : decide (a ≤ b) = false := by simp; omega
    obtain ⟨z, hz⟩ : ∃ z, z = distN a b := ⟨_, rfl⟩
    obtain ⟨x, hx⟩ : ∃ x, x = 18446744073709551615 - a := ⟨_, rfl⟩
    obtain ⟨y, hy⟩ : ∃ y, y = x + b := ⟨_, rfl⟩
    have t1 : IntKind.u64.wrap (18446744073709551615 - (a : Int)) = (x : Int) := by rw [IntWalk.u64_in _ (by omega)]; omega
    have t2 : IntKind.u64.wrap ((x : Int) + (b : Int)) = (y : Int) := by rw [IntWalk.u64_in _ (by omega)]; omega
    have t3 : IntKind.u64.wrap ((y : Int) + 1) = (z : Int) := by rw [IntWalk.u64_in _ (by omega), hz, distN, if_neg h]; omega
    rw [← hz]
    clear hz hx hy ha hb
    go_enter Try.func39, Try.ntmps39
    go_wp2
    go_ret
    exact ⟨rfl, rfl⟩

theorem two_pow_lt (k : Nat) (h : k ≤ 63) : 2 ^ k ≤ 9223372036854775808 := Nat.le_trans (Nat.pow_le_pow_right (by decide) h) (by decide)

end Go.Proofs.Ytknccbdcfpncnaa
