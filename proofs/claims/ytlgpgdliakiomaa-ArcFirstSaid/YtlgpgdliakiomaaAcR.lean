/- What the document's Dist, Within, Inside, Start of layer 9 answer. -/
import Derived.Test.YtlgpgdliakiomaaAcM
import Derived.Test.YtlgpgdliakiomaaGenS
import Derived.Test.YtlgpgdliakiomaaGenT
import Derived.IntWalk
import Derived.Deep.DeepCutAuto
import Derived.Deep.LoopGhost
import Derived.ChangeAlike
namespace Go.Proofs.Ytlgpgdliakiomaa
open Go.RowKit

theorem refDist_any (a b : Nat) (ha : a < 18446744073709551616) (hb : b < 18446744073709551616) (w : World) :
    Calls Try.prog 8 #[.int .u64 (a : Int), .int .u64 (b : Int)] w fun e w' => e = .returned (.int .u64 (distN a b : Int)) ∧ w = w' := by
  by_cases h : a ≤ b
  · have d : decide ((a : Int) ≤ (b : Int)) = true := by simp; omega
    have d2 : decide (a ≤ b) = true := by simp; omega
    obtain ⟨z, hz⟩ : ∃ z, z = distN a b := ⟨_, rfl⟩
    have t1 : IntKind.u64.wrap ((b : Int) - (a : Int)) = (z : Int) := by rw [IntWalk.u64_in _ (by omega), hz, distN, if_pos h]; omega
    rw [← hz]
    clear hz ha hb
    go_enter Try.func8, Try.ntmps8
    go_wp2
    go_ret
    exact ⟨rfl, rfl⟩
  · have d : decide ((a : Int) ≤ (b : Int)) = false := by simp; omega
    have d2 : decide (a ≤ b) = false := by simp; omega
    obtain ⟨z, hz⟩ : ∃ z, z = distN a b := ⟨_, rfl⟩
    obtain ⟨x, hx⟩ : ∃ x, x = 18446744073709551615 - a := ⟨_, rfl⟩
    obtain ⟨y, hy⟩ : ∃ y, y = x + b := ⟨_, rfl⟩
    have t1 : IntKind.u64.wrap (18446744073709551615 - (a : Int)) = (x : Int) := by rw [IntWalk.u64_in _ (by omega)]; omega
    have t2 : IntKind.u64.wrap ((x : Int) + (b : Int)) = (y : Int) := by rw [IntWalk.u64_in _ (by omega)]; omega
    have t3 : IntKind.u64.wrap ((y : Int) + 1) = (z : Int) := by rw [IntWalk.u64_in _ (by omega), hz, distN, if_neg h]; omega
    rw [← hz]
    clear hz hx hy ha hb
    go_enter Try.func8, Try.ntmps8
    go_wp2
    go_ret
    exact ⟨rfl, rfl⟩

theorem refWithin_any (a x b : Nat) (w : World) :
    Calls Try.prog 10 #[.int .u64 (a : Int), .int .u64 (x : Int), .int .u64 (b : Int)] w fun e w' => e = .returned (.bool (withinB a x b)) ∧ w = w' := by
  by_cases h : a = b
  · have e : withinB a x b = true := by rw [withinB, if_pos h]
    rw [e]
    subst h
    go_enter Try.func10, Try.ntmps10
    go_wp2
    go_ret
    exact ⟨rfl, rfl⟩
  · have d : ((a : Int) == (b : Int)) = false := by simp; omega
    by_cases h2 : a < b
    · have d2 : decide ((a : Int) < (b : Int)) = true := by simp; omega
      have e : withinB a x b = (decide (a < x) && decide (x ≤ b)) := by rw [withinB, if_neg h, if_pos h2]
      rw [e]
      clear e
      by_cases h3 : a < x
      · have d3 : decide ((a : Int) < (x : Int)) = true := by simp; omega
        have e3 : decide (a < x) = true := by simp; omega
        rw [e3, Bool.true_and]
        go_enter Try.func10, Try.ntmps10
        go_wp2
        go_ret
        exact ⟨by simp, rfl⟩
      · have d3 : decide ((a : Int) < (x : Int)) = false := by simp; omega
        have e3 : decide (a < x) = false := by simp; omega
        rw [e3, Bool.false_and]
        go_enter Try.func10, Try.ntmps10
        go_wp2
        go_ret
        exact ⟨rfl, rfl⟩
    · have d2 : decide ((a : Int) < (b : Int)) = false := by simp; omega
      have e : withinB a x b = (decide (a < x) || decide (x ≤ b)) := by rw [withinB, if_neg h, if_neg h2]
      rw [e]
      clear e
      by_cases h3 : a < x
      · have d3 : decide ((a : Int) < (x : Int)) = true := by simp; omega
        have e3 : decide (a < x) = true := by simp; omega
        rw [e3, Bool.true_or]
        go_enter Try.func10, Try.ntmps10
        go_wp2
        go_ret
        exact ⟨rfl, rfl⟩
      · have d3 : decide ((a : Int) < (x : Int)) = false := by simp; omega
        have e3 : decide (a < x) = false := by simp; omega
        rw [e3, Bool.false_or]
        go_enter Try.func10, Try.ntmps10
        go_wp2
        go_ret
        exact ⟨by simp, rfl⟩

theorem refInside_any (a x b : Nat) (w : World) :
    Calls Try.prog 12 #[.int .u64 (a : Int), .int .u64 (x : Int), .int .u64 (b : Int)] w fun e w' => e = .returned (.bool (insideB a x b)) ∧ w = w' := by
  by_cases h : a = b
  · have e : insideB a x b = ((x : Int) != (a : Int)) := by
      rw [insideB, if_pos h, Bool.eq_iff_iff]
      simp
      omega
    rw [e]
    clear e
    subst h
    go_enter Try.func12, Try.ntmps12
    go_wp2
    go_ret
    exact ⟨by simp, rfl⟩
  · have d : ((a : Int) == (b : Int)) = false := by simp; omega
    have e : insideB a x b = (withinB a x b && ((x : Int) != (b : Int))) := by
      rw [insideB, if_neg h, Bool.eq_iff_iff]
      simp
      intros
      omega
    rw [e]
    clear e
    have C := Lib.hid (refWithin_any a x b w)
    obtain ⟨q, hq⟩ : ∃ q, q = withinB a x b := ⟨_, rfl⟩
    rw [← hq] at C ⊢
    clear hq
    cases q with
    | true =>
      go_enter Try.func12, Try.ntmps12
      go_wp2_with fail
      refine C.out.mono ?_
      rintro e w1 ⟨rfl, rfl⟩
      go_wp2
      go_ret
      exact ⟨by simp, rfl⟩
    | false =>
      go_enter Try.func12, Try.ntmps12
      go_wp2_with fail
      refine C.out.mono ?_
      rintro e w1 ⟨rfl, rfl⟩
      go_wp2
      go_ret
      exact ⟨by simp, rfl⟩

theorem two_pow_lt (k : Nat) (h : k ≤ 63) : 2 ^ k ≤ 9223372036854775808 := Nat.le_trans (Nat.pow_le_pow_right (by decide) h) (by decide)

set_option maxHeartbeats 1000000 in
theorem refStart_any (id : Nat) (bit : Int) (hid : id < 18446744073709551616) (w : World) :
    Calls Try.prog 14 #[.int .u64 (id : Int), .int .i64 bit] w fun e w' => e = .returned (.int .u64 (startN id bit : Int)) ∧ Below w.heap.size w w' := by
  by_cases h0 : bit < 0
  · have d : decide (bit < 0) = true := by simp; omega
    have e : startN id bit = id := by rw [startN, if_pos (.inl h0)]
    rw [e]
    clear hid
    go_enter Try.func14, Try.ntmps14
    go_wp2
    go_ret
    exact ⟨rfl, Below.refl _ _⟩
  · have d : decide (bit < 0) = false := by simp; omega
    by_cases h1 : 63 < bit
    · have d1 : decide (63 < bit) = true := by simp; omega
      have e : startN id bit = id := by rw [startN, if_pos (.inr h1)]
      rw [e]
      clear hid
      go_enter Try.func14, Try.ntmps14
      go_wp2
      go_ret
      exact ⟨rfl, Below.refl _ _⟩
    · have d1 : decide (63 < bit) = false := by simp; omega
      obtain ⟨n, rfl⟩ := Int.eq_ofNat_of_zero_le (by omega : 0 ≤ bit)
      have hn : n ≤ 63 := by omega
      have hp := two_pow_lt n hn
      obtain ⟨P, hP⟩ : ∃ P, P = 2 ^ n := ⟨_, rfl⟩
      have hp0 : 0 < P := by rw [hP]; exact Nat.pow_pos (by decide)
      have e : startN id (n : Int) = (id + P) % 18446744073709551616 := by rw [startN, if_neg (by omega), Int.toNat_natCast, hP]
      rw [← hP] at hp
      have HP := Lib.hid hP
      obtain ⟨z, hz⟩ : ∃ z, z = startN id (n : Int) := ⟨_, rfl⟩
      rw [← hz] at e ⊢
      have HF := Lib.hid (And.intro hid (And.intro hp (And.intro hp0 e)))
      clear hP hz h0 h1 hid hp hp0 e
      go_enter Try.func14, Try.ntmps14
      go_wp2_with fail
      go_loopw [5, 6] (fun p i wr => ∃ k : Nat, k ≤ n ∧ i = .int .i64 (k : Int) ∧ p = .int .u64 ((2 ^ k : Nat) : Int) ∧ wr = w) (fun _ i _ => n - (intOf i).toNat)
      case atStart => exact ⟨0, Nat.zero_le _, rfl, rfl, rfl⟩
      case round =>
        obtain ⟨k, hk, rfl, rfl, rfl⟩ := hrel
        by_cases hlt : k < n
        · have dk : decide ((k : Int) < (n : Int)) = true := by simp; omega
          have hp1 := two_pow_lt (k + 1) (by omega)
          have hs : 2 ^ (k + 1) = 2 ^ k * 2 := Nat.pow_succ ..
          obtain ⟨p, hpk⟩ : ∃ p, p = 2 ^ k := ⟨_, rfl⟩
          obtain ⟨p', hpk'⟩ : ∃ p', p' = 2 ^ (k + 1) := ⟨_, rfl⟩
          rw [← hpk] at hs ⊢
          rw [← hpk'] at hs hp1
          have t1 : IntKind.u64.wrap ((p : Int) * 2) = (p' : Int) := by rw [IntWalk.u64_in _ (by omega)]; omega
          have HPK := Lib.hid hpk'
          clear hpk hs hpk' hp1
          go_wp2
          exact ⟨⟨k + 1, by omega, by go_num, by rw [HPK.out], by trivial⟩, by simp [intOf]; omega⟩
        · have dk : decide ((k : Int) < (n : Int)) = false := by simp; omega
          obtain rfl : k = n := by omega
          rw [← HP.out]
          obtain ⟨x, hx⟩ : ∃ x, x = 18446744073709551615 - P := ⟨_, rfl⟩
          have t1 : IntKind.u64.wrap (18446744073709551615 - (P : Int)) = (x : Int) := by have := HF.out; rw [IntWalk.u64_in _ (by omega)]; omega
          by_cases hc : x < id
          · have dc : decide ((x : Int) < (id : Int)) = true := by simp; omega
            have dc2 : decide (x < id) = true := by simp; omega
            obtain ⟨y, hy⟩ : ∃ y, y = id - x := ⟨_, rfl⟩
            have t2 : IntKind.u64.wrap ((id : Int) - (x : Int)) = (y : Int) := by have := HF.out; rw [IntWalk.u64_in _ (by omega)]; omega
            have t3 : IntKind.u64.wrap ((y : Int) - 1) = (z : Int) := by
              have h4 := HF.out
              rw [IntWalk.u64_in _ (by omega)]
              omega
            clear hx hy hc
            go_wp2
            go_ret
            exact ⟨rfl, Below.refl _ _⟩
          · have dc : decide ((x : Int) < (id : Int)) = false := by simp; omega
            have dc2 : decide (x < id) = false := by simp; omega
            have t2 : IntKind.u64.wrap ((id : Int) + (P : Int)) = (z : Int) := by
              have h4 := HF.out
              rw [IntWalk.u64_in _ (by omega)]
              omega
            clear hx hc
            go_wp2
            go_ret
            exact ⟨rfl, Below.refl _ _⟩
end Go.Proofs.Ytlgpgdliakiomaa
