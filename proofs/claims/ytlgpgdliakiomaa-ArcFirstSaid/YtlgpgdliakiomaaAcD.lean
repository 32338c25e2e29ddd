/- What package arc's Dist, Within, Inside and Start answer, and the function that tells which place is met first. -/
import Derived.Test.YtlgpgdliakiomaaAcA
import Derived.Test.YtlgpgdliakiomaaSoA
namespace Go.Proofs.Ytlgpgdliakiomaa
open Go.RowKit Go.Sort Go.Shelf

/-- b less a, as a word of 64 bits, of whatever numbers. -/
def distW (a b : Nat) : Nat := (((b : Int) - (a : Int)) % 18446744073709551616).toNat
theorem distW_eq (a b : Nat) : IntKind.u64.wrap ((b : Int) - (a : Int)) = (distW a b : Int) := by
  rw [distW, IntKind.wrap_u64]
  omega
theorem distW_lt (a b : Nat) : distW a b < 18446744073709551616 := by rw [distW]; omega
theorem distW_dist (a b : Nat) (ha : a < 18446744073709551616) (hb : b < 18446744073709551616) : distW a b = distN a b := by
  rw [distW, distN]
  split <;> omega
/-- The place behind a. -/
def nx (a : Nat) : Nat := (a + 1) % 18446744073709551616
theorem nx_lt (a : Nat) : nx a < 18446744073709551616 := Nat.mod_lt _ (by decide)
theorem nx_eq (a : Nat) : IntKind.u64.wrap ((a : Int) + 1) = (nx a : Int) := by
  rw [nx, IntKind.wrap_u64]
  omega
theorem within_behind (a x b : Nat) (ha : a < 18446744073709551616) (hx : x < 18446744073709551616) (hb : b < 18446744073709551616) : withinB a x b = decide (distN (nx a) x ≤ distN (nx a) b) := by
  obtain ⟨c, hc⟩ : ∃ c, c = nx a := ⟨_, rfl⟩
  have hc2 : (a = 18446744073709551615 ∧ c = 0) ∨ (a < 18446744073709551615 ∧ c = a + 1) := by rw [hc, nx]; omega
  rw [← hc, Bool.eq_iff_iff]
  clear hc
  unfold withinB distN
  (repeat' split) <;> simp only [decide_eq_true_eq, Bool.and_eq_true, Bool.or_eq_true, true_iff] <;> omega
theorem inside_behind (a x b : Nat) (ha : a < 18446744073709551616) (hx : x < 18446744073709551616) (hb : b < 18446744073709551616) : insideB a x b = decide (distN (nx a) x < distN (nx a) b) := by
  obtain ⟨c, hc⟩ : ∃ c, c = nx a := ⟨_, rfl⟩
  have hc2 : (a = 18446744073709551615 ∧ c = 0) ∨ (a < 18446744073709551615 ∧ c = a + 1) := by rw [hc, nx]; omega
  rw [← hc, Bool.eq_iff_iff]
  clear hc
  unfold insideB withinB distN
  (repeat' split) <;> simp only [decide_eq_true_eq, Bool.and_eq_true, Bool.or_eq_true, ne_eq] <;> omega

theorem dist_all (a b : Nat) (w : World) :
    Calls Try.prog 7 #[.int .u64 (a : Int), .int .u64 (b : Int)] w fun e w' => e = .returned (.int .u64 (distW a b : Int)) ∧ w' = w := by
  have t1 := distW_eq a b
  generalize distW a b = z at t1 ⊢
  go_enter Try.func7, Try.ntmps7
  go_wp2
  go_ret
  exact ⟨rfl, rfl⟩
theorem behind_all (a x : Nat) (w : World) :
    Calls Try.prog 21 #[.int .u64 (a : Int), .int .u64 (x : Int)] w fun e w' => e = .returned (.int .u64 (distW (nx a) x : Int)) ∧ w' = w := by
  have C := Lib.hid (dist_all (nx a) x w)
  have t1 := nx_eq a
  generalize distW (nx a) x = z at C ⊢
  generalize nx a = c at t1 C
  go_enter Try.func21, Try.ntmps21
  go_wp2_with (go_at_call 7; refine C.out.mono ?_; rintro e w' ⟨rfl, rfl⟩)
  go_ret
  exact ⟨rfl, rfl⟩
theorem within_any (a x b : Nat) (ha : a < 18446744073709551616) (hx : x < 18446744073709551616) (hb : b < 18446744073709551616) (w : World) :
    Calls Try.prog 9 #[.int .u64 (a : Int), .int .u64 (x : Int), .int .u64 (b : Int)] w fun e w' => e = .returned (.bool (withinB a x b)) ∧ w' = w := by
  have C1 := Lib.hid (behind_all a x w)
  have C2 := Lib.hid (behind_all a b w)
  have E : Hid (withinB a x b = decide (distW (nx a) x ≤ distW (nx a) b)) := Lib.hid (by rw [within_behind a x b ha hx hb, distW_dist _ _ (nx_lt a) hx, distW_dist _ _ (nx_lt a) hb])
  rw [E.out]
  clear E ha hx hb
  generalize distW (nx a) x = p at C1 ⊢
  generalize distW (nx a) b = q at C2 ⊢
  go_enter Try.func9, Try.ntmps9
  go_wp2_with (go_at_call 21; first | (refine C1.out.mono ?_; rintro e w' ⟨rfl, rfl⟩; clear C1) | (refine C2.out.mono ?_; rintro e w' ⟨rfl, rfl⟩))
  go_ret
  exact ⟨by simp, rfl⟩
theorem inside_any (a x b : Nat) (ha : a < 18446744073709551616) (hx : x < 18446744073709551616) (hb : b < 18446744073709551616) (w : World) :
    Calls Try.prog 11 #[.int .u64 (a : Int), .int .u64 (x : Int), .int .u64 (b : Int)] w fun e w' => e = .returned (.bool (insideB a x b)) ∧ w' = w := by
  have C1 := Lib.hid (behind_all a x w)
  have C2 := Lib.hid (behind_all a b w)
  have E : Hid (insideB a x b = decide (distW (nx a) x < distW (nx a) b)) := Lib.hid (by rw [inside_behind a x b ha hx hb, distW_dist _ _ (nx_lt a) hx, distW_dist _ _ (nx_lt a) hb])
  rw [E.out]
  clear E ha hx hb
  generalize distW (nx a) x = p at C1 ⊢
  generalize distW (nx a) b = q at C2 ⊢
  go_enter Try.func11, Try.ntmps11
  go_wp2_with (go_at_call 21; first | (refine C1.out.mono ?_; rintro e w' ⟨rfl, rfl⟩; clear C1) | (refine C2.out.mono ?_; rintro e w' ⟨rfl, rfl⟩))
  go_ret
  exact ⟨by simp, rfl⟩
theorem start_any (id : Nat) (bit : Int) (hb : (Lit.int .i64 bit).wf = true) (w : World) :
    Calls Try.prog 13 #[.int .u64 (id : Int), .int .i64 bit] w fun e w' => e = .returned (.int .u64 (startN id bit : Int)) ∧ w' = w := by
  by_cases h0 : bit < 0
  · have d0 : decide (bit < 0) = true := decide_eq_true h0
    have e : startN id bit = id := by rw [startN, if_pos (.inl h0)]
    rw [e]
    clear e hb
    go_enter Try.func13, Try.ntmps13
    go_wp2
    go_ret
    exact ⟨rfl, rfl⟩
  · have d0 : decide (bit < 0) = false := decide_eq_false h0
    by_cases h1 : 64 ≤ bit
    · have d1 : decide (bit ≥ 64) = true := decide_eq_true h1
      have e : startN id bit = id := by rw [startN, if_pos (.inr (by omega))]
      rw [e]
      clear e hb
      go_enter Try.func13, Try.ntmps13
      go_wp2
      go_ret
      exact ⟨rfl, rfl⟩
    · have d1 : decide (bit ≥ 64) = false := decide_eq_false h1
      obtain ⟨k, rfl⟩ : ∃ k : Nat, bit = (k : Int) := ⟨bit.toNat, by omega⟩
      obtain ⟨p, hp⟩ : ∃ p, p = 2 ^ k := ⟨_, rfl⟩
      have hp1 : p ≤ 9223372036854775808 := by rw [hp]; exact two_pow_lt k (by omega)
      obtain ⟨z, hz⟩ : ∃ z, z = startN id (k : Int) := ⟨_, rfl⟩
      have ez : z = (id + p) % 18446744073709551616 := by rw [hz, startN, if_neg (by omega), hp]; rfl
      have r1 : IntKind.u64.wrap ((2 : Int) ^ k) = (p : Int) := by
        rw [hp, IntWalk.u64_in _ (by have : ((2 ^ k : Nat) : Int) = (2 : Int) ^ k := by simp
                                     omega)]
        simp
      have r2 : IntKind.u64.wrap ((id : Int) + (p : Int)) = (z : Int) := by rw [IntKind.wrap_u64, ez]; omega
      have r3 : min k 64 = k := by omega
      have r4 : (k : Int).toNat = k := by omega
      rw [← hz]
      clear hz ez hp hp1 hb
      go_enter Try.func13, Try.ntmps13
      go_wp2
      go_ret
      exact ⟨rfl, rfl⟩

/-- What cmp.Compare answers of two words. -/
def cmpZ (x y : Nat) : Int := if x < y then -1 else if y < x then 1 else 0
theorem isNaN_any (x : Nat) (w : World) : Calls Try.prog 29 #[.int .u64 (x : Int)] w fun e w' => e = .returned (.bool false) ∧ w' = w := by
  have d : ((x : Int) != (x : Int)) = false := by simp
  go_enter Try.func29, Try.ntmps29
  go_wp2
  go_ret
  exact ⟨rfl, rfl⟩
theorem compare_any (x y : Nat) (w : World) : Calls Try.prog 26 #[.int .u64 (x : Int), .int .u64 (y : Int)] w fun e w' => e = .returned (.int .i64 (cmpZ x y)) ∧ w' = w := by
  have C1 : ∀ x w, Hid (Calls Try.prog 29 #[.int .u64 ((x : Nat) : Int)] w fun e w' => e = .returned (.bool false) ∧ w' = w) := fun x w => Lib.hid (isNaN_any x w)
  by_cases h : x < y
  · have d : (x : Int) < (y : Int) := by omega
    rw [cmpZ, if_pos h]
    go_enter Try.func26, Try.ntmps26
    go_wp2_with (go_at_call 29; refine (C1 _ _).out.mono ?_; rintro e w' ⟨rfl, rfl⟩)
    go_ret
    exact ⟨rfl, rfl⟩
  · have d : ¬ (x : Int) < (y : Int) := by omega
    by_cases h2 : y < x
    · have d2 : (y : Int) < (x : Int) := by omega
      rw [cmpZ, if_neg h, if_pos h2]
      go_enter Try.func26, Try.ntmps26
      go_wp2_with (go_at_call 29; refine (C1 _ _).out.mono ?_; rintro e w' ⟨rfl, rfl⟩)
      go_ret
      exact ⟨rfl, rfl⟩
    · have d2 : ¬ (y : Int) < (x : Int) := by omega
      rw [cmpZ, if_neg h, if_neg h2]
      go_enter Try.func26, Try.ntmps26
      go_wp2_with (go_at_call 29; refine (C1 _ _).out.mono ?_; rintro e w' ⟨rfl, rfl⟩)
      go_ret
      exact ⟨rfl, rfl⟩
/-- Which of two places is met first from a on. -/
def metZ (a x y : Nat) : Int := cmpZ (distW a x) (distW a y)
theorem met_any (B a x y : Nat) (w : World) (hc : w.cell? ⟨B, 0, none⟩ = some (.int .u64 (a : Int))) :
    Calls Try.prog 25 #[.int .u64 (x : Int), .int .u64 (y : Int), .pointer (some ⟨B, 0, none⟩)] w fun e w' => e = .returned (.int .i64 (metZ a x y)) ∧ ∃ q, w' = w.drewN q := by
  have C1 : ∀ w, Hid (Calls Try.prog 7 #[.int .u64 (a : Int), .int .u64 (x : Int)] w fun e w' => e = .returned (.int .u64 (distW a x : Int)) ∧ w' = w) := fun w => Lib.hid (dist_all a x w)
  have C2 : ∀ w, Hid (Calls Try.prog 7 #[.int .u64 (a : Int), .int .u64 (y : Int)] w fun e w' => e = .returned (.int .u64 (distW a y : Int)) ∧ w' = w) := fun w => Lib.hid (dist_all a y w)
  have C3 : ∀ w, Hid (Calls Try.prog 26 #[.int .u64 (distW a x : Int), .int .u64 (distW a y : Int)] w fun e w' => e = .returned (.int .i64 (metZ a x y)) ∧ w' = w) := fun w => Lib.hid (compare_any _ _ w)
  generalize metZ a x y = r at C3 ⊢
  generalize distW a x = p at C1 C3
  generalize distW a y = q at C2 C3
  go_enter Try.func25, Try.ntmps25
  go_wp2_with fail
  go_quiet (first | (go_at_call 7; first | exact Calls.quiet_of_same (C1 _).out | exact Calls.quiet_of_same (C2 _).out) | (go_at_call 26; exact Calls.quiet_of_same (C3 _).out))
  go_wp2
  go_ret
  exact ⟨rfl, _, rfl⟩
theorem order_any (a : Nat) (w : World) :
    Calls Try.prog 23 #[.int .u64 (a : Int)] w fun e w' => e = .returned (.func (.func 25) #[] #[.pointer (some ⟨w.heap.size, 0, none⟩)]) ∧ w' = w.alloc (.cells #[.int .u64 (a : Int)] 22) := by
  go_enter Try.func23, Try.ntmps23
  go_wp2
  go_ret
  exact ⟨rfl, rfl⟩
end Go.Proofs.Ytlgpgdliakiomaa
