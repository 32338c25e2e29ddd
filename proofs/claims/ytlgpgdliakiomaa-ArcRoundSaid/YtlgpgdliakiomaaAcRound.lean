/- The statement ArcRound: the ways there and back make the whole circle, or nothing; ways one behind the other make one; what is met between two unlike places is not met on the way back. For every input. -/
import Derived.Test.YtlgpgdliakiomaaAcA
namespace Go.Proofs.Ytlgpgdliakiomaa
open Go.RowKit Go.ChangeShapes Go.WideShapes Go.ChangeAt

theorem dist_back (a b : Nat) (ha : a < 18446744073709551616) (hb : b < 18446744073709551616) : IntKind.u64.wrap ((distN a b : Int) + (distN b a : Int)) = 0 := by
  rw [IntKind.wrap_u64, distN, distN]
  split <;> split <;> omega
theorem dist_on (a x b : Nat) (ha : a < 18446744073709551616) (hx : x < 18446744073709551616) (hb : b < 18446744073709551616) : IntKind.u64.wrap ((distN a x : Int) + (distN x b : Int)) = (distN a b : Int) := by
  rw [IntKind.wrap_u64, distN, distN, distN]
  split <;> split <;> split <;> omega
theorem dist_zero (a b : Nat) (ha : a < 18446744073709551616) (hb : b < 18446744073709551616) : distN a b = 0 ↔ a = b := by
  rw [distN]
  split <;> omega
theorem within_back (a x b : Nat) (h : a ≠ b) : withinB b x a = !withinB a x b := by
  rw [withinB, withinB, if_neg h, if_neg (Ne.symm h)]
  by_cases hab : a < b
  · rw [if_pos hab, if_neg (by omega), Bool.eq_iff_iff]
    simp
    omega
  · rw [if_neg hab, if_pos (by omega), Bool.eq_iff_iff]
    simp
    omega

set_option maxRecDepth 100000 in
set_option maxHeartbeats 4000000 in
theorem round_core (H : ArcIs) (a b x : Nat) (ha : a < 18446744073709551616) (hb : b < 18446744073709551616) (hx : x < 18446744073709551616) (w : World) :
    Calls Try.prog 5 #[.int .u64 (a : Int), .int .u64 (b : Int), .int .u64 (x : Int)] w fun e w' => e = .returned (.bool true) ∧ Below w.heap.size w w' := by
  have C1 := fun w => Lib.hid (H.dist a b w ha hb)
  have C2 := fun w => Lib.hid (H.dist b a w hb ha)
  have C3 := fun w => Lib.hid (H.dist a x w ha hx)
  have C4 := fun w => Lib.hid (H.dist x b w hx hb)
  have C5 := fun w => Lib.hid (H.within a x b w ha hx hb)
  have C6 := fun w => Lib.hid (H.within b x a w hb hx ha)
  have C7 := fun w => Lib.hid (H.inside a x b w ha hx hb)
  have t1 := dist_back a b ha hb
  have t2 := dist_on a x b ha hx hb
  have W := Lib.hid (works9 H w)
  by_cases h : a = b
  · subst h
    have e0 : distN a a = 0 := (dist_zero a a ha ha).2 rfl
    have e1 : withinB a x a = true := by rw [withinB, if_pos rfl]
    have e2 : insideB a x a = ((x : Int) != (a : Int)) := by
      rw [insideB, if_pos rfl, Bool.eq_iff_iff]
      simp
      omega
    simp only [e0] at C1 C2 t1 t2
    simp only [e1] at C5 C6
    simp only [e2] at C7
    obtain ⟨q, hq⟩ : ∃ q, q = ((x : Int) != (a : Int)) := ⟨_, rfl⟩
    have rq := hq.symm
    simp only [← hq] at C7
    have t3 : IntKind.u64.wrap ((distN a x : Int) + (distN x a : Int)) = 0 := t2
    obtain ⟨d3, h3⟩ : ∃ d3, d3 = distN a x := ⟨_, rfl⟩
    obtain ⟨d4, h4⟩ : ∃ d4, d4 = distN x a := ⟨_, rfl⟩
    rw [← h3, ← h4] at t3
    simp only [← h3] at C3
    simp only [← h4] at C4
    clear e0 e1 e2 hq h3 h4 t1 t2 ha hb hx
    go_enter Try.func5, Try.ntmps5
    go_wp2_with fail
    refine W.out.mono ?_
    rintro e w1 ⟨rfl, b1⟩
    have B1 := Lib.hid b1
    clear b1 W
    go_wp2_with fail
    refine (C1 w1).out.mono ?_
    rintro e w2 ⟨rfl, b2⟩
    have B2 := Lib.hid (B1.out.trans (b2.mono B1.out.size))
    clear b2 B1
    go_wp2_with fail
    refine (C2 w2).out.mono ?_
    rintro e w3 ⟨rfl, b3⟩
    have B3 := Lib.hid (B2.out.trans (b3.mono B2.out.size))
    clear b3 B2
    go_wp2_with fail
    refine (C3 w3).out.mono ?_
    rintro e w4 ⟨rfl, b4⟩
    have B4 := Lib.hid (B3.out.trans (b4.mono B3.out.size))
    clear b4 B3
    go_wp2_with fail
    refine (C4 w4).out.mono ?_
    rintro e w5 ⟨rfl, b5⟩
    have B5 := Lib.hid (B4.out.trans (b5.mono B4.out.size))
    clear b5 B4
    go_wp2_with fail
    refine (C1 w5).out.mono ?_
    rintro e w6 ⟨rfl, b6⟩
    have B6 := Lib.hid (B5.out.trans (b6.mono B5.out.size))
    clear b6 B5
    go_wp2_with fail
    refine (C1 w6).out.mono ?_
    rintro e w7 ⟨rfl, b7⟩
    have B7 := Lib.hid (B6.out.trans (b7.mono B6.out.size))
    clear b7 B6
    go_wp2_with fail
    refine (C5 w7).out.mono ?_
    rintro e w8 ⟨rfl, b8⟩
    have B8 := Lib.hid (B7.out.trans (b8.mono B7.out.size))
    clear b8 B7
    go_wp2_with fail
    refine (C7 w8).out.mono ?_
    rintro e w9 ⟨rfl, b9⟩
    have B9 := Lib.hid (B8.out.trans (b9.mono B8.out.size))
    clear b9 B8
    go_wp2
    go_ret
    exact ⟨by simp, B9.out⟩
  · have e0 : ((distN a b : Int) == 0) = false := by
      have hz : ¬ distN a b = 0 := fun e => h ((dist_zero a b ha hb).1 e)
      simp
      omega
    have e1 : ((a : Int) == (b : Int)) = false := by simp; omega
    have e2 : insideB a x b = (withinB a x b && ((x : Int) != (b : Int))) := by
      rw [insideB, if_neg h, Bool.eq_iff_iff]
      simp
      intros
      omega
    have e3 := within_back a x b h
    simp only [e2] at C7
    simp only [e3] at C6
    obtain ⟨p, hp⟩ : ∃ p, p = withinB a x b := ⟨_, rfl⟩
    simp only [← hp] at C5 C6 C7
    obtain ⟨q, hq⟩ : ∃ q, q = ((x : Int) != (b : Int)) := ⟨_, rfl⟩
    have rq := hq.symm
    simp only [← hq] at C7
    obtain ⟨d1, h1⟩ : ∃ d, d = distN a b := ⟨_, rfl⟩
    obtain ⟨d2, h2⟩ : ∃ d, d = distN b a := ⟨_, rfl⟩
    obtain ⟨d3, h3⟩ : ∃ d, d = distN a x := ⟨_, rfl⟩
    obtain ⟨d4, h4⟩ : ∃ d, d = distN x b := ⟨_, rfl⟩
    simp only [← h1] at C1 t1 t2 e0
    simp only [← h2] at C2 t1
    simp only [← h3] at C3 t2
    simp only [← h4] at C4 t2
    clear e2 e3 hp hq h1 h2 h3 h4 ha hb hx h
    cases p
    all_goals
      go_enter Try.func5, Try.ntmps5
      go_wp2_with fail
      refine W.out.mono ?_
      rintro e w1 ⟨rfl, b1⟩
      have B1 := Lib.hid b1
      clear b1 W
      go_wp2_with fail
      refine (C1 w1).out.mono ?_
      rintro e w2 ⟨rfl, b2⟩
      have B2 := Lib.hid (B1.out.trans (b2.mono B1.out.size))
      clear b2 B1
      go_wp2_with fail
      refine (C2 w2).out.mono ?_
      rintro e w3 ⟨rfl, b3⟩
      have B3 := Lib.hid (B2.out.trans (b3.mono B2.out.size))
      clear b3 B2
      go_wp2_with fail
      refine (C3 w3).out.mono ?_
      rintro e w4 ⟨rfl, b4⟩
      have B4 := Lib.hid (B3.out.trans (b4.mono B3.out.size))
      clear b4 B3
      go_wp2_with fail
      refine (C4 w4).out.mono ?_
      rintro e w5 ⟨rfl, b5⟩
      have B5 := Lib.hid (B4.out.trans (b5.mono B4.out.size))
      clear b5 B4
      go_wp2_with fail
      refine (C1 w5).out.mono ?_
      rintro e w6 ⟨rfl, b6⟩
      have B6 := Lib.hid (B5.out.trans (b6.mono B5.out.size))
      clear b6 B5
      go_wp2_with fail
      refine (C1 w6).out.mono ?_
      rintro e w7 ⟨rfl, b7⟩
      have B7 := Lib.hid (B6.out.trans (b7.mono B6.out.size))
      clear b7 B6
      go_wp2_with fail
      refine (C5 w7).out.mono ?_
      rintro e w8 ⟨rfl, b8⟩
      have B8 := Lib.hid (B7.out.trans (b8.mono B7.out.size))
      clear b8 B7
      go_wp2_with fail
      refine (C6 w8).out.mono ?_
      rintro e w9 ⟨rfl, b9⟩
      have B9 := Lib.hid (B8.out.trans (b9.mono B8.out.size))
      clear b9 B8
      go_wp2_with fail
      refine (C7 w9).out.mono ?_
      rintro e w10 ⟨rfl, b10⟩
      have B10 := Lib.hid (B9.out.trans (b10.mono B9.out.size))
      clear b10 B9
      go_wp2_with fail
      refine (C5 w10).out.mono ?_
      rintro e w11 ⟨rfl, b11⟩
      have B11 := Lib.hid (B10.out.trans (b11.mono B10.out.size))
      clear b11 B10
      go_wp2
      go_ret
      exact ⟨by simp, B11.out⟩
end Go.Proofs.Ytlgpgdliakiomaa
