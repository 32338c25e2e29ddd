/- Package entry, as landed: within, Right. -/
import Derived.Test.YtpcdbpijgmninaaDoorGk
import Derived.Test.YtpcdbpijgmninaaDoorGba
namespace Go.Proofs.YtpcdbpijgmninaaDoor
set_option maxRecDepth 100000
open Go.RowKit

theorem within_any (n l m : Int) (w : World) :
    Calls Tryd.prog 63 #[.int .i64 n, .int .i64 l, .int .i64 m] w fun e w' => e = .returned (.bool (decide (l ≤ n) && decide (n ≤ m))) ∧ w' = w := by
  obtain ⟨b1, h1⟩ : ∃ b, b = decide (l ≤ n) := ⟨_, rfl⟩
  obtain ⟨b2, h2⟩ : ∃ b, b = decide (n ≤ m) := ⟨_, rfl⟩
  rw [← h1, ← h2]
  have r1 := h1.symm
  have r2 := h2.symm
  clear h1 h2
  cases b1 <;> cases b2
  all_goals
    go_enter Tryd.func63, Tryd.ntmps63
    go_wp2
    go_ret
    exact ⟨rfl, rfl⟩

theorem entR_is (n t : List UInt8) (i : Nat) (f u x : Int) : entR ⟨n, i, f, u, x, t⟩ = (nameB n && (decide (0 ≤ f) && decide (f ≤ 1073741824)) && (decide (f ≤ u) && decide (u ≤ 1073741824)) && (decide (0 ≤ x) && decide (x ≤ 64)) && decide (t.length = 32)) := by
  rw [entR]
  cases nameB n
  · simp
  · rw [Bool.eq_iff_iff]
    simp only [Bool.and_eq_true, decide_eq_true_eq]
    constructor
    · rintro ⟨⟨⟨⟨⟨⟨h1, h2⟩, h3⟩, h4⟩, h5⟩, h6⟩, h7⟩
      exact ⟨⟨⟨⟨trivial, h3, by omega⟩, h4, h5⟩, h6, h7⟩, h2⟩
    · rintro ⟨⟨⟨⟨_, h3, _⟩, h4, h5⟩, h6, h7⟩, h2⟩
      exact ⟨⟨⟨⟨⟨⟨trivial, h2⟩, h3⟩, h4⟩, h5⟩, h6⟩, h7⟩

set_option maxHeartbeats 1000000 in
theorem right_any (a : Ent) (w : World) :
    Calls Tryd.prog 32 #[a.val] w fun e w' => e = .returned (.bool (entR a)) ∧ Below w.heap.size w w' := by
  obtain ⟨n, i, f, u, x, t⟩ := a
  have HE := entR_is n t i f u x
  simp only [Ent.val, Ent.enc]
  have CN := fun w => Lib.hid (labelName_any n w)
  have W1 := fun w => Lib.hid (within_any f 0 1073741824 w)
  have W2 := fun w => Lib.hid (within_any u f 1073741824 w)
  have W3 := fun w => Lib.hid (within_any x 0 64 w)
  obtain ⟨b0, h0⟩ : ∃ b, b = nameB n := ⟨_, rfl⟩
  obtain ⟨b1, h1⟩ : ∃ b, b = (decide (0 ≤ f) && decide (f ≤ 1073741824)) := ⟨_, rfl⟩
  obtain ⟨b2, h2⟩ : ∃ b, b = (decide (f ≤ u) && decide (u ≤ 1073741824)) := ⟨_, rfl⟩
  obtain ⟨b3, h3⟩ : ∃ b, b = (decide (0 ≤ x) && decide (x ≤ 64)) := ⟨_, rfl⟩
  obtain ⟨b4, h4⟩ : ∃ b, b = decide (t.length = 32) := ⟨_, rfl⟩
  simp only [← h0] at CN
  simp only [← h1] at W1
  simp only [← h2] at W2
  simp only [← h3] at W3
  rw [← h0, ← h1, ← h2, ← h3, ← h4] at HE
  have q1 : ((t.length : Int) == 32) = b4 := by rw [h4, Bool.eq_iff_iff, beq_iff_eq, decide_eq_true_eq]; omega
  have q2 : (t.length == 32) = b4 := by rw [h4, Bool.eq_iff_iff, beq_iff_eq, decide_eq_true_eq]
  have q3 : decide ((t.length : Int) = 32) = b4 := by rw [h4, Bool.eq_iff_iff, decide_eq_true_eq, decide_eq_true_eq]; omega
  have HB := Lib.hid HE
  clear HE h0 h1 h2 h3 h4
  go_enter Tryd.func32, Tryd.ntmps32
  go_wp2_with fail
  have X := Whole.new w 24 #[.string ⟨n.toArray⟩, .int .u64 (i : Int), .int .i64 f, .int .i64 u, .int .i64 x, .string ⟨t.toArray⟩]
  have b : Below w.heap.size w (w.alloc (.cells #[.string ⟨n.toArray⟩, .int .u64 (i : Int), .int .i64 f, .int .i64 u, .int .i64 x, .string ⟨t.toArray⟩] 24)) := (Below.refl _ _).alloc (Nat.le_refl _) _
  have z : w.heap.size < (w.alloc (.cells #[.string ⟨n.toArray⟩, .int .u64 (i : Int), .int .i64 f, .int .i64 u, .int .i64 x, .string ⟨t.toArray⟩] 24)).heap.size := X.lt
  generalize w.alloc (.cells #[.string ⟨n.toArray⟩, .int .u64 (i : Int), .int .i64 f, .int .i64 u, .int .i64 x, .string ⟨t.toArray⟩] 24) = w1 at *
  have X1 := Lib.hid X
  have B1 := Lib.hid b
  have Z1 := Lib.hid z
  clear X b z
  refine (CN w1).out.mono ?_
  rintro e w2 ⟨rfl, b2'⟩
  have X2 := X1.out.below b2' Z1.out
  have B2 := Lib.hid (B1.out.trans (b2'.mono B1.out.size))
  have c2 := X2.at_ 2
  have c3 := X2.at_ 3
  have c4 := X2.at_ 4
  have c5 := X2.at_ 5
  simp at c2 c3 c4 c5
  clear X2 b2' X1 B1 Z1 CN
  cases b0 with
  | false =>
    go_wp2
    go_ret
    exact ⟨by rw [HB.out]; rfl, B2.out⟩
  | true =>
    go_wp2_with fail
    refine (W1 _).out.mono ?_
    rintro e w3 ⟨rfl, rfl⟩
    cases b1 with
    | false =>
      go_wp2
      go_ret
      exact ⟨by rw [HB.out]; rfl, B2.out⟩
    | true =>
      go_wp2_with fail
      refine (W2 _).out.mono ?_
      rintro e w4 ⟨rfl, rfl⟩
      cases b2 with
      | false =>
        go_wp2
        go_ret
        exact ⟨by rw [HB.out]; rfl, B2.out⟩
      | true =>
        go_wp2_with fail
        refine (W3 _).out.mono ?_
        rintro e w5 ⟨rfl, rfl⟩
        cases b3 with
        | false =>
          go_wp2
          go_ret
          exact ⟨by rw [HB.out]; rfl, B2.out⟩
        | true =>
          cases b4
          all_goals
            go_wp2
            go_ret
            exact ⟨by rw [HB.out]; rfl, B2.out⟩
end Go.Proofs.YtpcdbpijgmninaaDoor
