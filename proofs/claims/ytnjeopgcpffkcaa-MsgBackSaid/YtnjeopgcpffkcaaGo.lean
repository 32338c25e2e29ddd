/- Items that may be, values, a kind's answer: package msg's, and the document's. -/
import Derived.Test.YtnjeopgcpffkcaaGm
import Derived.Test.YtnjeopgcpffkcaaGn
namespace Go.Proofs.Ytnjeopgcpffkcaa
set_option maxRecDepth 100000
open Go.RowKit

set_option maxHeartbeats 1000000 in
theorem labelVal_any (l : List UInt8) (w : World) : Calls Try.prog 36 #[.string ⟨l.toArray⟩] w fun e w' => e = .returned (.bool (decide (l.length ≤ 32))) ∧ w = w' := by
  obtain ⟨q, hq⟩ : ∃ q, q = decide (l.length ≤ 32) := ⟨_, rfl⟩
  have d : decide ((l.length : Int) ≤ 32) = q := by rw [hq]; congr 1; exact propext (by omega)
  rw [← hq]
  clear hq
  go_enter Try.func36, Try.ntmps36
  go_wp2
  go_ret
  exact ⟨rfl, rfl⟩

set_option maxHeartbeats 2000000 in
theorem msItem_any (i : Item) (w : World) : Calls Try.prog 17 #[i.val] w fun e w' => e = .returned (.bool (itemB i)) ∧ Below w.heap.size w w' := by
  have CK := fun w => Lib.hid (labelKey_any i.key w)
  have CV := fun w => Lib.hid (labelVal_any i.text w)
  have CW := fun w => Lib.hid (msWithin_any i.ver 1 1073741824 w)
  have HB : Hid (itemB i = (keyB i.key && (decide (i.text.length ≤ 32) && (decide (1 ≤ i.ver) && decide (i.ver ≤ 1073741824))))) := Lib.hid (by simp only [itemB, Bool.and_assoc])
  generalize keyB i.key = q1 at *
  generalize decide (i.text.length ≤ 32) = q2 at *
  generalize (decide (1 ≤ i.ver) && decide (i.ver ≤ 1073741824)) = q3 at *
  generalize itemB i = q at *
  obtain rfl := HB.out
  clear HB
  go_enter Try.func17, Try.ntmps17
  go_wp2_with (refine wpList_box_row rfl 29 _ rfl i.enc.toArray (by with_unfolding_all exact rfl) ?_)
  intro w1 b1 x1 z1
  obtain ⟨gI, hgI⟩ : ∃ g, g = w.heap.size := ⟨_, rfl⟩
  have M_I := Lib.hid (show w.heap.size ≤ gI from by rw [hgI]; exact Nat.le_refl _)
  have B1 := Lib.hid b1
  rw [← hgI] at x1 ⊢
  have I1 : Hid (Item.At w1 gI i) := Lib.hid x1
  clear b1 x1 z1 hgI 
  have c0 := Item.At.at_key I1.out
  go_wp2_with fail
  refine (CK _).out.mono ?_
  rintro e w2 ⟨rfl, b2⟩
  have I2 : Hid (Item.At w2 gI i) := Lib.hid (Whole.below I1.out b2 I1.out.lt)
  have D2 := Lib.hid (B1.out.trans (b2.mono B1.out.size))
  clear b2 c0 CK
  have c1 := Item.At.at_text I2.out
  have c2 := Item.At.at_ver I2.out
  cases q1 with
  | false =>
    go_wp2
    go_ret
    exact ⟨rfl, D2.out⟩
  | true =>
    go_wp2_with fail
    refine (CV _).out.mono ?_
    rintro e w3 ⟨rfl, rfl⟩
    cases q2 with
    | false =>
      go_wp2
      go_ret
      exact ⟨rfl, D2.out⟩
    | true =>
      go_wp2_with fail
      refine (CW _).out.mono ?_
      rintro e w3 ⟨rfl, rfl⟩
      go_wp2
      go_ret
      exact ⟨rfl, D2.out⟩

set_option maxHeartbeats 2000000 in
theorem refItem_any (i : Item) (w : World) : Calls Try.prog 18 #[i.val] w fun e w' => e = .returned (.bool (itemB i)) ∧ Below w.heap.size w w' := by
  have CK := fun w => Lib.hid (refLbKey_any i.key w)
  obtain ⟨q2, hq2⟩ : ∃ q, q = decide (i.text.length ≤ 32) := ⟨_, rfl⟩
  obtain ⟨q3, hq3⟩ : ∃ q, q = decide (1 ≤ i.ver) := ⟨_, rfl⟩
  obtain ⟨q4, hq4⟩ : ∃ q, q = decide (i.ver ≤ 1073741824) := ⟨_, rfl⟩
  have HB : Hid (itemB i = (keyB i.key && (q2 && (q3 && q4)))) := Lib.hid (by rw [hq2, hq3, hq4]; simp only [itemB, Bool.and_assoc])
  have d2 : decide ((i.text.length : Int) ≤ 32) = q2 := by rw [hq2]; congr 1; exact propext (by omega)
  have d3 := hq3.symm
  have d4 := hq4.symm
  clear hq2 hq3 hq4
  generalize keyB i.key = q1 at *
  generalize itemB i = q at *
  obtain rfl := HB.out
  clear HB
  go_enter Try.func18, Try.ntmps18
  go_wp2_with (refine wpList_box_row rfl 29 _ rfl i.enc.toArray (by with_unfolding_all exact rfl) ?_)
  intro w1 b1 x1 z1
  obtain ⟨gI, hgI⟩ : ∃ g, g = w.heap.size := ⟨_, rfl⟩
  have M_I := Lib.hid (show w.heap.size ≤ gI from by rw [hgI]; exact Nat.le_refl _)
  have B1 := Lib.hid b1
  rw [← hgI] at x1 ⊢
  have I1 : Hid (Item.At w1 gI i) := Lib.hid x1
  clear b1 x1 z1 hgI 
  have c0 := Item.At.at_key I1.out
  go_wp2_with fail
  refine (CK _).out.mono ?_
  rintro e w2 ⟨rfl, rfl⟩
  clear c0 CK
  have c1 := Item.At.at_text I1.out
  have c2 := Item.At.at_ver I1.out
  cases q1 <;> cases q2 <;> cases q3
  all_goals
    go_wp2
    go_ret
    exact ⟨rfl, B1.out⟩

theorem answer_out {k : Int} (h : k < 1 ∨ 16 < k) : answerK k = 0 := by
  simp only [answerK]
  repeat rw [if_neg (by omega)]
set_option maxHeartbeats 2000000 in
theorem msAnswer_any (k : Int) (w : World) : Calls Try.prog 22 #[.int .i64 k] w fun e w' => e = .returned (.int .i64 (answerK k)) ∧ Below w.heap.size w w' := by
  rcases kinds k with rfl | rfl | rfl | rfl | rfl | rfl | rfl | rfl | rfl | rfl | rfl | rfl | rfl | rfl | rfl | rfl | hk
  case inr.inr.inr.inr.inr.inr.inr.inr.inr.inr.inr.inr.inr.inr.inr.inr =>
    have HF := Lib.hid (answer_out hk)
    rw [HF.out]
    have d1 : ¬ k = 1 := by omega
    have d3 : ¬ k = 3 := by omega
    have d5 : ¬ k = 5 := by omega
    have d6 : ¬ k = 6 := by omega
    have d8 : ¬ k = 8 := by omega
    have d10 : ¬ k = 10 := by omega
    have d12 : ¬ k = 12 := by omega
    have d14 : ¬ k = 14 := by omega
    have d16 : ¬ k = 16 := by omega
    clear hk
    go_enter Try.func22, Try.ntmps22
    go_wp2
    go_ret
    exact ⟨rfl, Below.refl _ _⟩
  all_goals
    go_enter Try.func22, Try.ntmps22
    go_wp2
    go_ret
    exact ⟨rfl, Below.refl _ _⟩
end Go.Proofs.Ytnjeopgcpffkcaa
