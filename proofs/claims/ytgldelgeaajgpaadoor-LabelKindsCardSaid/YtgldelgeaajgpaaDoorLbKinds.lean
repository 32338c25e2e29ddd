/- What the document's Id of layer 10 answers; the core of LabelKinds; LabelIdIs: what it leans on of package label's Id. -/
import Derived.Test.YtgldelgeaajgpaaDoorLbA
import Derived.Test.YtgldelgeaajgpaaDoorLbK
import Derived.Test.YtgldelgeaajgpaaDoorDgH
import Derived.Test.YtgldelgeaajgpaaDoorLbL
namespace Go.Proofs.YtgldelgeaajgpaaDoor
open Go.RowKit

/-- A key's identifier. -/
def idK (l : List UInt8) : UInt64 := idL ([107, 101, 121, 32] ++ l)
theorem key_str (l : List UInt8) : ((⟨#[107, 101, 121, 32]⟩ : ByteArray) ++ ⟨l.toArray⟩).data.toList = [107, 101, 121, 32] ++ l := by
  simp

set_option maxHeartbeats 1000000 in
theorem refIdK_any (l : List UInt8) (hl : l.length ≤ 4700) (w : World) :
    Calls Tryd.prog 14 #[.string ⟨l.toArray⟩] w fun e w' => e = .returned (qd (idK l)) ∧ Below w.heap.size w w' := by
  have CS := Lib.hid (key_str l)
  have HI : Hid (([107, 101, 121, 32] ++ l).length ≤ 4800) := by
    simp [Hid]; omega
  have HD : Hid (idL ([107, 101, 121, 32] ++ l) = idK l) := Lib.hid rfl
  have j1 : 4 + l.length < 9223372036854775807 := by omega
  have j2 : l.length + 4 < 9223372036854775807 := by omega
  obtain ⟨vs, w1, hr, y1, b1⟩ := conv_str w ((⟨#[107, 101, 121, 32]⟩ : ByteArray) ++ ⟨l.toArray⟩)
  rw [CS.out] at y1
  have Y1 := Lib.hid y1
  have B1 := Lib.hid b1
  clear y1 b1
  go_enter Tryd.func14, Tryd.ntmps14
  go_wp2_with fail
  refine (refId_any vs _ (by have := HI.out; omega) w1 Y1.out).mono ?_
  rintro e w2 ⟨rfl, b2⟩
  rw [HD.out]
  have B2 := Lib.hid (B1.out.trans (b2.mono B1.out.size))
  clear b2 hr
  go_wp2
  go_ret
  exact ⟨rfl, B2.out⟩

structure LabelIdIs : Prop where
  val : ∀ (l : List UInt8) (w : World) (_ : l.length ≤ 100000),
    Calls Tryd.prog 12 #[.string ⟨l.toArray⟩] w fun e w' => e = .returned (.bool (decide (l.length ≤ 32))) ∧ Below w.heap.size w w'
  id : ∀ (l : List UInt8) (w : World) (_ : l.length ≤ 4700) (_ : Tab w),
    Calls Tryd.prog 13 #[.string ⟨l.toArray⟩] w fun e w' => e = .returned (qd (idK l)) ∧ Below w.heap.size w w'

set_option maxHeartbeats 1000000 in
theorem kinds_great (H : LabelIs) (l : List UInt8) (hg : 1000 < l.length) (w : World) (PT : PowT w) :
    Calls Tryd.prog 3 #[.string ⟨l.toArray⟩] w fun e w' => e = .returned (.bool true) ∧ Below w.heap.size w w' := by
  have HH := Lib.hid H
  have P0 := Lib.hid PT
  have d0 : decide ((1000 : Int) < (l.length : Int)) = true := by simp; omega
  have d0n : decide (1000 < l.length) = true := by simp; omega
  clear H PT
  go_enter Tryd.func3, Tryd.ntmps3
  go_wp2_with fail
  refine (works10 HH.out w P0.out).mono ?_
  rintro e w1 ⟨rfl, b1⟩
  have B1 := Lib.hid b1
  clear b1
  go_wp2
  go_ret
  exact ⟨rfl, B1.out⟩

theorem qd_is (x : UInt64) : qd x = .int .u64 (x.toNat : Int) := rfl

set_option maxHeartbeats 2000000 in
theorem kinds_small (H : LabelIs) (HI : LabelIdIs) (l : List UInt8) (hl : l.length ≤ 1000) (w : World) (PT : PowT w) (T : Tab w) :
    Calls Tryd.prog 3 #[.string ⟨l.toArray⟩] w fun e w' => e = .returned (.bool true) ∧ Below w.heap.size w w' := by
  have HH := Lib.hid H
  have P0 := Lib.hid PT
  have T0 := Lib.hid T
  have HL := Lib.hid hl
  have d0 : decide ((1000 : Int) < (l.length : Int)) = false := by simp; omega
  have d0n : decide (1000 < l.length) = false := by simp; omega
  obtain ⟨B, hB⟩ : ∃ B, B = decide (l.length ≤ 32) := ⟨_, rfl⟩
  have v1 : decide (l.length ≤ 32) = B := hB.symm
  have v2 : decide ((l.length : Int) ≤ 32) = B := by rw [hB]; congr 1; apply propext; omega
  have VAL := fun w => Lib.hid (HI.val l w (by omega))
  rw [v1] at VAL
  have KE := fun w T => Lib.hid (HI.id l w (by omega) T)
  have KR := fun w => Lib.hid (refIdK_any l (by omega) w)
  rw [qd_is] at KR KE
  generalize (idK l).toNat = q at *
  clear H HI T hB hl PT
  go_enter Tryd.func3, Tryd.ntmps3
  go_wp2_with fail
  refine (HH.out.name l w (by have := HL.out; omega)).mono ?_
  rintro e w1 ⟨rfl, b1⟩
  have B1 := Lib.hid b1
  clear b1
  go_wp2_with fail
  refine (refName_any l w1).mono ?_
  rintro e wx ⟨rfl, rfl⟩
  generalize nameB l = bn
  go_wp2_with fail
  refine (HH.out.key l w1 (by have := HL.out; omega)).mono ?_
  rintro e w2 ⟨rfl, b2⟩
  have B2 := Lib.hid (B1.out.trans (b2.mono B1.out.size))
  clear b2 B1
  go_wp2_with fail
  refine (refLbKey_any l w2).mono ?_
  rintro e wx ⟨rfl, rfl⟩
  generalize keyB l = bk
  go_wp2_with fail
  refine ((VAL w2).out).mono ?_
  rintro e w3 ⟨rfl, b3⟩
  have B3 := Lib.hid (B2.out.trans (b3.mono B2.out.size))
  clear b3 B2
  go_wp2_with fail
  refine ((KE w3 (T0.out.below B3.out T0.out.pos)).out).mono ?_
  rintro e w4 ⟨rfl, b4⟩
  have B4 := Lib.hid (B3.out.trans (b4.mono B3.out.size))
  clear b4 B3
  go_wp2_with fail
  refine ((KR w4).out).mono ?_
  rintro e w5 ⟨rfl, b5⟩
  have B5 := Lib.hid (B4.out.trans (b5.mono B4.out.size))
  clear b5 B4
  go_wp2_with fail
  refine (works10 HH.out w5 (P0.out.below B5.out)).mono ?_
  rintro e w6 ⟨rfl, b6⟩
  have B6 := Lib.hid (B5.out.trans (b6.mono B5.out.size))
  clear b6 B5
  go_wp2
  go_ret
  exact ⟨rfl, B6.out⟩

theorem kinds_core (H : LabelIs) (HI : LabelIdIs) (s : ByteArray) (w : World) (PT : PowT w) (T : Tab w) :
    Calls Tryd.prog 3 #[.string s] w fun e w' => e = .returned (.bool true) ∧ Below w.heap.size w w' := by
  obtain ⟨⟨l⟩⟩ := s
  by_cases h : 1000 < l.length
  · exact kinds_great H l h w PT
  · exact kinds_small H HI l (by omega) w PT T
end Go.Proofs.YtgldelgeaajgpaaDoor
