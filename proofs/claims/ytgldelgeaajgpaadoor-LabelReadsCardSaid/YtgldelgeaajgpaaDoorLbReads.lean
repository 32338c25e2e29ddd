/- The core of LabelReads. -/
import Derived.Test.YtgldelgeaajgpaaDoorLbC
namespace Go.Proofs.YtgldelgeaajgpaaDoor
open Go.RowKit

set_option maxHeartbeats 1000000 in
theorem reads_great (H : LabelIs) (l : List UInt8) (hg : 9000 < l.length) (w : World) (PT : PowT w) :
    Calls Tryd.prog 5 #[.string ⟨l.toArray⟩] w fun e w' => e = .returned (.bool true) ∧ Below w.heap.size w w' := by
  have HH := Lib.hid H
  have P0 := Lib.hid PT
  have d0 : decide ((9000 : Int) < (l.length : Int)) = true := by simp; omega
  have d0n : decide (9000 < l.length) = true := by simp; omega
  clear H PT
  go_enter Tryd.func5, Tryd.ntmps5
  go_wp2_with fail
  refine (works10 HH.out w P0.out).mono ?_
  rintro e w1 ⟨rfl, b1⟩
  have B1 := Lib.hid b1
  clear b1
  go_wp2
  go_ret
  exact ⟨rfl, B1.out⟩

set_option maxHeartbeats 4000000 in
theorem reads_small (H : LabelIs) (HR : LabelReadIs) (l : List UInt8) (hl : l.length ≤ 9000) (w : World) (PT : PowT w) (ER : ErrT w) :
    Calls Tryd.prog 5 #[.string ⟨l.toArray⟩] w fun e w' => e = .returned (.bool true) ∧ Below w.heap.size w w' := by
  have HH := Lib.hid H
  have P0 := Lib.hid PT
  have E0 := Lib.hid ER
  have d0 : decide ((9000 : Int) < (l.length : Int)) = false := by simp; omega
  have d0n : decide (9000 < l.length) = false := by simp; omega
  have C1 := fun w => Lib.hid (H.readHex l w (by omega))
  have C2 := fun w => Lib.hid (refReadHex_any l w)
  have C3 := fun w => Lib.hid (HR.readBytes l w (by omega))
  have C4 := fun w => Lib.hid (refReadBytes_any l (by omega) w)
  have C5 := fun w T1 T2 => Lib.hid (HR.readNumber l w (by omega) T1 T2)
  have C6 := fun w => Lib.hid (refReadNumber_any l (by omega) w)
  generalize rhA l = x1 at *
  generalize rhB l = x2 at *
  generalize rbA l = x3 at *
  generalize rbB l = x4 at *
  generalize rnA l = x5 at *
  generalize rnB l = x6 at *
  clear H HR hl PT ER
  go_enter Tryd.func5, Tryd.ntmps5
  go_wp2_with fail
  refine ((C1 w).out).mono ?_
  rintro e w1 ⟨rfl, b1⟩
  have B1 := Lib.hid b1
  clear b1
  go_wp2_with fail
  refine ((C2 w1).out).mono ?_
  rintro e wx ⟨rfl, rfl⟩
  go_wp2_with fail
  refine ((C3 w1).out).mono ?_
  rintro e w2 ⟨v2, rfl, y2, b2⟩
  have B2 := Lib.hid (B1.out.trans (b2.mono B1.out.size))
  have Y2 := Lib.hid y2
  clear y2
  clear b2 B1
  go_wp2_with fail
  refine ((C4 w2).out).mono ?_
  rintro e w3 ⟨v3, rfl, y3, b3⟩
  have B3 := Lib.hid (B2.out.trans (b3.mono B2.out.size))
  have Y3 := Lib.hid y3
  have Z3 := Lib.hid (Y2.out.below b3)
  clear y3 Y2
  clear b3 B2
  go_wp2_with fail
  refine ((C5 w3 (P0.out.below B3.out) (E0.out.below B3.out)).out).mono ?_
  rintro e w4 ⟨rfl, b4⟩
  have B4 := Lib.hid (B3.out.trans (b4.mono B3.out.size))
  have r1 := conv_bytes (Z3.out.below b4)
  have r2 := conv_bytes (Y3.out.below b4)
  clear Y3 Z3
  clear b4 B3
  go_wp2_with fail
  refine ((C6 w4).out).mono ?_
  rintro e wx ⟨rfl, rfl⟩
  go_wp2_with fail
  refine (works10 HH.out w4 (P0.out.below B4.out)).mono ?_
  rintro e w5 ⟨rfl, b5⟩
  have B5 := Lib.hid (B4.out.trans (b5.mono B4.out.size))
  clear b5 B4
  go_wp2
  go_ret
  exact ⟨rfl, B5.out⟩

theorem reads_core (H : LabelIs) (HR : LabelReadIs) (s : ByteArray) (w : World) (PT : PowT w) (ER : ErrT w) :
    Calls Tryd.prog 5 #[.string s] w fun e w' => e = .returned (.bool true) ∧ Below w.heap.size w w' := by
  obtain ⟨⟨l⟩⟩ := s
  by_cases h : 9000 < l.length
  · exact reads_great H l h w PT
  · exact reads_small H HR l (by omega) w PT ER
end Go.Proofs.YtgldelgeaajgpaaDoor
