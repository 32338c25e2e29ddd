/- The core of LabelWrites. -/
import Derived.Test.YtgldelgeaajgpaaDoorLbC
namespace Go.Proofs.YtgldelgeaajgpaaDoor
open Go.RowKit

set_option maxHeartbeats 1000000 in
theorem writes_great (H : LabelIs) (n : Nat) (k : Int) (A : Option Addr) (m cap : Nat) (hg : 1000 < m) (w : World) (PT : PowT w) :
    Calls Tryd.prog 4 #[.int .u64 (n : Int), .int .i64 k, .slice A m cap] w fun e w' => e = .returned (.bool true) ∧ Below w.heap.size w w' := by
  have HH := Lib.hid H
  have P0 := Lib.hid PT
  have d0 : decide ((1000 : Int) < (m : Int)) = true := by simp; omega
  have d0n : decide (1000 < m) = true := by simp; omega
  clear H PT
  go_enter Tryd.func4, Tryd.ntmps4
  go_wp2_with fail
  refine (works10 HH.out w P0.out).mono ?_
  rintro e w1 ⟨rfl, b1⟩
  have B1 := Lib.hid b1
  clear b1
  go_wp2
  go_ret
  exact ⟨rfl, B1.out⟩

set_option maxHeartbeats 2000000 in
theorem writes_small (H : LabelIs) (n : Nat) (k : Int) (A : Option Addr) (m cap : Nat) (b : List UInt8) (hn : n < 18446744073709551616) (hk1 : -9223372036854775808 ≤ k) (hk2 : k < 9223372036854775808) (hm : m ≤ 1000) (w : World) (PT : PowT w) (h : BytesAt w (.slice A m cap) b) :
    Calls Tryd.prog 4 #[.int .u64 (n : Int), .int .i64 k, .slice A m cap] w fun e w' => e = .returned (.bool true) ∧ Below w.heap.size w w' := by
  have HH := Lib.hid H
  have P0 := Lib.hid PT
  have Y0 := Lib.hid h
  have HM := Lib.hid hm
  have d0 : decide ((1000 : Int) < (m : Int)) = false := by simp; omega
  have d0n : decide (1000 < m) = false := by simp; omega
  have C1 := fun w => Lib.hid (H.hex n w hn)
  have C2 := fun w => Lib.hid (refHex_any n hn w)
  have C3 := fun w T => Lib.hid (H.number k w hk1 hk2 T)
  have C4 := fun w => Lib.hid (refLbNumber_any k hk1 hk2 w)
  have C5 := fun w h => Lib.hid (H.bytes A m cap b w (by omega) h)
  have C6 := fun w h => Lib.hid (refLbBytes_any A m cap b (by omega) w h)
  generalize hexL n = x1 at *
  generalize numL k = x2 at *
  generalize bytesL b = x3 at *
  clear H h hm hn hk1 hk2 PT
  go_enter Tryd.func4, Tryd.ntmps4
  go_wp2_with fail
  refine ((C1 w).out).mono ?_
  rintro e w1 ⟨rfl, b1⟩
  have B1 := Lib.hid b1
  clear b1
  go_wp2_with fail
  refine ((C2 w1).out).mono ?_
  rintro e wx ⟨rfl, rfl⟩
  go_wp2_with fail
  refine ((C3 w1 (P0.out.below B1.out)).out).mono ?_
  rintro e w2 ⟨rfl, b2⟩
  have B2 := Lib.hid (B1.out.trans (b2.mono B1.out.size))
  clear b2 B1
  go_wp2_with fail
  refine ((C4 w2).out).mono ?_
  rintro e wx ⟨rfl, rfl⟩
  go_wp2_with fail
  refine ((C5 w2 (Y0.out.below B2.out)).out).mono ?_
  rintro e w3 ⟨rfl, b3⟩
  have B3 := Lib.hid (B2.out.trans (b3.mono B2.out.size))
  clear b3 B2
  go_wp2_with fail
  refine ((C6 w3 (Y0.out.below B3.out)).out).mono ?_
  rintro e w4 ⟨rfl, b4⟩
  have B4 := Lib.hid (B3.out.trans (b4.mono B3.out.size))
  clear b4 B3
  go_wp2_with fail
  refine (works10 HH.out w4 (P0.out.below B4.out)).mono ?_
  rintro e w5 ⟨rfl, b5⟩
  have B5 := Lib.hid (B4.out.trans (b5.mono B4.out.size))
  clear b5 B4
  go_wp2
  go_ret
  exact ⟨rfl, B5.out⟩

theorem writes_core (H : LabelIs) (n : Nat) (k : Int) (A : Option Addr) (m cap : Nat) (b : List UInt8) (hn : n < 18446744073709551616) (hk1 : -9223372036854775808 ≤ k) (hk2 : k < 9223372036854775808) (w : World) (PT : PowT w) (h : BytesAt w (.slice A m cap) b) :
    Calls Tryd.prog 4 #[.int .u64 (n : Int), .int .i64 k, .slice A m cap] w fun e w' => e = .returned (.bool true) ∧ Below w.heap.size w w' := by
  by_cases hg : 1000 < m
  · exact writes_great H n k A m cap hg w PT
  · exact writes_small H n k A m cap b hn hk1 hk2 (by omega) w PT h
end Go.Proofs.YtgldelgeaajgpaaDoor
