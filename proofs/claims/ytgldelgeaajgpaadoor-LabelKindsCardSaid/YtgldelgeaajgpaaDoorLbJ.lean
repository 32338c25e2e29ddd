/- Package label, as landed: Val, Id. -/
import Derived.Test.YtgldelgeaajgpaaDoorLbKinds
import Derived.Test.YtgldelgeaajgpaaDoorDgV
namespace Go.Proofs.YtgldelgeaajgpaaDoor
open Go.RowKit

theorem labelVal_any (l : List UInt8) (w : World) :
    Calls Tryd.prog 12 #[.string ⟨l.toArray⟩] w fun e w' => e = .returned (.bool (decide (l.length ≤ 32))) ∧ Below w.heap.size w w' := by
  obtain ⟨q, hq⟩ : ∃ q, q = decide (l.length ≤ 32) := ⟨_, rfl⟩
  have d1 : decide ((l.length : Int) ≤ 32) = q := by rw [hq]; congr 1; apply propext; omega
  have d2 := hq.symm
  rw [d2]
  clear hq
  go_enter Tryd.func12, Tryd.ntmps12
  go_wp2
  go_ret
  exact ⟨rfl, Below.refl _ _⟩

set_option maxHeartbeats 1000000 in
theorem labelId_any (l : List UInt8) (hl : l.length ≤ 4700) (w : World) (T : Tab w) :
    Calls Tryd.prog 13 #[.string ⟨l.toArray⟩] w fun e w' => e = .returned (qd (idK l)) ∧ Below w.heap.size w w' := by
  have T0 := Lib.hid T
  have CS := Lib.hid (key_str l)
  have HI : Hid (([107, 101, 121, 32] ++ l).length ≤ 4800) := by
    simp [Hid]; omega
  have HD : Hid (idL ([107, 101, 121, 32] ++ l) = idK l) := Lib.hid rfl
  have j1 : 4 + l.length < 9223372036854775807 := by omega
  have j2 : l.length + 4 < 9223372036854775807 := by omega
  obtain ⟨vs, w1, hr, y1, b1⟩ := conv_str w ((⟨#[107, 101, 121, 32]⟩ : ByteArray) ++ ⟨l.toArray⟩)
  rw [CS.out] at y1
  have Y1 := Lib.hid y1
  have B1 := Lib.hid b1
  clear y1 b1 T
  go_enter Tryd.func13, Tryd.ntmps13
  go_wp2_with fail
  refine (id_any vs _ (by have := HI.out; omega) w1 Y1.out (T0.out.below B1.out T0.out.pos)).mono ?_
  rintro e w2 ⟨rfl, b2⟩
  rw [HD.out]
  have B2 := Lib.hid (B1.out.trans (b2.mono B1.out.size))
  clear b2 hr
  go_wp2
  go_ret
  exact ⟨rfl, B2.out⟩

theorem label_id : LabelIdIs where
  val l w _ := labelVal_any l w
  id l w hl T := labelId_any l hl w T
end Go.Proofs.YtgldelgeaajgpaaDoor
