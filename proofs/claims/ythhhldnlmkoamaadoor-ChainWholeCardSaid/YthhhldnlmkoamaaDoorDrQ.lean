/- What package derive's Named answers. -/
import Derived.Test.YthhhldnlmkoamaaDoorDrA
namespace Go.Proofs.YthhhldnlmkoamaaDoor
open Go.RowKit

theorem carc_str (s : ByteArray) : ((⟨#[99, 97, 114, 99, 97, 110, 101, 116, 32]⟩ : ByteArray) ++ s).data.toList = carc ++ s.data.toList := by
  simp [carc]

set_option maxHeartbeats 1000000 in
theorem named_any (v0 : Value) (s : ByteArray) (key : List UInt8) (w : World) (h0 : BytesAt w v0 key) (hk : key.length ≤ 5000) (hs : s.size ≤ 4700) (T : Tab w) :
    Calls Tryd.prog 15 #[v0, .string s] w fun e w' => ∃ v', e = .returned v' ∧ BytesAt w' v' (namedL key s.data.toList) ∧ Below w.heap.size w w' := by
  have T0 := Lib.hid T
  have H0 := Lib.hid h0
  have CS := Lib.hid (carc_str s)
  have HI : Hid ((carc ++ s.data.toList).length ≤ 4800) := by
    simp [Hid, carc]; omega
  have HD : Hid (expandL key (carc ++ s.data.toList) 32 = namedL key s.data.toList) := Lib.hid rfl
  obtain ⟨vs, w1, hr, y1, b1⟩ := conv_str w ((⟨#[99, 97, 114, 99, 97, 110, 101, 116, 32]⟩ : ByteArray) ++ s)
  rw [CS.out] at y1
  have Y1 := Lib.hid y1
  have B1 := Lib.hid b1
  clear T h0 y1 b1
  go_enter Tryd.func15, Tryd.ntmps15
  go_wp2_with fail
  refine (expand_any v0 vs key _ 32 w1 (H0.out.below B1.out) Y1.out hk HI.out (by decide) (T0.out.below B1.out T0.out.pos)).mono ?_
  rintro e w2 ⟨v4, rfl, y2, b2⟩
  rw [HD.out] at y2
  have B2 := Lib.hid (B1.out.trans (b2.mono B1.out.size))
  have Y2 := Lib.hid y2
  clear y2 b2 hr
  go_wp2
  go_ret
  exact ⟨_, rfl, Y2.out, B2.out⟩
end Go.Proofs.YthhhldnlmkoamaaDoor
