/- Package poly is what layer 7's statements ask of it. -/
import Derived.Test.YtbdcligpbogkjaaPoTag
import Derived.Test.YtbdcligpbogkjaaEqA
namespace Go.Proofs.Ytbdcligpbogkjaa
open Go.RowKit

set_option maxHeartbeats 1000000 in
theorem check_any (A0 A1 A2 : Option Addr) (n0 n1 n2 cap0 cap1 cap2 : Nat) (key msg tag : List UInt8) (w : World) (hn : n1 ≤ 1000000) (hn2 : n2 ≤ 1000000) (h0 : BytesAt w (.slice A0 n0 cap0) key) (h1 : BytesAt w (.slice A1 n1 cap1) msg) (h2 : BytesAt w (.slice A2 n2 cap2) tag) :
    Calls Try.prog 9 #[.slice A0 n0 cap0, .slice A1 n1 cap1, .slice A2 n2 cap2] w fun e w' => e = .returned (.bool (decide (n0 = 32 ∧ tagL key msg = tag))) ∧ Below w.heap.size w w' := by
  have H2 := Lib.hid h2
  have L2 := Lib.hid (show tag.length ≤ 1000000 by have := h2.size.1; omega)
  by_cases h : n0 = 32
  · subst h
    have CT := Lib.hid (tag_any A0 A1 n1 cap0 cap1 key msg w hn h0 h1)
    have LT := Lib.hid (show (tagL key msg).length ≤ 1000000 by rw [tagL_length]; decide)
    have HD : Hid (decide (32 = 32 ∧ tagL key msg = tag) = decide (tagL key msg = tag)) := Lib.hid (by simp)
    obtain ⟨TL, hTL⟩ : ∃ TL, TL = tagL key msg := ⟨_, rfl⟩
    rw [← hTL] at CT LT HD ⊢
    rw [HD.out]
    clear h0 h1 h2 hn hn2 hTL HD
    go_enter Try.func9, Try.ntmps9
    go_wp2_with fail
    refine CT.out.mono ?_
    rintro e w1 ⟨v1, rfl, y1, b1⟩
    have CB := Lib.hid (bytes_any v1 (.slice A2 n2 cap2) TL tag w1 y1.bytes (H2.out.below b1) LT.out L2.out)
    have B1 := Lib.hid b1
    clear y1 b1 CT
    go_wp2_with fail
    refine CB.out.mono ?_
    rintro e w2 ⟨rfl, b2⟩
    have B2 := Lib.hid (B1.out.trans (b2.mono B1.out.size))
    clear b2
    go_wp2
    go_ret
    exact ⟨rfl, B2.out⟩
  · have CT := Lib.hid (tag_bad A0 A1 n0 n1 cap0 cap1 w h)
    have d : decide (n0 = 32 ∧ tagL key msg = tag) = false := by simp [h]
    rw [d]
    clear d h0 h1 h2 hn hn2
    go_enter Try.func9, Try.ntmps9
    go_wp2_with fail
    refine CT.out.mono ?_
    rintro e w1 ⟨v1, rfl, -, b1⟩
    have B1 := Lib.hid b1
    clear b1
    go_wp2
    go_ret
    exact ⟨rfl, B1.out⟩

theorem poly_is : PolyIs where
  clamp A n cap l w _ h := clamp_any A n cap l w h
  tagBad A0 A1 n0 n1 cap0 cap1 w h _ := tag_bad A0 A1 n0 n1 cap0 cap1 w h
  tag A0 A1 n cap0 cap1 key msg w hn h0 h1 := tag_any A0 A1 n cap0 cap1 key msg w hn h0 h1
  check A0 A1 A2 n0 n1 n2 cap0 cap1 cap2 key msg tag w h1 h2 k0 k1 k2 := check_any A0 A1 A2 n0 n1 n2 cap0 cap1 cap2 key msg tag w h1 h2 k0 k1 k2
end Go.Proofs.Ytbdcligpbogkjaa
