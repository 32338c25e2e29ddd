/- The statement BoxOpens: what any bytes are opened to, or why not, is as the document has it. For every input. -/
import Derived.Test.YtaobehhekdfkkaaGk
namespace Go.Proofs.Ytaobehhekdfkkaa
open Go.RowKit Go.ChangeShapes Go.WideShapes Go.ChangeAt

set_option maxHeartbeats 1000000 in
theorem opens_great (H : BoxIs) (A0 A1 A2 A3 : Option Addr) (n0 n1 n2 n3 cap0 cap1 cap2 cap3 : Nat) (hg : 100 < n0 ∨ 100 < n1 ∨ 600 < n2 ∨ 600 < n3) (w : World) :
    Calls Try.prog 4 #[.slice A0 n0 cap0, .slice A1 n1 cap1, .slice A2 n2 cap2, .slice A3 n3 cap3] w fun e w' => e = .returned (.bool true) ∧ Below w.heap.size w w' := by
  have W := Lib.hid (works8 H w)
  have hd : (decide ((100 : Int) < (n0 : Int)) = true) ∨ (decide ((100 : Int) < (n0 : Int)) = false ∧ decide ((100 : Int) < (n1 : Int)) = true) ∨ (decide ((100 : Int) < (n0 : Int)) = false ∧ decide ((100 : Int) < (n1 : Int)) = false ∧ decide ((600 : Int) < (n2 : Int)) = true) ∨ (decide ((100 : Int) < (n0 : Int)) = false ∧ decide ((100 : Int) < (n1 : Int)) = false ∧ decide ((600 : Int) < (n2 : Int)) = false ∧ decide ((600 : Int) < (n3 : Int)) = true) := by
    simp only [decide_eq_true_eq, decide_eq_false_iff_not]
    omega
  clear hg
  rcases hd with d0 | ⟨d0, d1⟩ | ⟨d0, d1, d2⟩ | ⟨d0, d1, d2, d3⟩
  all_goals
    go_enter Try.func4, Try.ntmps4
    go_wp2_with fail
    refine W.out.mono ?_
    rintro e w1 ⟨rfl, b1⟩
    have B1 := Lib.hid b1
    clear b1
    go_wp2
    go_ret
    exact ⟨rfl, B1.out⟩

set_option maxRecDepth 100000 in
set_option maxHeartbeats 4000000 in
theorem opens_small (H : BoxIs) (A0 A1 A2 A3 : Option Addr) (n0 n1 n2 n3 cap0 cap1 cap2 cap3 : Nat) (key nonce wth msg : List UInt8) (hn0 : n0 ≤ 100) (hn1 : n1 ≤ 100) (hn2 : n2 ≤ 600) (hn3 : n3 ≤ 600) (w : World)
    (h0 : BytesAt w (.slice A0 n0 cap0) key) (h1 : BytesAt w (.slice A1 n1 cap1) nonce) (h2 : BytesAt w (.slice A2 n2 cap2) wth) (h3 : BytesAt w (.slice A3 n3 cap3) msg) :
    Calls Try.prog 4 #[.slice A0 n0 cap0, .slice A1 n1 cap1, .slice A2 n2 cap2, .slice A3 n3 cap3] w fun e w' => e = .returned (.bool true) ∧ Below w.heap.size w w' := by
  have d0 : decide ((100 : Int) < (n0 : Int)) = false := by simp; omega
  have d1 : decide ((100 : Int) < (n1 : Int)) = false := by simp; omega
  have d2 : decide ((600 : Int) < (n2 : Int)) = false := by simp; omega
  have d3 : decide ((600 : Int) < (n3 : Int)) = false := by simp; omega
  have CS := Lib.hid (H.opens A0 A1 A2 A3 n0 n1 n2 n3 cap0 cap1 cap2 cap3 key nonce wth msg w (by omega) (by omega) h0 h1 h2 h3)
  have CR : ∀ w1, Below w.heap.size w w1 → Hid _ := fun w1 hw => Lib.hid (refOpen_all A0 A1 A2 A3 n0 n1 n2 n3 cap0 cap1 cap2 cap3 key nonce wth msg w1 (by omega) (by omega) (h0.below hw) (h1.below hw) (h2.below hw) (h3.below hw))
  generalize opA n0 n1 key nonce wth msg = a at *
  generalize opC n0 n1 key nonce wth msg = z at *
  clear h0 h1 h2 h3 hn0 hn1 hn2 hn3
  go_enter Try.func4, Try.ntmps4
  go_wp2_with fail
  refine CS.out.mono ?_
  rintro e w1 ⟨v1, rfl, y1, b1⟩
  have B1 := Lib.hid b1
  have Y1 := Lib.hid y1
  clear b1 y1 CS
  have CR1 := CR w1 B1.out
  clear CR
  go_wp2_with fail
  refine CR1.out.mono ?_
  rintro e w2 ⟨v2, rfl, y2, b2⟩
  have B2 := Lib.hid (B1.out.trans (b2.mono B1.out.size))
  have r1 := conv_bytes (Y1.out.below b2)
  have r2 := conv_bytes y2
  have W := Lib.hid (works8 H w2)
  clear b2 y2 B1 Y1 CR1
  go_wp2_with fail
  refine W.out.mono ?_
  rintro e w3 ⟨rfl, b3⟩
  have B3 := Lib.hid (B2.out.trans (b3.mono B2.out.size))
  clear b3 r1 r2 W
  go_wp2
  go_ret
  exact ⟨rfl, B3.out⟩

theorem opens_core (H : BoxIs) (A0 A1 A2 A3 : Option Addr) (n0 n1 n2 n3 cap0 cap1 cap2 cap3 : Nat) (key nonce wth msg : List UInt8) (w : World)
    (h0 : BytesAt w (.slice A0 n0 cap0) key) (h1 : BytesAt w (.slice A1 n1 cap1) nonce) (h2 : BytesAt w (.slice A2 n2 cap2) wth) (h3 : BytesAt w (.slice A3 n3 cap3) msg) :
    Calls Try.prog 4 #[.slice A0 n0 cap0, .slice A1 n1 cap1, .slice A2 n2 cap2, .slice A3 n3 cap3] w fun e w' => e = .returned (.bool true) ∧ Below w.heap.size w w' := by
  by_cases hg : 100 < n0 ∨ 100 < n1 ∨ 600 < n2 ∨ 600 < n3
  · exact opens_great H A0 A1 A2 A3 n0 n1 n2 n3 cap0 cap1 cap2 cap3 hg w
  · exact opens_small H A0 A1 A2 A3 n0 n1 n2 n3 cap0 cap1 cap2 cap3 key nonce wth msg (by omega) (by omega) (by omega) (by omega) w h0 h1 h2 h3
end Go.Proofs.Ytaobehhekdfkkaa
