/- What package digest's Two answers. -/
import Derived.Test.YthhhldnlmkoamaaDoorDgS
import Derived.Test.YthhhldnlmkoamaaDoorGenT
namespace Go.Proofs.YthhhldnlmkoamaaDoor
open Go.RowKit

set_option maxHeartbeats 1000000 in
theorem two_own (v0 v1 : Value) (l0 l1 : List UInt8) (hl : l0.length + l1.length ≤ 5000) (w : World) (h0 : BytesAt w v0 l0) (h1 : BytesAt w v1 l1) (T : Tab w) :
    Calls Tryd.prog 17 #[v0, v1] w fun e w' => ∃ v', e = .returned v' ∧ w'.ownsRow w.heap.size 5 1 v' (sumL (l0 ++ l1)).length (bv (sumL (l0 ++ l1))) ∧ Below w.heap.size w w' := by
  have T0 := Lib.hid T
  have H0 := Lib.hid h0
  have H1 := Lib.hid h1
  obtain ⟨A0, cap0, rfl, -, -⟩ := h0
  obtain ⟨A1, cap1, rfl, -, -⟩ := h1
  clear T
  go_enter Tryd.func17, Tryd.ntmps17
  go_wp2_with fail
  have y := Whole.new w 36 #[.slice A0 l0.length cap0, .slice A1 l1.length cap1]
  have b : Below w.heap.size w (w.alloc (.cells #[.slice A0 l0.length cap0, .slice A1 l1.length cap1] 36)) := (Below.refl _ _).alloc (Nat.le_refl _) _
  generalize w.alloc (.cells #[.slice A0 l0.length cap0, .slice A1 l1.length cap1] 36) = w1 at *
  refine (concat_any _ _ _ l0 l1 w1 (y.at_ 0) (y.at_ 1) (H0.out.below b) (H1.out.below b) (by omega) (by omega)).mono ?_
  rintro e w2 ⟨v2, rfl, y2, b2⟩
  have B2 := Lib.hid (b.trans (b2.mono b.size))
  have Y2 := Lib.hid y2
  clear y b b2 y2
  go_wp2_with fail
  refine (sum_own v2 (l0 ++ l1) (by simp; omega) w2 Y2.out (T0.out.below B2.out T0.out.pos)).mono ?_
  rintro e w3 ⟨v3, rfl, y3, b3⟩
  have B3 := Lib.hid (B2.out.trans (b3.mono B2.out.size))
  have Y3 : Hid (w3.ownsRow w.heap.size 5 1 v3 (sumL (l0 ++ l1)).length (bv (sumL (l0 ++ l1)))) := own_less y3 B2.out.size
  clear y3 b3 B2 Y2
  go_wp2
  go_ret
  exact ⟨_, rfl, Y3.out, B3.out⟩
theorem two_any (v0 v1 : Value) (l0 l1 : List UInt8) (hl0 : l0.length ≤ 2500) (hl1 : l1.length ≤ 2500) (w : World) (h0 : BytesAt w v0 l0) (h1 : BytesAt w v1 l1) (T : Tab w) :
    Calls Tryd.prog 17 #[v0, v1] w fun e w' => ∃ v', e = .returned v' ∧ BytesAt w' v' (sumL (l0 ++ l1)) ∧ Below w.heap.size w w' :=
  (two_own v0 v1 l0 l1 (by omega) w h0 h1 T).mono fun _ _ ⟨v', he, ho, hb⟩ => ⟨v', he, BytesAt.of_own ho, hb⟩
end Go.Proofs.YthhhldnlmkoamaaDoor
