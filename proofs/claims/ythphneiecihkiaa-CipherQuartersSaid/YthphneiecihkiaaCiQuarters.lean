/- The statement CipherQuarters: what any four words are changed to is as the document has it. For every input. -/
import Derived.Test.YthphneiecihkiaaCiW
namespace Go.Proofs.Ythphneiecihkiaa
open Go.RowKit Go.ChangeShapes Go.WideShapes Go.ChangeAt

set_option maxHeartbeats 1000000 in
theorem quarters_words (H : CipherIs) (a b c d : UInt32) (w : World) :
    Calls Try.prog 3 #[wd a, wd b, wd c, wd d] w fun e w' => e = .returned (.bool true) ∧ Below w.heap.size w w' := by
  go_enter Try.func3, Try.ntmps3
  go_wp2_with fail
  refine (H.quarter a b c d w).mono ?_
  rintro e w1 ⟨rfl, b1⟩
  have B1 := Lib.hid b1
  clear b1
  go_wp2_with fail
  refine (refQuarter_any a b c d w1).mono ?_
  rintro e w2 ⟨rfl, b2⟩
  have B2 := Lib.hid (B1.out.trans (b2.mono B1.out.size))
  clear b2 B1
  generalize quarter a b c d = q at *
  obtain ⟨q0, q1, q2, q3⟩ := q
  simp only [wd]
  go_wp2_with fail
  refine (works6 H w2).mono ?_
  rintro e w3 ⟨rfl, b3⟩
  have B3 := Lib.hid (B2.out.trans (b3.mono B2.out.size))
  clear b3 B2
  go_wp2
  go_ret
  exact ⟨rfl, B3.out⟩
theorem quarters_core (H : CipherIs) (x0 x1 x2 x3 : Nat) (h0 : x0 < 4294967296) (h1 : x1 < 4294967296) (h2 : x2 < 4294967296) (h3 : x3 < 4294967296) (w : World) :
    Calls Try.prog 3 #[.int .u32 (x0 : Int), .int .u32 (x1 : Int), .int .u32 (x2 : Int), .int .u32 (x3 : Int)] w fun e w' => e = .returned (.bool true) ∧ Below w.heap.size w w' := by
  rw [num_wd x0 h0, num_wd x1 h1, num_wd x2 h2, num_wd x3 h3]
  exact quarters_words H _ _ _ _ w
end Go.Proofs.Ythphneiecihkiaa
