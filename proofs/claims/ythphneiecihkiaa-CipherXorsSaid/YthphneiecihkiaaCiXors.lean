/- The statement CipherXors: what any text is changed to, or why it is not, is as the document has it. For every input. -/
import Derived.Test.YthphneiecihkiaaCiW
import Derived.Test.YthphneiecihkiaaCiF
namespace Go.Proofs.Ythphneiecihkiaa
open Go.RowKit Go.ChangeShapes Go.WideShapes Go.ChangeAt

set_option maxHeartbeats 1000000 in
theorem xors_great (H : CipherIs) (A0 A1 A3 : Option Addr) (n0 n1 n3 cap0 cap1 cap3 : Nat) (c : UInt32) (hg : 100 < n0 ∨ 100 < n1 ∨ 1000 < n3) (w : World) :
    Calls Try.prog 5 #[.slice A0 n0 cap0, .slice A1 n1 cap1, wd c, .slice A3 n3 cap3] w fun e w' => e = .returned (.bool true) ∧ Below w.heap.size w w' := by
  have W := Lib.hid (works6 H w)
  have hd : (decide ((100 : Int) < (n0 : Int)) = true) ∨ (decide ((100 : Int) < (n0 : Int)) = false ∧ decide ((100 : Int) < (n1 : Int)) = true) ∨
      (decide ((100 : Int) < (n0 : Int)) = false ∧ decide ((100 : Int) < (n1 : Int)) = false ∧ decide ((1000 : Int) < (n3 : Int)) = true) := by
    simp only [decide_eq_true_eq, decide_eq_false_iff_not]
    omega
  clear hg
  rcases hd with d0 | ⟨d0, d1⟩ | ⟨d0, d1, d2⟩
  all_goals
    go_enter Try.func5, Try.ntmps5
    go_wp2_with fail
    refine W.out.mono ?_
    rintro e w1 ⟨rfl, b1⟩
    have B1 := Lib.hid b1
    clear b1
    go_wp2
    go_ret
    exact ⟨rfl, B1.out⟩

set_option maxHeartbeats 2000000 in
theorem xors_small (H : CipherIs) (A0 A1 A3 : Option Addr) (n0 n1 n3 cap0 cap1 cap3 : Nat) (key nonce msg : List UInt8) (c : UInt32) (hn0 : n0 ≤ 100) (hn1 : n1 ≤ 100) (hn3 : n3 ≤ 1000) (w : World) (h0 : BytesAt w (.slice A0 n0 cap0) key) (h1 : BytesAt w (.slice A1 n1 cap1) nonce) (h3 : BytesAt w (.slice A3 n3 cap3) msg) :
    Calls Try.prog 5 #[.slice A0 n0 cap0, .slice A1 n1 cap1, wd c, .slice A3 n3 cap3] w fun e w' => e = .returned (.bool true) ∧ Below w.heap.size w w' := by
  have d0 : decide ((100 : Int) < (n0 : Int)) = false := by simp; omega
  have d1 : decide ((100 : Int) < (n1 : Int)) = false := by simp; omega
  have d2 : decide ((1000 : Int) < (n3 : Int)) = false := by simp; omega
  have H0 := Lib.hid h0
  have H1 := Lib.hid h1
  have H3 := Lib.hid h3
  clear h0 h1 h3
  go_enter Try.func5, Try.ntmps5
  go_wp2_with fail
  refine (H.xorAll _ _ _ n0 n1 n3 _ _ _ key nonce msg c (by omega) w H0.out H1.out H3.out).mono ?_
  rintro e w1 ⟨v1, rfl, y1, b1⟩
  have B1 := Lib.hid b1
  have Y1 := Lib.hid y1
  clear b1 y1
  go_wp2_with fail
  refine (refXor_all _ _ _ n0 n1 n3 _ _ _ key nonce msg c (by omega) w1 (H0.out.below B1.out) (H1.out.below B1.out) (H3.out.below B1.out)).mono ?_
  rintro e w2 ⟨v2, rfl, y2, b2⟩
  have B2 := Lib.hid (B1.out.trans (b2.mono B1.out.size))
  have r1 := conv_bytes (Y1.out.below b2)
  have r2 := conv_bytes y2
  clear b2 y2 B1 Y1
  generalize xoA n0 n1 n3 key nonce c msg = a at *
  generalize xoC n0 n1 n3 c = z at *
  go_wp2_with fail
  refine (works6 H w2).mono ?_
  rintro e w3 ⟨rfl, b3⟩
  have B3 := Lib.hid (B2.out.trans (b3.mono B2.out.size))
  clear b3 B2 r1 r2
  go_wp2
  go_ret
  exact ⟨rfl, B3.out⟩
theorem xors_core (H : CipherIs) (A0 A1 A3 : Option Addr) (key nonce msg : List UInt8) (n0 n1 n3 cap0 cap1 cap3 x : Nat) (hx : x < 4294967296) (w : World) (h0 : BytesAt w (.slice A0 n0 cap0) key) (h1 : BytesAt w (.slice A1 n1 cap1) nonce) (h3 : BytesAt w (.slice A3 n3 cap3) msg) :
    Calls Try.prog 5 #[.slice A0 n0 cap0, .slice A1 n1 cap1, .int .u32 (x : Int), .slice A3 n3 cap3] w fun e w' => e = .returned (.bool true) ∧ Below w.heap.size w w' := by
  rw [num_wd x hx]
  by_cases hg : 100 < n0 ∨ 100 < n1 ∨ 1000 < n3
  · exact xors_great H A0 A1 A3 n0 n1 n3 cap0 cap1 cap3 _ hg w
  · exact xors_small H A0 A1 A3 n0 n1 n3 cap0 cap1 cap3 key nonce msg _ (by omega) (by omega) (by omega) w h0 h1 h3
end Go.Proofs.Ythphneiecihkiaa
