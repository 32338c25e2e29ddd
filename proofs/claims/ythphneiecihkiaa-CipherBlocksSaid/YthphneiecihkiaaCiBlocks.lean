/- The statement CipherBlocks: which 64 bytes any key, nonce and counter make, or that they make none, is as the document has it. For every input. -/
import Derived.Test.YthphneiecihkiaaCiW
import Derived.Test.YthphneiecihkiaaCiF
namespace Go.Proofs.Ythphneiecihkiaa
open Go.RowKit Go.ChangeShapes Go.WideShapes Go.ChangeAt

set_option maxHeartbeats 1000000 in
theorem blocks_great (H : CipherIs) (A0 A1 : Option Addr) (n0 n1 cap0 cap1 : Nat) (c : UInt32) (hg : 100 < n0 ∨ 100 < n1) (w : World) :
    Calls Try.prog 4 #[.slice A0 n0 cap0, .slice A1 n1 cap1, wd c] w fun e w' => e = .returned (.bool true) ∧ Below w.heap.size w w' := by
  have W := Lib.hid (works6 H w)
  have hd : (decide ((100 : Int) < (n0 : Int)) = true) ∨ (decide ((100 : Int) < (n0 : Int)) = false ∧ decide ((100 : Int) < (n1 : Int)) = true) := by
    simp only [decide_eq_true_eq, decide_eq_false_iff_not]
    omega
  clear hg
  rcases hd with d0 | ⟨d0, d1⟩
  all_goals
    go_enter Try.func4, Try.ntmps4
    go_wp2_with fail
    refine W.out.mono ?_
    rintro e w1 ⟨rfl, b1⟩
    have B1 := Lib.hid b1
    clear b1
    go_wp2
    go_ret
    exact ⟨rfl, B1.out⟩

set_option maxHeartbeats 2000000 in
theorem blocks_small (H : CipherIs) (A0 A1 : Option Addr) (n0 n1 cap0 cap1 : Nat) (key nonce : List UInt8) (c : UInt32) (hn0 : n0 ≤ 100) (hn1 : n1 ≤ 100) (w : World) (h0 : BytesAt w (.slice A0 n0 cap0) key) (h1 : BytesAt w (.slice A1 n1 cap1) nonce) :
    Calls Try.prog 4 #[.slice A0 n0 cap0, .slice A1 n1 cap1, wd c] w fun e w' => e = .returned (.bool true) ∧ Below w.heap.size w w' := by
  have d0 : decide ((100 : Int) < (n0 : Int)) = false := by simp; omega
  have d1 : decide ((100 : Int) < (n1 : Int)) = false := by simp; omega
  have H0 := Lib.hid h0
  have H1 := Lib.hid h1
  clear h0 h1
  go_enter Try.func4, Try.ntmps4
  go_wp2_with fail
  refine (H.blockAll _ _ n0 n1 _ _ key nonce c w H0.out H1.out).mono ?_
  rintro e w1 ⟨v1, rfl, y1, b1⟩
  have B1 := Lib.hid b1
  have Y1 := Lib.hid y1
  clear b1 y1
  go_wp2_with fail
  refine (refBlock_all _ _ n0 n1 _ _ key nonce c w1 (H0.out.below B1.out) (H1.out.below B1.out)).mono ?_
  rintro e w2 ⟨v2, rfl, y2, b2⟩
  have B2 := Lib.hid (B1.out.trans (b2.mono B1.out.size))
  have r1 := conv_bytes (Y1.out.below b2)
  have r2 := conv_bytes y2
  clear b2 y2 B1 Y1
  generalize blA n0 n1 key nonce c = a at *
  generalize blC n0 n1 = z at *
  go_wp2_with fail
  refine (works6 H w2).mono ?_
  rintro e w3 ⟨rfl, b3⟩
  have B3 := Lib.hid (B2.out.trans (b3.mono B2.out.size))
  clear b3 B2 r1 r2
  go_wp2
  go_ret
  exact ⟨rfl, B3.out⟩
theorem blocks_core (H : CipherIs) (A0 A1 : Option Addr) (key nonce : List UInt8) (n0 n1 cap0 cap1 x : Nat) (hx : x < 4294967296) (w : World) (h0 : BytesAt w (.slice A0 n0 cap0) key) (h1 : BytesAt w (.slice A1 n1 cap1) nonce) :
    Calls Try.prog 4 #[.slice A0 n0 cap0, .slice A1 n1 cap1, .int .u32 (x : Int)] w fun e w' => e = .returned (.bool true) ∧ Below w.heap.size w w' := by
  rw [num_wd x hx]
  by_cases hg : 100 < n0 ∨ 100 < n1
  · exact blocks_great H A0 A1 n0 n1 cap0 cap1 _ hg w
  · exact blocks_small H A0 A1 n0 n1 cap0 cap1 key nonce _ (by omega) (by omega) w h0 h1
end Go.Proofs.Ythphneiecihkiaa
