/- The chapter's example, as the statements of layer 5 ask for it (works). -/
import Derived.Test.YtjkbbcnbdjhdbaaDoorDrE
namespace Go.Proofs.YtjkbbcnbdjhdbaaDoor
open Go.RowKit

def ikm : List UInt8 := List.replicate 22 11
def salt13 : List UInt8 := [0, 1, 2, 3, 4, 5, 6, 7, 8, 9, 10, 11, 12]
def prk : List UInt8 := [7, 119, 9, 54, 44, 46, 50, 223, 13, 220, 63, 13, 196, 123, 186, 99, 144, 182, 199, 59, 181, 15, 156, 49, 34, 236, 132, 74, 215, 194, 179, 229]
theorem prk_is : extractL salt13 ikm = prk := by
  rw [extractL, if_neg (by decide)]
  exact der_tag
theorem prk_str : (⟨prk.toArray⟩ : ByteArray) = ⟨#[7, 119, 9, 54, 44, 46, 50, 223, 13, 220, 63, 13, 196, 123, 186, 99, 144, 182, 199, 59, 181, 15, 156, 49, 34, 236, 132, 74, 215, 194, 179, 229]⟩ := rfl

set_option maxHeartbeats 1000000 in
theorem works5 (w : World) (T : Tab w) :
    Calls Tryd.prog 5 #[] w fun e w' => e = .returned (.bool true) ∧ Below w.heap.size w w' := by
  have T0 := Lib.hid T
  clear T
  go_enter Tryd.func5, Tryd.ntmps5
  go_upto_region 2 with fail
  have y0 : BytesAt (w.alloc (.cells #[.int .u8 11, .int .u8 11, .int .u8 11, .int .u8 11, .int .u8 11, .int .u8 11, .int .u8 11, .int .u8 11, .int .u8 11, .int .u8 11, .int .u8 11, .int .u8 11, .int .u8 11, .int .u8 11, .int .u8 11, .int .u8 11, .int .u8 11, .int .u8 11, .int .u8 11, .int .u8 11, .int .u8 11, .int .u8 11] 5)) (.slice (some ⟨w.heap.size, 0, none⟩) 22 22) ikm := BytesAt.lit w ikm _ rfl
  have b0 : Below w.heap.size w (w.alloc (.cells #[.int .u8 11, .int .u8 11, .int .u8 11, .int .u8 11, .int .u8 11, .int .u8 11, .int .u8 11, .int .u8 11, .int .u8 11, .int .u8 11, .int .u8 11, .int .u8 11, .int .u8 11, .int .u8 11, .int .u8 11, .int .u8 11, .int .u8 11, .int .u8 11, .int .u8 11, .int .u8 11, .int .u8 11, .int .u8 11] 5)) := (Below.refl _ _).alloc (Nat.le_refl _) _
  generalize w.alloc (.cells #[.int .u8 11, .int .u8 11, .int .u8 11, .int .u8 11, .int .u8 11, .int .u8 11, .int .u8 11, .int .u8 11, .int .u8 11, .int .u8 11, .int .u8 11, .int .u8 11, .int .u8 11, .int .u8 11, .int .u8 11, .int .u8 11, .int .u8 11, .int .u8 11, .int .u8 11, .int .u8 11, .int .u8 11, .int .u8 11] 5) = w0 at *
  have Y0 := Lib.hid y0
  have B0 := Lib.hid b0
  clear y0 b0
  go_wp2_with fail
  have y : BytesAt (w0.alloc (.cells #[.int .u8 0, .int .u8 1, .int .u8 2, .int .u8 3, .int .u8 4, .int .u8 5, .int .u8 6, .int .u8 7, .int .u8 8, .int .u8 9, .int .u8 10, .int .u8 11, .int .u8 12] 5)) (.slice (some ⟨w0.heap.size, 0, none⟩) 13 13) salt13 := BytesAt.lit w0 salt13 _ rfl
  have b : Below w0.heap.size w0 (w0.alloc (.cells #[.int .u8 0, .int .u8 1, .int .u8 2, .int .u8 3, .int .u8 4, .int .u8 5, .int .u8 6, .int .u8 7, .int .u8 8, .int .u8 9, .int .u8 10, .int .u8 11, .int .u8 12] 5)) := (Below.refl _ _).alloc (Nat.le_refl _) _
  generalize w0.alloc (.cells #[.int .u8 0, .int .u8 1, .int .u8 2, .int .u8 3, .int .u8 4, .int .u8 5, .int .u8 6, .int .u8 7, .int .u8 8, .int .u8 9, .int .u8 10, .int .u8 11, .int .u8 12] 5) = w1 at *
  have B1 := Lib.hid (B0.out.trans (b.mono B0.out.size))
  refine (extract_any _ _ salt13 ikm w1 y (Y0.out.below b) (by decide) (by decide) (T0.out.below B1.out T0.out.pos)).mono ?_
  rintro e w2 ⟨v2, rfl, y2, b2⟩
  rw [prk_is] at y2
  have B2 := Lib.hid (B1.out.trans (b2.mono B1.out.size))
  have Y2 := Lib.hid y2
  clear y b b2 y2 Y0 B0 B1
  go_wp2_with fail
  refine (expand_bad _ _ 8161 (by decide) w2).mono ?_
  rintro e w3 ⟨rfl, b3⟩
  have B3 := Lib.hid (B2.out.trans (b3.mono B2.out.size))
  have r3 := conv_bytes (Y2.out.below b3)
  rw [prk_str] at r3
  clear b3 B2 Y2
  go_wp2
  go_ret
  exact ⟨rfl, B3.out⟩
end Go.Proofs.YtjkbbcnbdjhdbaaDoor
