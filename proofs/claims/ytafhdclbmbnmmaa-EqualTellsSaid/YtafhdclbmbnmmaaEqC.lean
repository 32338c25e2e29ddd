/- The chapter's example, as the statements of layer 2 ask for it (works). -/
import Derived.Test.YtafhdclbmbnmmaaEqB
namespace Go.Proofs.Ytafhdclbmbnmmaa
open Go.RowKit

theorem ex2_xor (w : World) :
    Calls Try.prog 13 #[.slice (some ⟨w.heap.size, 0, none⟩) 3 3, .slice (some ⟨w.heap.size + 1, 0, none⟩) 2 2]
      ((w.alloc (.cells #[.int .u8 1, .int .u8 2, .int .u8 3] 5)).alloc (.cells #[.int .u8 3, .int .u8 2] 5)) fun e w' =>
      ∃ v', e = .returned v' ∧ (convert 22 9 v').run Try.prog w' = .ok (.string ⟨#[2, 0]⟩) w' ∧ Below w.heap.size w w' := by
  have b0 := BytesAt.lit w [1, 2, 3] #[.int .u8 1, .int .u8 2, .int .u8 3] rfl
  have b0' := b0.below ((Below.refl _ _).alloc (Nat.le_refl _) (.cells #[.int .u8 3, .int .u8 2] 5))
  have b1 := BytesAt.lit (w.alloc (.cells #[.int .u8 1, .int .u8 2, .int .u8 3] 5)) [3, 2] #[.int .u8 3, .int .u8 2] rfl
  have hz : (w.alloc (.cells #[.int .u8 1, .int .u8 2, .int .u8 3] 5)).heap.size = w.heap.size + 1 := by simp
  rw [hz] at b1
  refine (xor_any _ _ _ _ _ b0' b1 (by decide) (by decide)).mono ?_
  rintro e w' ⟨v', rfl, hy, hb⟩
  refine ⟨v', rfl, conv_bytes hy, ?_⟩
  have q : Below w.heap.size w ((w.alloc (.cells #[.int .u8 1, .int .u8 2, .int .u8 3] 5)).alloc (.cells #[.int .u8 3, .int .u8 2] 5)) := ((Below.refl _ _).alloc (Nat.le_refl _) _).alloc (by simp) _
  exact q.trans (hb.mono (by simp; omega))

theorem ex2_bytes (w : World) :
    Calls Try.prog 7 #[.slice none 0 0, .slice none 0 0] w fun e w' => e = .returned (.bool true) ∧ Below w.heap.size w w' :=
  bytes_any _ _ [] [] w (BytesAt.nil w) (BytesAt.nil w) (by decide) (by decide)

theorem ex2_zero (w : World) :
    Calls Try.prog 9 #[.slice (some ⟨w.heap.size, 0, none⟩) 1 1] (w.alloc (.cells #[.int .u8 0] 5)) fun e w' => e = .returned (.bool true) ∧ w.alloc (.cells #[.int .u8 0] 5) = w' :=
  zero_any _ [0] _ (BytesAt.lit w [0] #[.int .u8 0] rfl) (by decide)
theorem ex2_one (w : World) :
    Calls Try.prog 9 #[.slice (some ⟨w.heap.size, 0, none⟩) 1 1] (w.alloc (.cells #[.int .u8 1] 5)) fun e w' => e = .returned (.bool false) ∧ w.alloc (.cells #[.int .u8 1] 5) = w' :=
  zero_any _ [1] _ (BytesAt.lit w [1] #[.int .u8 1] rfl) (by decide)

theorem ex2_pick (w : World) :
    Calls Try.prog 11 #[.bool true, .slice (some ⟨w.heap.size, 0, none⟩) 1 1, .slice (some ⟨w.heap.size + 1, 0, none⟩) 1 1]
      ((w.alloc (.cells #[.int .u8 7] 5)).alloc (.cells #[.int .u8 8] 5)) fun e w' =>
      ∃ v', e = .returned v' ∧ (convert 22 9 v').run Try.prog w' = .ok (.string ⟨#[7]⟩) w' ∧ Below w.heap.size w w' := by
  have b0 := BytesAt.lit w [7] #[.int .u8 7] rfl
  have b0' := b0.below ((Below.refl _ _).alloc (Nat.le_refl _) (.cells #[.int .u8 8] 5))
  have b1 := BytesAt.lit (w.alloc (.cells #[.int .u8 7] 5)) [8] #[.int .u8 8] rfl
  have hz : (w.alloc (.cells #[.int .u8 7] 5)).heap.size = w.heap.size + 1 := by simp
  rw [hz] at b1
  refine (pick_any true _ _ _ _ _ b0' b1 (by decide)).mono ?_
  rintro e w' ⟨v', rfl, hy, hb⟩
  refine ⟨v', rfl, conv_bytes hy, ?_⟩
  have q : Below w.heap.size w ((w.alloc (.cells #[.int .u8 7] 5)).alloc (.cells #[.int .u8 8] 5)) := ((Below.refl _ _).alloc (Nat.le_refl _) _).alloc (by simp) _
  exact q.trans (hb.mono (by simp; omega))

set_option maxHeartbeats 400000 in
theorem works2 (w : World) :
    Calls Try.prog 6 #[] w fun e w' => e = .returned (.bool true) ∧ Below w.heap.size w w' := by
  go_enter Try.func6, Try.ntmps6
  go_wp2_with fail
  refine (ex2_xor w).mono ?_
  rintro e w1 ⟨v1, rfl, hcv1, hb1⟩
  have HB1 := Lib.hid hb1
  clear hb1
  go_wp2_with fail
  refine (ex2_bytes w1).mono ?_
  rintro e w2 ⟨rfl, hb2⟩
  have HB2 := Lib.hid (HB1.out.trans (hb2.mono HB1.out.size))
  clear hb2 HB1 hcv1
  go_wp2_with fail
  refine (ex2_zero w2).mono ?_
  rintro e w3 ⟨rfl, rfl⟩
  have HB3 := Lib.hid (HB2.out.alloc HB2.out.size (.cells #[.int .u8 0] 5))
  generalize w2.alloc (.cells #[.int .u8 0] 5) = w3 at *
  clear HB2
  go_wp2_with fail
  refine (ex2_one w3).mono ?_
  rintro e w4 ⟨rfl, rfl⟩
  have HB4 := Lib.hid (HB3.out.alloc HB3.out.size (.cells #[.int .u8 1] 5))
  generalize w3.alloc (.cells #[.int .u8 1] 5) = w4 at *
  clear HB3
  go_wp2_with fail
  refine (ex2_pick w4).mono ?_
  rintro e w5 ⟨v5, rfl, hcv5, hb5⟩
  have HB5 := Lib.hid (HB4.out.trans (hb5.mono HB4.out.size))
  clear hb5 HB4
  go_wp2
  go_ret
  exact ⟨rfl, HB5.out⟩
end Go.Proofs.Ytafhdclbmbnmmaa
