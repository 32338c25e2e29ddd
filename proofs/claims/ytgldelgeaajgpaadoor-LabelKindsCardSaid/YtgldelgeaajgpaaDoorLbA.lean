/- What the texts of layer 10's statements lean on of package label, as one thing to prove: each call's answer. And the statements' own 'works'. -/
import Derived.Test.YtgldelgeaajgpaaDoorLbM
import Derived.Test.YtgldelgeaajgpaaDoorGenS
import Derived.Test.YtgldelgeaajgpaaDoorGenT
import Derived.Lib.SmallJoins
import Derived.Lib.ItoaNum
import Derived.Lib.LaidTab
namespace Go.Proofs.YtgldelgeaajgpaaDoor
open Go.RowKit

/-- The library's table of powers of ten lies as its initialiser lays it. -/
def PowT (w : World) : Prop := Lib.TabIs Tryd.prog w "internal/strconv.uint64pow10" .u64 Lib.pow10Tab
theorem gPow : Tryd.prog.globalNamed "internal/strconv.uint64pow10" = some 3 := by kernel_rfl
theorem PowT.below {w w' : World} (h : PowT w) (hb : Below w.heap.size w w') : PowT w' := Joins.tab_stays gPow h hb (Nat.le_refl _)

structure LabelIs : Prop where
  name : ∀ (l : List UInt8) (w : World) (_ : l.length ≤ 100000),
    Calls Tryd.prog 8 #[.string ⟨l.toArray⟩] w fun e w' => e = .returned (.bool (nameB l)) ∧ Below w.heap.size w w'
  key : ∀ (l : List UInt8) (w : World) (_ : l.length ≤ 100000),
    Calls Tryd.prog 10 #[.string ⟨l.toArray⟩] w fun e w' => e = .returned (.bool (keyB l)) ∧ Below w.heap.size w w'
  hex : ∀ (n : Nat) (w : World) (_ : n < 18446744073709551616),
    Calls Tryd.prog 15 #[.int .u64 (n : Int)] w fun e w' => e = .returned (.string ⟨(hexL n).toArray⟩) ∧ Below w.heap.size w w'
  number : ∀ (i : Int) (w : World) (_ : -9223372036854775808 ≤ i) (_ : i < 9223372036854775808) (_ : PowT w),
    Calls Tryd.prog 17 #[.int .i64 i] w fun e w' => e = .returned (.string ⟨(numL i).toArray⟩) ∧ Below w.heap.size w w'
  bytes : ∀ (A : Option Addr) (n cap : Nat) (b : List UInt8) (w : World) (_ : n ≤ 100000) (_ : BytesAt w (.slice A n cap) b),
    Calls Tryd.prog 19 #[.slice A n cap] w fun e w' => e = .returned (.string ⟨(bytesL b).toArray⟩) ∧ Below w.heap.size w w'
  readHex : ∀ (l : List UInt8) (w : World) (_ : l.length ≤ 100000),
    Calls Tryd.prog 21 #[.string ⟨l.toArray⟩] w fun e w' => e = .returned (.tuple #[.int .u64 (rhA l : Int), .bool (rhB l)]) ∧ Below w.heap.size w w'

theorem wk_hex (H : LabelIs) (w : World) :
    Calls Tryd.prog 21 #[.string ⟨#[48, 48, 48, 48, 48, 48, 48, 48, 48, 48, 48, 48, 48, 48, 102, 102]⟩] w fun e w' => e = .returned (.tuple #[.int .u64 255, .bool true]) ∧ Below w.heap.size w w' := by
  have := H.readHex [48, 48, 48, 48, 48, 48, 48, 48, 48, 48, 48, 48, 48, 48, 102, 102] w (by decide)
  rw [show rhA [48, 48, 48, 48, 48, 48, 48, 48, 48, 48, 48, 48, 48, 48, 102, 102] = 255 by decide, show rhB [48, 48, 48, 48, 48, 48, 48, 48, 48, 48, 48, 48, 48, 48, 102, 102] = true by decide] at this
  exact this
theorem wk_not (H : LabelIs) (w : World) :
    Calls Tryd.prog 21 #[.string ⟨#[102, 102]⟩] w fun e w' => e = .returned (.tuple #[.int .u64 0, .bool false]) ∧ Below w.heap.size w w' := by
  have := H.readHex [102, 102] w (by decide)
  rw [show rhA [102, 102] = 0 by decide, show rhB [102, 102] = false by decide] at this
  exact this
theorem wk_255 (H : LabelIs) (w : World) :
    Calls Tryd.prog 15 #[.int .u64 255] w fun e w' => e = .returned (.string ⟨#[48, 48, 48, 48, 48, 48, 48, 48, 48, 48, 48, 48, 48, 48, 102, 102]⟩) ∧ Below w.heap.size w w' := by
  have := H.hex 255 w (by decide)
  rw [show hexL 255 = [48, 48, 48, 48, 48, 48, 48, 48, 48, 48, 48, 48, 48, 48, 102, 102] by decide] at this
  exact this
theorem wk_bytes (H : LabelIs) (A : Option Addr) (n cap : Nat) (w : World) (hn : n ≤ 100000) (y : BytesAt w (.slice A n cap) [1, 255]) :
    Calls Tryd.prog 19 #[.slice A n cap] w fun e w' => e = .returned (.string ⟨#[48, 49, 102, 102]⟩) ∧ Below w.heap.size w w' := by
  have := H.bytes A n cap [1, 255] w hn y
  rw [show bytesL [1, 255] = [48, 49, 102, 102] by decide] at this
  exact this
theorem wk_a1 (H : LabelIs) (w : World) :
    Calls Tryd.prog 8 #[.string ⟨#[97, 45, 49]⟩] w fun e w' => e = .returned (.bool true) ∧ Below w.heap.size w w' := by
  have := H.name [97, 45, 49] w (by decide)
  rw [show nameB [97, 45, 49] = true by decide] at this
  exact this
theorem wk_1 (H : LabelIs) (w : World) :
    Calls Tryd.prog 8 #[.string ⟨#[49]⟩] w fun e w' => e = .returned (.bool false) ∧ Below w.heap.size w w' := by
  have := H.name [49] w (by decide)
  rw [show nameB [49] = false by decide] at this
  exact this
theorem wk_k (H : LabelIs) (w : World) :
    Calls Tryd.prog 10 #[.string ⟨#[75]⟩] w fun e w' => e = .returned (.bool true) ∧ Below w.heap.size w w' := by
  have := H.key [75] w (by decide)
  rw [show keyB [75] = true by decide] at this
  exact this
theorem wk_nil (H : LabelIs) (w : World) :
    Calls Tryd.prog 10 #[.string ⟨#[]⟩] w fun e w' => e = .returned (.bool false) ∧ Below w.heap.size w w' := by
  have := H.key [] w (by decide)
  rw [show keyB [] = false by decide] at this
  exact this
theorem wk_m5 (H : LabelIs) (w : World) (T : PowT w) :
    Calls Tryd.prog 17 #[.int .i64 (-5)] w fun e w' => e = .returned (.string ⟨#[45, 53]⟩) ∧ Below w.heap.size w w' := by
  have := H.number (-5) w (by decide) (by decide) T
  rw [show numL (-5) = [45, 53] by rw [numL, if_pos (by decide), show (-5 : Int).natAbs = 5 from rfl, decL_lt 5 (by decide)]; rfl] at this
  exact this
theorem lit2 (w : World) : BytesAt (w.alloc (.cells #[.int .u8 1, .int .u8 255] 5)) (.slice (some ⟨w.heap.size, 0, none⟩) 2 2) [1, 255] :=
  BytesAt.lit w [1, 255] _ rfl

set_option maxHeartbeats 2000000 in
theorem works10 (H : LabelIs) (w : World) (T : PowT w) :
    Calls Tryd.prog 7 #[] w fun e w' => e = .returned (.bool true) ∧ Below w.heap.size w w' := by
  have HH := Lib.hid H
  have T0 := Lib.hid T
  clear H T
  go_enter Tryd.func7, Tryd.ntmps7
  go_wp2_with fail
  refine (wk_hex HH.out w).mono ?_
  rintro e w1 ⟨rfl, b1⟩
  have B1 := Lib.hid b1
  clear b1
  go_wp2_with fail
  refine (wk_not HH.out w1).mono ?_
  rintro e w2 ⟨rfl, b2⟩
  have B2 := Lib.hid (B1.out.trans (b2.mono B1.out.size))
  clear b2 B1
  go_wp2_with fail
  refine (wk_255 HH.out w2).mono ?_
  rintro e w3 ⟨rfl, b3⟩
  have B3 := Lib.hid (B2.out.trans (b3.mono B2.out.size))
  clear b3 B2
  go_wp2_with fail
  have y := lit2 w3
  have b : Below w3.heap.size w3 (w3.alloc (.cells #[.int .u8 1, .int .u8 255] 5)) := (Below.refl _ _).alloc (Nat.le_refl _) _
  generalize w3.alloc (.cells #[.int .u8 1, .int .u8 255] 5) = w4 at *
  have B4 := Lib.hid (B3.out.trans (b.mono B3.out.size))
  refine (wk_bytes HH.out _ 2 2 w4 (by decide) y).mono ?_
  rintro e w5 ⟨rfl, b5⟩
  have B5 := Lib.hid (B4.out.trans (b5.mono B4.out.size))
  clear b5 B4 B3 y b
  go_wp2_with fail
  refine (wk_a1 HH.out w5).mono ?_
  rintro e w6 ⟨rfl, b6⟩
  have B6 := Lib.hid (B5.out.trans (b6.mono B5.out.size))
  clear b6 B5
  go_wp2_with fail
  refine (wk_1 HH.out w6).mono ?_
  rintro e w7 ⟨rfl, b7⟩
  have B7 := Lib.hid (B6.out.trans (b7.mono B6.out.size))
  clear b7 B6
  go_wp2_with fail
  refine (wk_k HH.out w7).mono ?_
  rintro e w8 ⟨rfl, b8⟩
  have B8 := Lib.hid (B7.out.trans (b8.mono B7.out.size))
  clear b8 B7
  go_wp2_with fail
  refine (wk_nil HH.out w8).mono ?_
  rintro e w9 ⟨rfl, b9⟩
  have B9 := Lib.hid (B8.out.trans (b9.mono B8.out.size))
  clear b9 B8
  go_wp2_with fail
  refine (wk_m5 HH.out w9 (T0.out.below B9.out)).mono ?_
  rintro e w10 ⟨rfl, b10⟩
  have B10 := Lib.hid (B9.out.trans (b10.mono B9.out.size))
  clear b10 B9
  go_wp2
  go_ret
  exact ⟨rfl, B10.out⟩
end Go.Proofs.YtgldelgeaajgpaaDoor
