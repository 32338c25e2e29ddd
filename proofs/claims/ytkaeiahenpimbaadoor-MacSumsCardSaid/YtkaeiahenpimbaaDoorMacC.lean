/- What package mac's Parts answers of two parts; the chapter's example, as the statements of layer 4 ask for it (works). -/
import Derived.Test.YtkaeiahenpimbaaDoorMacA
import Derived.Lib.SlBytesConst
namespace Go.Proofs.YtkaeiahenpimbaaDoor
open Go.RowKit

set_option maxHeartbeats 1000000 in
theorem parts_any (v0 v1 v2 : Value) (g : Nat) (k a b : List UInt8) (w : World) (c0 : w.cell? ⟨g, 0, none⟩ = some v1) (c1 : w.cell? ⟨g, 1, none⟩ = some v2) (h0 : BytesAt w v0 k) (h1 : BytesAt w v1 a) (h2 : BytesAt w v2 b)
    (hk : k.length ≤ 5000) (ha : a.length ≤ 2400) (hb : b.length ≤ 2400) (T : Tab w) :
    Calls Tryd.prog 11 #[v0, .slice (some ⟨g, 0, none⟩) 2 2] w fun e w' => ∃ v', e = .returned v' ∧ BytesAt w' v' (macL k (a ++ b)) ∧ Below w.heap.size w w' := by
  have T0 := Lib.hid T
  have H0 := Lib.hid h0
  have CC := Lib.hid (concat_any g v1 v2 a b w c0 c1 h1 h2 (by omega) (by omega))
  clear T h0 h1 h2 c0 c1
  go_enter Tryd.func11, Tryd.ntmps11
  go_wp2_with fail
  refine CC.out.mono ?_
  rintro e w1 ⟨v3, rfl, y1, b1⟩
  have B1 := Lib.hid b1
  have Y1 := Lib.hid y1
  clear y1 b1
  go_wp2_with fail
  refine (mac_any v0 v3 k (a ++ b) w1 (H0.out.below B1.out) Y1.out hk (by simp; omega) (T0.out.below B1.out T0.out.pos)).mono ?_
  rintro e w2 ⟨v4, rfl, y2, b2⟩
  have B2 := Lib.hid (B1.out.trans (b2.mono B1.out.size))
  have Y2 := Lib.hid y2
  clear y2 b2
  go_wp2
  go_ret
  exact ⟨_, rfl, Y2.out, B2.out⟩

theorem const_lit (w : World) (l : List UInt8) (cs : Array Value) (hc : cs = (bv l).toArray) (a b : Nat) : BytesAt (w.alloc (.cells cs 5 (a, b))) (.slice (some ⟨w.heap.size, 0, none⟩) l.length l.length) l := by
  subst hc
  refine ⟨_, _, rfl, Nat.le_refl _, fun _ => ⟨_, rfl, fun j c hj => ?_⟩⟩
  have ha : (⟨w.heap.size, 0, none⟩ : Addr).add j = ⟨w.heap.size, j, none⟩ := by unfold Addr.add; split <;> simp_all
  rw [ha, cell_of_row _ _ j _ _ _ (heap_alloc_new w _)]
  simp [bv, hj]
def hi : List UInt8 := [72, 105, 32, 84, 104, 101, 114, 101]
def key20 : List UInt8 := List.replicate 20 11
theorem hi_conv (w : World) : (convert 22 22 (.slice (some ⟨w.heap.size, 0, none⟩) 8 8)).run Tryd.prog (w.alloc (.cells #[.int .u8 72, .int .u8 105, .int .u8 32, .int .u8 84, .int .u8 104, .int .u8 101, .int .u8 114, .int .u8 101] 5)) =
    .ok (.slice (some ⟨w.heap.size, 0, none⟩) 8 8) (w.alloc (.cells #[.int .u8 72, .int .u8 105, .int .u8 32, .int .u8 84, .int .u8 104, .int .u8 101, .int .u8 114, .int .u8 101] 5 (8, 9))) :=
  Lib.run_convert_bytes_const w 22 5 _ 8 8 Tryd.underlying22 Tryd.underlying5
theorem hi_lit (w : World) : BytesAt (w.alloc (.cells #[.int .u8 72, .int .u8 105, .int .u8 32, .int .u8 84, .int .u8 104, .int .u8 101, .int .u8 114, .int .u8 101] 5 (8, 9))) (.slice (some ⟨w.heap.size, 0, none⟩) 8 8) hi := const_lit w hi _ rfl 8 9
theorem tag_str : (⟨exTag.toArray⟩ : ByteArray) = ⟨#[176, 52, 76, 97, 216, 219, 56, 83, 92, 168, 175, 206, 175, 11, 241, 43, 136, 29, 194, 0, 201, 131, 61, 167, 38, 233, 55, 108, 46, 50, 207, 247]⟩ := rfl
theorem hi_tag : macL key20 hi = exTag := ex_tag

set_option maxHeartbeats 1000000 in
theorem works4 (w : World) (T : Tab w) :
    Calls Tryd.prog 6 #[] w fun e w' => e = .returned (.bool true) ∧ Below w.heap.size w w' := by
  have T0 := Lib.hid T
  have rc := hi_conv
  clear T
  go_enter Tryd.func6, Tryd.ntmps6
  go_upto_region 2 with fail
  have y0 : BytesAt (w.alloc (.cells #[.int .u8 11, .int .u8 11, .int .u8 11, .int .u8 11, .int .u8 11, .int .u8 11, .int .u8 11, .int .u8 11, .int .u8 11, .int .u8 11, .int .u8 11, .int .u8 11, .int .u8 11, .int .u8 11, .int .u8 11, .int .u8 11, .int .u8 11, .int .u8 11, .int .u8 11, .int .u8 11] 5)) (.slice (some ⟨w.heap.size, 0, none⟩) 20 20) key20 := BytesAt.lit w key20 _ rfl
  have b0 : Below w.heap.size w (w.alloc (.cells #[.int .u8 11, .int .u8 11, .int .u8 11, .int .u8 11, .int .u8 11, .int .u8 11, .int .u8 11, .int .u8 11, .int .u8 11, .int .u8 11, .int .u8 11, .int .u8 11, .int .u8 11, .int .u8 11, .int .u8 11, .int .u8 11, .int .u8 11, .int .u8 11, .int .u8 11, .int .u8 11] 5)) := (Below.refl _ _).alloc (Nat.le_refl _) _
  generalize w.alloc (.cells #[.int .u8 11, .int .u8 11, .int .u8 11, .int .u8 11, .int .u8 11, .int .u8 11, .int .u8 11, .int .u8 11, .int .u8 11, .int .u8 11, .int .u8 11, .int .u8 11, .int .u8 11, .int .u8 11, .int .u8 11, .int .u8 11, .int .u8 11, .int .u8 11, .int .u8 11, .int .u8 11] 5) = w0 at *
  have Y0 := Lib.hid y0
  have B0 := Lib.hid b0
  clear y0 b0
  go_wp2_with fail
  have y := hi_lit w0
  have b : Below w0.heap.size w0 (w0.alloc (.cells #[.int .u8 72, .int .u8 105, .int .u8 32, .int .u8 84, .int .u8 104, .int .u8 101, .int .u8 114, .int .u8 101] 5 (8, 9))) := (Below.refl _ _).alloc (Nat.le_refl _) _
  generalize w0.alloc (.cells #[.int .u8 72, .int .u8 105, .int .u8 32, .int .u8 84, .int .u8 104, .int .u8 101, .int .u8 114, .int .u8 101] 5 (8, 9)) = w1 at *
  have B1 := Lib.hid (B0.out.trans (b.mono B0.out.size))
  have Y1 := Lib.hid (Y0.out.below b)
  refine (mac_any _ _ key20 hi w1 Y1.out y (by decide) (by decide) (T0.out.below B1.out T0.out.pos)).mono ?_
  rintro e w2 ⟨v2, rfl, y2, b2⟩
  rw [hi_tag] at y2
  have r2 := conv_bytes y2
  rw [tag_str] at r2
  have B2 := Lib.hid (B1.out.trans (b2.mono B1.out.size))
  have Y2 := Lib.hid (Y1.out.below b2)
  have V2 := Lib.hid y2
  clear y b y2 b2 B1 Y0 Y1 B0
  go_wp2_with fail
  have y := hi_lit w2
  have b : Below w2.heap.size w2 (w2.alloc (.cells #[.int .u8 72, .int .u8 105, .int .u8 32, .int .u8 84, .int .u8 104, .int .u8 101, .int .u8 114, .int .u8 101] 5 (8, 9))) := (Below.refl _ _).alloc (Nat.le_refl _) _
  generalize w2.alloc (.cells #[.int .u8 72, .int .u8 105, .int .u8 32, .int .u8 84, .int .u8 104, .int .u8 101, .int .u8 114, .int .u8 101] 5 (8, 9)) = w3 at *
  have B3 := Lib.hid (B2.out.trans (b.mono B2.out.size))
  refine (check_any _ _ _ key20 hi exTag w3 (Y2.out.below b) y (V2.out.below b) (by decide) (by decide) (by decide) (T0.out.below B3.out T0.out.pos)).mono ?_
  rintro e w4 ⟨rfl, b4⟩
  have B4 := Lib.hid (B3.out.trans (b4.mono B3.out.size))
  have D : decide (macL key20 hi = exTag) = true := decide_eq_true hi_tag
  rw [D]
  clear y b b4 B3 r2 rc D
  go_wp2
  go_ret
  exact ⟨rfl, B4.out⟩
end Go.Proofs.YtkaeiahenpimbaaDoor
