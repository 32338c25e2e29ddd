/- What package digest's Two and Id answer, and the chapter's example (works). -/
import Derived.Test.YtihegkngonhoaaaDoorDgS
import Derived.Lib.SlBytesConst
namespace Go.Proofs.YtihegkngonhoaaaDoor
open Go.RowKit

set_option maxHeartbeats 1000000 in
theorem two_any (v0 v1 : Value) (l0 l1 : List UInt8) (hl0 : l0.length ≤ 2500) (hl1 : l1.length ≤ 2500) (w : World) (h0 : BytesAt w v0 l0) (h1 : BytesAt w v1 l1) (T : Tab w) :
    Calls Tryd.prog 17 #[v0, v1] w fun e w' => ∃ v', e = .returned v' ∧ BytesAt w' v' (sumL (l0 ++ l1)) ∧ Below w.heap.size w w' := by
  have T0 := Lib.hid T
  have H0 := Lib.hid h0
  have H1 := Lib.hid h1
  obtain ⟨A0, cap0, rfl, -, -⟩ := h0
  obtain ⟨A1, cap1, rfl, -, -⟩ := h1
  clear T
  go_enter Tryd.func17, Tryd.ntmps17
  go_wp2_with fail
  have y := Whole.new w 29 #[.slice A0 l0.length cap0, .slice A1 l1.length cap1]
  have b : Below w.heap.size w (w.alloc (.cells #[.slice A0 l0.length cap0, .slice A1 l1.length cap1] 29)) := (Below.refl _ _).alloc (Nat.le_refl _) _
  generalize w.alloc (.cells #[.slice A0 l0.length cap0, .slice A1 l1.length cap1] 29) = w1 at *
  refine (concat_any _ _ _ l0 l1 w1 (y.at_ 0) (y.at_ 1) (H0.out.below b) (H1.out.below b) (by omega) (by omega)).mono ?_
  rintro e w2 ⟨v2, rfl, y2, b2⟩
  have B2 := Lib.hid (b.trans (b2.mono b.size))
  have Y2 := Lib.hid y2
  clear y b b2 y2
  go_wp2_with fail
  refine (sum_any v2 (l0 ++ l1) (by simp; omega) w2 Y2.out (T0.out.below B2.out T0.out.pos)).mono ?_
  rintro e w3 ⟨v3, rfl, y3, b3⟩
  have B3 := Lib.hid (B2.out.trans (b3.mono B2.out.size))
  have Y3 := Lib.hid y3
  clear y3 b3 B2 Y2
  go_wp2
  go_ret
  exact ⟨_, rfl, Y3.out, B3.out⟩

/-- A number of 64 bits as a value. -/
def qd (x : UInt64) : Value := .int .u64 (x.toNat : Int)
theorem qd_or (t : TypeId) (x y : UInt64) (w : World) : (binOp .or t (qd x) (qd y)).run Tryd.prog w = .ok (qd (x ||| y)) w := by
  have h := u64_or_nat x.toNat y.toNat x.toNat_lt y.toNat_lt
  have : binOp .or t (qd x) (qd y) = pure (qd (x ||| y)) := by
    simp only [qd, binOp, UInt64.toNat_or, ← h]
    rfl
  rw [this]
  rfl
theorem qd_shl8 (t : TypeId) (x : UInt64) (w : World) : (binOp .shl t (qd x) (.int .u64 8)).run Tryd.prog w = .ok (qd (x <<< 8)) w := by
  have : binOp .shl t (qd x) (.int .u64 8) = pure (qd (x <<< 8)) := by
    simp only [qd, binOp, Op.shift]
    simp [IntKind.bits, IntKind.wrap, IntKind.signed, Nat.shiftLeft_eq]
  rw [this]
  rfl
theorem byte_qd (c : UInt8) : Value.int .u64 (IntKind.u64.wrap (c.toNat : Int)) = qd c.toUInt64 := by
  have := c.toNat_lt
  rw [IntWalk.u64_in _ (by omega)]
  simp [qd]
theorem word8_snoc (l : List UInt8) (c : UInt8) : word8 (l ++ [c]) = word8 l <<< 8 ||| c.toUInt64 := by simp [word8]

set_option maxHeartbeats 1000000 in
theorem id_any (v : Value) (l : List UInt8) (hl : l.length ≤ 5000) (w : World) (h : BytesAt w v l) (T : Tab w) :
    Calls Tryd.prog 18 #[v] w fun e w' => e = .returned (qd (idL l)) ∧ Below w.heap.size w w' := by
  have C := Lib.hid (sum_any v l hl w h T)
  have HL := Lib.hid (sumL_length l)
  have HI : Hid (idL l = word8 ((sumL l).take 8)) := Lib.hid rfl
  generalize sumL l = R at *
  generalize idL l = I at *
  clear h T
  go_enter Tryd.func18, Tryd.ntmps18
  go_wp2_with fail
  refine C.out.mono ?_
  rintro e w1 ⟨v1, rfl, y1, b1⟩
  have B1 := Lib.hid b1
  have Y1 := Lib.hid y1
  obtain ⟨A1, cap1, rfl, hc1, -⟩ := y1
  rw [HL.out] at hc1 Y1 ⊢
  have hc8 : 8 ≤ cap1 := by omega
  obtain ⟨b, off, rfl, hb, hcell⟩ := Y1.out.spots (by rintro rfl; have := HL.out; simp at this)
  have HC := Lib.hid hcell
  clear b1 hcell hc1
  go_wp2_with fail
  go_loop [3, 10] (fun u i => ∃ k : Nat, k ≤ 8 ∧ i = .int .i64 k ∧ u = qd (word8 (R.take k))) (fun _ i => 8 - (intOf i).toNat)
  case atStart => exact ⟨0, Nat.zero_le _, rfl, rfl⟩
  case round =>
    obtain ⟨k, hk, rfl, rfl⟩ := hrel
    by_cases hlt : k < 8
    · obtain ⟨c, hx⟩ : ∃ c, R[k]? = some c := ⟨_, List.getElem?_eq_getElem (show k < R.length by rw [HL.out]; omega)⟩
      have c0 := HC.out k c hx
      have HN := Lib.hid (word8_snoc (R.take k) c)
      rw [← take_at hx] at HN
      have d1 : decide ((k : Int) < 8) = true := by simp; omega
      have q1 := qd_or
      have q2 := qd_shl8
      have q3 := byte_qd
      generalize word8 (R.take k) = o at *
      clear hx
      go_wp2
      go_round
      case rel => exact ⟨k + 1, by omega, by go_num, by rw [HN.out]⟩
      case measure => simp [intOf]; omega
    · have hk8 : k = 8 := by omega
      subst hk8
      rw [← HI.out]
      have d1 : decide (((8 : Nat) : Int) < 8) = false := by decide
      go_wp2
      go_ret
      exact ⟨rfl, B1.out⟩

theorem abc_lit (w : World) : BytesAt (w.alloc (.cells #[.int .u8 97, .int .u8 98, .int .u8 99] 5 (3, 4))) (.slice (some ⟨w.heap.size, 0, none⟩) 3 3) [97, 98, 99] := by
  refine ⟨_, _, rfl, Nat.le_refl _, fun _ => ⟨_, rfl, fun j c hj => ?_⟩⟩
  have ha : (⟨w.heap.size, 0, none⟩ : Addr).add j = ⟨w.heap.size, j, none⟩ := by unfold Addr.add; split <;> simp_all
  rw [ha, cell_of_row _ _ j _ _ _ (heap_alloc_new w _)]
  match j, hj with
  | 0, hj => cases hj; rfl
  | 1, hj => cases hj; rfl
  | 2, hj => cases hj; rfl
theorem abc_conv (w : World) : (convert 29 29 (.slice (some ⟨w.heap.size, 0, none⟩) 3 3)).run Tryd.prog (w.alloc (.cells #[.int .u8 97, .int .u8 98, .int .u8 99] 5)) =
    .ok (.slice (some ⟨w.heap.size, 0, none⟩) 3 3) (w.alloc (.cells #[.int .u8 97, .int .u8 98, .int .u8 99] 5 (3, 4))) :=
  Lib.run_convert_bytes_const w 29 5 _ 3 3 Tryd.underlying29 Tryd.underlying5
theorem ex_str : (⟨exSum.toArray⟩ : ByteArray) = ⟨#[186, 120, 22, 191, 143, 1, 207, 234, 65, 65, 64, 222, 93, 174, 34, 35, 176, 3, 97, 163, 150, 23, 122, 156, 180, 16, 255, 97, 242, 0, 21, 173]⟩ := rfl

set_option maxHeartbeats 1000000 in
theorem works3 (w : World) (T : Tab w) :
    Calls Tryd.prog 12 #[] w fun e w' => e = .returned (.bool true) ∧ Below w.heap.size w w' := by
  have T0 := Lib.hid T
  have rc := abc_conv
  clear T
  go_enter Tryd.func12, Tryd.ntmps12
  go_wp2_with fail
  have y := abc_lit w
  have b : Below w.heap.size w (w.alloc (.cells #[.int .u8 97, .int .u8 98, .int .u8 99] 5 (3, 4))) := (Below.refl _ _).alloc (Nat.le_refl _) _
  generalize w.alloc (.cells #[.int .u8 97, .int .u8 98, .int .u8 99] 5 (3, 4)) = w1 at *
  have B1 := Lib.hid b
  refine (sum_any _ [97, 98, 99] (by decide) w1 y (T0.out.below b T0.out.pos)).mono ?_
  rintro e w2 ⟨v2, rfl, y2, b2⟩
  rw [ex_sum] at y2
  have r2 := conv_bytes y2
  rw [ex_str] at r2
  have B2 := Lib.hid (B1.out.trans (b2.mono B1.out.size))
  clear y b y2 b2 B1
  go_wp2_with fail
  have y := abc_lit w2
  have b : Below w2.heap.size w2 (w2.alloc (.cells #[.int .u8 97, .int .u8 98, .int .u8 99] 5 (3, 4))) := (Below.refl _ _).alloc (Nat.le_refl _) _
  generalize w2.alloc (.cells #[.int .u8 97, .int .u8 98, .int .u8 99] 5 (3, 4)) = w3 at *
  have B3 := Lib.hid (B2.out.trans (b.mono B2.out.size))
  refine (id_any _ [97, 98, 99] (by decide) w3 y (T0.out.below B3.out T0.out.pos)).mono ?_
  rintro e w4 ⟨rfl, b4⟩
  have B4 := Lib.hid (B3.out.trans (b4.mono B3.out.size))
  have e4 : qd (idL [97, 98, 99]) = .int .u64 13436514500253700074 := by rw [ex_id]; rfl
  clear y b b4 B3 r2 rc
  go_wp2
  go_ret
  exact ⟨rfl, B4.out⟩
end Go.Proofs.YtihegkngonhoaaaDoor
