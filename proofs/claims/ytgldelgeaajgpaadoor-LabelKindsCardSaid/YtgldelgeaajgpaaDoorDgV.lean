/- Numbers of 64 bits as values; what package digest's Id answers. -/
import Derived.Test.YtgldelgeaajgpaaDoorDgS
namespace Go.Proofs.YtgldelgeaajgpaaDoor
open Go.RowKit

/-- A number of 64 bits as a value. -/
def qd (x : UInt64) : Value := .int .u64 (x.toNat : Int)
theorem qd_or (t : TypeId) (x y : UInt64) (w : World) : (binOp .or t (qd x) (qd y)).run Tryd.prog w = .ok (qd (x ||| y)) w := by
  have h := u64_or_nat x.toNat y.toNat x.toNat_lt y.toNat_lt
  have : binOp .or t (qd x) (qd y) = pure (qd (x ||| y)) := by
    simp only [qd, binOp, UInt64.toNat_or, ← h]
    rfl
  rw [this]
  rfl
theorem qd_shl8 (t : TypeId) (x : UInt64) (w : World) : (binOp .shl t (qd x) (.int .u64 8)).run Tryd.prog w = .ok (qd (x <<< 8)) w := by
  have : binOp .shl t (qd x) (.int .u64 8) = pure (qd (x <<< 8)) := by
    simp only [qd, binOp, Op.shift]
    simp [IntKind.bits, IntKind.wrap, IntKind.signed, Nat.shiftLeft_eq]
  rw [this]
  rfl
theorem byte_qd (c : UInt8) : Value.int .u64 (IntKind.u64.wrap (c.toNat : Int)) = qd c.toUInt64 := by
  have := c.toNat_lt
  rw [IntWalk.u64_in _ (by omega)]
  simp [qd]
theorem word8_snoc (l : List UInt8) (c : UInt8) : word8 (l ++ [c]) = word8 l <<< 8 ||| c.toUInt64 := by simp [word8]

set_option maxHeartbeats 1000000 in
theorem id_any (v : Value) (l : List UInt8) (hl : l.length ≤ 5000) (w : World) (h : BytesAt w v l) (T : Tab w) :
    Calls Tryd.prog 29 #[v] w fun e w' => e = .returned (qd (idL l)) ∧ Below w.heap.size w w' := by
  have C := Lib.hid (sum_any v l hl w h T)
  have HL := Lib.hid (sumL_length l)
  have HI : Hid (idL l = word8 ((sumL l).take 8)) := Lib.hid rfl
  generalize sumL l = R at *
  generalize idL l = I at *
  clear h T
  go_enter Tryd.func29, Tryd.ntmps29
  go_wp2_with fail
  refine C.out.mono ?_
  rintro e w1 ⟨v1, rfl, y1, b1⟩
  have B1 := Lib.hid b1
  have Y1 := Lib.hid y1
  obtain ⟨A1, cap1, rfl, hc1, -⟩ := y1
  rw [HL.out] at hc1 Y1 ⊢
  have hc8 : 8 ≤ cap1 := by omega
  obtain ⟨b, off, rfl, hb, hcell⟩ := Y1.out.spots (by rintro rfl; have := HL.out; simp at this)
  have HC := Lib.hid hcell
  clear b1 hcell hc1
  go_wp2_with fail
  go_loop [3, 10] (fun u i => ∃ k : Nat, k ≤ 8 ∧ i = .int .i64 k ∧ u = qd (word8 (R.take k))) (fun _ i => 8 - (intOf i).toNat)
  case atStart => exact ⟨0, Nat.zero_le _, rfl, rfl⟩
  case round =>
    obtain ⟨k, hk, rfl, rfl⟩ := hrel
    by_cases hlt : k < 8
    · obtain ⟨c, hx⟩ : ∃ c, R[k]? = some c := ⟨_, List.getElem?_eq_getElem (show k < R.length by rw [HL.out]; omega)⟩
      have c0 := HC.out k c hx
      have HN := Lib.hid (word8_snoc (R.take k) c)
      rw [← take_at hx] at HN
      have d1 : decide ((k : Int) < 8) = true := by simp; omega
      have q1 := qd_or
      have q2 := qd_shl8
      have q3 := byte_qd
      generalize word8 (R.take k) = o at *
      clear hx
      go_wp2
      go_round
      case rel => exact ⟨k + 1, by omega, by go_num, by rw [HN.out]⟩
      case measure => simp [intOf]; omega
    · have hk8 : k = 8 := by omega
      subst hk8
      rw [← HI.out]
      have d1 : decide (((8 : Nat) : Int) < 8) = false := by decide
      go_wp2
      go_ret
      exact ⟨rfl, B1.out⟩
end Go.Proofs.YtgldelgeaajgpaaDoor
