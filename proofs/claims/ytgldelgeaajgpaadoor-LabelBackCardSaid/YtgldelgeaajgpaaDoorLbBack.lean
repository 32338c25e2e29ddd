/- The core of LabelBack. -/
import Derived.Test.YtgldelgeaajgpaaDoorLbC
namespace Go.Proofs.YtgldelgeaajgpaaDoor
open Go.RowKit

set_option maxHeartbeats 1000000 in
theorem back_great (H : LabelIs) (n : Nat) (k : Int) (A : Option Addr) (m cap : Nat) (hg : 1000 < m) (w : World) (PT : PowT w) :
    Calls Tryd.prog 6 #[.int .u64 (n : Int), .int .i64 k, .slice A m cap] w fun e w' => e = .returned (.bool true) ∧ Below w.heap.size w w' := by
  have HH := Lib.hid H
  have P0 := Lib.hid PT
  have d0 : decide ((1000 : Int) < (m : Int)) = true := by simp; omega
  have d0n : decide (1000 < m) = true := by simp; omega
  clear H PT
  go_enter Tryd.func6, Tryd.ntmps6
  go_wp2_with fail
  refine (works10 HH.out w P0.out).mono ?_
  rintro e w1 ⟨rfl, b1⟩
  have B1 := Lib.hid b1
  clear b1
  go_wp2
  go_ret
  exact ⟨rfl, B1.out⟩

theorem numL_length (k : Int) (hk1 : -9223372036854775808 ≤ k) (hk2 : k < 9223372036854775808) : (numL k).length ≤ 21 := by
  rw [numL]
  split
  · have := decL_length k.natAbs 20 (by omega) (by decide)
    rw [List.length_cons]
    omega
  · have := decL_length k.toNat 20 (by omega) (by decide)
    omega
theorem bytesL_length (b : List UInt8) : (bytesL b).length ≤ 2 * b.length + 1 := by
  rw [bytesL]
  split
  · simp
  · rw [pairsC_length]
    omega

set_option maxRecDepth 100000 in
set_option maxHeartbeats 4000000 in
theorem back_small (H : LabelIs) (HR : LabelReadIs) (n : Nat) (k : Int) (A : Option Addr) (m cap : Nat) (b : List UInt8) (hn : n < 18446744073709551616) (hk1 : -9223372036854775808 ≤ k) (hk2 : k < 9223372036854775808) (hm : m ≤ 1000) (w : World) (PT : PowT w) (ER : ErrT w) (h : BytesAt w (.slice A m cap) b)
    (B1 B2 B3 : Bool) (E : Int) (k1 : decide (k ≥ -1073741824) = B1) (k1' : decide (-1073741824 ≤ k) = B1) (k2 : decide (k ≤ 1073741824) = B2) (kb : rnB (numL k) = B3) (ka : rnA (numL k) = E) (hcs : (B1 = true ∧ B2 = true ∧ B3 = true ∧ E = k) ∨ (B1 = true ∧ B2 = false ∧ B3 = false ∧ E = 0 ∧ k ≠ 0) ∨ (B1 = false ∧ B2 = true ∧ B3 = false ∧ E = 0 ∧ k ≠ 0)) :
    Calls Tryd.prog 6 #[.int .u64 (n : Int), .int .i64 k, .slice A m cap] w fun e w' => e = .returned (.bool true) ∧ Below w.heap.size w w' := by
  have HH := Lib.hid H
  have P0 := Lib.hid PT
  have E0 := Lib.hid ER
  have Y0 := Lib.hid h
  have hz := h.size
  have d0 : decide ((1000 : Int) < (m : Int)) = false := by simp; omega
  have d0n : decide (1000 < m) = false := by simp; omega
  have C1 := fun w => Lib.hid (H.hex n w hn)
  have C2 := fun w => Lib.hid (H.readHex (hexL n) w (by rw [hexL_length]; decide))
  rw [(read_hex n hn).1, (read_hex n hn).2] at C2
  have C3 := fun w h => Lib.hid (H.bytes A m cap b w (by omega) h)
  have C4 := fun w => Lib.hid (HR.readBytes (bytesL b) w (by have := bytesL_length b; omega))
  rw [show rbB (bytesL b) = true by rw [rbB, read_bytes b (by omega)]; rfl, show rbA (bytesL b) = b by rw [rbA, read_bytes b (by omega)]; rfl] at C4
  have C5 := fun w T => Lib.hid (H.number k w hk1 hk2 T)
  have C6 := fun w T1 T2 => Lib.hid (HR.readNumber (numL k) w (by have := numL_length k hk1 hk2; omega) T1 T2)
  rw [kb, ka] at C6
  have HN := Lib.hid hn
  generalize hexL n = x1 at *
  generalize numL k = x2 at *
  generalize bytesL b = x3 at *
  clear H HR h hm hk1 hk2 kb ka hz hn PT ER
  go_enter Tryd.func6, Tryd.ntmps6
  go_wp2_with fail
  refine (works10 HH.out w P0.out).mono ?_
  rintro e w1 ⟨rfl, b1⟩
  have B1 := Lib.hid b1
  clear b1
  go_wp2_with fail
  refine ((C1 w1).out).mono ?_
  rintro e w2 ⟨rfl, b2⟩
  have B2 := Lib.hid (B1.out.trans (b2.mono B1.out.size))
  clear b2 B1
  go_wp2_with fail
  refine ((C2 w2).out).mono ?_
  rintro e w3 ⟨rfl, b3⟩
  have B3 := Lib.hid (B2.out.trans (b3.mono B2.out.size))
  clear b3 B2
  go_wp2_with fail
  refine ((C3 w3 (Y0.out.below B3.out)).out).mono ?_
  rintro e w4 ⟨rfl, b4⟩
  have B4 := Lib.hid (B3.out.trans (b4.mono B3.out.size))
  clear b4 B3
  go_wp2_with fail
  refine ((C4 w4).out).mono ?_
  rintro e w5 ⟨v5, rfl, y5, b5⟩
  have B5 := Lib.hid (B4.out.trans (b5.mono B4.out.size))
  have Y5 := Lib.hid y5
  clear y5
  clear b5 B4
  go_wp2_with fail
  refine ((C5 w5 (P0.out.below B5.out)).out).mono ?_
  rintro e w6 ⟨rfl, b6⟩
  have B6 := Lib.hid (B5.out.trans (b6.mono B5.out.size))
  have Y6 := Lib.hid (Y5.out.below b6)
  clear Y5
  clear b6 B5
  go_wp2_with fail
  refine ((C6 w6 (P0.out.below B6.out) (E0.out.below B6.out)).out).mono ?_
  rintro e w7 ⟨rfl, b7⟩
  have B7 := Lib.hid (B6.out.trans (b7.mono B6.out.size))
  have r1 := conv_bytes (Y6.out.below b7)
  have r2 := conv_bytes (Y0.out.below B7.out)
  clear Y6
  clear b7 B6
  rcases hcs with ⟨rfl, rfl, rfl, rfl⟩ | ⟨rfl, rfl, rfl, rfl, h0⟩ | ⟨rfl, rfl, rfl, rfl, h0⟩
  · go_wp2
    go_ret
    exact ⟨rfl, B7.out⟩
  all_goals
    have e1 : ((0 : Int) == k) = false := by rw [beq_eq_false_iff_ne]; omega
    have e2 : (k == (0 : Int)) = false := by rw [beq_eq_false_iff_ne]; omega
    have e3 : ¬ (0 : Int) = k := by omega
    go_wp2
    go_ret
    exact ⟨rfl, B7.out⟩

theorem back_core (H : LabelIs) (HR : LabelReadIs) (n : Nat) (k : Int) (A : Option Addr) (m cap : Nat) (b : List UInt8) (hn : n < 18446744073709551616) (hk1 : -9223372036854775808 ≤ k) (hk2 : k < 9223372036854775808) (w : World) (PT : PowT w) (ER : ErrT w) (h : BytesAt w (.slice A m cap) b) :
    Calls Tryd.prog 6 #[.int .u64 (n : Int), .int .i64 k, .slice A m cap] w fun e w' => e = .returned (.bool true) ∧ Below w.heap.size w w' := by
  by_cases hg : 1000 < m
  · exact back_great H n k A m cap hg w PT
  · obtain ⟨hb, ha⟩ := read_num k
    by_cases hs : -1073741824 ≤ k ∧ k ≤ 1073741824
    · rw [decide_eq_true hs] at hb
      rw [if_pos hs] at ha
      exact back_small H HR n k A m cap b hn hk1 hk2 (by omega) w PT ER h true true true k (decide_eq_true hs.1) (decide_eq_true hs.1) (decide_eq_true hs.2) hb ha (.inl ⟨rfl, rfl, rfl, rfl⟩)
    · rw [decide_eq_false hs] at hb
      rw [if_neg hs] at ha
      by_cases h1 : -1073741824 ≤ k
      · exact back_small H HR n k A m cap b hn hk1 hk2 (by omega) w PT ER h true false false 0 (decide_eq_true h1) (decide_eq_true h1) (decide_eq_false (by omega)) hb ha (.inr (.inl ⟨rfl, rfl, rfl, rfl, by omega⟩))
      · exact back_small H HR n k A m cap b hn hk1 hk2 (by omega) w PT ER h false true false 0 (decide_eq_false h1) (decide_eq_false h1) (decide_eq_true (by omega)) hb ha (.inr (.inr ⟨rfl, rfl, rfl, rfl, by omega⟩))
end Go.Proofs.YtgldelgeaajgpaaDoor
