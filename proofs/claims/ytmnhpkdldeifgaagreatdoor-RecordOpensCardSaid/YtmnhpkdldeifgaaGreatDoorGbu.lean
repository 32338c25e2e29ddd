/- What the document's Number of layer 10 answers. The document's Epoch (layer 18). -/
import Derived.Test.YtmnhpkdldeifgaaGreatDoorGh
import Derived.Test.YtmnhpkdldeifgaaGreatDoorGbb
import Derived.Test.YtmnhpkdldeifgaaGreatDoorGb
import Derived.Test.YtmnhpkdldeifgaaGreatDoorGbt
namespace Go.Proofs.YtmnhpkdldeifgaaGreatDoor
set_option maxRecDepth 100000
open Go.RowKit

theorem dec_extract (z : Nat) (h : z < 10) : (⟨#[48, 49, 50, 51, 52, 53, 54, 55, 56, 57]⟩ : ByteArray).extract z (z + 1) = ⟨#[hexC z]⟩ := by
  match z, h with
  | 0, _ | 1, _ | 2, _ | 3, _ | 4, _ | 5, _ | 6, _ | 7, _ | 8, _ | 9, _ => rfl
  | n + 10, h => exact absurd h (by omega)

theorem refNumber_low (z : Nat) (hz : z < 10) (w : World) :
    Calls Tryz.prog 36 #[.int .i64 (z : Int)] w fun e w' => e = .returned (.string ⟨[hexC z].toArray⟩) ∧ w = w' := by
  have HZ := Lib.hid hz
  have d1 : decide ((z : Int) < 0) = false := by simp
  have d2 : decide ((z : Int) > 9) = false := by simp; omega
  have d3 : decide (9 < (z : Int)) = false := by simp; omega
  have r3 : IntKind.i64.wrap ((z : Int) + 1) = ((z + 1 : Nat) : Int) := by rw [IntWalk.i64_in _ (by omega)]; rfl
  have rx := dec_extract z hz
  have j1 : (z : Int) < 10 := by omega
  have j2 : z < 10 := hz
  clear hz
  go_enter Tryz.func36, Tryz.ntmps36
  go_wp2
  go_ret
  exact ⟨rfl, rfl⟩

set_option maxHeartbeats 400000 in
theorem refNumber_pos (m : Nat) : ∀ n : Nat, n ≤ m → n < 9223372036854775808 → ∀ w : World,
    Calls Tryz.prog 36 #[.int .i64 (n : Int)] w fun e w' => e = .returned (.string ⟨(decL n).toArray⟩) ∧ w = w' := by
  induction m with
  | zero =>
    intro n hn _ w
    obtain rfl : n = 0 := by omega
    rw [decL_lt 0 (by decide)]
    exact refNumber_low 0 (by decide) w
  | succ m ih =>
    intro n hn hl w
    by_cases h10 : n < 10
    · rw [decL_lt n h10]
      exact refNumber_low n h10 w
    · have C1 := Lib.hid (ih (n / 10) (by omega) (by omega))
      have C2 := Lib.hid (refNumber_low (n % 10) (by omega))
      have HD := Lib.hid (decL_ge n h10)
      have tl := decL_length (n / 10) 19 (by omega) (by decide)
      obtain ⟨q, hq⟩ : ∃ q, q = n / 10 := ⟨_, rfl⟩
      obtain ⟨z, hz⟩ : ∃ z, z = n % 10 := ⟨_, rfl⟩
      rw [← hq] at C1 HD tl
      have j16 : (decL q).length + 1 < 9223372036854775807 := by omega
      rw [← hz] at C2 HD
      have d1 : decide ((n : Int) < 0) = false := by simp
      have d2 : decide ((n : Int) > 9) = true := by simp; omega
      have d3 : decide (9 < (n : Int)) = true := by simp; omega
      have r1 : IntKind.i64.wrap ((n : Int) / 10) = (q : Int) := by rw [IntWalk.i64_in _ (by omega)]; omega
      have r2 : (n : Int) % 10 = (z : Int) := by omega
      clear hq hz ih hn hl h10
      go_enter Tryz.func36, Tryz.ntmps36
      go_wp2_with fail
      refine (C1.out w).mono ?_
      rintro e w1 ⟨rfl, rfl⟩
      go_wp2_with fail
      refine (C2.out w).mono ?_
      rintro e w1 ⟨rfl, rfl⟩
      go_wp2
      go_ret
      exact ⟨by rw [HD.out, ← str_snoc]; rfl, rfl⟩

set_option maxHeartbeats 400000 in
theorem refNumber_neg (m : Nat) : ∀ n : Nat, n ≤ m → 0 < n → n ≤ 9223372036854775808 → ∀ w : World,
    Calls Tryz.prog 36 #[.int .i64 (-(n : Int))] w fun e w' => e = .returned (.string ⟨(45 :: decL n).toArray⟩) ∧ w = w' := by
  induction m with
  | zero =>
    intro n hn h0 _ w
    omega
  | succ m ih =>
    intro n hn h0 hl w
    obtain ⟨x, hx⟩ : ∃ x : Int, x = -(n : Int) := ⟨_, rfl⟩
    rw [← hx]
    have d1 : decide (x < 0) = true := by simp; omega
    by_cases h10 : n < 10
    · have C1 := Lib.hid (refNumber_low n h10)
      have HD := Lib.hid (decL_lt n h10)
      have d2 : decide (x > -10) = true := by simp; omega
      have d3 : decide (-10 < x) = true := by simp; omega
      have r1 : IntKind.i64.wrap (-x) = (n : Int) := by rw [IntWalk.i64_in _ (by omega)]; omega
      have r2 : IntKind.i64.wrap (0 - x) = (n : Int) := by rw [IntWalk.i64_in _ (by omega)]; omega
      clear ih hn hl h10 hx
      go_enter Tryz.func36, Tryz.ntmps36
      go_wp2_with fail
      refine (C1.out w).mono ?_
      rintro e w1 ⟨rfl, rfl⟩
      go_wp2
      go_ret
      exact ⟨by rw [HD.out]; exact congrArg (fun b => Ending.returned (Value.string b)) (ByteArray.ext (by simp)), rfl⟩
    · have C1 := Lib.hid (ih (n / 10) (by omega) (by omega) (by omega))
      have C2 := Lib.hid (refNumber_low (n % 10) (by omega))
      have HD := Lib.hid (decL_ge n h10)
      have tl := decL_length (n / 10) 19 (by omega) (by decide)
      obtain ⟨q, hq⟩ : ∃ q, q = n / 10 := ⟨_, rfl⟩
      obtain ⟨z, hz⟩ : ∃ z, z = n % 10 := ⟨_, rfl⟩
      rw [← hq] at C1 HD tl
      rw [← hz] at C2 HD
      have j16 : (decL q).length + 1 < 9223372036854775807 := by omega
      obtain ⟨y, hy⟩ : ∃ y : Int, y = -(q : Int) := ⟨_, rfl⟩
      rw [← hy] at C1
      have d2 : decide (x > -10) = false := by simp; omega
      have d3 : decide (-10 < x) = false := by simp; omega
      have r1 : IntKind.i64.wrap (Int.tdiv x 10) = y := by
        have : Int.tdiv x 10 = y := by
          rw [hx, Int.neg_tdiv, hy, hq]
          rfl
        rw [this, IntWalk.i64_in _ (by omega)]
      have r2' : Int.tmod x 10 = -(z : Int) := by
        rw [hx, Int.neg_tmod, hz]
        rfl
      have r3 : IntKind.i64.wrap (-Int.tmod x 10) = (z : Int) := by rw [r2', IntWalk.i64_in _ (by omega)]; omega
      clear hq hz ih hn hl h10 hx hy r2'
      go_enter Tryz.func36, Tryz.ntmps36
      go_wp2_with fail
      refine (C1.out w).mono ?_
      rintro e w1 ⟨rfl, rfl⟩
      go_wp2_with fail
      refine (C2.out w).mono ?_
      rintro e w1 ⟨rfl, rfl⟩
      have j17 : (decL q).length + 1 + 1 < 9223372036854775807 := by omega
      go_wp2
      go_ret
      exact ⟨by rw [HD.out, ← List.cons_append, ← str_snoc]; rfl, rfl⟩

/-- Number, of any number. -/
theorem refLbNumber_any (i : Int) (h : -9223372036854775808 ≤ i) (h2 : i < 9223372036854775808) (w : World) :
    Calls Tryz.prog 36 #[.int .i64 i] w fun e w' => e = .returned (.string ⟨(numL i).toArray⟩) ∧ w = w' := by
  by_cases h0 : i < 0
  · rw [numL, if_pos h0]
    have := refNumber_neg i.natAbs i.natAbs (Nat.le_refl _) (by omega) (by omega) w
    rw [show -((i.natAbs : Nat) : Int) = i by omega] at this
    exact this
  · rw [numL, if_neg h0]
    have := refNumber_pos i.toNat i.toNat (Nat.le_refl _) (by omega) w
    rw [show ((i.toNat : Nat) : Int) = i by omega] at this
    exact this
end Go.Proofs.YtmnhpkdldeifgaaGreatDoor

namespace Go.Proofs.YtmnhpkdldeifgaaGreatDoor
set_option maxRecDepth 100000
open Go.RowKit

set_option maxRecDepth 100000 in
set_option maxHeartbeats 1000000 in
theorem kfEpoch_any (r : List UInt8) (e : Int) (h1 : -9223372036854775808 ≤ e) (h2 : e < 9223372036854775808) (w : World) (hr : r.length ≤ 5000) :
    Calls Tryz.prog 16 #[.string ⟨r.toArray⟩, .int .i64 e] w fun x w' => x = .returned (.string ⟨(epochK r e).toArray⟩) ∧ Below w.heap.size w w' := by
  have CN := fun w => Lib.hid (refLbNumber_any e h1 h2 w)
  have LN : ((⟨#[101, 112, 111, 99, 104, 32]⟩ : ByteArray) ++ ⟨(numL e).toArray⟩).size ≤ 4700 := by
    have := numL_most e h1 h2
    show ((⟨#[101, 112, 111, 99, 104, 32]⟩ : ByteArray) ++ ⟨(numL e).toArray⟩).data.size ≤ 4700
    simp
    omega
  have CK := fun v w h => Lib.hid (show Calls Tryz.prog 35 #[v, .string ((⟨#[101, 112, 111, 99, 104, 32]⟩ : ByteArray) ++ ⟨(numL e).toArray⟩)] w fun x w' => ∃ v', x = .returned v' ∧ BytesAt w' v' (epochK r e) ∧ Below w.heap.size w w' from by
    have := refNamed_any v _ r w h hr LN
    rw [epoch_str] at this
    exact this)
  have lm := numL_most e h1 h2
  generalize epochK r e = G at *
  generalize numL e = M at *
  have j1 : 6 + M.length < 9223372036854775807 := by omega
  clear h1 h2 hr LN
  go_enter Tryz.func16, Tryz.ntmps16
  obtain ⟨vK, w1, rK, y1, b1⟩ := conv_str w ⟨(r).toArray⟩
  have B1 := Lib.hid b1
  have K1 : Hid (BytesAt w1 vK (r)) := Lib.hid (by simpa using y1)
  clear b1 y1 
  go_wp2_with fail
  refine (CN w1).out.mono ?_
  rintro x wn ⟨rfl, rfl⟩
  go_wp2_with fail
  refine ((CK vK w1 K1.out).out).mono ?_
  rintro e2 w2 ⟨v9, rfl, y9, b2⟩
  have K2 : Hid (BytesAt w2 vK (r)) := Lib.hid (K1.out.below b2)
  have B2 := Lib.hid (B1.out.trans (b2.mono B1.out.size))
  have G2 : Hid (BytesAt w2 v9 G) := Lib.hid y9
  clear b2 K1 B1 y9
  have rm := conv_bytes G2.out
  go_wp2
  go_ret
  exact ⟨rfl, B2.out⟩
end Go.Proofs.YtmnhpkdldeifgaaGreatDoor
