/- What the document's Extract (carcanetref05) answers. What the document's Number of layer 10 answers. -/
import Derived.Test.YtieidemmajdpmaaDoorGy
import Derived.Test.YtieidemmajdpmaaDoorGc
import Derived.Test.YtieidemmajdpmaaDoorGd
namespace Go.Proofs.YtieidemmajdpmaaDoor
set_option maxRecDepth 100000
open Go.RowKit

set_option maxHeartbeats 1000000 in
theorem refExtract_any (v0 v1 : Value) (salt secret : List UInt8) (w : World) (h0 : BytesAt w v0 salt) (h1 : BytesAt w v1 secret) (hk : salt.length ≤ 5000) (hm : secret.length ≤ 4900) :
    Calls Tryd.prog 20 #[v0, v1] w fun e w' => ∃ v', e = .returned v' ∧ BytesAt w' v' (extractL salt secret) ∧ Below w.heap.size w w' := by
  have H0 := Lib.hid h0
  have H1 := Lib.hid h1
  obtain ⟨i0, hi0, hz0, hz1, hz2⟩ := info_parts byte_info
  obtain ⟨A0, cap0, rfl, -, -⟩ := h0
  obtain ⟨A1, cap1, rfl, -, -⟩ := h1
  by_cases hs : salt.length = 0
  · have HE : Hid (macL (List.replicate 32 0) secret = extractL salt secret) := by
      rw [Hid, extractL, if_pos hs]
    go_enter Tryd.func20, Tryd.ntmps20
    go_wp2_with (at_make; refine wpList_make_full _ rfl _ _ 32 rfl w.heap.size 5 i0 (.int .u8 0) 1 Tryd.underlying32 hi0 hz0 hz1 .i64 .i64 _ _ 32 rfl rfl rfl rfl (by rw [hz2]; decide) (by simp [maxLen]) (Nat.le_refl _) ?_)
    intro w1 ho1 hg1
    rw [made_bytes] at ho1
    have HB1 := Lib.hid ((Below.refl w.heap.size w).grown hg1 (Nat.le_refl _) (fun k hk => by cases hk))
    have Y1 := Lib.hid (BytesAt.of_own (l := List.replicate 32 0) ho1)
    clear ho1 hg1
    go_wp2_with fail
    refine (refMac_any _ _ (List.replicate 32 0) secret w1 Y1.out (H1.out.below HB1.out) (by decide) hm).mono ?_
    rintro e w2 ⟨v2, rfl, y2, b2⟩
    rw [HE.out] at y2
    have B2 := Lib.hid (HB1.out.trans (b2.mono HB1.out.size))
    have Y2 := Lib.hid y2
    clear y2 b2
    go_wp2
    go_ret
    exact ⟨_, rfl, Y2.out, B2.out⟩
  · have HE : Hid (macL salt secret = extractL salt secret) := by
      rw [Hid, extractL, if_neg hs]
    have d : ((salt.length : Int) == 0) = false := by simp; intro e; exact hs (by rw [e]; rfl)
    have HS := Lib.hid hs
    clear hs
    go_enter Tryd.func20, Tryd.ntmps20
    go_wp2_with fail
    refine (refMac_any _ _ salt secret w H0.out H1.out hk hm).mono ?_
    rintro e w2 ⟨v2, rfl, y2, b2⟩
    rw [HE.out] at y2
    have B2 := Lib.hid b2
    have Y2 := Lib.hid y2
    clear y2 b2
    go_wp2
    go_ret
    exact ⟨_, rfl, Y2.out, B2.out⟩

end Go.Proofs.YtieidemmajdpmaaDoor

namespace Go.Proofs.YtieidemmajdpmaaDoor
set_option maxRecDepth 100000
open Go.RowKit

theorem dec_extract (z : Nat) (h : z < 10) : (⟨#[48, 49, 50, 51, 52, 53, 54, 55, 56, 57]⟩ : ByteArray).extract z (z + 1) = ⟨#[hexC z]⟩ := by
  match z, h with
  | 0, _ | 1, _ | 2, _ | 3, _ | 4, _ | 5, _ | 6, _ | 7, _ | 8, _ | 9, _ => rfl
  | n + 10, h => exact absurd h (by omega)

theorem refNumber_low (z : Nat) (hz : z < 10) (w : World) :
    Calls Tryd.prog 24 #[.int .i64 (z : Int)] w fun e w' => e = .returned (.string ⟨[hexC z].toArray⟩) ∧ w = w' := by
  have HZ := Lib.hid hz
  have d1 : decide ((z : Int) < 0) = false := by simp
  have d2 : decide ((z : Int) > 9) = false := by simp; omega
  have d3 : decide (9 < (z : Int)) = false := by simp; omega
  have r3 : IntKind.i64.wrap ((z : Int) + 1) = ((z + 1 : Nat) : Int) := by rw [IntWalk.i64_in _ (by omega)]; rfl
  have rx := dec_extract z hz
  have j1 : (z : Int) < 10 := by omega
  have j2 : z < 10 := hz
  clear hz
  go_enter Tryd.func24, Tryd.ntmps24
  go_wp2
  go_ret
  exact ⟨rfl, rfl⟩

set_option maxHeartbeats 400000 in
theorem refNumber_pos (m : Nat) : ∀ n : Nat, n ≤ m → n < 9223372036854775808 → ∀ w : World,
    Calls Tryd.prog 24 #[.int .i64 (n : Int)] w fun e w' => e = .returned (.string ⟨(decL n).toArray⟩) ∧ w = w' := by
  induction m with
  | zero =>
    intro n hn _ w
    obtain rfl : n = 0 := by omega
    rw [decL_lt 0 (by decide)]
    exact refNumber_low 0 (by decide) w
  | succ m ih =>
    intro n hn hl w
    by_cases h10 : n < 10
    · rw [decL_lt n h10]
      exact refNumber_low n h10 w
    · have C1 := Lib.hid (ih (n / 10) (by omega) (by omega))
      have C2 := Lib.hid (refNumber_low (n % 10) (by omega))
      have HD := Lib.hid (decL_ge n h10)
      have tl := decL_length (n / 10) 19 (by omega) (by decide)
      obtain ⟨q, hq⟩ : ∃ q, q = n / 10 := ⟨_, rfl⟩
      obtain ⟨z, hz⟩ : ∃ z, z = n % 10 := ⟨_, rfl⟩
      rw [← hq] at C1 HD tl
      have j16 : (decL q).length + 1 < 9223372036854775807 := by omega
      rw [← hz] at C2 HD
      have d1 : decide ((n : Int) < 0) = false := by simp
      have d2 : decide ((n : Int) > 9) = true := by simp; omega
      have d3 : decide (9 < (n : Int)) = true := by simp; omega
      have r1 : IntKind.i64.wrap ((n : Int) / 10) = (q : Int) := by rw [IntWalk.i64_in _ (by omega)]; omega
      have r2 : (n : Int) % 10 = (z : Int) := by omega
      clear hq hz ih hn hl h10
      go_enter Tryd.func24, Tryd.ntmps24
      go_wp2_with fail
      refine (C1.out w).mono ?_
      rintro e w1 ⟨rfl, rfl⟩
      go_wp2_with fail
      refine (C2.out w).mono ?_
      rintro e w1 ⟨rfl, rfl⟩
      go_wp2
      go_ret
      exact ⟨by rw [HD.out, ← str_snoc]; rfl, rfl⟩

set_option maxHeartbeats 400000 in
theorem refNumber_neg (m : Nat) : ∀ n : Nat, n ≤ m → 0 < n → n ≤ 9223372036854775808 → ∀ w : World,
    Calls Tryd.prog 24 #[.int .i64 (-(n : Int))] w fun e w' => e = .returned (.string ⟨(45 :: decL n).toArray⟩) ∧ w = w' := by
  induction m with
  | zero =>
    intro n hn h0 _ w
    omega
  | succ m ih =>
    intro n hn h0 hl w
    obtain ⟨x, hx⟩ : ∃ x : Int, x = -(n : Int) := ⟨_, rfl⟩
    rw [← hx]
    have d1 : decide (x < 0) = true := by simp; omega
    by_cases h10 : n < 10
    · have C1 := Lib.hid (refNumber_low n h10)
      have HD := Lib.hid (decL_lt n h10)
      have d2 : decide (x > -10) = true := by simp; omega
      have d3 : decide (-10 < x) = true := by simp; omega
      have r1 : IntKind.i64.wrap (-x) = (n : Int) := by rw [IntWalk.i64_in _ (by omega)]; omega
      have r2 : IntKind.i64.wrap (0 - x) = (n : Int) := by rw [IntWalk.i64_in _ (by omega)]; omega
      clear ih hn hl h10 hx
      go_enter Tryd.func24, Tryd.ntmps24
      go_wp2_with fail
      refine (C1.out w).mono ?_
      rintro e w1 ⟨rfl, rfl⟩
      go_wp2
      go_ret
      exact ⟨by rw [HD.out]; exact congrArg (fun b => Ending.returned (Value.string b)) (ByteArray.ext (by simp)), rfl⟩
    · have C1 := Lib.hid (ih (n / 10) (by omega) (by omega) (by omega))
      have C2 := Lib.hid (refNumber_low (n % 10) (by omega))
      have HD := Lib.hid (decL_ge n h10)
      have tl := decL_length (n / 10) 19 (by omega) (by decide)
      obtain ⟨q, hq⟩ : ∃ q, q = n / 10 := ⟨_, rfl⟩
      obtain ⟨z, hz⟩ : ∃ z, z = n % 10 := ⟨_, rfl⟩
      rw [← hq] at C1 HD tl
      rw [← hz] at C2 HD
      have j16 : (decL q).length + 1 < 9223372036854775807 := by omega
      obtain ⟨y, hy⟩ : ∃ y : Int, y = -(q : Int) := ⟨_, rfl⟩
      rw [← hy] at C1
      have d2 : decide (x > -10) = false := by simp; omega
      have d3 : decide (-10 < x) = false := by simp; omega
      have r1 : IntKind.i64.wrap (Int.tdiv x 10) = y := by
        have : Int.tdiv x 10 = y := by
          rw [hx, Int.neg_tdiv, hy, hq]
          rfl
        rw [this, IntWalk.i64_in _ (by omega)]
      have r2' : Int.tmod x 10 = -(z : Int) := by
        rw [hx, Int.neg_tmod, hz]
        rfl
      have r3 : IntKind.i64.wrap (-Int.tmod x 10) = (z : Int) := by rw [r2', IntWalk.i64_in _ (by omega)]; omega
      clear hq hz ih hn hl h10 hx hy r2'
      go_enter Tryd.func24, Tryd.ntmps24
      go_wp2_with fail
      refine (C1.out w).mono ?_
      rintro e w1 ⟨rfl, rfl⟩
      go_wp2_with fail
      refine (C2.out w).mono ?_
      rintro e w1 ⟨rfl, rfl⟩
      have j17 : (decL q).length + 1 + 1 < 9223372036854775807 := by omega
      go_wp2
      go_ret
      exact ⟨by rw [HD.out, ← List.cons_append, ← str_snoc]; rfl, rfl⟩

/-- Number, of any number. -/
theorem refLbNumber_any (i : Int) (h : -9223372036854775808 ≤ i) (h2 : i < 9223372036854775808) (w : World) :
    Calls Tryd.prog 24 #[.int .i64 i] w fun e w' => e = .returned (.string ⟨(numL i).toArray⟩) ∧ w = w' := by
  by_cases h0 : i < 0
  · rw [numL, if_pos h0]
    have := refNumber_neg i.natAbs i.natAbs (Nat.le_refl _) (by omega) (by omega) w
    rw [show -((i.natAbs : Nat) : Int) = i by omega] at this
    exact this
  · rw [numL, if_neg h0]
    have := refNumber_pos i.toNat i.toNat (Nat.le_refl _) (by omega) w
    rw [show ((i.toNat : Nat) : Int) = i by omega] at this
    exact this
end Go.Proofs.YtieidemmajdpmaaDoor
