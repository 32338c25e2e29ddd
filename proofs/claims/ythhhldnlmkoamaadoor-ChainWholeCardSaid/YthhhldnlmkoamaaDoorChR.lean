/- The document's Step, Back, Key and Leads of layer 12. -/
import Derived.Test.YthhhldnlmkoamaaDoorChM
import Derived.Test.YthhhldnlmkoamaaDoorDrR
import Derived.Test.YthhhldnlmkoamaaDoorGenS
import Derived.Deep.LoopGhost
namespace Go.Proofs.YthhhldnlmkoamaaDoor
open Go.RowKit

theorem link_plus (k : List UInt8) : (⟨#[99, 97, 114, 99, 97, 110, 101, 116, 32, 108, 105, 110, 107]⟩ : ByteArray) ++ ⟨k.toArray⟩ = ⟨(linkL ++ k).toArray⟩ := str_plus linkL k

set_option maxHeartbeats 1000000 in
theorem refStep_any (k : List UInt8) (w : World) (hk : k.length ≤ 4000) :
    Calls Tryd.prog 12 #[.string ⟨k.toArray⟩] w fun e w' => e = .returned (.string ⟨(stepL k).toArray⟩) ∧ Below w.heap.size w w' := by
  have r0 := link_plus k
  obtain ⟨vs, w1, r1, y1, b1⟩ := conv_str w ⟨(linkL ++ k).toArray⟩
  have Y1 := Lib.hid y1
  have B1 := Lib.hid b1
  have HL : Hid ((linkL ++ k).length ≤ 5000) := Lib.hid (by simp [linkL]; omega)
  have HS : Hid (sumL (linkL ++ k) = stepL k) := Lib.hid rfl
  obtain ⟨T, hT⟩ : ∃ T, T = linkL ++ k := ⟨_, rfl⟩
  rw [← hT] at r0 r1 Y1 HL HS
  clear y1 b1 hT
  have C := Lib.hid (refSum_any vs T HL.out w1 (by simpa using Y1.out))
  rw [HS.out] at C
  go_enter Tryd.func12, Tryd.ntmps12
  go_wp2_with fail
  refine C.out.mono ?_
  rintro e w2 ⟨v2, rfl, y2, b2⟩
  have r2 := conv_bytes y2
  have B2 := Lib.hid (B1.out.trans (b2.mono B1.out.size))
  clear y2 b2 r1 r0 C
  go_wp2
  go_ret
  exact ⟨rfl, B2.out⟩

set_option maxHeartbeats 1000000 in
theorem refBack_bad (k : List UInt8) (z : Int) (h : z < 0 ∨ 64 < z) (w : World) :
    Calls Tryd.prog 10 #[.string ⟨k.toArray⟩, .int .i64 z] w fun e w' => e = .returned (.tuple #[.string ⟨([] : List UInt8).toArray⟩, .int .i64 2]) ∧ Below w.heap.size w w' := by
  by_cases h0 : z < 0
  · have d : decide (z < 0) = true := by simpa using h0
    go_enter Tryd.func10, Tryd.ntmps10
    go_wp2
    go_ret2
    exact ⟨rfl, Below.refl _ _⟩
  · have d : decide (z < 0) = false := by simpa using h0
    have d2 : decide (64 < z) = true := by simp; omega
    go_enter Tryd.func10, Tryd.ntmps10
    go_wp2
    go_ret2
    exact ⟨rfl, Below.refl _ _⟩

set_option maxHeartbeats 1000000 in
theorem refBack_good (n : Nat) : ∀ (k : List UInt8) (w : World), n ≤ 64 → k.length ≤ 4000 →
    Calls Tryd.prog 10 #[.string ⟨k.toArray⟩, .int .i64 (n : Int)] w fun e w' => e = .returned (.tuple #[.string ⟨(backL k n).toArray⟩, .int .i64 0]) ∧ Below w.heap.size w w' := by
  induction n with
  | zero =>
    intro k w _ _
    have HB : Hid (k = backL k 0) := Lib.hid rfl
    go_enter Tryd.func10, Tryd.ntmps10
    go_wp2
    go_ret2
    exact ⟨by rw [← HB.out]; rfl, Below.refl _ _⟩
  | succ n ih =>
    intro k w hn hk
    have IH := Lib.hid (fun w => ih (stepL k) w (by omega) (by rw [stepL_length]; omega))
    have C := Lib.hid (refStep_any k w hk)
    have HB : Hid (backL (stepL k) n = backL k (n + 1)) := Lib.hid rfl
    have d : decide (((n + 1 : Nat) : Int) < 0) = false := by simp; omega
    have d2 : decide (64 < ((n + 1 : Nat) : Int)) = false := by simp; omega
    have d3 : (((n + 1 : Nat) : Int) == 0) = false := by simp; omega
    have r : IntKind.i64.wrap (((n + 1 : Nat) : Int) - 1) = (n : Int) := by rw [IntWalk.i64_in _ (by omega)]; omega
    obtain ⟨m, hm⟩ : ∃ m, m = n + 1 := ⟨_, rfl⟩
    rw [← hm] at d d2 d3 r HB ⊢
    clear ih hm hn hk
    go_enter Tryd.func10, Tryd.ntmps10
    go_wp2_with fail
    refine C.out.mono ?_
    rintro e w1 ⟨rfl, b1⟩
    have B1 := Lib.hid b1
    clear b1 C
    go_wp2_with fail
    refine (IH.out w1).mono ?_
    rintro e w2 ⟨rfl, b2⟩
    have B2 := Lib.hid (B1.out.trans (b2.mono B1.out.size))
    clear b2
    go_wp2
    go_ret2
    exact ⟨by rw [← HB.out]; rfl, B2.out⟩

theorem refBack_any (k : List UInt8) (z : Int) (w : World) (hk : k.length ≤ 4000) :
    Calls Tryd.prog 10 #[.string ⟨k.toArray⟩, .int .i64 z] w fun e w' => e = .returned (.tuple #[.string ⟨(backA k z).toArray⟩, .int .i64 (backC z)]) ∧ Below w.heap.size w w' := by
  by_cases h : z < 0 ∨ 64 < z
  · rw [backA, backC, if_pos h, if_pos h]
    exact refBack_bad k z h w
  · rw [backA, backC, if_neg h, if_neg h]
    obtain ⟨n, rfl⟩ := Int.eq_ofNat_of_zero_le (show 0 ≤ z by omega)
    exact refBack_good n k w (by omega) hk

set_option maxHeartbeats 1000000 in
theorem refChKey_bad (seed : List UInt8) (len idx : Int) (h : keyBad len idx) (w : World) :
    Calls Tryd.prog 8 #[.string ⟨seed.toArray⟩, .int .i64 len, .int .i64 idx] w fun e w' => e = .returned (.tuple #[.string ⟨([] : List UInt8).toArray⟩, .int .i64 2]) ∧ Below w.heap.size w w' := by
  rw [keyBad] at h
  by_cases h1 : len < 1
  · have d1 : decide (len < 1) = true := by simpa using h1
    go_enter Tryd.func8, Tryd.ntmps8
    go_wp2
    go_ret2
    exact ⟨rfl, Below.refl _ _⟩
  have d1 : decide (len < 1) = false := by simpa using h1
  by_cases h2 : 64 < len
  · have d2 : decide (64 < len) = true := by simpa using h2
    go_enter Tryd.func8, Tryd.ntmps8
    go_wp2
    go_ret2
    exact ⟨rfl, Below.refl _ _⟩
  have d2 : decide (64 < len) = false := by simpa using h2
  by_cases h3 : idx < 0
  · have d3 : decide (idx < 0) = true := by simpa using h3
    go_enter Tryd.func8, Tryd.ntmps8
    go_wp2
    go_ret2
    exact ⟨rfl, Below.refl _ _⟩
  have d3 : decide (idx < 0) = false := by simpa using h3
  have d4 : decide (len < idx) = true := by simp; omega
  go_enter Tryd.func8, Tryd.ntmps8
  go_wp2
  go_ret2
  exact ⟨rfl, Below.refl _ _⟩

set_option maxHeartbeats 2000000 in
theorem refChKey_good (seed : List UInt8) (l i : Nat) (h1 : 1 ≤ l) (h2 : l ≤ 64) (h3 : i ≤ l) (w : World) (hs : seed.length ≤ 4000) :
    Calls Tryd.prog 8 #[.string ⟨seed.toArray⟩, .int .i64 (l : Int), .int .i64 (i : Int)] w fun e w' => e = .returned (.tuple #[.string ⟨(backL (namedL seed chainN) (l - i)).toArray⟩, .int .i64 0]) ∧ Below w.heap.size w w' := by
  have d1 : decide ((l : Int) < 1) = false := by simp; omega
  have d2 : decide (64 < (l : Int)) = false := by simp; omega
  have d3 : decide ((i : Int) < 0) = false := by simp
  have d4 : decide ((l : Int) < (i : Int)) = false := by simp; omega
  have d5 : decide (l < i) = false := by simp; omega
  obtain ⟨vs, w1, r1, y1, b1⟩ := conv_str w ⟨seed.toArray⟩
  have Y1 : Hid (BytesAt w1 vs seed) := Lib.hid (by simpa using y1)
  have B1 := Lib.hid b1
  have C : Hid (Calls Tryd.prog 16 #[vs, .string ⟨chainN.toArray⟩] w1 _) := Lib.hid (refNamed_any vs ⟨chainN.toArray⟩ seed w1 Y1.out (by omega) (by decide))
  obtain ⟨K, hK⟩ : ∃ K, K = namedL seed chainN := ⟨_, rfl⟩
  have HKL := Lib.hid (show K.length = 32 by rw [hK]; exact namedL_length _ _)
  have HKN : Hid (namedL seed (⟨chainN.toArray⟩ : ByteArray).data.toList = K) := Lib.hid (by rw [hK])
  rw [← hK]
  have HB := Lib.hid (And.intro h1 (And.intro h2 h3))
  clear y1 b1 hK hs h1 h2 h3
  rw [HKN.out] at C
  go_enter Tryd.func8, Tryd.ntmps8
  go_wp2_with fail
  refine C.out.mono ?_
  rintro e w2 ⟨v2, rfl, y2, b2⟩
  have r2 := conv_bytes y2
  have B2 := Lib.hid (B1.out.trans (b2.mono B1.out.size))
  clear y2 b2 r1 C
  go_wp2_with fail
  go_loopw [8, 9] (fun s t wr => ∃ j m : Nat, i ≤ j ∧ j ≤ l ∧ m = l - j ∧ t = .int .i64 (j : Int) ∧ s = .string ⟨(backL K m).toArray⟩ ∧ Below w.heap.size w wr) (fun _ t _ => (intOf t).toNat)
  case atStart => exact ⟨l, 0, HB.out.2.2, Nat.le_refl _, by omega, rfl, rfl, B2.out⟩
  case round =>
    obtain ⟨j, m, hij, hjl, hm, rfl, rfl, hb⟩ := hrel
    have BR := Lib.hid hb
    have HM := Lib.hid (And.intro hij (And.intro hjl hm))
    clear hb
    by_cases hlt : i < j
    · have dk : decide ((i : Int) < (j : Int)) = true := by simp; omega
      have dkn : decide (i < j) = true := by simp; omega
      have r4 : IntKind.i64.wrap ((j : Int) - 1) = ((j - 1 : Nat) : Int) := by rw [IntWalk.i64_in _ (by have := HB.out; omega)]; omega
      have CS := Lib.hid (refStep_any (backL K m) wr (backL_length K m (by rw [HKL.out]; decide)))
      rw [← backL_succ] at CS
      have HJ := Lib.hid (show i ≤ j - 1 ∧ j - 1 ≤ l ∧ m + 1 = l - (j - 1) ∧ j - 1 < j by omega)
      generalize j - 1 = j' at *
      clear hij hjl hm hlt
      go_wp2_with fail
      refine CS.out.mono ?_
      rintro e w3 ⟨rfl, b3⟩
      have B3 := Lib.hid (BR.out.trans (b3.mono BR.out.size))
      clear b3 CS
      go_wp2_with fail
      exact ⟨⟨j', m + 1, HJ.out.1, HJ.out.2.1, HJ.out.2.2.1, rfl, rfl, B3.out⟩, by have := HJ.out; simp [intOf]; omega⟩
    · obtain rfl : j = i := by omega
      have dk : decide ((j : Int) < (j : Int)) = false := by simp
      have dkn : decide (j < j) = false := by simp
      subst hm
      clear hij hjl hlt
      go_wp2
      go_ret2
      exact ⟨rfl, BR.out⟩

theorem refChKey_any (seed : List UInt8) (len idx : Int) (w : World) (hs : seed.length ≤ 4000) :
    Calls Tryd.prog 8 #[.string ⟨seed.toArray⟩, .int .i64 len, .int .i64 idx] w fun e w' => e = .returned (.tuple #[.string ⟨(keyA seed len idx).toArray⟩, .int .i64 (chKeyC len idx)]) ∧ Below w.heap.size w w' := by
  by_cases h : keyBad len idx
  · rw [keyA, chKeyC, if_pos h, if_pos h]
    exact refChKey_bad seed len idx h w
  · rw [keyA, chKeyC, if_neg h, if_neg h]
    simp only [keyBad, not_or, Int.not_lt] at h
    obtain ⟨l, rfl⟩ := Int.eq_ofNat_of_zero_le (show 0 ≤ len by omega)
    obtain ⟨i, rfl⟩ := Int.eq_ofNat_of_zero_le (show 0 ≤ idx by omega)
    have e : ((l : Int) - (i : Int)).toNat = l - i := by omega
    rw [e]
    exact refChKey_good seed l i (by omega) (by omega) (by omega) w hs
end Go.Proofs.YthhhldnlmkoamaaDoor
