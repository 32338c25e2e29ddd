/- WindowStays' core: over what package window answers. -/
import Derived.Test.YtemogdcjmehdcaaWiA
namespace Go.Proofs.Ytemogdcjmehdcaa
set_option maxRecDepth 100000
open Go.RowKit

theorem isInt_of {n : Int} (h1 : -9223372036854775808 ≤ n) (h2 : n ≤ 9223372036854775807) : IsInt n := by
  simp only [IsInt, Lit.wf, Bool.and_eq_true, decide_eq_true_eq]
  exact ⟨h1, h2⟩
theorem seen_parts {W : Win} {n : Int} (h : seenB W n = true) : 1 ≤ n ∧ n ≤ 1073741824 ∧ 0 ≤ W.top ∧ W.top ≤ 1073741824 ∧ n ≤ W.top ∧ W.top - n ≤ 127 ∧ W.bit (W.top - n).toNat = true := by
  have h' : freshX W n = 22 := by simpa [seenB] using h
  clear h
  rw [freshX] at h'
  split at h'
  · omega
  split at h'
  · omega
  split at h'
  · omega
  split at h'
  · refine ⟨by omega, by omega, by omega, by omega, by omega, by omega, by assumption⟩
  · omega
theorem seen_of {W : Win} {n : Int} (h1 : 1 ≤ n) (h2 : n ≤ 1073741824) (h3 : 0 ≤ W.top) (h4 : W.top ≤ 1073741824) (h5 : n ≤ W.top) (h6 : W.top - n ≤ 127) (h7 : W.bit (W.top - n).toNat = true) : seenB W n = true := by
  have e : freshX W n = 22 := by rw [freshX, if_neg (by omega), if_neg (by omega), if_neg (by omega), if_pos h7]
  simp [seenB, e]
theorem mark_top {W : Win} {m : Int} (h : freshX W m = 0) : (markW W m).top = max W.top m := by rw [markW, if_neg (by simp [h])]
/-- What was seen stays, if it lies near enough. -/
theorem stays_is {W : Win} {n m : Int} (h : seenB W n = true) (hm : 1 ≤ m) (hm2 : m ≤ 1073741824) : seenB (markW W m) n = decide (m - n < 128) := by
  obtain ⟨h1, h2, h3, h4, h5, h6, h7⟩ := seen_parts h
  by_cases hf : freshX W m = 0
  · have ht := mark_top hf
    by_cases hd : m - n < 128
    · rw [decide_eq_true hd]
      have hk : (max W.top m - n).toNat < 128 := by omega
      have hb := mark_bit W m hf _ hk
      refine seen_of h1 h2 (by omega) (by omega) (by omega) (by omega) ?_
      rw [ht, hb, Win.moved]
      have e1 : (max W.top m - n).toNat - (m - W.top).toNat = (W.top - n).toNat := by omega
      have e2 : (m - W.top).toNat ≤ (max W.top m - n).toNat := by omega
      rw [e1, h7]
      simp [e2]
    · rw [decide_eq_false hd]
      apply Bool.eq_false_iff.2
      intro hs
      obtain ⟨_, _, _, _, _, g6, _⟩ := seen_parts hs
      omega
  · have e : markW W m = W := by rw [markW, if_pos hf]
    rw [e, h]
    symm
    apply decide_eq_true
    by_cases ht : W.top < m
    · exact absurd (by rw [freshX, if_neg (by omega), if_pos ht]) hf
    · omega

set_option maxRecDepth 100000 in
set_option maxHeartbeats 2000000 in
theorem winStays_core (H : WindowIs) (W : Win) (n m : Int) (hok : W.ok) (ht : IsInt W.top) (hn : IsInt n) (hm : IsInt m) (w : World) :
    Calls Try.prog 5 #[W.val, .int .i64 n, .int .i64 m] w fun e w' => e = .returned (.bool true) ∧ Below w.heap.size w w' := by
  have C0 := Lib.hid (fun w => works20 H w)
  have C1 := Lib.hid (fun w => H.seen W n w hok ht hn)
  have C2 := Lib.hid (fun w => H.mark W m w hok ht hm)
  have HQ : Hid (seenB W n = true → 1 ≤ m → m ≤ 1073741824 → (1 ≤ n ∧ n ≤ 1073741824) ∧ ∀ w, Calls Try.prog 10 #[(markW W m).val, .int .i64 n] w fun e w' => e = .returned (.bool (decide (m - n < 128))) ∧ Below w.heap.size w w') := Lib.hid (fun h h1 h2 => by
    have p := seen_parts h
    refine ⟨⟨p.1, p.2.1⟩, fun w => ?_⟩
    rw [← stays_is h h1 h2]
    refine H.seen (markW W m) n w (markW_ok hok m) ?_ hn
    by_cases hf : freshX W m = 0
    · rw [mark_top hf]
      exact isInt_of (by omega) (by omega)
    · rw [markW, if_pos hf]
      exact ht)
  have hv : W.val = .agg W.cells := rfl
  generalize seenB W n = q at *
  generalize markW W m = M at *
  rw [hv]
  clear hv H hok ht hn hm
  go_enter Try.func5, Try.ntmps5
  go_wp2_with (refine wpList_box_row rfl 24 (.tmp 0) rfl W.cells rfl ?_)
  intro w1 b1 x1 z1
  have X1 : Hid (WinAt w1 w.heap.size W) := Lib.hid x1
  have B1 := Lib.hid b1
  obtain ⟨g, hg⟩ : ∃ g, g = w.heap.size := ⟨_, rfl⟩
  rw [← hg] at X1 ⊢
  clear b1 x1 z1 hg
  go_wp2_with fail
  refine (C0.out w1).mono ?_
  rintro e w2 ⟨rfl, hb⟩
  have X2 : Hid (WinAt w2 g W) := Lib.hid (Whole.below X1.out hb X1.out.lt)
  have B2 := Lib.hid (B1.out.trans (hb.mono B1.out.size))
  clear hb X1 B1 C0
  go_wp2_with (with_reducible refine wpList_load_win rfl _ rfl g (by with_unfolding_all exact rfl) W X2.out ?_)
  refine (C1.out w2).mono ?_
  rintro e w3 ⟨rfl, hb⟩
  have X3 : Hid (WinAt w3 g W) := Lib.hid (Whole.below X2.out hb X2.out.lt)
  have B3 := Lib.hid (B2.out.trans (hb.mono B2.out.size))
  clear hb X2 B2 C1
  cases q with
  | false =>
    go_wp2
    go_ret
    exact ⟨rfl, B3.out⟩
  | true =>
    by_cases h1 : m < 1
    · have d1 : decide (m < 1) = true := by simpa using h1
      go_wp2
      go_ret
      exact ⟨rfl, B3.out⟩
    have d1 : decide (m < 1) = false := by simpa using h1
    by_cases h2 : 1073741824 < m
    · have d2 : decide (1073741824 < m) = true := by simpa using h2
      go_wp2
      go_ret
      exact ⟨rfl, B3.out⟩
    have d2 : decide (1073741824 < m) = false := by simpa using h2
    obtain ⟨⟨n1, n2⟩, C3⟩ := HQ.out rfl (by omega) (by omega)
    have C3 := Lib.hid C3
    obtain ⟨z, hz⟩ : ∃ z, z = m - n := ⟨_, rfl⟩
    have r1 : IntKind.i64.wrap (m - n) = z := by rw [IntWalk.i64_in _ (by omega), hz]
    rw [← hz] at C3
    clear HQ h1 h2 n1 n2 hz
    go_wp2_with (with_reducible refine wpList_load_win rfl _ rfl g (by with_unfolding_all exact rfl) W X3.out ?_)
    refine (C2.out w3).mono ?_
    rintro e w4 ⟨rfl, hb⟩
    have B4 := Lib.hid (B3.out.trans (hb.mono B3.out.size))
    clear hb C2
    go_wp2_with fail
    refine (C3.out w4).mono ?_
    rintro e w5 ⟨rfl, hb⟩
    have B5 := Lib.hid (B4.out.trans (hb.mono B4.out.size))
    clear hb C3
    go_wp2
    go_ret
    exact ⟨by simp, B5.out⟩
end Go.Proofs.Ytemogdcjmehdcaa
