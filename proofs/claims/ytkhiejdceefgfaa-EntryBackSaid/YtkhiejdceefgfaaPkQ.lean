/- Over XGenA's words: contracts of a reader's Num and Text. -/
import Derived.Test.YtkhiejdceefgfaaPkR
namespace Go.Proofs.Ytkhiejdceefgfaa
open Go.RowKit

set_option maxHeartbeats 400000 in
theorem read_num_core (g : Nat) (raw s' : ByteArray) (e1 : Int) (n : Nat) (w : World) (h1 : 1 ≤ n) (h8 : n ≤ 8) (hr : raw.size ≤ 8)
    (C : Hid (Calls Try.prog 31 #[.pointer (some ⟨g, 0, none⟩), .int .i64 n] w fun e w' => e = .returned (.string raw) ∧ RdTo w g s' e1 w')) :
    Calls Try.prog 30 #[.pointer (some ⟨g, 0, none⟩), .int .i64 n] w fun e w' => e = .returned (.int .u64 (ofBe raw.data.toList)) ∧ RdTo w g s' e1 w' := by
  go_enter Try.func30, Try.ntmps30
  go_wp2_with fail
  refine (fits_yes _ _ (by omega) (by omega)).mono ?_
  rintro e w1 ⟨rfl, rfl⟩
  go_wp2_with fail
  refine C.out.mono ?_
  rintro e w1 ⟨rfl, hto⟩
  go_wp2_with fail
  go_loop [6, 18] (fun t i => ∃ k : Nat, k ≤ raw.size ∧ i = .int .i64 k ∧ t = .int .u64 (ofBe (raw.data.toList.take k))) (fun _ i => raw.size - (intOf i).toNat)
  case atStart => exact ⟨0, Nat.zero_le _, rfl, rfl⟩
  case round =>
    obtain ⟨k, hk, rfl, rfl⟩ := hrel
    by_cases hlt : k < raw.size
    · have HB := Lib.hid (ofBe_take raw k hlt hr)
      go_wp2
      go_round
      case rel => exact ⟨k + 1, by omega, by go_num, by rw [HB.out]⟩
      case measure => simp [intOf]; omega
    · obtain rfl : k = raw.size := by omega
      have HB : Hid (raw.data.toList.take raw.size = raw.data.toList) := List.take_of_length_le (by simp)
      go_wp2
      go_ret
      exact ⟨ret_int (by rw [HB.out]), hto⟩

theorem read_num (g : Nat) (s : ByteArray) (e0 : Int) (n : Nat) (w : World) (h : Rd w g s e0) (h1 : 1 ≤ n) (h8 : n ≤ 8) (hn : n ≤ s.size) :
    Calls Try.prog 30 #[.pointer (some ⟨g, 0, none⟩), .int .i64 n] w fun e w' => e = .returned (.int .u64 (ofBe (s.extract 0 n).data.toList)) ∧ RdTo w g (s.extract n s.size) e0 w' :=
  read_num_core g _ _ e0 n w h1 h8 (by simp; omega) (Lib.hid (raw_some g s e0 n w h hn))

theorem read_num_short (g : Nat) (s : ByteArray) (e0 : Int) (n : Nat) (w : World) (h : Rd w g s e0) (hs : e0 ≠ 0 → s = ByteArray.empty) (h1 : 1 ≤ n) (h8 : n ≤ 8) (hn : s.size < n) :
    Calls Try.prog 30 #[.pointer (some ⟨g, 0, none⟩), .int .i64 n] w fun e w' => e = .returned (.int .u64 0) ∧ RdTo w g ByteArray.empty (met e0 10) w' :=
  read_num_core g ByteArray.empty _ _ n w h1 h8 (by simp) (Lib.hid (raw_short g s e0 n w h hs (by omega)))

set_option maxHeartbeats 400000 in
theorem read_num_not (g : Nat) (s : ByteArray) (e0 n : Int) (w : World) (h : Rd w g s e0) (hs : e0 ≠ 0 → s = ByteArray.empty) (hn : n < 1 ∨ 8 < n) :
    Calls Try.prog 30 #[.pointer (some ⟨g, 0, none⟩), .int .i64 n] w fun e w' => e = .returned (.int .u64 0) ∧ RdTo w g ByteArray.empty (met e0 2) w' := by
  have C := Lib.hid (refuse_any g s e0 2 w h hs)
  clear hs
  go_enter Try.func30, Try.ntmps30
  go_wp2_with fail
  refine (fits_no _ _ hn).mono ?_
  rintro e w1 ⟨rfl, rfl⟩
  go_wp2_with fail
  refine C.out.mono ?_
  rintro e w1 ⟨rfl, hto⟩
  go_wp2
  go_ret
  exact ⟨rfl, hto⟩

/-- Text, by what its Num of two and its Raw do: refused, if the number is above most. -/
theorem read_text_big (g : Nat) (e0 : Int) (w : World) (k : Nat) (most : Int) (s1 : ByteArray) (hs : e0 ≠ 0 → s1 = ByteArray.empty) (hk : k ≤ 65535) (hm : most < k)
    (C : Hid (Calls Try.prog 30 #[.pointer (some ⟨g, 0, none⟩), .int .i64 (2 : Nat)] w fun e w' => e = .returned (.int .u64 k) ∧ RdTo w g s1 e0 w')) :
    Calls Try.prog 29 #[.pointer (some ⟨g, 0, none⟩), .int .i64 most] w fun e w' => e = .returned (.string ByteArray.empty) ∧ RdTo w g ByteArray.empty (met e0 3) w' := by
  go_enter Try.func29, Try.ntmps29
  go_wp2_with fail
  refine C.out.mono ?_
  rintro e w1 ⟨rfl, hto⟩
  go_wp2_with fail
  refine (refuse_any g s1 e0 3 w1 hto.1 hs).mono ?_
  rintro e w2 ⟨rfl, hto2⟩
  go_wp2
  go_ret
  exact ⟨rfl, hto.trans hto2⟩

theorem read_text_ok (g : Nat) (e0 e2 : Int) (w : World) (k : Nat) (most : Int) (s1 s2 out : ByteArray) (hk : k ≤ 65535) (hm : k ≤ most)
    (C : Hid (Calls Try.prog 30 #[.pointer (some ⟨g, 0, none⟩), .int .i64 (2 : Nat)] w fun e w' => e = .returned (.int .u64 k) ∧ RdTo w g s1 e0 w'))
    (D : Hid (∀ w1, Rd w1 g s1 e0 → Calls Try.prog 31 #[.pointer (some ⟨g, 0, none⟩), .int .i64 k] w1 fun e w' => e = .returned (.string out) ∧ RdTo w1 g s2 e2 w')) :
    Calls Try.prog 29 #[.pointer (some ⟨g, 0, none⟩), .int .i64 most] w fun e w' => e = .returned (.string out) ∧ RdTo w g s2 e2 w' := by
  go_enter Try.func29, Try.ntmps29
  go_wp2_with fail
  refine C.out.mono ?_
  rintro e w1 ⟨rfl, hto⟩
  go_wp2_with fail
  refine (D.out w1 hto.1).mono ?_
  rintro e w2 ⟨rfl, hto2⟩
  go_wp2
  go_ret
  exact ⟨rfl, hto.trans hto2⟩

end Go.Proofs.Ytkhiejdceefgfaa
