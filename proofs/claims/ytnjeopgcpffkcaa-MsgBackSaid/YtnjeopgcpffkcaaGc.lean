/- Over XGenA's words: a reader of package pack in memory; contracts of refuse, Raw, End. Over XGenA's words: contracts of a reader's Num and Text. -/
import Derived.Test.YtnjeopgcpffkcaaGb
namespace Go.Proofs.Ytnjeopgcpffkcaa
set_option maxRecDepth 100000
open Go.RowKit

/-- A reader: its bytes, and the error that it met. -/
def Rd (w : World) (g : Nat) (s : ByteArray) (e : Int) : Prop := Whole w g 97 #[.string s, .int .i64 e]

/-- Behind a step of a reader: the reader is so, and nothing else has turned. -/
def RdTo (w : World) (g : Nat) (s : ByteArray) (e : Int) (w' : World) : Prop := Rd w' g s e ∧ w.grownBy w' (some g)

theorem RdTo.refl {w : World} {g : Nat} {s : ByteArray} {e : Int} (h : Rd w g s e) : RdTo w g s e w := ⟨h, World.grownBy.refl w _⟩
theorem RdTo.trans {a b c : World} {g : Nat} {s s' : ByteArray} {e e' : Int} (h : RdTo a g s e b) (k : RdTo b g s' e' c) : RdTo a g s' e' c := ⟨k.1, grown_trans' h.2 k.2⟩

/-- The error that is kept. -/
def met (e k : Int) : Int := if e = 0 then k else e

set_option maxHeartbeats 400000 in
theorem refuse_first (g : Nat) (s : ByteArray) (k : Int) (w : World) (h : Rd w g s 0) :
    Calls Try.prog 69 #[.pointer (some ⟨g, 0, none⟩), .int .i64 k] w fun e w' => e = .returned (.tuple #[]) ∧ RdTo w g ByteArray.empty k w' := by
  have c0 := h.at_ 0
  have c1 := h.at_ 1
  have f0 := h.free 0
  have f1 := h.free 1
  simp at c0 c1
  have hf := (h.stored 0 (.string ByteArray.empty)).stored 1 (.int .i64 k)
  have H := Lib.hid hf
  clear hf
  go_enter Try.func69, Try.ntmps69
  go_wp2
  go_end0
  refine ⟨rfl, H.out, ?_⟩
  exact grown_trans' (grown_store _ _ _ _) (grown_store _ _ _ _)

set_option maxHeartbeats 400000 in
theorem refuse_again (g : Nat) (s : ByteArray) (e0 k : Int) (w : World) (h : Rd w g s e0) (h0 : e0 ≠ 0) :
    Calls Try.prog 69 #[.pointer (some ⟨g, 0, none⟩), .int .i64 k] w fun e w' => e = .returned (.tuple #[]) ∧ w = w' := by
  have c1 := h.at_ 1
  simp at c1
  have b0 : (e0 != 0) = true := by simpa using h0
  go_enter Try.func69, Try.ntmps69
  go_wp2
  refine bodyPost_ret (results_none rfl _ _ _) rfl ⟨rfl, rfl⟩

/-- A refusal, whatever was met before: nothing is left then. -/
theorem refuse_any (g : Nat) (s : ByteArray) (e0 k : Int) (w : World) (h : Rd w g s e0) (hs : e0 ≠ 0 → s = ByteArray.empty) :
    Calls Try.prog 69 #[.pointer (some ⟨g, 0, none⟩), .int .i64 k] w fun e w' => e = .returned (.tuple #[]) ∧ RdTo w g ByteArray.empty (met e0 k) w' := by
  by_cases h0 : e0 = 0
  · subst h0
    exact refuse_first g s k w h
  · refine (refuse_again g s e0 k w h h0).mono ?_
    rintro e w' ⟨he, rfl⟩
    refine ⟨he, ?_⟩
    rw [met, if_neg h0]
    have := hs h0
    subst this
    exact RdTo.refl h

set_option maxHeartbeats 400000 in
theorem raw_neg (g : Nat) (s : ByteArray) (e0 n : Int) (w : World) (h : Rd w g s e0) (hs : e0 ≠ 0 → s = ByteArray.empty) (hn : n < 0) :
    Calls Try.prog 70 #[.pointer (some ⟨g, 0, none⟩), .int .i64 n] w fun e w' => e = .returned (.string ByteArray.empty) ∧ RdTo w g ByteArray.empty (met e0 2) w' := by
  have c := refuse_any g s e0 2 w h hs
  have C := Lib.hid c
  clear c hs
  go_enter Try.func70, Try.ntmps70
  go_wp2_with fail
  refine C.out.mono ?_
  rintro e w1 ⟨rfl, h1⟩
  go_wp2
  go_ret
  exact ⟨rfl, h1⟩

set_option maxHeartbeats 400000 in
theorem raw_short (g : Nat) (s : ByteArray) (e0 n : Int) (w : World) (h : Rd w g s e0) (hs : e0 ≠ 0 → s = ByteArray.empty) (hn : (s.size : Int) < n) :
    Calls Try.prog 70 #[.pointer (some ⟨g, 0, none⟩), .int .i64 n] w fun e w' => e = .returned (.string ByteArray.empty) ∧ RdTo w g ByteArray.empty (met e0 10) w' := by
  have c := refuse_any g s e0 10 w h hs
  have C := Lib.hid c
  clear c hs
  have c0 := h.at_ 0
  simp at c0
  have h0 : 0 ≤ n := by omega
  go_enter Try.func70, Try.ntmps70
  go_wp2_with fail
  refine C.out.mono ?_
  rintro e w1 ⟨rfl, h1⟩
  go_wp2
  go_ret
  exact ⟨rfl, h1⟩

set_option maxHeartbeats 400000 in
theorem raw_some (g : Nat) (s : ByteArray) (e0 : Int) (n : Nat) (w : World) (h : Rd w g s e0) (hn : n ≤ s.size) :
    Calls Try.prog 70 #[.pointer (some ⟨g, 0, none⟩), .int .i64 n] w fun e w' => e = .returned (.string (s.extract 0 n)) ∧ RdTo w g (s.extract n s.size) e0 w' := by
  have c0 := h.at_ 0
  simp at c0
  have f0 := h.free 0
  have hf := h.stored 0 (.string (s.extract n s.size))
  have H := Lib.hid hf
  clear hf
  go_enter Try.func70, Try.ntmps70
  go_wp2
  go_ret
  exact ⟨rfl, H.out, grown_store _ _ _ _⟩

/-- What End tells. -/
def ended (s : ByteArray) (e : Int) : Int := if e ≠ 0 then e else if 0 < s.size then 12 else 0

set_option maxHeartbeats 400000 in
theorem end_any (g : Nat) (s : ByteArray) (e0 : Int) (w : World) (h : Rd w g s e0) :
    Calls Try.prog 75 #[.pointer (some ⟨g, 0, none⟩)] w fun e w' => e = .returned (.int .i64 (ended s e0)) ∧ w = w' := by
  have c0 := h.at_ 0
  have c1 := h.at_ 1
  simp at c0 c1
  by_cases h0 : e0 = 0
  · subst h0
    by_cases h1 : 0 < s.size
    · have hv : ended s 0 = 12 := by simp [ended, h1]
      have H := Lib.hid hv
      clear hv
      go_enter Try.func75, Try.ntmps75
      go_wp2
      go_ret
      exact ⟨by rw [H.out]; rfl, rfl⟩
    · have hv : ended s 0 = 0 := by simp [ended, h1]
      have H := Lib.hid hv
      clear hv
      have h2 : s.size ≤ 0 := by omega
      go_enter Try.func75, Try.ntmps75
      go_wp2
      go_ret
      exact ⟨by rw [H.out]; rfl, rfl⟩
  · have hv : ended s e0 = e0 := by simp [ended, h0]
    have H := Lib.hid hv
    clear hv
    have b0 : (e0 != 0) = true := by simpa using h0
    go_enter Try.func75, Try.ntmps75
    go_wp2
    go_ret
    exact ⟨by rw [H.out]; rfl, rfl⟩

set_option maxHeartbeats 400000 in
theorem end_nil (w : World) :
    Calls Try.prog 75 #[.pointer none] w fun e w' => e = .returned (.int .i64 1) ∧ w = w' := by
  go_enter Try.func75, Try.ntmps75
  go_wp2
  go_ret
  exact ⟨rfl, rfl⟩


set_option maxHeartbeats 400000 in
theorem fits_no (n : Int) (w : World) (h : n < 1 ∨ 8 < n) :
    Calls Try.prog 56 #[.int .i64 n] w fun e w' => e = .returned (.bool false) ∧ w = w' := by
  rcases h with h | h
  · go_enter Try.func56, Try.ntmps56
    go_wp2
    go_ret
    exact ⟨rfl, rfl⟩
  · have h' : 1 ≤ n := by omega
    have h'' : decide (n ≤ 8) = false := by simp; omega
    go_enter Try.func56, Try.ntmps56
    go_wp2
    go_ret
    exact ⟨rfl, rfl⟩

end Go.Proofs.Ytnjeopgcpffkcaa

namespace Go.Proofs.Ytnjeopgcpffkcaa
set_option maxRecDepth 100000
open Go.RowKit

set_option maxHeartbeats 400000 in
theorem read_num_core (g : Nat) (raw s' : ByteArray) (e1 : Int) (n : Nat) (w : World) (h1 : 1 ≤ n) (h8 : n ≤ 8) (hr : raw.size ≤ 8)
    (C : Hid (Calls Try.prog 70 #[.pointer (some ⟨g, 0, none⟩), .int .i64 n] w fun e w' => e = .returned (.string raw) ∧ RdTo w g s' e1 w')) :
    Calls Try.prog 46 #[.pointer (some ⟨g, 0, none⟩), .int .i64 n] w fun e w' => e = .returned (.int .u64 (ofBe raw.data.toList)) ∧ RdTo w g s' e1 w' := by
  go_enter Try.func46, Try.ntmps46
  go_wp2_with fail
  refine (fits_yes _ _ (by omega) (by omega)).mono ?_
  rintro e w1 ⟨rfl, rfl⟩
  go_wp2_with fail
  refine C.out.mono ?_
  rintro e w1 ⟨rfl, hto⟩
  go_wp2_with fail
  go_loop [6, 18] (fun t i => ∃ k : Nat, k ≤ raw.size ∧ i = .int .i64 k ∧ t = .int .u64 (ofBe (raw.data.toList.take k))) (fun _ i => raw.size - (intOf i).toNat)
  case atStart => exact ⟨0, Nat.zero_le _, rfl, rfl⟩
  case round =>
    obtain ⟨k, hk, rfl, rfl⟩ := hrel
    by_cases hlt : k < raw.size
    · have HB := Lib.hid (ofBe_take raw k hlt hr)
      go_wp2
      go_round
      case rel => exact ⟨k + 1, by omega, by go_num, by rw [HB.out]⟩
      case measure => simp [intOf]; omega
    · obtain rfl : k = raw.size := by omega
      have HB : Hid (raw.data.toList.take raw.size = raw.data.toList) := List.take_of_length_le (by simp)
      go_wp2
      go_ret
      exact ⟨ret_int (by rw [HB.out]), hto⟩

theorem read_num (g : Nat) (s : ByteArray) (e0 : Int) (n : Nat) (w : World) (h : Rd w g s e0) (h1 : 1 ≤ n) (h8 : n ≤ 8) (hn : n ≤ s.size) :
    Calls Try.prog 46 #[.pointer (some ⟨g, 0, none⟩), .int .i64 n] w fun e w' => e = .returned (.int .u64 (ofBe (s.extract 0 n).data.toList)) ∧ RdTo w g (s.extract n s.size) e0 w' :=
  read_num_core g _ _ e0 n w h1 h8 (by simp; omega) (Lib.hid (raw_some g s e0 n w h hn))

theorem read_num_short (g : Nat) (s : ByteArray) (e0 : Int) (n : Nat) (w : World) (h : Rd w g s e0) (hs : e0 ≠ 0 → s = ByteArray.empty) (h1 : 1 ≤ n) (h8 : n ≤ 8) (hn : s.size < n) :
    Calls Try.prog 46 #[.pointer (some ⟨g, 0, none⟩), .int .i64 n] w fun e w' => e = .returned (.int .u64 0) ∧ RdTo w g ByteArray.empty (met e0 10) w' :=
  read_num_core g ByteArray.empty _ _ n w h1 h8 (by simp) (Lib.hid (raw_short g s e0 n w h hs (by omega)))

set_option maxHeartbeats 400000 in
theorem read_num_not (g : Nat) (s : ByteArray) (e0 n : Int) (w : World) (h : Rd w g s e0) (hs : e0 ≠ 0 → s = ByteArray.empty) (hn : n < 1 ∨ 8 < n) :
    Calls Try.prog 46 #[.pointer (some ⟨g, 0, none⟩), .int .i64 n] w fun e w' => e = .returned (.int .u64 0) ∧ RdTo w g ByteArray.empty (met e0 2) w' := by
  have C := Lib.hid (refuse_any g s e0 2 w h hs)
  clear hs
  go_enter Try.func46, Try.ntmps46
  go_wp2_with fail
  refine (fits_no _ _ hn).mono ?_
  rintro e w1 ⟨rfl, rfl⟩
  go_wp2_with fail
  refine C.out.mono ?_
  rintro e w1 ⟨rfl, hto⟩
  go_wp2
  go_ret
  exact ⟨rfl, hto⟩

/-- Text, by what its Num of two and its Raw do: refused, if the number is above most. -/
theorem read_text_big (g : Nat) (e0 : Int) (w : World) (k : Nat) (most : Int) (s1 : ByteArray) (hs : e0 ≠ 0 → s1 = ByteArray.empty) (hk : k ≤ 65535) (hm : most < k)
    (C : Hid (Calls Try.prog 46 #[.pointer (some ⟨g, 0, none⟩), .int .i64 (2 : Nat)] w fun e w' => e = .returned (.int .u64 k) ∧ RdTo w g s1 e0 w')) :
    Calls Try.prog 72 #[.pointer (some ⟨g, 0, none⟩), .int .i64 most] w fun e w' => e = .returned (.string ByteArray.empty) ∧ RdTo w g ByteArray.empty (met e0 3) w' := by
  go_enter Try.func72, Try.ntmps72
  go_wp2_with fail
  refine C.out.mono ?_
  rintro e w1 ⟨rfl, hto⟩
  go_wp2_with fail
  refine (refuse_any g s1 e0 3 w1 hto.1 hs).mono ?_
  rintro e w2 ⟨rfl, hto2⟩
  go_wp2
  go_ret
  exact ⟨rfl, hto.trans hto2⟩

theorem read_text_ok (g : Nat) (e0 e2 : Int) (w : World) (k : Nat) (most : Int) (s1 s2 out : ByteArray) (hk : k ≤ 65535) (hm : k ≤ most)
    (C : Hid (Calls Try.prog 46 #[.pointer (some ⟨g, 0, none⟩), .int .i64 (2 : Nat)] w fun e w' => e = .returned (.int .u64 k) ∧ RdTo w g s1 e0 w'))
    (D : Hid (∀ w1, Rd w1 g s1 e0 → Calls Try.prog 70 #[.pointer (some ⟨g, 0, none⟩), .int .i64 k] w1 fun e w' => e = .returned (.string out) ∧ RdTo w1 g s2 e2 w')) :
    Calls Try.prog 72 #[.pointer (some ⟨g, 0, none⟩), .int .i64 most] w fun e w' => e = .returned (.string out) ∧ RdTo w g s2 e2 w' := by
  go_enter Try.func72, Try.ntmps72
  go_wp2_with fail
  refine C.out.mono ?_
  rintro e w1 ⟨rfl, hto⟩
  go_wp2_with fail
  refine (D.out w1 hto.1).mono ?_
  rintro e w2 ⟨rfl, hto2⟩
  go_wp2
  go_ret
  exact ⟨rfl, hto.trans hto2⟩

end Go.Proofs.Ytnjeopgcpffkcaa
