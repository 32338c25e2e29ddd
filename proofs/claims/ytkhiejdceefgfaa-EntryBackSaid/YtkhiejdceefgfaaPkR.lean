/- Over XGenA's words: a reader of package pack in memory; contracts of refuse, Raw, End. -/
import Derived.Test.YtkhiejdceefgfaaPkN
namespace Go.Proofs.Ytkhiejdceefgfaa
open Go.RowKit

/-- A reader: its bytes, and the error that it met. -/
def Rd (w : World) (g : Nat) (s : ByteArray) (e : Int) : Prop := Whole w g 60 #[.string s, .int .i64 e]

/-- Behind a step of a reader: the reader is so, and nothing else has turned. -/
def RdTo (w : World) (g : Nat) (s : ByteArray) (e : Int) (w' : World) : Prop := Rd w' g s e ∧ w.grownBy w' (some g)

theorem RdTo.refl {w : World} {g : Nat} {s : ByteArray} {e : Int} (h : Rd w g s e) : RdTo w g s e w := ⟨h, World.grownBy.refl w _⟩
theorem RdTo.trans {a b c : World} {g : Nat} {s s' : ByteArray} {e e' : Int} (h : RdTo a g s e b) (k : RdTo b g s' e' c) : RdTo a g s' e' c := ⟨k.1, grown_trans' h.2 k.2⟩

/-- The error that is kept. -/
def met (e k : Int) : Int := if e = 0 then k else e

set_option maxHeartbeats 400000 in
theorem refuse_first (g : Nat) (s : ByteArray) (k : Int) (w : World) (h : Rd w g s 0) :
    Calls Try.prog 42 #[.pointer (some ⟨g, 0, none⟩), .int .i64 k] w fun e w' => e = .returned (.tuple #[]) ∧ RdTo w g ByteArray.empty k w' := by
  have c0 := h.at_ 0
  have c1 := h.at_ 1
  have f0 := h.free 0
  have f1 := h.free 1
  simp at c0 c1
  have hf := (h.stored 0 (.string ByteArray.empty)).stored 1 (.int .i64 k)
  have H := Lib.hid hf
  clear hf
  go_enter Try.func42, Try.ntmps42
  go_wp2
  go_end0
  refine ⟨rfl, H.out, ?_⟩
  exact grown_trans' (grown_store _ _ _ _) (grown_store _ _ _ _)

set_option maxHeartbeats 400000 in
theorem refuse_again (g : Nat) (s : ByteArray) (e0 k : Int) (w : World) (h : Rd w g s e0) (h0 : e0 ≠ 0) :
    Calls Try.prog 42 #[.pointer (some ⟨g, 0, none⟩), .int .i64 k] w fun e w' => e = .returned (.tuple #[]) ∧ w = w' := by
  have c1 := h.at_ 1
  simp at c1
  have b0 : (e0 != 0) = true := by simpa using h0
  go_enter Try.func42, Try.ntmps42
  go_wp2
  refine bodyPost_ret (results_none rfl _ _ _) rfl ⟨rfl, rfl⟩

/-- A refusal, whatever was met before: nothing is left then. -/
theorem refuse_any (g : Nat) (s : ByteArray) (e0 k : Int) (w : World) (h : Rd w g s e0) (hs : e0 ≠ 0 → s = ByteArray.empty) :
    Calls Try.prog 42 #[.pointer (some ⟨g, 0, none⟩), .int .i64 k] w fun e w' => e = .returned (.tuple #[]) ∧ RdTo w g ByteArray.empty (met e0 k) w' := by
  by_cases h0 : e0 = 0
  · subst h0
    exact refuse_first g s k w h
  · refine (refuse_again g s e0 k w h h0).mono ?_
    rintro e w' ⟨he, rfl⟩
    refine ⟨he, ?_⟩
    rw [met, if_neg h0]
    have := hs h0
    subst this
    exact RdTo.refl h

set_option maxHeartbeats 400000 in
theorem raw_neg (g : Nat) (s : ByteArray) (e0 n : Int) (w : World) (h : Rd w g s e0) (hs : e0 ≠ 0 → s = ByteArray.empty) (hn : n < 0) :
    Calls Try.prog 31 #[.pointer (some ⟨g, 0, none⟩), .int .i64 n] w fun e w' => e = .returned (.string ByteArray.empty) ∧ RdTo w g ByteArray.empty (met e0 2) w' := by
  have c := refuse_any g s e0 2 w h hs
  have C := Lib.hid c
  clear c hs
  go_enter Try.func31, Try.ntmps31
  go_wp2_with fail
  refine C.out.mono ?_
  rintro e w1 ⟨rfl, h1⟩
  go_wp2
  go_ret
  exact ⟨rfl, h1⟩

set_option maxHeartbeats 400000 in
theorem raw_short (g : Nat) (s : ByteArray) (e0 n : Int) (w : World) (h : Rd w g s e0) (hs : e0 ≠ 0 → s = ByteArray.empty) (hn : (s.size : Int) < n) :
    Calls Try.prog 31 #[.pointer (some ⟨g, 0, none⟩), .int .i64 n] w fun e w' => e = .returned (.string ByteArray.empty) ∧ RdTo w g ByteArray.empty (met e0 10) w' := by
  have c := refuse_any g s e0 10 w h hs
  have C := Lib.hid c
  clear c hs
  have c0 := h.at_ 0
  simp at c0
  have h0 : 0 ≤ n := by omega
  go_enter Try.func31, Try.ntmps31
  go_wp2_with fail
  refine C.out.mono ?_
  rintro e w1 ⟨rfl, h1⟩
  go_wp2
  go_ret
  exact ⟨rfl, h1⟩

set_option maxHeartbeats 400000 in
theorem raw_some (g : Nat) (s : ByteArray) (e0 : Int) (n : Nat) (w : World) (h : Rd w g s e0) (hn : n ≤ s.size) :
    Calls Try.prog 31 #[.pointer (some ⟨g, 0, none⟩), .int .i64 n] w fun e w' => e = .returned (.string (s.extract 0 n)) ∧ RdTo w g (s.extract n s.size) e0 w' := by
  have c0 := h.at_ 0
  simp at c0
  have f0 := h.free 0
  have hf := h.stored 0 (.string (s.extract n s.size))
  have H := Lib.hid hf
  clear hf
  go_enter Try.func31, Try.ntmps31
  go_wp2
  go_ret
  exact ⟨rfl, H.out, grown_store _ _ _ _⟩

/-- What End tells. -/
def ended (s : ByteArray) (e : Int) : Int := if e ≠ 0 then e else if 0 < s.size then 12 else 0

set_option maxHeartbeats 400000 in
theorem end_any (g : Nat) (s : ByteArray) (e0 : Int) (w : World) (h : Rd w g s e0) :
    Calls Try.prog 32 #[.pointer (some ⟨g, 0, none⟩)] w fun e w' => e = .returned (.int .i64 (ended s e0)) ∧ w = w' := by
  have c0 := h.at_ 0
  have c1 := h.at_ 1
  simp at c0 c1
  by_cases h0 : e0 = 0
  · subst h0
    by_cases h1 : 0 < s.size
    · have hv : ended s 0 = 12 := by simp [ended, h1]
      have H := Lib.hid hv
      clear hv
      go_enter Try.func32, Try.ntmps32
      go_wp2
      go_ret
      exact ⟨by rw [H.out]; rfl, rfl⟩
    · have hv : ended s 0 = 0 := by simp [ended, h1]
      have H := Lib.hid hv
      clear hv
      have h2 : s.size ≤ 0 := by omega
      go_enter Try.func32, Try.ntmps32
      go_wp2
      go_ret
      exact ⟨by rw [H.out]; rfl, rfl⟩
  · have hv : ended s e0 = e0 := by simp [ended, h0]
    have H := Lib.hid hv
    clear hv
    have b0 : (e0 != 0) = true := by simpa using h0
    go_enter Try.func32, Try.ntmps32
    go_wp2
    go_ret
    exact ⟨by rw [H.out]; rfl, rfl⟩

set_option maxHeartbeats 400000 in
theorem end_nil (w : World) :
    Calls Try.prog 32 #[.pointer none] w fun e w' => e = .returned (.int .i64 1) ∧ w = w' := by
  go_enter Try.func32, Try.ntmps32
  go_wp2
  go_ret
  exact ⟨rfl, rfl⟩


set_option maxHeartbeats 400000 in
theorem fits_no (n : Int) (w : World) (h : n < 1 ∨ 8 < n) :
    Calls Try.prog 41 #[.int .i64 n] w fun e w' => e = .returned (.bool false) ∧ w = w' := by
  rcases h with h | h
  · go_enter Try.func41, Try.ntmps41
    go_wp2
    go_ret
    exact ⟨rfl, rfl⟩
  · have h' : 1 ≤ n := by omega
    have h'' : decide (n ≤ 8) = false := by simp; omega
    go_enter Try.func41, Try.ntmps41
    go_wp2
    go_ret
    exact ⟨rfl, rfl⟩

end Go.Proofs.Ytkhiejdceefgfaa
