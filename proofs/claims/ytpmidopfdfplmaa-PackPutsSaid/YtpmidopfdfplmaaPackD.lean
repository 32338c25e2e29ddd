/- A reader that has met an error tells nothing from then on: contracts of all its methods, at any argument. -/
import Derived.Test.YtpmidopfdfplmaaPackC
namespace Go.Proofs.Ytpmidopfdfplmaa
open Go.RowKit

theorem met_of {e k : Int} (h : e ≠ 0) : met e k = e := if_neg h

theorem met_raw (g : Nat) (e0 n : Int) (w : World) (h : Rd w g ByteArray.empty e0) (h0 : e0 ≠ 0) :
    Calls Try.prog 18 #[.pointer (some ⟨g, 0, none⟩), .int .i64 n] w fun e w' => e = .returned (.string ByteArray.empty) ∧ RdTo w g ByteArray.empty e0 w' := by
  rcases Int.lt_trichotomy n 0 with hn | rfl | hn
  · have c := raw_neg g _ e0 n w h (fun _ => rfl) hn
    rwa [met_of h0] at c
  · exact raw_some g ByteArray.empty e0 0 w h (by decide)
  · have c := raw_short g _ e0 n w h (fun _ => rfl) hn
    rwa [met_of h0] at c

theorem met_num (g : Nat) (e0 n : Int) (w : World) (h : Rd w g ByteArray.empty e0) (h0 : e0 ≠ 0) :
    Calls Try.prog 14 #[.pointer (some ⟨g, 0, none⟩), .int .i64 n] w fun e w' => e = .returned (.int .u64 0) ∧ RdTo w g ByteArray.empty e0 w' := by
  by_cases hn : n < 1 ∨ 8 < n
  · have c := read_num_not g _ e0 n w h (fun _ => rfl) hn
    rwa [met_of h0] at c
  · obtain ⟨m, rfl⟩ := Int.eq_ofNat_of_zero_le (show 0 ≤ n by omega)
    have c := read_num_short g _ e0 m w h (fun _ => rfl) (by omega) (by omega) (by simp; omega)
    rwa [met_of h0] at c

theorem met_text (g : Nat) (e0 n : Int) (w : World) (h : Rd w g ByteArray.empty e0) (h0 : e0 ≠ 0) :
    Calls Try.prog 16 #[.pointer (some ⟨g, 0, none⟩), .int .i64 n] w fun e w' => e = .returned (.string ByteArray.empty) ∧ RdTo w g ByteArray.empty e0 w' := by
  have c0 := met_num g e0 2 w h h0
  by_cases hn : n < 0
  · have c := read_text_big g e0 w 0 n ByteArray.empty (fun _ => rfl) (by omega) (by omega) (Lib.hid c0)
    rwa [met_of h0] at c
  · exact read_text_ok g e0 e0 w 0 n ByteArray.empty ByteArray.empty ByteArray.empty (by omega) (by omega) (Lib.hid c0) (Lib.hid fun w1 h1 => met_raw g e0 0 w1 h1 h0)

theorem met_left (g : Nat) (e0 : Int) (w : World) (h : Rd w g ByteArray.empty e0) :
    Calls Try.prog 20 #[.pointer (some ⟨g, 0, none⟩)] w fun e w' => e = .returned (.int .i64 0) ∧ w = w' := left_any g _ e0 w h
end Go.Proofs.Ytpmidopfdfplmaa
