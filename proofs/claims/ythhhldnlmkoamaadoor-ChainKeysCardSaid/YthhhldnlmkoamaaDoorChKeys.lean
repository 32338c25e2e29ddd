/- ChainKeys' core: over what package chain answers. -/
import Derived.Test.YthhhldnlmkoamaaDoorChA
namespace Go.Proofs.YthhhldnlmkoamaaDoor
open Go.RowKit

set_option maxRecDepth 100000 in
set_option maxHeartbeats 2000000 in
theorem chainKeys_core (H : ChainIs) (seed : List UInt8) (len idx steps : Int) (w : World) (T : Tab w) :
    Calls Tryd.prog 3 #[.string ⟨seed.toArray⟩, .int .i64 len, .int .i64 idx, .int .i64 steps] w fun e w' => e = .returned (.bool true) ∧ Below w.heap.size w w' := by
  have HH := Lib.hid H
  have T0 := Lib.hid T
  clear H T
  by_cases hs : 300 < seed.length
  · have d : decide ((300 : Int) < (seed.length : Int)) = true := by simp; omega
    have dn : decide (300 < seed.length) = true := by simp; omega
    clear hs
    go_enter Tryd.func3, Tryd.ntmps3
    go_wp2_with fail
    refine (works12 HH.out w T0.out).mono ?_
    rintro e w1 ⟨rfl, b1⟩
    have B1 := Lib.hid b1
    clear b1
    go_wp2
    go_ret
    exact ⟨rfl, B1.out⟩
  · have d : decide ((300 : Int) < (seed.length : Int)) = false := by simp; omega
    have dn : decide (300 < seed.length) = false := by simp; omega
    have C1 := Lib.hid (HH.out.key seed len idx w (by omega) T0.out)
    have C2 := Lib.hid (fun w1 => refChKey_any seed len idx w1 (by omega))
    have C3 := Lib.hid (fun w1 t => HH.out.back seed steps w1 (by omega) t)
    have C4 := Lib.hid (fun w1 => refBack_any seed steps w1 (by omega))
    have C5 := Lib.hid (fun w1 t => HH.out.step seed w1 (by omega) t)
    have C6 := Lib.hid (fun w1 => refStep_any seed w1 (by omega))
    obtain ⟨KA, hKA⟩ : ∃ q, q = keyA seed len idx := ⟨_, rfl⟩
    obtain ⟨KC, hKC⟩ : ∃ q, q = chKeyC len idx := ⟨_, rfl⟩
    obtain ⟨BA, hBA⟩ : ∃ q, q = backA seed steps := ⟨_, rfl⟩
    obtain ⟨BC, hBC⟩ : ∃ q, q = backC steps := ⟨_, rfl⟩
    simp only [← hKA, ← hKC] at C1 C2
    simp only [← hBA, ← hBC] at C3 C4
    clear hs hKA hKC hBA hBC
    go_enter Tryd.func3, Tryd.ntmps3
    go_wp2_with fail
    refine C1.out.mono ?_
    rintro e w1 ⟨rfl, b1⟩
    have B1 := Lib.hid b1
    clear b1 C1
    go_wp2_with fail
    refine (C2.out w1).mono ?_
    rintro e w2 ⟨rfl, b2⟩
    have B2 := Lib.hid (B1.out.trans (b2.mono B1.out.size))
    clear b2 C2 B1
    go_wp2_with fail
    refine (C3.out w2 (T0.out.below B2.out T0.out.pos)).mono ?_
    rintro e w3 ⟨rfl, b3⟩
    have B3 := Lib.hid (B2.out.trans (b3.mono B2.out.size))
    clear b3 C3 B2
    go_wp2_with fail
    refine (C4.out w3).mono ?_
    rintro e w4 ⟨rfl, b4⟩
    have B4 := Lib.hid (B3.out.trans (b4.mono B3.out.size))
    clear b4 C4 B3
    go_wp2_with fail
    refine (C5.out w4 (T0.out.below B4.out T0.out.pos)).mono ?_
    rintro e w5 ⟨rfl, b5⟩
    have B5 := Lib.hid (B4.out.trans (b5.mono B4.out.size))
    clear b5 C5 B4
    go_wp2_with fail
    refine (C6.out w5).mono ?_
    rintro e w6 ⟨rfl, b6⟩
    have B6 := Lib.hid (B5.out.trans (b6.mono B5.out.size))
    clear b6 C6 B5
    go_wp2_with fail
    refine (works12 HH.out w6 (T0.out.below B6.out T0.out.pos)).mono ?_
    rintro e w7 ⟨rfl, b7⟩
    have B7 := Lib.hid (B6.out.trans (b7.mono B6.out.size))
    clear b7 B6
    go_wp2
    go_ret
    exact ⟨rfl, B7.out⟩
end Go.Proofs.YthhhldnlmkoamaaDoor
