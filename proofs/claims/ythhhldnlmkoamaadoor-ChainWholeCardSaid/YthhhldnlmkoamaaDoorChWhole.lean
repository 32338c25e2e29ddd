/- ChainWhole's core: over what package chain answers. -/
import Derived.Test.YthhhldnlmkoamaaDoorChA
namespace Go.Proofs.YthhhldnlmkoamaaDoor
open Go.RowKit

set_option maxRecDepth 100000 in
set_option maxHeartbeats 4000000 in
theorem chainWhole_core (H : ChainIs) (seed : List UInt8) (yl yi : UInt8) (w : World) (T : Tab w) :
    Calls Tryd.prog 5 #[.string ⟨seed.toArray⟩, .int .u8 (yl.toNat : Int), .int .u8 (yi.toNat : Int)] w fun e w' => e = .returned (.bool true) ∧ Below w.heap.size w w' := by
  have HH := Lib.hid H
  have T0 := Lib.hid T
  have W := Lib.hid (works12 H w T)
  clear H T
  have hl := yl.toNat_lt
  have hi := yi.toNat_lt
  generalize yl.toNat = l at *
  generalize yi.toNat = i at *
  by_cases hs : 300 < seed.length
  · have d : decide ((300 : Int) < (seed.length : Int)) = true := by simp; omega
    have dn : decide (300 < seed.length) = true := by simp; omega
    clear hs
    go_enter Tryd.func5, Tryd.ntmps5
    go_wp2_with fail
    refine W.out.mono ?_
    rintro e w1 ⟨rfl, b1⟩
    have B1 := Lib.hid b1
    clear b1
    go_wp2
    go_ret
    exact ⟨rfl, B1.out⟩
  have d : decide ((300 : Int) < (seed.length : Int)) = false := by simp; omega
  have dn : decide (300 < seed.length) = false := by simp; omega
  by_cases h12 : 12 < l
  · have d1 : decide ((12 : Int) < (l : Int)) = true := by simp; omega
    have d1n : decide (12 < l) = true := by simp; omega
    clear hs h12
    go_enter Tryd.func5, Tryd.ntmps5
    go_wp2_with fail
    refine W.out.mono ?_
    rintro e w1 ⟨rfl, b1⟩
    have B1 := Lib.hid b1
    clear b1
    go_wp2
    go_ret
    exact ⟨rfl, B1.out⟩
  have d1 : decide ((12 : Int) < (l : Int)) = false := by simp; omega
  have d1n : decide (12 < l) = false := by simp; omega
  by_cases h0 : l = 0
  · have d2 : ((l : Int) == 0) = true := by rw [h0]; rfl
    have d2n : (l == 0) = true := by rw [h0]; rfl
    clear hs h12 h0
    go_enter Tryd.func5, Tryd.ntmps5
    go_wp2_with fail
    refine W.out.mono ?_
    rintro e w1 ⟨rfl, b1⟩
    have B1 := Lib.hid b1
    clear b1
    go_wp2
    go_ret
    exact ⟨rfl, B1.out⟩
  have d2 : ((l : Int) == 0) = false := by simp; omega
  have d2n : (l == 0) = false := by simp; omega
  by_cases hil : l < i
  · have d3 : decide ((l : Int) < (i : Int)) = true := by simp; omega
    have d3n : decide (l < i) = true := by simp; omega
    clear hs h12 h0 hil
    go_enter Tryd.func5, Tryd.ntmps5
    go_wp2_with fail
    refine W.out.mono ?_
    rintro e w1 ⟨rfl, b1⟩
    have B1 := Lib.hid b1
    clear b1
    go_wp2
    go_ret
    exact ⟨rfl, B1.out⟩
  have d3 : decide ((l : Int) < (i : Int)) = false := by simp; omega
  have d3n : decide (l < i) = false := by simp; omega
  have r1 : IntKind.i64.wrap (l : Int) = (l : Int) := IntWalk.i64_in _ (by omega)
  have r2 : IntKind.i64.wrap (i : Int) = (i : Int) := IntWalk.i64_in _ (by omega)
  have KB : Hid (∀ j : Nat, j ≤ i → ¬ keyBad (l : Int) (j : Int)) := Lib.hid (fun j hj => by simp only [keyBad, not_or, Int.not_lt]; omega)
  have CK : Hid (∀ (j : Nat) w1, j ≤ i → Tab w1 → Calls Tryd.prog 7 #[.string ⟨seed.toArray⟩, .int .i64 (l : Int), .int .i64 (j : Int)] w1 fun e w' => e = .returned (.tuple #[.string ⟨(keyA seed l j).toArray⟩, .int .i64 0]) ∧ Below w1.heap.size w1 w') := Lib.hid (fun j w1 hj t => by
    have q := HH.out.key seed l j w1 (by omega) t
    rw [chKeyC, if_neg (KB.out j hj)] at q
    exact q)
  have KL : Hid (∀ j : Nat, j ≤ i → (keyA seed l j).length = 32) := Lib.hid (fun j hj => key_len seed l j (KB.out j hj))
  have CL : Hid (∀ (j : Nat) w1, j ≤ i → Tab w1 → Calls Tryd.prog 13 #[gateV (i : Int) (keyA seed l i), gateV (j : Int) (keyA seed l j)] w1 fun e w' => e = .returned (.bool true) ∧ Below w1.heap.size w1 w') := Lib.hid (fun j w1 hj t => by
    have q := HH.out.leads i j (keyA seed l i) (keyA seed l j) w1 (by omega) (by omega) (by omega) (by rw [KL.out j hj]; decide) t
    rw [keys_lead seed l i j (KB.out i (Nat.le_refl _)) (by omega) (by omega)] at q
    exact q)
  have ST : Hid (∀ j : Nat, j + 1 = i → stepL (keyA seed l i) = keyA seed l j) := Lib.hid (fun j hj => by
    have q := key_step seed l i (KB.out i (Nat.le_refl _)) (by omega)
    rw [q]
    congr 1
    omega)
  have HIL := Lib.hid (show i ≤ 12 by omega)
  obtain ⟨Y, hY⟩ : ∃ Y, Y = keyA seed l i := ⟨_, rfl⟩
  have HY := Lib.hid hY
  have yl32 : Y.length = 32 := by rw [hY]; exact KL.out i (Nat.le_refl _)
  clear hs h12 h0 hil hY hl hi
  go_enter Tryd.func5, Tryd.ntmps5
  go_wp2_with fail
  refine W.out.mono ?_
  rintro e w1 ⟨rfl, b1⟩
  have B1 := Lib.hid b1
  have C1 := Lib.hid (CK.out i w1 (Nat.le_refl _) (T0.out.below b1 T0.out.pos))
  rw [← HY.out] at C1
  clear b1
  go_wp2_with fail
  refine C1.out.mono ?_
  rintro e w2 ⟨rfl, b2⟩
  have B2 := Lib.hid (B1.out.trans (b2.mono B1.out.size))
  clear b2 C1 B1
  go_wp2_with fail
  go_loopw [9] (fun t wr => ∃ j : Nat, j ≤ i + 1 ∧ t = .int .i64 (j : Int) ∧ Below w.heap.size w wr) (fun t _ => i + 1 - (intOf t).toNat)
  case atStart => exact ⟨0, by omega, rfl, B2.out⟩
  case round =>
    obtain ⟨j, hj, rfl, hb⟩ := hrel
    have BR := Lib.hid hb
    clear hb B2
    by_cases hlt : j ≤ i
    · have dk : decide ((j : Int) ≤ (i : Int)) = true := by simp; omega
      have dkn : decide (j ≤ i) = true := by simp; omega
      have r4 : IntKind.i64.wrap ((j : Int) + 1) = ((j + 1 : Nat) : Int) := by have := HIL.out; rw [IntWalk.i64_in _ (by omega)]; omega
      have CJ := Lib.hid (CK.out j wr hlt (T0.out.below BR.out T0.out.pos))
      have CLJ := Lib.hid (fun w1 t => CL.out j w1 hlt t)
      rw [← HY.out] at CLJ
      have SJ := Lib.hid (ST.out j)
      rw [← HY.out] at SJ
      obtain ⟨O, hO⟩ : ∃ O, O = keyA seed l j := ⟨_, rfl⟩
      rw [← hO] at CJ CLJ SJ
      clear hO
      go_wp2_with fail
      refine CJ.out.mono ?_
      rintro e w3 ⟨rfl, b3⟩
      have B3 := Lib.hid (BR.out.trans (b3.mono BR.out.size))
      clear b3 CJ BR
      go_wp2_with fail
      refine (CLJ.out w3 (T0.out.below B3.out T0.out.pos)).mono ?_
      rintro e w4 ⟨rfl, b4⟩
      have B4 := Lib.hid (B3.out.trans (b4.mono B3.out.size))
      clear b4 CLJ B3
      by_cases hji : j + 1 = i
      · have dj : (((j + 1 : Nat) : Int) == (i : Int)) = true := by rw [hji]; simp
        have djn : (j + 1 == i) = true := by rw [hji]; simp
        have CS := Lib.hid (HH.out.step Y w4 (by omega) (T0.out.below B4.out T0.out.pos))
        rw [SJ.out hji] at CS
        go_wp2_with fail
        refine CS.out.mono ?_
        rintro e w5 ⟨rfl, b5⟩
        have B5 := Lib.hid (B4.out.trans (b5.mono B4.out.size))
        clear b5 CS B4
        go_wp2_with fail
        exact ⟨⟨j + 1, by omega, by go_num, B5.out⟩, by simp [intOf]; omega⟩
      · have dj : (((j + 1 : Nat) : Int) == (i : Int)) = false := by rw [beq_eq_false_iff_ne]; omega
        have djn : (j + 1 == i) = false := by rw [beq_eq_false_iff_ne]; omega
        go_wp2_with fail
        exact ⟨⟨j + 1, by omega, by go_num, B4.out⟩, by simp [intOf]; omega⟩
    · have dk : decide ((j : Int) ≤ (i : Int)) = false := by simp; omega
      have dkn : decide (j ≤ i) = false := by simp; omega
      go_wp2
      go_ret
      exact ⟨rfl, BR.out⟩
end Go.Proofs.YthhhldnlmkoamaaDoor
