/- TokenBetween's core: over what package token answers. -/
import Derived.Test.YtghehomcabckcaaDoorGx
namespace Go.Proofs.YtghehomcabckcaaDoor
open Go.RowKit

theorem cut_great {e : Ent} (h : greatB e = false) : e.name.length ≤ 1000 ∧ e.tag.length ≤ 1000 := by
  simp only [greatB, Bool.or_eq_false_iff, decide_eq_false_iff_not] at h
  omega

set_option maxRecDepth 100000 in
set_option maxHeartbeats 4000000 in
theorem tokBetween_core (H : TokenIs) (gi : Int) (gk : List UInt8) (a : Ent) (ta tb tc : Int) (hi : a.id < 18446744073709551616) (w : World) (T : Tab w) :
    Calls Tryd.prog 5 #[gateV gi gk, a.val, .int .i64 ta, .int .i64 tb, .int .i64 tc] w fun e w' => e = .returned (.bool true) ∧ Below w.heap.size w w' := by
  have HH := Lib.hid H
  have T0 := Lib.hid T
  have HI := Lib.hid hi
  obtain ⟨gn, hgn⟩ : ∃ q, q = decide (1000 < gk.length) := ⟨_, rfl⟩
  obtain ⟨ga, hga⟩ : ∃ q, q = greatB a := ⟨_, rfl⟩
  have CA := fun w => Lib.hid (great_any a w)
  simp only [← hga] at CA
  have r0 : decide ((1000 : Int) < (gk.length : Int)) = gn := by rw [hgn]; congr 1; apply propext; omega
  have r0n := hgn.symm
  have HG := Lib.hid (And.intro hgn hga)
  have hv : a.val = .agg a.cells := rfl
  have hg0 : gateV gi gk = .agg (gateC gi gk) := rfl
  rw [hv, hg0]
  clear hgn hga hv hg0 H T hi
  go_enter Tryd.func5, Tryd.ntmps5
  go_wp2_with (refine wpList_box_row rfl 23 (.tmp 0) rfl (gateC gi gk) rfl ?_)
  intro w1 b1 x1 z1
  have X1 : Hid (GateAt w1 w.heap.size gi gk) := Lib.hid x1
  have B1 := Lib.hid b1
  clear b1 x1 z1
  go_wp2_with (refine wpList_box_row rfl 26 _ rfl a.cells rfl ?_)
  intro w2 b2 x2 z2
  have X2 : Hid (GateAt w2 w.heap.size gi gk) := Lib.hid (Whole.below X1.out b2 X1.out.lt)
  have Y2 : Hid (EntAt w2 w1.heap.size a) := Lib.hid x2
  have B2 := Lib.hid (B1.out.trans (b2.mono B1.out.size))
  obtain ⟨g, hg⟩ : ∃ g, g = w.heap.size := ⟨_, rfl⟩
  rw [← hg] at X2 ⊢
  obtain ⟨x, hx⟩ : ∃ x, x = w1.heap.size := ⟨_, rfl⟩
  rw [← hx] at Y2 ⊢
  clear b2 x2 z2 X1 B1 hg hx
  go_wp2_with fail
  refine (works13 HH.out w2 (T0.out.below B2.out T0.out.pos)).mono ?_
  rintro e w3 ⟨rfl, hb⟩
  have X3 : Hid (GateAt w3 g gi gk) := Lib.hid (Whole.below X2.out hb X2.out.lt)
  have Y3 : Hid (EntAt w3 x a) := Lib.hid (Whole.below Y2.out hb Y2.out.lt)
  have B3 := Lib.hid (B2.out.trans (hb.mono B2.out.size))
  clear hb X2 Y2 B2
  obtain ⟨g0, g1⟩ := X3.out.two
  cases gn with
  | true =>
    go_wp2
    go_ret
    exact ⟨rfl, B3.out⟩
  | false =>
    obtain ⟨a0, a1, a2, a3, a4, a5⟩ := Y3.out.six
    go_wp2_with fail
    refine (CA w3).out.mono ?_
    rintro e w4 ⟨rfl, hb⟩
    have X4 : Hid (GateAt w4 g gi gk) := Lib.hid (Whole.below X3.out hb X3.out.lt)
    have Y4 : Hid (EntAt w4 x a) := Lib.hid (Whole.below Y3.out hb Y3.out.lt)
    have B4 := Lib.hid (B3.out.trans (hb.mono B3.out.size))
    clear hb X3 Y3 B3 CA g0 g1 a0 a1 a2 a3 a4 a5
    cases ga with
    | true =>
      go_wp2
      go_ret
      exact ⟨rfl, B4.out⟩
    | false =>
      have LA := Lib.hid (cut_great HG.out.2.symm)
      have LK := Lib.hid (show gk.length ≤ 4000 by have q := HG.out.1; simp at q; omega)
      clear r0 r0n
      obtain ⟨g0, g1⟩ := X4.out.two
      obtain ⟨a0, a1, a2, a3, a4, a5⟩ := Y4.out.six
      go_wp2_with fail
      refine (HH.out.valid gi gk a ta w4 LK.out LA.out.1 LA.out.2 HI.out (T0.out.below B4.out T0.out.pos)).mono ?_
      rintro e w5 ⟨rfl, hb⟩
      have X5 : Hid (GateAt w5 g gi gk) := Lib.hid (Whole.below X4.out hb X4.out.lt)
      have Y5 : Hid (EntAt w5 x a) := Lib.hid (Whole.below Y4.out hb Y4.out.lt)
      have B5 := Lib.hid (B4.out.trans (hb.mono B4.out.size))
      clear hb X4 Y4 B4 g0 g1 a0 a1 a2 a3 a4 a5
      by_cases hA : validX gi gk a ta = 0
      · obtain ⟨p1, p2, p3, p4, p5⟩ := valid_parts hA
        have P := Lib.hid (And.intro p1 (And.intro p2 (And.intro p3 (And.intro p4 p5))))
        have dA : (validX gi gk a ta != 0) = false := by simp [hA]
        rw [hA]
        obtain ⟨g0, g1⟩ := X5.out.two
        obtain ⟨a0, a1, a2, a3, a4, a5⟩ := Y5.out.six
        have C := Lib.hid (HH.out.check gk a w5 LK.out LA.out.1 LA.out.2 HI.out (T0.out.below B5.out T0.out.pos))
        rw [p3] at C
        have di : (a.index != gi) = false := by simp [p2]
        clear hA p1 p2 p3 p4 p5 dA
        go_wp2_with fail
        refine C.out.mono ?_
        rintro e w6 ⟨rfl, hb⟩
        have X6 : Hid (GateAt w6 g gi gk) := Lib.hid (Whole.below X5.out hb X5.out.lt)
        have Y6 : Hid (EntAt w6 x a) := Lib.hid (Whole.below Y5.out hb Y5.out.lt)
        have B6 := Lib.hid (B5.out.trans (hb.mono B5.out.size))
        clear hb C X5 Y5 B5 g0 g1 a0 a1 a2 a3 a4 a5
        obtain ⟨g0, g1⟩ := X6.out.two
        obtain ⟨a0, a1, a2, a3, a4, a5⟩ := Y6.out.six
        go_wp2_with fail
        refine (HH.out.valid gi gk a tb w6 LK.out LA.out.1 LA.out.2 HI.out (T0.out.below B6.out T0.out.pos)).mono ?_
        rintro e w7 ⟨rfl, hb⟩
        have X7 : Hid (GateAt w7 g gi gk) := Lib.hid (Whole.below X6.out hb X6.out.lt)
        have Y7 : Hid (EntAt w7 x a) := Lib.hid (Whole.below Y6.out hb Y6.out.lt)
        have B7 := Lib.hid (B6.out.trans (hb.mono B6.out.size))
        clear hb X6 Y6 B6 g0 g1 a0 a1 a2 a3 a4 a5
        clear di
        by_cases hB : validX gi gk a tb = 0
        · obtain ⟨-, -, -, s4, s5⟩ := valid_parts hB
          have P2 := Lib.hid (And.intro s4 s5)
          rw [hB]
          by_cases heq : tb = ta
          · subst heq
            have hm2 : tb ≤ tb := Int.le_refl _
            by_cases h1 : tc < tb
            · have d1 : decide (tc < tb) = true := by simpa using h1
              clear hB s4 s5
              go_wp2
              go_ret
              exact ⟨rfl, B7.out⟩
            have d1 : decide (tc < tb) = false := by simpa using h1
            by_cases h2 : tb < tc
            · have d2 : decide (tb < tc) = true := by simpa using h2
              clear hB s4 s5 h1
              go_wp2
              go_ret
              exact ⟨rfl, B7.out⟩
            have d2 : decide (tb < tc) = false := by simpa using h2
            have hC : validX gi gk a tc = 0 := valid_of P.out.1 P.out.2.1 P.out.2.2.1 (by have := P.out.2.2.2; have := P2.out; omega) (by have := P.out.2.2.2; have := P2.out; omega)
            have C := Lib.hid (HH.out.valid gi gk a tc w7 LK.out LA.out.1 LA.out.2 HI.out (T0.out.below B7.out T0.out.pos))
            rw [hC] at C
            clear hB s4 s5 h1 h2 hC
            obtain ⟨g0, g1⟩ := X7.out.two
            obtain ⟨a0, a1, a2, a3, a4, a5⟩ := Y7.out.six
            go_wp2_with fail
            refine C.out.mono ?_
            rintro e w8 ⟨rfl, hb⟩
            have B8 := Lib.hid (B7.out.trans (hb.mono B7.out.size))
            clear hb C X7 Y7 B7 g0 g1 a0 a1 a2 a3 a4 a5
            go_wp2
            go_ret
            exact ⟨rfl, B8.out⟩
          by_cases hm : ta < tb
          · have hm2 : ta ≤ tb := by omega
            have hm3 : ¬ tb ≤ ta := by omega
            by_cases h1 : tc < ta
            · have d1 : decide (tc < ta) = true := by simpa using h1
              clear hB s4 s5
              go_wp2
              go_ret
              exact ⟨rfl, B7.out⟩
            have d1 : decide (tc < ta) = false := by simpa using h1
            by_cases h2 : tb < tc
            · have d2 : decide (tb < tc) = true := by simpa using h2
              clear hB s4 s5 h1
              go_wp2
              go_ret
              exact ⟨rfl, B7.out⟩
            have d2 : decide (tb < tc) = false := by simpa using h2
            have hC : validX gi gk a tc = 0 := valid_of P.out.1 P.out.2.1 P.out.2.2.1 (by have := P.out.2.2.2; have := P2.out; omega) (by have := P.out.2.2.2; have := P2.out; omega)
            have C := Lib.hid (HH.out.valid gi gk a tc w7 LK.out LA.out.1 LA.out.2 HI.out (T0.out.below B7.out T0.out.pos))
            rw [hC] at C
            clear hB s4 s5 h1 h2 hC
            obtain ⟨g0, g1⟩ := X7.out.two
            obtain ⟨a0, a1, a2, a3, a4, a5⟩ := Y7.out.six
            go_wp2_with fail
            refine C.out.mono ?_
            rintro e w8 ⟨rfl, hb⟩
            have B8 := Lib.hid (B7.out.trans (hb.mono B7.out.size))
            clear hb C X7 Y7 B7 g0 g1 a0 a1 a2 a3 a4 a5
            go_wp2
            go_ret
            exact ⟨rfl, B8.out⟩
          · have hm2 : ¬ ta ≤ tb := by omega
            have hm3 : tb ≤ ta := by omega
            by_cases h1 : tc < tb
            · have d1 : decide (tc < tb) = true := by simpa using h1
              clear hB s4 s5
              go_wp2
              go_ret
              exact ⟨rfl, B7.out⟩
            have d1 : decide (tc < tb) = false := by simpa using h1
            by_cases h2 : ta < tc
            · have d2 : decide (ta < tc) = true := by simpa using h2
              clear hB s4 s5 h1
              go_wp2
              go_ret
              exact ⟨rfl, B7.out⟩
            have d2 : decide (ta < tc) = false := by simpa using h2
            have hC : validX gi gk a tc = 0 := valid_of P.out.1 P.out.2.1 P.out.2.2.1 (by have := P.out.2.2.2; have := P2.out; omega) (by have := P.out.2.2.2; have := P2.out; omega)
            have C := Lib.hid (HH.out.valid gi gk a tc w7 LK.out LA.out.1 LA.out.2 HI.out (T0.out.below B7.out T0.out.pos))
            rw [hC] at C
            clear hB s4 s5 h1 h2 hC
            obtain ⟨g0, g1⟩ := X7.out.two
            obtain ⟨a0, a1, a2, a3, a4, a5⟩ := Y7.out.six
            go_wp2_with fail
            refine C.out.mono ?_
            rintro e w8 ⟨rfl, hb⟩
            have B8 := Lib.hid (B7.out.trans (hb.mono B7.out.size))
            clear hb C X7 Y7 B7 g0 g1 a0 a1 a2 a3 a4 a5
            go_wp2
            go_ret
            exact ⟨rfl, B8.out⟩
        · have dB : (validX gi gk a tb != 0) = true := by simp [hB]
          obtain ⟨V, hV⟩ : ∃ V, V = validX gi gk a tb := ⟨_, rfl⟩
          rw [← hV] at dB ⊢
          clear hB hV
          go_wp2
          go_ret
          exact ⟨rfl, B7.out⟩
      · have dA : (validX gi gk a ta != 0) = true := by simp [hA]
        obtain ⟨V, hV⟩ : ∃ V, V = validX gi gk a ta := ⟨_, rfl⟩
        rw [← hV] at dA ⊢
        clear hA hV
        go_wp2
        go_ret
        exact ⟨rfl, B5.out⟩
end Go.Proofs.YtghehomcabckcaaDoor
