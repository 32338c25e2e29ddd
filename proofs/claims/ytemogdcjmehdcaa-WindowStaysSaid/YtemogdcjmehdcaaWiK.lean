/- The document's Mark of layer 20. -/
import Derived.Test.YtemogdcjmehdcaaWiF
namespace Go.Proofs.Ytemogdcjmehdcaa
set_option maxRecDepth 100000
open Go.RowKit

/-- The young bits when k of the old ones were handled. -/
def youngL (W : Win) (up k : Nat) : List Bool := (List.range 128).map fun j => decide (up ≤ j) && (decide (j < up + k) && W.bit (j - up))
theorem youngL_length (W : Win) (up k : Nat) : (youngL W up k).length = 128 := by simp [youngL]
theorem youngL_at (W : Win) (up k j : Nat) (hj : j < 128) : (youngL W up k)[j]? = some (decide (up ≤ j) && (decide (j < up + k) && W.bit (j - up))) := by
  simp [youngL, List.getElem?_range hj]
theorem bools_ext (l m : List Bool) (hl : l.length = 128) (hm : m.length = 128) (h : ∀ j, j < 128 → l[j]? = m[j]?) : l = m := by
  apply List.ext_getElem?
  intro j
  by_cases hj : j < 128
  · exact h j hj
  · rw [List.getElem?_eq_none (by omega), List.getElem?_eq_none (by omega)]
theorem young_zero (W : Win) (up : Nat) : List.replicate 128 false = youngL W up 0 := by
  refine bools_ext _ _ (by simp) (youngL_length _ _ _) fun j hj => ?_
  rw [youngL_at W up 0 j hj, List.getElem?_replicate, if_pos hj]
  congr 1
  by_cases h : up ≤ j
  · have : ¬ j < up := by omega
    simp [this]
  · simp [h]
theorem young_set (W : Win) (up k : Nat) : (youngL W up k).set (k + up) (W.bit k) = youngL W up (k + 1) := by
  refine bools_ext _ _ (by simp [youngL_length]) (youngL_length _ _ _) fun j hj => ?_
  rw [youngL_at W up (k + 1) j hj, List.getElem?_set, youngL_length]
  by_cases e : k + up = j
  · rw [if_pos e, if_pos (by omega)]
    have e2 : j - up = k := by omega
    have e3 : up ≤ j := by omega
    have e4 : j < up + (k + 1) := by omega
    simp [e2, e3, e4]
  · rw [if_neg e, youngL_at W up k j hj]
    have e2 : (j < up + k) ↔ (j < up + (k + 1)) := by omega
    simp only [e2]
theorem young_far (W : Win) (up k : Nat) (h : 128 ≤ up + k) : youngL W up k = youngL W up (k + 1) := by
  refine bools_ext _ _ (youngL_length _ _ _) (youngL_length _ _ _) fun j hj => ?_
  rw [youngL_at W up (k + 1) j hj, youngL_at W up k j hj]
  have e2 : j < up + k := by omega
  have e3 : j < up + (k + 1) := by omega
  simp [e2, e3]
theorem young_mark (W : Win) (up s i : Nat) (hs : s < 128) (hi : i < 128) : ((youngL W up 128).set s true)[i]? = some (W.moved up s i) := by
  rw [List.getElem?_set, youngL_length, youngL_at W up 128 i hi, Win.moved]
  by_cases e : s = i
  · subst e
    simp [hs]
  · rw [if_neg e]
    have e1 : ¬ i = s := fun h => e h.symm
    have e2 : i < up + 128 := by omega
    simp [e1, e2]
theorem WinAt.top {w : World} {g : Nat} {W : Win} (h : WinAt w g W) (n : Int) : WinAt (w.setCell ⟨g, 0, none⟩ (.int .i64 n)) g ⟨n, W.low, W.high⟩ := h.stored 0 _
theorem fresh_zero {W : Win} {n : Int} (h : freshX W n = 0) : 1 ≤ n ∧ n ≤ 1073741824 ∧ 0 ≤ W.top ∧ W.top ≤ 1073741824 ∧ W.top - n ≤ 127 := by
  rw [freshX] at h
  split at h
  · omega
  split at h
  · omega
  split at h
  · omega
  omega

set_option maxRecDepth 100000 in
set_option maxHeartbeats 1000000 in
theorem refMark_any (W : Win) (hok : W.ok) (n : Int) (w : World) :
    Calls Try.prog 9 #[W.val, .int .i64 n] w fun e w' => e = .returned (markW W n).val ∧ Below w.heap.size w w' := by
  have CF := Lib.hid (fun w => refFresh_any W hok n w)
  have CB := Lib.hid (fun w => refBits_any W hok w)
  have hv : W.val = .agg W.cells := rfl
  obtain ⟨M, hM⟩ : ∃ M, M = markW W n := ⟨_, rfl⟩
  have HM0 : Hid (freshX W n ≠ 0 → M = W) := Lib.hid (fun h => by rw [hM, markW, if_pos h])
  have HM1 : Hid (freshX W n = 0 → M = ⟨max W.top n, num64 (W.moved (n - W.top).toNat (W.top - n).toNat), num64 fun i => W.moved (n - W.top).toNat (W.top - n).toNat (64 + i)⟩) := Lib.hid (fun h => by rw [hM, markW, if_neg (by simp [h])])
  have HZ0 : Hid (freshX W n = 0 → 1 ≤ n ∧ n ≤ 1073741824 ∧ 0 ≤ W.top ∧ W.top ≤ 1073741824 ∧ W.top - n ≤ 127) := Lib.hid (fun h => fresh_zero h)
  obtain ⟨X, hX⟩ : ∃ X, X = freshX W n := ⟨_, rfl⟩
  simp only [← hX] at CF HM0 HM1 HZ0
  rw [← hM, hv]
  clear hX hM hv hok
  go_enter Try.func9, Try.ntmps9
  go_wp2_with (refine wpList_box_row rfl 24 (.tmp 0) rfl W.cells rfl ?_)
  intro w1 b1 x1 z1
  have X1 : Hid (WinAt w1 w.heap.size W) := Lib.hid x1
  have B1 := Lib.hid b1
  clear b1 x1 z1
  go_wp2_with (refine wpList_alloc_row rfl 24 rfl win0.cells win_zero ?_)
  intro w2 b2 x2 z2
  have X2 : Hid (WinAt w2 w.heap.size W) := Lib.hid (Whole.below X1.out b2 X1.out.lt)
  have R2 : Hid (Whole w2 w1.heap.size 24 win0.cells) := Lib.hid x2
  have B2 := Lib.hid (B1.out.trans (b2.mono B1.out.size))
  have Z2 := Lib.hid (And.intro B1.out.size X1.out.lt)
  obtain ⟨g, hg⟩ : ∃ g, g = w.heap.size := ⟨_, rfl⟩
  have GG := Lib.hid hg
  rw [← hg] at X2 Z2 ⊢
  obtain ⟨x, hx⟩ : ∃ x, x = w1.heap.size := ⟨_, rfl⟩
  rw [← hx] at R2 Z2 ⊢
  clear b2 x2 z2 X1 B1 hg hx
  go_wp2_with (with_reducible refine wpList_load_win rfl _ rfl g (by with_unfolding_all exact rfl) W X2.out ?_)
  refine (CF.out w2).mono ?_
  rintro e w3 ⟨rfl, b3⟩
  have X3 : Hid (WinAt w3 g W) := Lib.hid (Whole.below X2.out b3 X2.out.lt)
  have R3 : Hid (Whole w3 x 24 win0.cells) := Lib.hid (Whole.below R2.out b3 R2.out.lt)
  have B3 := Lib.hid (B2.out.trans (b3.mono B2.out.size))
  clear b3 X2 R2 B2 CF
  by_cases hX : X = 0
  case neg =>
    have e1 : (X == 0) = false := by simpa using hX
    have e2 : (X != 0) = true := by simpa using hX
    have HF := Lib.hid (HM0.out hX)
    clear HM0 HM1 HZ0 hX CB
    go_wp2_with (first | (with_reducible refine wpList_load_win rfl _ rfl g (by with_unfolding_all exact rfl) W X3.out ?_) | (with_reducible refine wpList_store_whole rfl 24 _ _ rfl x W.cells (by with_unfolding_all exact rfl) (by with_unfolding_all exact rfl) _ _ R3.out (win_size _) rfl (win_one _) ?_))
    intro w7 g7 x7 z7
    have R7 : Hid (WinAt w7 x W) := Lib.hid x7
    have B7 := Lib.hid (B3.out.grown g7 B3.out.size (fun k hk => by injection hk with hk; have := GG.out; have := Z2.out; omega))
    clear g7 x7 z7 X3 R3 B3
    go_wp2
    exact bodyPost_ret (results_win rfl _ _ _ _ rfl R7.out) rfl ⟨by rw [HF.out], B7.out⟩
  subst hX
  have HF := Lib.hid (HM1.out rfl)
  have HZ := Lib.hid (HZ0.out rfl)
  clear HM0 HM1 HZ0
  go_wp2_with (with_reducible refine wpList_load_win rfl _ rfl g (by with_unfolding_all exact rfl) W X3.out ?_)
  refine (CB.out w3).mono ?_
  rintro e w4 ⟨v4, rfl, o4, b4⟩
  obtain ⟨h, cap, rfl, hc⟩ := Bools.form o4 (by decide)
  have X4 : Hid (WinAt w4 g W) := Lib.hid (Whole.below X3.out b4 X3.out.lt)
  have R4 : Hid (Whole w4 x 24 win0.cells) := Lib.hid (Whole.below R3.out b4 R3.out.lt)
  have B4 := Lib.hid (B3.out.trans (b4.mono B3.out.size))
  have Z4 := Lib.hid (show x < h ∧ h < w4.heap.size from ⟨Nat.lt_of_lt_of_le R3.out.lt (o4.lt _ rfl).1, (o4.lt _ rfl).2⟩)
  have O4 := Lib.hid o4
  clear o4 b4 X3 R3 B3 CB hc
  go_wp2_with (with_reducible refine wpList_make_bools rfl _ _ rfl 128 (by with_unfolding_all exact rfl) (by with_unfolding_all exact rfl) (by decide) ?_)
  intro w5 o5 b5 z5
  have X5 : Hid (WinAt w5 g W) := Lib.hid (Whole.below X4.out b5 X4.out.lt)
  have R5 : Hid (Whole w5 x 24 win0.cells) := Lib.hid (Whole.below R4.out b5 R4.out.lt)
  have B5 := Lib.hid (B4.out.trans (b5.mono B4.out.size))
  have O5 : Hid (Bools w5 w3.heap.size (.slice (some ⟨h, 0, none⟩) 128 cap) 128 (bitsL W)) := Lib.hid (kept_below O4.out b5 rfl)
  obtain ⟨y, hy⟩ : ∃ y, y = w4.heap.size := ⟨_, rfl⟩
  rw [← hy] at Z4 o5 ⊢
  have Y5 : Hid (Bools w5 y (.slice (some ⟨y, 0, none⟩) 128 128) 128 (List.replicate 128 false)) := Lib.hid o5
  clear o5 b5 z5 X4 R4 B4 O4 hy
  obtain ⟨up, hup⟩ : ∃ up, up = (n - W.top).toNat := ⟨_, rfl⟩
  obtain ⟨s, hs⟩ : ∃ s, s = (W.top - n).toNat := ⟨_, rfl⟩
  obtain ⟨T, hT⟩ : ∃ T, T = max W.top n := ⟨_, rfl⟩
  rw [← hup, ← hs, ← hT] at HF
  obtain ⟨c0, -, -⟩ := WinAt.three X5.out
  have S1 : Hid (s < 128 ∧ T - n = (s : Int) ∧ up ≤ 1073741824) := Lib.hid (by have := HZ.out; omega)
  have Y6 : Hid (Bools w5 y (.slice (some ⟨y, 0, none⟩) 128 128) 128 (youngL W up 0)) := Lib.hid (by rw [← young_zero]; exact Y5.out)
  by_cases hn : W.top < n
  case' pos =>
    have d1 : decide (W.top < n) = true := by simpa using hn
    have r1 : IntKind.i64.wrap (n - W.top) = (up : Int) := by have := HZ.out; rw [IntWalk.i64_in _ (by omega)]; omega
    have hT2 : T = n := by omega
    have f0 := X5.out.free 0
    have X6 : Hid (WinAt (w5.setCell ⟨g, 0, none⟩ (.int .i64 n)) g ⟨T, W.low, W.high⟩) := Lib.hid (by rw [hT2]; exact X5.out.top n)
    have R6 : Hid (Whole (w5.setCell ⟨g, 0, none⟩ (.int .i64 n)) x 24 win0.cells) := Lib.hid (R5.out.far (by have := Z2.out; simp; omega) _)
    have B6 : Hid (Below w.heap.size w (w5.setCell ⟨g, 0, none⟩ (.int .i64 n))) := Lib.hid (B5.out.grown (grown_store w5 g 0 _) B5.out.size (fun k hk => by injection hk with hk; have := GG.out; omega))
    have O6 : Hid (Bools (w5.setCell ⟨g, 0, none⟩ (.int .i64 n)) w3.heap.size (.slice (some ⟨h, 0, none⟩) 128 cap) 128 (bitsL W)) := Lib.hid (O5.out.kept (grown_store w5 g 0 _) (.inr (by simp [Value.ownBlock]; have := Z2.out; have := Z4.out; omega)))
    have Y7 : Hid (Bools (w5.setCell ⟨g, 0, none⟩ (.int .i64 n)) y (.slice (some ⟨y, 0, none⟩) 128 128) 128 (youngL W up 0)) := Lib.hid (Y6.out.kept (grown_store w5 g 0 _) (.inr (by simp [Value.ownBlock]; have := Z2.out; have := Z4.out; omega)))
    have U0 : Hid (Value.int .i64 0 = .int .i64 ((0 : Nat) : Int)) := Lib.hid rfl
    clear hup hs hT hn HZ hT2 X5 R5 B5 O5 Y5 Y6
    go_wp2_with fail
    clear d1 r1 f0 c0
    generalize w5.setCell ⟨g, 0, none⟩ (.int .i64 n) = wA at *
  case' neg =>
    have d1 : decide (W.top < n) = false := by simpa using hn
    have hT2 : T = W.top := by omega
    have hup2 : up = 0 := by omega
    have X6 : Hid (WinAt w5 g ⟨T, W.low, W.high⟩) := Lib.hid (by rw [hT2]; exact X5.out)
    have R6 := R5
    have B6 := B5
    have O6 := O5
    have Y7 := Y6
    have V0 : Hid (Value.int .i64 0 = .int .i64 (up : Int)) := Lib.hid (by rw [hup2]; rfl)
    have U0 : Hid (Value.int .i64 (up : Int) = .int .i64 ((0 : Nat) : Int)) := Lib.hid (by rw [hup2])
    clear hup hup2 hs hT hn HZ hT2 X5 R5 B5 O5 Y5 Y6
    go_wp2_with fail
    clear d1 c0
    rw [V0.out]
    clear V0
    generalize w5 = wA at *
  all_goals
    go_loopw [8] (fun i wr => ∃ k : Nat, k ≤ 128 ∧ i = .int .i64 (k : Int) ∧ WinAt wr g ⟨T, W.low, W.high⟩ ∧ Whole wr x 24 win0.cells ∧ Bools wr w3.heap.size (.slice (some ⟨h, 0, none⟩) 128 cap) 128 (bitsL W) ∧ Bools wr y (.slice (some ⟨y, 0, none⟩) 128 128) 128 (youngL W up k) ∧ Below w.heap.size w wr) (fun i _ => 128 - (intOf i).toNat)
    case atStart => exact ⟨0, Nat.zero_le _, U0.out, X6.out, R6.out, O6.out, Y7.out, B6.out⟩
    case round =>
      obtain ⟨k, hk, rfl, hx, hr, ho, hy, hb⟩ := hrel
      have HX := Lib.hid hx
      have HR := Lib.hid hr
      have HO := Lib.hid ho
      have HY := Lib.hid hy
      have HB := Lib.hid hb
      clear hx hr ho hy hb X6 R6 O6 Y7 B6 U0
      by_cases hlt : k < 128
      · have dk : decide ((k : Int) < 128) = true := by simp; omega
        obtain ⟨m, hm⟩ : ∃ m, m = 128 - k := ⟨_, rfl⟩
        have r2 : IntKind.i64.wrap (128 - (k : Int)) = (m : Int) := by rw [IntWalk.i64_in _ (by omega)]; omega
        by_cases hu : up + k < 128
        · have d2 : decide ((up : Int) < (m : Int)) = true := by simp; omega
          have d3 : decide (up < m) = true := by simp; omega
          obtain ⟨z, hz⟩ : ∃ z, z = k + up := ⟨_, rfl⟩
          have r3 : IntKind.i64.wrap ((k : Int) + (up : Int)) = (z : Int) := by rw [IntWalk.i64_in _ (by omega)]; omega
          have c := HO.out.cell k _ (bitsL_at W k hlt)
          have ki : (k : Int) < 128 := by omega
          have zi : (z : Int) < 128 := by omega
          have zn : z < 128 := by omega
          have HS : Hid ((youngL W up k).set z (W.bit k) = youngL W up (k + 1)) := Lib.hid (by rw [hz]; exact young_set W up k)
          clear hm hz hu
          go_wp2_with (with_reducible refine wpList_put_bool rfl _ _ rfl y y z 128 128 ?hx (W.bit k) ?hy _ HY.out ?hi ?_)
          case hx => exact rfl
          case hy => exact rfl
          case hi => exact zn
          intro w7 g7 o7 z7
          rw [HS.out] at o7
          have X7 : Hid (WinAt w7 g ⟨T, W.low, W.high⟩) := Lib.hid (Whole.grown HX.out g7 (fun k => by injection k with k; have := Z2.out; have := Z4.out; omega))
          have R7 : Hid (Whole w7 x 24 win0.cells) := Lib.hid (Whole.grown HR.out g7 (fun k => by injection k with k; have := Z4.out; omega))
          have O7 : Hid (Bools w7 w3.heap.size (.slice (some ⟨h, 0, none⟩) 128 cap) 128 (bitsL W)) := Lib.hid (HO.out.kept g7 (.inr (by simp [Value.ownBlock]; have := Z4.out; omega)))
          have Y8 := Lib.hid o7
          have B7 := Lib.hid (HB.out.grown g7 HB.out.size (fun k hk => by injection hk with hk; have := GG.out; have := Z2.out; have := Z4.out; omega))
          clear o7 g7 z7 HX HR HO HY HB c r2 r3
          go_wp2_with fail
          exact ⟨⟨k + 1, by omega, by go_num, X7.out, R7.out, O7.out, Y8.out, B7.out⟩, by simp [intOf]; omega⟩
        · have d2 : decide ((up : Int) < (m : Int)) = false := by simp; omega
          have d3 : decide (up < m) = false := by simp; omega
          have HS := Lib.hid (young_far W up k (by omega))
          rw [HS.out] at HY
          clear hm hu
          go_wp2_with fail
          exact ⟨⟨k + 1, by omega, by go_num, HX.out, HR.out, HO.out, HY.out, HB.out⟩, by simp [intOf]; omega⟩
      · obtain rfl : k = 128 := by omega
        have c0 : wr.cell? ⟨g, 0, none⟩ = some (.int .i64 T) := (WinAt.three HX.out).1
        have r4 : IntKind.i64.wrap (T - n) = (s : Int) := by have := S1.out; rw [IntWalk.i64_in _ (by omega)]; omega
        have sn := S1.out.1
        have si : (s : Int) < 128 := by omega
        clear hk hlt
        go_wp2_with (with_reducible refine wpList_put_bool rfl _ _ rfl y y s 128 128 ?hx true ?hy _ HY.out ?hi ?_)
        case hx => exact rfl
        case hy => exact rfl
        case hi => exact sn
        intro w7 g7 o7 z7
        have X7 : Hid (WinAt w7 g ⟨T, W.low, W.high⟩) := Lib.hid (Whole.grown HX.out g7 (fun k => by injection k with k; have := Z2.out; have := Z4.out; omega))
        have R7 : Hid (Whole w7 x 24 win0.cells) := Lib.hid (Whole.grown HR.out g7 (fun k => by injection k with k; have := Z4.out; omega))
        have Y8 := Lib.hid o7
        have B7 := Lib.hid (HB.out.grown g7 HB.out.size (fun k hk => by injection hk with hk; have := GG.out; have := Z2.out; have := Z4.out; omega))
        have HL0 : Hid (∀ i, i < 64 → ((youngL W up 128).set s true)[0 + i]? = some (W.moved up s i)) := Lib.hid (fun i hi => by rw [Nat.zero_add]; exact young_mark W up s i sn (by omega))
        have HL1 : Hid (∀ i, i < 64 → ((youngL W up 128).set s true)[64 + i]? = some (W.moved up s (64 + i))) := Lib.hid (fun i hi => young_mark W up s (64 + i) sn (by omega))
        generalize (youngL W up 128).set s true = L at *
        clear o7 g7 z7 HX HR HO HY HB c0 r4 sn si
        go_wp2_with fail
        have CN0 : Hid (∀ w', Bools w' y (.slice (some ⟨y, 0, none⟩) 128 128) 128 L → Calls Try.prog 19 #[.slice (some ⟨y, 0, none⟩) 128 128, .int .i64 0] w' fun e w'' => e = .returned (.int .u64 (num64 (W.moved up s) : Int)) ∧ w' = w'') := Lib.hid (fun w' hw' => refNumber_any y 128 y 0 L (W.moved up s) w' hw' (by decide) HL0.out)
        have CN1 : Hid (∀ w', Bools w' y (.slice (some ⟨y, 0, none⟩) 128 128) 128 L → Calls Try.prog 19 #[.slice (some ⟨y, 0, none⟩) 128 128, .int .i64 64] w' fun e w'' => e = .returned (.int .u64 (num64 (fun i => W.moved up s (64 + i)) : Int)) ∧ w' = w'') := Lib.hid (fun w' hw' => refNumber_any y 128 y 64 L (fun i => W.moved up s (64 + i)) w' hw' (by decide) HL1.out)
        have HF2 := HF
        generalize num64 (W.moved up s) = lo at CN0 HF2
        generalize num64 (fun i => W.moved up s (64 + i)) = hi at CN1 HF2
        have b8 : Below w7.heap.size w7 w7.drew := (Below.refl _ _).drew
        have hS : WinAt w7.drew g ⟨T, W.low, W.high⟩ := Whole.below X7.out b8 X7.out.lt
        have R8 : Hid (Whole w7.drew x 24 win0.cells) := Lib.hid (Whole.below R7.out b8 R7.out.lt)
        have Y9 : Hid (Bools w7.drew y (.slice (some ⟨y, 0, none⟩) 128 128) 128 L) := Lib.hid (kept_below Y8.out b8 rfl)
        have B8 := Lib.hid (B7.out.trans (b8.mono B7.out.size))
        refine regS_begin (fun w' => WinAt w' g ⟨T, W.low, W.high⟩) (by kernel_rfl) hS ?_
        clear b8 X7 R7 Y8 B7 HL0 HL1
        generalize w7.drew = w8 at *
        refine regS_take (i := 0) (v := ?_) rfl (by kernel_rfl) (by kernel_rfl) (by kernel_rfl) (fun _ _ _ h => h) (by rfl) hS ?hy0 ?_
        case hy0 => intro w' hw'; go_simp; (try with_reducible rfl)
        simp only [Act.put, List.setIfInBounds_toArray, List.set_cons_zero, List.set_cons_succ]
        refine regS_take (i := 2) (v := ?_) rfl (by kernel_rfl) (by kernel_rfl) (by kernel_rfl) (fun _ _ _ h => h) (by rfl) hS ?hy2 ?_
        case hy2 => intro w' hw'; go_simp; (try with_reducible rfl)
        simp only [Act.put, List.setIfInBounds_toArray, List.set_cons_zero, List.set_cons_succ]
        refine regS_take (i := 4) (v := ?_) rfl (by kernel_rfl) (by kernel_rfl) (by kernel_rfl) (fun _ _ _ h => h) (by rfl) hS ?hy4 ?_
        case hy4 => intro w' hw'; go_simp; (try with_reducible rfl)
        simp only [Act.put, List.setIfInBounds_toArray, List.set_cons_zero, List.set_cons_succ]
        refine regS_take (i := 1) (v := .int .i64 T) rfl (by kernel_rfl) (by kernel_rfl) (by kernel_rfl) (fun _ _ _ h => h) (by rfl) hS ?hy1 ?_
        case hy1 => intro w' hw'; have c : w'.cell? ⟨g, 0, none⟩ = some (.int .i64 T) := (WinAt.three hw').1; go_simp; (try with_reducible rfl)
        simp only [Act.put, List.setIfInBounds_toArray, List.set_cons_zero, List.set_cons_succ]
        refine regS_do (i := 3) rfl (by kernel_rfl) (fun K' hK => ?_)
        go_simp
        refine (CN0.out w8 Y9.out).mono ?_
        rintro e w9 ⟨rfl, rfl⟩
        refine hK.out _ _ hS ?_
        clear hK K'
        refine regS_do (i := 5) rfl (by kernel_rfl) (fun K' hK => ?_)
        go_simp
        refine (CN1.out w8 Y9.out).mono ?_
        rintro e w9 ⟨rfl, rfl⟩
        refine hK.out _ _ hS ?_
        clear hK K'
        refine regS_take (i := 6) (v := ?_) rfl (by kernel_rfl) (by kernel_rfl) (by kernel_rfl) (fun _ _ _ h => h) (by rfl) hS ?hy6 ?_
        case hy6 => intro w' hw'; go_simp; (try with_reducible rfl)
        simp only [Act.put, List.setIfInBounds_toArray, List.set_cons_zero, List.set_cons_succ]
        refine regS_do (i := 7) rfl (by kernel_rfl) (fun K' hK => ?_)
        rw [if_pos (by rfl)]
        refine wp_store_whole 24 _ _ rfl x (Win.cells ⟨T, lo, hi⟩) rfl rfl _ _ R8.out (win_size _) rfl (win_one _) ?_
        intro w9 g9 x9 z9
        have X9 : WinAt w9 g ⟨T, W.low, W.high⟩ := Whole.grown hS g9 (fun k => by injection k with k; have := Z2.out; omega)
        have R9 : Hid (WinAt w9 x ⟨T, lo, hi⟩) := Lib.hid x9
        have B9 := Lib.hid (B8.out.grown g9 B8.out.size (fun k hk => by injection hk with hk; have := GG.out; have := Z2.out; omega))
        refine hK.out _ _ X9 ?_
        clear hK K' g9 x9 z9 X9 hS R8 Y9 B8 CN0 CN1
        simp only [Act.put]
        refine regS_end (by kernel_rfl) ?_
        go_wp2
        exact bodyPost_ret (results_win rfl _ _ _ _ rfl R9.out) rfl ⟨by rw [HF2.out], B9.out⟩
end Go.Proofs.Ytemogdcjmehdcaa
