/- The document's Fresh and Seen of layer 20. -/
import Derived.Test.YtemogdcjmehdcaaWiR
import Derived.Test.YtemogdcjmehdcaaGenR
import Derived.Deep.DeepCutAuto
import Derived.ChangeAlike
namespace Go.Proofs.Ytemogdcjmehdcaa
set_option maxRecDepth 100000
open Go.RowKit

set_option maxRecDepth 100000 in
set_option maxHeartbeats 1000000 in
theorem refFresh_any (W : Win) (hok : W.ok) (n : Int) (w : World) :
    Calls Try.prog 7 #[W.val, .int .i64 n] w fun e w' => e = .returned (.int .i64 (freshX W n)) ∧ Below w.heap.size w w' := by
  have CB := Lib.hid (fun w => refBits_any W hok w)
  have hv : W.val = .agg W.cells := rfl
  have HX : Hid (freshX W n = if n < 1 ∨ 1073741824 < n ∨ W.top < 0 ∨ 1073741824 < W.top then 2 else if W.top < n then 0 else if 127 < W.top - n then 23 else if W.bit (W.top - n).toNat = true then 22 else 0) := Lib.hid rfl
  obtain ⟨X, hX⟩ : ∃ X, X = freshX W n := ⟨_, rfl⟩
  rw [← hX] at HX ⊢
  rw [hv]
  clear hX hv hok
  go_enter Try.func7, Try.ntmps7
  go_wp2_with (refine wpList_box_row rfl 24 (.tmp 0) rfl W.cells rfl ?_)
  intro w1 b1 x1 z1
  have X1 : Hid (WinAt w1 w.heap.size W) := Lib.hid x1
  have B1 := Lib.hid b1
  obtain ⟨g, hg⟩ : ∃ g, g = w.heap.size := ⟨_, rfl⟩
  rw [← hg] at X1 ⊢
  clear b1 x1 z1 hg
  obtain ⟨c0, -, -⟩ := WinAt.three X1.out
  by_cases h1 : n < 1
  · have d1 : decide (n < 1) = true := by simpa using h1
    have HF : Hid (X = 2) := Lib.hid (by rw [HX.out, if_pos (.inl h1)])
    clear h1 HX CB
    go_wp2
    go_ret
    exact ⟨by rw [HF.out]; rfl, B1.out⟩
  have d1 : decide (n < 1) = false := by simpa using h1
  by_cases h2 : 1073741824 < n
  · have d2 : decide (1073741824 < n) = true := by simpa using h2
    have HF : Hid (X = 2) := Lib.hid (by rw [HX.out, if_pos (.inr (.inl h2))])
    clear h1 h2 HX CB
    go_wp2
    go_ret
    exact ⟨by rw [HF.out]; rfl, B1.out⟩
  have d2 : decide (1073741824 < n) = false := by simpa using h2
  by_cases h3 : W.top < 0
  · have d3 : decide (W.top < 0) = true := by simpa using h3
    have HF : Hid (X = 2) := Lib.hid (by rw [HX.out, if_pos (.inr (.inr (.inl h3)))])
    clear h1 h2 h3 HX CB
    go_wp2
    go_ret
    exact ⟨by rw [HF.out]; rfl, B1.out⟩
  have d3 : decide (W.top < 0) = false := by simpa using h3
  by_cases h4 : 1073741824 < W.top
  · have d4 : decide (1073741824 < W.top) = true := by simpa using h4
    have HF : Hid (X = 2) := Lib.hid (by rw [HX.out, if_pos (.inr (.inr (.inr h4)))])
    clear h1 h2 h3 h4 HX CB
    go_wp2
    go_ret
    exact ⟨by rw [HF.out]; rfl, B1.out⟩
  have d4 : decide (1073741824 < W.top) = false := by simpa using h4
  have HX2 : Hid (X = if W.top < n then 0 else if 127 < W.top - n then 23 else if W.bit (W.top - n).toNat = true then 22 else 0) := Lib.hid (by rw [HX.out, if_neg (by omega)])
  clear HX
  by_cases h5 : W.top < n
  · have d5 : decide (W.top < n) = true := by simpa using h5
    have HF : Hid (X = 0) := Lib.hid (by rw [HX2.out, if_pos h5])
    clear h1 h2 h3 h4 h5 HX2 CB
    go_wp2
    go_ret
    exact ⟨by rw [HF.out]; rfl, B1.out⟩
  have d5 : decide (W.top < n) = false := by simpa using h5
  obtain ⟨k, hk⟩ : ∃ k, k = (W.top - n).toNat := ⟨_, rfl⟩
  have hk2 : W.top - n = (k : Int) := by omega
  have r1 : IntKind.i64.wrap (W.top - n) = (k : Int) := by rw [IntWalk.i64_in _ (by omega)]; exact hk2
  have HX3 : Hid (X = if 127 < (k : Int) then 23 else if W.bit k = true then 22 else 0) := Lib.hid (by rw [HX2.out, if_neg h5, hk2]; simp)
  clear HX2 h1 h2 h3 h4 h5 hk hk2
  by_cases h6 : 127 < (k : Int)
  · have d6 : decide (127 < (k : Int)) = true := by simpa using h6
    have HF : Hid (X = 23) := Lib.hid (by rw [HX3.out, if_pos h6])
    clear h6 HX3 CB
    go_wp2
    go_ret
    exact ⟨by rw [HF.out]; rfl, B1.out⟩
  have d6 : decide (127 < (k : Int)) = false := by simpa using h6
  have HX4 : Hid (X = if W.bit k = true then 22 else 0) := Lib.hid (by rw [HX3.out, if_neg h6])
  have K1 := Lib.hid (show k < 128 by omega)
  clear HX3 h6
  go_wp2_with fail
  clear d1 d2 d3 d4 d5 d6 c0
  refine reg_begin (by kernel_rfl) fun w3 hb hz => ?_
  have X3 : Hid (WinAt w3 g W) := Lib.hid (Whole.below X1.out hb X1.out.lt)
  have B3 := Lib.hid (B1.out.trans (hb.mono B1.out.size))
  clear hb hz X1 B1
  refine reg_take (i := 0) (v := W.val) rfl (by kernel_rfl) (by kernel_rfl) (by kernel_rfl) (fun _ _ _ h => h) (by rfl) ?hy0 ?_
  case hy0 => intro w' hw'; exact exec_load_win _ rfl g rfl W w' (Whole.below X3.out hw' X3.out.lt)
  simp only [Act.put, List.setIfInBounds_toArray, List.set_cons_zero, List.set_cons_succ]
  refine reg_take (i := 2) (v := ?_) rfl (by kernel_rfl) (by kernel_rfl) (by kernel_rfl) (fun _ _ _ h => h) (by rfl) ?hy2 ?_
  case hy2 => intro w' hw'; go_simp; (try with_reducible rfl)
  simp only [Act.put, List.setIfInBounds_toArray, List.set_cons_zero, List.set_cons_succ]
  refine reg_take (i := 3) (v := .int .i64 W.top) rfl (by kernel_rfl) (by kernel_rfl) (by kernel_rfl) (fun _ _ _ h => h) (by rfl) ?hy3 ?_
  case hy3 => intro w' hw'; have c := (WinAt.three (Whole.below X3.out hw' X3.out.lt)).1; go_simp; (try with_reducible rfl)
  simp only [Act.put, List.setIfInBounds_toArray, List.set_cons_zero, List.set_cons_succ]
  refine reg_take (i := 4) (v := ?_) rfl (by kernel_rfl) (by kernel_rfl) (by kernel_rfl) (fun _ _ _ h => h) (by rfl) ?hy4 ?_
  case hy4 => intro w' hw'; go_simp; (try with_reducible rfl)
  simp only [Act.put, List.setIfInBounds_toArray, List.set_cons_zero, List.set_cons_succ]
  refine reg_take (i := 5) (v := ?_) rfl (by kernel_rfl) (by kernel_rfl) (by kernel_rfl) (fun _ _ _ h => h) (by rfl) ?hy5 ?_
  case hy5 => intro w' hw'; go_simp; (try with_reducible rfl)
  simp only [Act.put, List.setIfInBounds_toArray, List.set_cons_zero, List.set_cons_succ]
  refine reg_call (i := 1) rfl (by kernel_rfl) (fun K' hK => ?_)
  go_simp
  refine (CB.out w3).mono ?_
  rintro e w4 ⟨v4, rfl, o4, hb⟩
  obtain ⟨g4, cap, rfl, hc⟩ := Bools.form o4 (by decide)
  have c4 : ∀ w', Below w4.heap.size w4 w' → w'.cell? ⟨g4, k, none⟩ = some (.bool (W.bit k)) := fun w' h => Bools.cell (kept_below o4 h rfl) k _ (bitsL_at W k K1.out)
  have B4 := Lib.hid (B3.out.trans (hb.mono B3.out.size))
  refine hK.out _ _ hb ?_
  clear hK K' hb X3 B3 CB o4 r1 hc
  have k1 := K1.out
  have k2 : (k : Int) < 128 := by omega
  refine reg_take (i := 6) (v := ?_) rfl (by kernel_rfl) (by kernel_rfl) (by kernel_rfl) (fun _ _ _ h => h) (by rfl) ?hy6 ?_
  case hy6 => intro w' hw'; go_simp; (try with_reducible rfl)
  simp only [Act.put, List.setIfInBounds_toArray, List.set_cons_zero, List.set_cons_succ]
  refine reg_take (i := 7) (v := .bool (W.bit k)) rfl (by kernel_rfl) (by kernel_rfl) (by kernel_rfl) (fun _ _ _ h => h) (by rfl) ?hy7 ?_
  case hy7 => intro w' hw'; have c := c4 w' hw'; go_simp; (try with_reducible rfl)
  simp only [Act.put, List.setIfInBounds_toArray, List.set_cons_zero, List.set_cons_succ]
  refine reg_end (by kernel_rfl) ?_
  clear c4 k1 k2 K1
  cases hq : W.bit k with
  | true =>
    have HF : Hid (X = 22) := Lib.hid (by rw [HX4.out, if_pos hq])
    clear HX4 hq
    go_wp2
    go_ret
    exact ⟨by rw [HF.out]; rfl, B4.out⟩
  | false =>
    have HF : Hid (X = 0) := Lib.hid (by rw [HX4.out, if_neg (by simp [hq])])
    clear HX4 hq
    go_wp2
    go_ret
    exact ⟨by rw [HF.out]; rfl, B4.out⟩

set_option maxRecDepth 100000 in
set_option maxHeartbeats 1000000 in
theorem refSeen_any (W : Win) (hok : W.ok) (n : Int) (w : World) :
    Calls Try.prog 11 #[W.val, .int .i64 n] w fun e w' => e = .returned (.bool (seenB W n)) ∧ Below w.heap.size w w' := by
  have CF := Lib.hid (fun w => refFresh_any W hok n w)
  have hv : W.val = .agg W.cells := rfl
  obtain ⟨X, hX⟩ : ∃ X, X = freshX W n := ⟨_, rfl⟩
  obtain ⟨q, hq⟩ : ∃ q, q = seenB W n := ⟨_, rfl⟩
  have e1 : (X == 22) = q := by rw [hq, seenB, hX]; by_cases h : freshX W n = 22 <;> simp [h]
  simp only [← hX] at CF
  rw [← hq, hv]
  clear hX hq hv hok
  go_enter Try.func11, Try.ntmps11
  go_wp2_with (refine wpList_box_row rfl 24 (.tmp 0) rfl W.cells rfl ?_)
  intro w1 b1 x1 z1
  have X1 : Hid (WinAt w1 w.heap.size W) := Lib.hid x1
  have B1 := Lib.hid b1
  obtain ⟨g, hg⟩ : ∃ g, g = w.heap.size := ⟨_, rfl⟩
  rw [← hg] at X1 ⊢
  clear b1 x1 z1 hg
  go_wp2_with (with_reducible refine wpList_load_win rfl _ rfl g (by with_unfolding_all exact rfl) W X1.out ?_)
  refine (CF.out w1).mono ?_
  rintro e w2 ⟨rfl, b2⟩
  have B2 := Lib.hid (B1.out.trans (b2.mono B1.out.size))
  clear b2 X1 B1 CF
  go_wp2
  go_ret
  exact ⟨rfl, B2.out⟩
end Go.Proofs.Ytemogdcjmehdcaa
