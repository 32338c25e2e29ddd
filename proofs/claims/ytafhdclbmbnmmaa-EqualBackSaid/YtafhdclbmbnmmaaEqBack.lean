/- EqualBack: bytes are the same just if they are as many, and do not differ; what they differ in, put upon one, is the other one. For every input. -/
import Derived.Test.YtafhdclbmbnmmaaEqC
import Derived.Test.YtafhdclbmbnmmaaGenR
import Derived.Deep.DeepCutAuto
namespace Go.Proofs.Ytafhdclbmbnmmaa
open Go.RowKit Go.ChangeShapes Go.WideShapes Go.ChangeAt

theorem back2_great (A0 A1 : Option Addr) (n0 n1 cap0 cap1 : Nat) (w : World) (hg : 3000 < n0 ∨ 3000 < n1) :
    Calls Try.prog 4 #[.slice A0 n0 cap0, .slice A1 n1 cap1] w fun e w' => e = .returned (.bool true) ∧ Below w.heap.size w w' := by
  by_cases h : 3000 < n0
  · have h3 : decide ((3000 : Int) < (n0 : Int)) = true := by simp; omega
    go_enter Try.func4, Try.ntmps4
    go_wp2_with fail
    refine (works2 w).mono ?_
    rintro e w1 ⟨rfl, hb1⟩
    go_wp2
    go_ret
    exact ⟨rfl, hb1⟩
  · have h3 : decide ((3000 : Int) < (n0 : Int)) = false := by simp; omega
    have h4 : decide ((3000 : Int) < (n1 : Int)) = true := by simp; omega
    clear hg h
    go_enter Try.func4, Try.ntmps4
    go_wp2_with fail
    refine (works2 w).mono ?_
    rintro e w1 ⟨rfl, hb1⟩
    go_wp2
    go_ret
    exact ⟨rfl, hb1⟩

/-- The first test's two sides are alike. -/
theorem back2_test (l0 l1 : List UInt8) (h : l0.length = l1.length) : decide (l0 = l1) = decide (∀ c ∈ xorL l0 l1, c = 0) := by
  rw [Bool.eq_iff_iff]
  simp only [decide_eq_true_eq]
  exact (xorL_zero l0 l1 h).symm

set_option maxHeartbeats 4000000 in
set_option maxRecDepth 100000 in
theorem back2_small (A0 A1 : Option Addr) (l0 l1 : List UInt8) (cap0 cap1 : Nat) (w : World) (h0 : BytesAt w (.slice A0 l0.length cap0) l0) (h1 : BytesAt w (.slice A1 l1.length cap1) l1) (hl0 : l0.length ≤ 3000) (hl1 : l1.length ≤ 3000) :
    Calls Try.prog 4 #[.slice A0 l0.length cap0, .slice A1 l1.length cap1] w fun e w' => e = .returned (.bool true) ∧ Below w.heap.size w w' := by
  have H0 := Lib.hid h0
  have H1 := Lib.hid h1
  have hc0 := h0.size.2
  have hc1 := h1.size.2
  clear h0 h1
  have d0 : decide ((3000 : Int) < (l0.length : Int)) = false := by simp; omega
  have d1 : decide ((3000 : Int) < (l1.length : Int)) = false := by simp; omega
  obtain ⟨n, hn⟩ : ∃ n, n = min l0.length l1.length := ⟨_, rfl⟩
  have hn0 : n ≤ l0.length := by omega
  have hn1 : n ≤ l1.length := by omega
  have hxl : (xorL l0 l1).length = n := by rw [xorL_length, hn]
  have HL0 : Hid (xorL (xorL l0 l1) (l0.take n) = l1.take n) := by rw [hn]; exact xorL_back_left l0 l1
  have HL1 : Hid (xorL (xorL l0 l1) (l1.take n) = l0.take n) := by rw [hn]; exact xorL_back_right l0 l1
  have HXL := Lib.hid hxl
  have HN := Lib.hid hn
  clear hxl hn
  obtain ⟨T0, hT0⟩ : ∃ T, T = l0.take n := ⟨_, rfl⟩
  obtain ⟨T1, hT1⟩ : ∃ T, T = l1.take n := ⟨_, rfl⟩
  have F0 : Hid (∀ W, BytesAt W (.slice A0 l0.length cap0) l0 → BytesAt W (.slice A0 n cap0) T0) := by rw [hT0]; exact fun W h => h.first n hn0
  have F1 : Hid (∀ W, BytesAt W (.slice A1 l1.length cap1) l1 → BytesAt W (.slice A1 n cap1) T1) := by rw [hT1]; exact fun W h => h.first n hn1
  rw [← hT0, ← hT1] at HL0 HL1
  have hz0 : T0.length ≤ 3000 := by rw [hT0]; simp; omega
  have hz1 : T1.length ≤ 3000 := by rw [hT1]; simp; omega
  have hlx : (xorL l0 l1).length ≤ 3000 := by rw [HXL.out]; omega
  have HZ : Hid (l0.length = l1.length → ∀ v W, BytesAt W v (xorL l0 l1) → Calls Try.prog 9 #[v] W fun e w' => e = .returned (.bool (decide (l0 = l1))) ∧ W = w') := by
    intro h v W hy
    rw [back2_test l0 l1 h]
    exact zero_any _ _ W hy (by omega)
  have HE : Hid (l0.length ≠ l1.length → decide (l0 = l1) = false) := by
    intro h
    rw [decide_eq_false_iff_not]
    rintro rfl
    exact h rfl
  have HBy : Hid (∀ W, BytesAt W (.slice A0 l0.length cap0) l0 → BytesAt W (.slice A1 l1.length cap1) l1 → Calls Try.prog 7 #[.slice A0 l0.length cap0, .slice A1 l1.length cap1] W fun e w' => e = .returned (.bool (decide (l0 = l1))) ∧ Below W.heap.size W w') := fun W h h' => bytes_any _ _ l0 l1 W h h' (by omega) (by omega)
  generalize decide (l0 = l1) = z at *
  have HXo : Hid (∀ W, BytesAt W (.slice A0 l0.length cap0) l0 → BytesAt W (.slice A1 l1.length cap1) l1 → Calls Try.prog 13 #[.slice A0 l0.length cap0, .slice A1 l1.length cap1] W fun e w' => ∃ v', e = .returned v' ∧ BytesAt w' v' (xorL l0 l1) ∧ Below W.heap.size W w') := fun W h h' => xor_any _ _ l0 l1 W h h' (by omega) (by omega)
  generalize xorL l0 l1 = X at *
  have hcmp : (l0.length = l1.length ∧ n = l0.length) ∨ (l0.length < l1.length ∧ n = l0.length) ∨ (l1.length < l0.length ∧ n = l1.length) := by
    have := HN.out
    omega
  have HC := Lib.hid hcmp
  clear hcmp hT0 hT1 HN HXL
  go_enter Try.func4, Try.ntmps4
  go_wp2_with fail
  refine (works2 w).mono ?_
  rintro e w1 ⟨rfl, hb1⟩
  have HB1 := Lib.hid hb1
  have H01 := Lib.hid (H0.out.below hb1)
  have H11 := Lib.hid (H1.out.below hb1)
  clear hb1 H0 H1
  go_wp2_with fail
  refine (HXo.out w1 H01.out H11.out).mono ?_
  rintro e w2 ⟨vx, rfl, hy2, hb2⟩
  have HB2 := Lib.hid (HB1.out.trans (hb2.mono HB1.out.size))
  have H02 := Lib.hid (H01.out.below hb2)
  have H12 := Lib.hid (H11.out.below hb2)
  have HY2 := Lib.hid hy2
  clear hb2 hy2 HB1 H01 H11 HXo
  obtain ⟨Ax, capx, hvx, hcx, -⟩ := HY2.out
  subst hvx
  go_upto_region 6 with fail
  go_cut [32] (fun c wx => c = .bool false ∧ Below w2.heap.size w2 wx)
  case first =>
    rcases Nat.lt_trichotomy l0.length l1.length with hlt | heq | hgt
    · have hz := HE.out (by omega)
      subst hz
      have hne : ((l0.length : Int) == (l1.length : Int)) = false := by rw [beq_eq_false_iff_ne]; omega
      go_wp2_with fail
      refine (HBy.out w2 H02.out H12.out).mono ?_
      rintro e w3 ⟨rfl, hb3⟩
      have HB3 := Lib.hid hb3
      clear hb3
      go_wp2
      go_meet
      case rel => exact ⟨rfl, HB3.out⟩
    · have hZ := Lib.hid (HZ.out heq)
      have HBy' := Lib.hid (HBy.out w2 H02.out H12.out)
      have hb : ((l0.length : Int) == (l1.length : Int)) = true := by rw [beq_iff_eq]; omega
      clear heq
      go_wp2_with fail
      refine HBy'.out.mono ?_
      rintro e w3 ⟨rfl, hb3⟩
      have HB3 := Lib.hid hb3
      have HY3 := Lib.hid (HY2.out.below hb3)
      clear hb3
      go_wp2_with fail
      refine (hZ.out _ w3 HY3.out).mono ?_
      rintro e w3' ⟨rfl, rfl⟩
      go_wp2
      go_meet
      case rel => exact ⟨rfl, HB3.out⟩
    · have hz := HE.out (by omega)
      subst hz
      have hne : ((l0.length : Int) == (l1.length : Int)) = false := by rw [beq_eq_false_iff_ne]; omega
      go_wp2_with fail
      refine (HBy.out w2 H02.out H12.out).mono ?_
      rintro e w3 ⟨rfl, hb3⟩
      have HB3 := Lib.hid hb3
      clear hb3
      go_wp2
      go_meet
      case rel => exact ⟨rfl, HB3.out⟩
  case rest =>
    obtain ⟨rfl, hb3⟩ := hcut
    have S0 := Lib.hid (F0.out wc (H02.out.below hb3))
    have S1 := Lib.hid (F1.out wc (H12.out.below hb3))
    have HY3 := Lib.hid (HY2.out.below hb3)
    have HB3 := Lib.hid (HB2.out.trans (hb3.mono HB2.out.size))
    obtain ⟨w3, hw3⟩ : ∃ w3, w3 = wc := ⟨_, rfl⟩
    subst hw3
    clear hb3 HB2 H02 H12 HY2 F0 F1 HZ HBy HE
    go_upto_region 8 with fail
    go_cut [6] (fun m wx => m = .int .i64 (n : Int) ∧ w3 = wx)
    case first =>
      have hC := HC.out
      rcases hC with ⟨hc, hnn⟩ | ⟨hc, hnn⟩ | ⟨hc, hnn⟩
      · go_wp2
        go_meet
        case rel => exact ⟨congrArg (Value.int .i64) (by omega), rfl⟩
      · go_wp2
        go_meet
        case rel => exact ⟨congrArg (Value.int .i64) (by omega), rfl⟩
      · go_wp2
        go_meet
        case rel => exact ⟨congrArg (Value.int .i64) (by omega), rfl⟩
    case rest =>
      obtain ⟨rfl, hw⟩ := hcut
      subst hw
      have hnc0 : n ≤ cap0 := by omega
      have hnc1 : n ≤ cap1 := by omega
      clear HC hn0 hn1 d0 d1 hl0 hl1 hc0 hc1
      go_wp2_with fail
      refine reg_begin (by kernel_rfl) fun w4 hb4 hz4 => ?_
      have HB4 : Hid (Below w.heap.size w w4) := HB3.out.trans (hb4.mono HB3.out.size)
      have S04 := Lib.hid (S0.out.below hb4)
      have S14 := Lib.hid (S1.out.below hb4)
      have HY4 := Lib.hid (HY3.out.below hb4)
      have r1 : ∀ w', Below w4.heap.size w4 w' → (convert 22 9 (.slice A1 n cap1)).run Try.prog w' = .ok (.string ⟨T1.toArray⟩) w' := fun w' h => conv_bytes (S14.out.below h)
      clear hb4 hz4 HB3 S0 S1 HY3
      refine reg_take (i := 0) (v := ?_) rfl (by kernel_rfl) (by kernel_rfl) (by kernel_rfl) (fun _ _ _ h => h) (by rfl) ?hy0 ?_
      case hy0 => intro w' hw'; go_simp; (try with_reducible rfl)
      simp only [Act.put, List.setIfInBounds_toArray, List.set_cons_zero, List.set_cons_succ]
      refine reg_take (i := 1) (v := ?_) rfl (by kernel_rfl) (by kernel_rfl) (by kernel_rfl) (fun _ _ _ h => h) (by rfl) ?hy1 ?_
      case hy1 => intro w' hw'; go_simp; (try with_reducible rfl)
      simp only [Act.put, List.setIfInBounds_toArray, List.set_cons_zero, List.set_cons_succ]
      refine reg_take (i := 2) (v := ?_) rfl (by kernel_rfl) (by kernel_rfl) (by kernel_rfl) (fun _ _ _ h => h) (by rfl) ?hy2 ?_
      case hy2 => intro w' hw'; go_simp; (try with_reducible rfl)
      simp only [Act.put, List.setIfInBounds_toArray, List.set_cons_zero, List.set_cons_succ]
      refine reg_take (i := 3) (v := ?_) rfl (by kernel_rfl) (by kernel_rfl) (by kernel_rfl) (fun _ _ _ h => h) (by rfl) ?hy3 ?_
      case hy3 => intro w' hw'; go_simp; (try with_reducible rfl)
      simp only [Act.put, List.setIfInBounds_toArray, List.set_cons_zero, List.set_cons_succ]
      refine reg_take (i := 6) (v := ?_) rfl (by kernel_rfl) (by kernel_rfl) (by kernel_rfl) (fun _ _ _ h => h) (by rfl) ?hy6 ?_
      case hy6 => intro w' hw'; go_simp; (try with_reducible rfl)
      simp only [Act.put, List.setIfInBounds_toArray, List.set_cons_zero, List.set_cons_succ]
      refine reg_take (i := 7) (v := ?_) rfl (by kernel_rfl) (by kernel_rfl) (by kernel_rfl) (fun _ _ _ h => h) (by rfl) ?hy7 ?_
      case hy7 => intro w' hw'; go_simp; (try with_reducible rfl)
      simp only [Act.put, List.setIfInBounds_toArray, List.set_cons_zero, List.set_cons_succ]
      refine reg_take (i := 8) (v := ?_) rfl (by kernel_rfl) (by kernel_rfl) (by kernel_rfl) (fun _ _ _ h => h) (by rfl) ?hy8 ?_
      case hy8 => intro w' hw'; go_simp; (try with_reducible rfl)
      simp only [Act.put, List.setIfInBounds_toArray, List.set_cons_zero, List.set_cons_succ]
      refine reg_take (i := 9) (v := ?_) rfl (by kernel_rfl) (by kernel_rfl) (by kernel_rfl) (fun _ _ _ h => h) (by rfl) ?hy9 ?_
      case hy9 => intro w' hw'; go_simp; (try with_reducible rfl)
      simp only [Act.put, List.setIfInBounds_toArray, List.set_cons_zero, List.set_cons_succ]
      refine reg_call (i := 4) rfl (by kernel_rfl) (fun K' hK => ?_)
      go_simp
      refine (xor_any _ _ X T0 w4 HY4.out S04.out (by omega) (by omega)).mono ?_
      rintro e w5 ⟨v5, rfl, hy5, hb5⟩
      rw [HL0.out] at hy5
      have HB5 : Hid (Below w.heap.size w w5) := HB4.out.trans (hb5.mono HB4.out.size)
      have S05 := Lib.hid (S04.out.below hb5)
      have S15 := Lib.hid (S14.out.below hb5)
      have HY5 := Lib.hid (HY4.out.below hb5)
      have V5 := Lib.hid hy5
      refine hK.out _ _ hb5 ?_
      clear hK K' hb5 hy5 r1 HB4 S04 S14 HY4
      have r0 : ∀ w', Below w5.heap.size w5 w' → (convert 22 9 (.slice A0 n cap0)).run Try.prog w' = .ok (.string ⟨T0.toArray⟩) w' := fun w' h => conv_bytes (S05.out.below h)
      have r2 : ∀ w', Below w5.heap.size w5 w' → (convert 22 9 v5).run Try.prog w' = .ok (.string ⟨T1.toArray⟩) w' := fun w' h => conv_bytes (V5.out.below h)
      refine reg_take (i := 5) (v := ?_) rfl (by kernel_rfl) (by kernel_rfl) (by kernel_rfl) (fun _ _ _ h => h) (by rfl) ?hy5 ?_
      case hy5 => intro w' hw'; go_simp; (try with_reducible rfl)
      simp only [Act.put, List.setIfInBounds_toArray, List.set_cons_zero, List.set_cons_succ]
      refine reg_take (i := 10) (v := ?_) rfl (by kernel_rfl) (by kernel_rfl) (by kernel_rfl) (fun _ _ _ h => h) (by rfl) ?hy10 ?_
      case hy10 => intro w' hw'; go_simp; (try with_reducible rfl)
      simp only [Act.put, List.setIfInBounds_toArray, List.set_cons_zero, List.set_cons_succ]
      refine reg_take (i := 11) (v := ?_) rfl (by kernel_rfl) (by kernel_rfl) (by kernel_rfl) (fun _ _ _ h => h) (by rfl) ?hy11 ?_
      case hy11 => intro w' hw'; go_simp; (try with_reducible rfl)
      simp only [Act.put, List.setIfInBounds_toArray, List.set_cons_zero, List.set_cons_succ]
      refine reg_take (i := 12) (v := ?_) rfl (by kernel_rfl) (by kernel_rfl) (by kernel_rfl) (fun _ _ _ h => h) (by rfl) ?hy12 ?_
      case hy12 => intro w' hw'; go_simp; (try with_reducible rfl)
      simp only [Act.put, List.setIfInBounds_toArray, List.set_cons_zero, List.set_cons_succ]
      refine reg_take (i := 13) (v := ?_) rfl (by kernel_rfl) (by kernel_rfl) (by kernel_rfl) (fun _ _ _ h => h) (by rfl) ?hy13 ?_
      case hy13 => intro w' hw'; go_simp; (try with_reducible rfl)
      simp only [Act.put, List.setIfInBounds_toArray, List.set_cons_zero, List.set_cons_succ]
      refine reg_take (i := 14) (v := ?_) rfl (by kernel_rfl) (by kernel_rfl) (by kernel_rfl) (fun _ _ _ h => h) (by rfl) ?hy14 ?_
      case hy14 => intro w' hw'; go_simp; (try with_reducible rfl)
      simp only [Act.put, List.setIfInBounds_toArray, List.set_cons_zero, List.set_cons_succ]
      refine reg_take (i := 15) (v := ?_) rfl (by kernel_rfl) (by kernel_rfl) (by kernel_rfl) (fun _ _ _ h => h) (by rfl) ?hy15 ?_
      case hy15 => intro w' hw'; go_simp; (try with_reducible rfl)
      simp only [Act.put, List.setIfInBounds_toArray, List.set_cons_zero, List.set_cons_succ]
      refine reg_take (i := 18) (v := ?_) rfl (by kernel_rfl) (by kernel_rfl) (by kernel_rfl) (fun _ _ _ h => h) (by rfl) ?hy18 ?_
      case hy18 => intro w' hw'; go_simp; (try with_reducible rfl)
      simp only [Act.put, List.setIfInBounds_toArray, List.set_cons_zero, List.set_cons_succ]
      refine reg_take (i := 19) (v := ?_) rfl (by kernel_rfl) (by kernel_rfl) (by kernel_rfl) (fun _ _ _ h => h) (by rfl) ?hy19 ?_
      case hy19 => intro w' hw'; go_simp; (try with_reducible rfl)
      simp only [Act.put, List.setIfInBounds_toArray, List.set_cons_zero, List.set_cons_succ]
      refine reg_take (i := 20) (v := ?_) rfl (by kernel_rfl) (by kernel_rfl) (by kernel_rfl) (fun _ _ _ h => h) (by rfl) ?hy20 ?_
      case hy20 => intro w' hw'; go_simp; (try with_reducible rfl)
      simp only [Act.put, List.setIfInBounds_toArray, List.set_cons_zero, List.set_cons_succ]
      refine reg_take (i := 21) (v := ?_) rfl (by kernel_rfl) (by kernel_rfl) (by kernel_rfl) (fun _ _ _ h => h) (by rfl) ?hy21 ?_
      case hy21 => intro w' hw'; go_simp; (try with_reducible rfl)
      simp only [Act.put, List.setIfInBounds_toArray, List.set_cons_zero, List.set_cons_succ]
      refine reg_call (i := 16) rfl (by kernel_rfl) (fun K' hK => ?_)
      go_simp
      refine (xor_any _ _ X T1 w5 HY5.out S15.out (by omega) (by omega)).mono ?_
      rintro e w6 ⟨v6, rfl, hy6, hb6⟩
      rw [HL1.out] at hy6
      have HB6 : Hid (Below w.heap.size w w6) := HB5.out.trans (hb6.mono HB5.out.size)
      have V6 := Lib.hid hy6
      refine hK.out _ _ hb6 ?_
      clear hK K' hb6 hy6 r0 r2
      have r3 : ∀ w', Below w6.heap.size w6 w' → (convert 22 9 v6).run Try.prog w' = .ok (.string ⟨T0.toArray⟩) w' := fun w' h => conv_bytes (V6.out.below h)
      refine reg_take (i := 17) (v := ?_) rfl (by kernel_rfl) (by kernel_rfl) (by kernel_rfl) (fun _ _ _ h => h) (by rfl) ?hy17 ?_
      case hy17 => intro w' hw'; go_simp; (try with_reducible rfl)
      simp only [Act.put, List.setIfInBounds_toArray, List.set_cons_zero, List.set_cons_succ]
      refine reg_take (i := 22) (v := ?_) rfl (by kernel_rfl) (by kernel_rfl) (by kernel_rfl) (fun _ _ _ h => h) (by rfl) ?hy22 ?_
      case hy22 => intro w' hw'; go_simp; (try with_reducible rfl)
      simp only [Act.put, List.setIfInBounds_toArray, List.set_cons_zero, List.set_cons_succ]
      refine reg_take (i := 23) (v := ?_) rfl (by kernel_rfl) (by kernel_rfl) (by kernel_rfl) (fun _ _ _ h => h) (by rfl) ?hy23 ?_
      case hy23 => intro w' hw'; go_simp; (try with_reducible rfl)
      simp only [Act.put, List.setIfInBounds_toArray, List.set_cons_zero, List.set_cons_succ]
      refine reg_take (i := 24) (v := ?_) rfl (by kernel_rfl) (by kernel_rfl) (by kernel_rfl) (fun _ _ _ h => h) (by rfl) ?hy24 ?_
      case hy24 => intro w' hw'; go_simp; (try with_reducible rfl)
      simp only [Act.put, List.setIfInBounds_toArray, List.set_cons_zero, List.set_cons_succ]
      refine reg_end (by kernel_rfl) ?_
      clear r3
      go_wp2
      go_ret
      exact ⟨rfl, HB6.out⟩

theorem back2 (A0 A1 : Option Addr) (l0 l1 : List UInt8) (n0 n1 cap0 cap1 : Nat) (w : World) (h0 : BytesAt w (.slice A0 n0 cap0) l0) (h1 : BytesAt w (.slice A1 n1 cap1) l1) :
    Calls Try.prog 4 #[.slice A0 n0 cap0, .slice A1 n1 cap1] w fun e w' => e = .returned (.bool true) ∧ Below w.heap.size w w' := by
  obtain ⟨hn0, _⟩ := h0.size
  obtain ⟨hn1, _⟩ := h1.size
  subst hn0 hn1
  by_cases hg : 3000 < l0.length ∨ 3000 < l1.length
  · exact back2_great A0 A1 _ _ cap0 cap1 w hg
  · exact back2_small A0 A1 l0 l1 cap0 cap1 w h0 h1 (by omega) (by omega)

set_option maxRecDepth 100000 in
theorem back2_lifted (os : Os) (started : os.Started) (H : Type) (enc : TypeId × Value → H) :
    ReturnsInHanded {} Try.checked os 4 .any (Rows.equalBackSpec.pre6 enc Try.prog Try.f4 Rows.equalBackRow.domain false) (Rows.equalBackSpec.post enc Try.prog Try.f4 false true false false) := by
  refine returnsInHanded_of_change (C := Try.checked) own started (by kernel_rfl) Try.func4
    (ChangeSpec.witness6 (enc := enc) (C := Try.checked) false ⟨#[], #[.slice none 0 0, .slice none 0 0], []⟩ 8 (by kernel_rfl) (by kernel_rfl) (by kernel_rfl) (by kernel_rfl)) ?_
  intro W base args ds gs before hval0 hW hcnd _
  have hval : ∀ (j : Nat) t v, Try.f4.params[j]? = some t → args[j]? = some v → Value.okWide Try.prog W .any base t v := hval0
  have hW' := hW
  obtain ⟨p, q, hA0, hV, rfl, hfz, hnd⟩ := hW
  have hA : DataW.TrodAll enc Try.prog W 0 (fun _ => true) true Try.f4.params.toList args.toList ds p := hA0
  rw [Try.params4] at hA hval
  obtain ⟨v0, vs0, d0, ds0, p0, q0, hargs, rfl, rfl, h0, r0⟩ := trodAll_cons hA
  obtain ⟨v1, vs1, d1, ds1, p1, q1, rfl, rfl, rfl, h1, r1⟩ := trodAll_cons r0
  obtain ⟨rfl, rfl, rfl⟩ := trodAll_nil r1
  obtain rfl : args = #[v0, v1] := by cases args; simp_all
  obtain ⟨rfl, rfl⟩ := trodVars_none hV
  obtain ⟨a0, len0, cap0, rfl⟩ := okWide_slice Try.underlying22 (hval 0 22 v0 rfl rfl)
  have k0 := h0
  have lt0 : ∀ x ∈ p0, x.block < W.heap.size := by obtain ⟨m, hm⟩ := k0; exact DataW.trod_lt m _ _ _ hm
  obtain ⟨l0, w0⟩ := open_bytes h0
  obtain ⟨a1, len1, cap1, rfl⟩ := okWide_slice Try.underlying22 (hval 1 22 v1 rfl rfl)
  have k1 := h1
  have lt1 : ∀ x ∈ p1, x.block < W.heap.size := by obtain ⟨m, hm⟩ := k1; exact DataW.trod_lt m _ _ _ hm
  obtain ⟨l1, w1⟩ := open_bytes h1
  clear hA0 hval0
  refine (back2 a0 a1 l0 l1 len0 len1 cap0 cap1 W w0 w1).mono fun e W' ⟨he, bel⟩ => ?_
  subst he
  exact ⟨_, rfl, _, _, _, [], _, [], hW', trodAll_mk1 (shut_bool Try.underlying4 _), (trodAll_cons_mk (Below.trod laidOut (by kernel_rfl) (of_decide_eq_true (by kernel_rfl)) k0 bel lt0) (trodAll_cons_mk (Below.trod laidOut (by kernel_rfl) (of_decide_eq_true (by kernel_rfl)) k1 bel lt1) trodAll_mk0)), rfl, bel.frame _, fun h => by cases h⟩

/-- The statement. -/
theorem equalBack_holds : Rows.EqualBackSaid :=
  OpenClaim.holds_of_wide 4 Try.f4 rfl rfl rfl rfl rfl rfl rfl ⟨rfl, rfl, rfl, rfl, rfl⟩ rfl rfl rfl rfl rfl (by kernel_rfl) Try.func4 (by kernel_rfl)
    (of_decide_eq_true (by kernel_rfl)) (by unfold Func.isWrapper; first | (rw [if_pos (by decide +kernel)]; kernel_rfl) | (rw [if_neg (by decide +kernel)]; exact ⟨rfl, rfl⟩))
    (fun os started H enc _ => back2_lifted os started H enc)
#print axioms equalBack_holds
end Go.Proofs.Ytafhdclbmbnmmaa
