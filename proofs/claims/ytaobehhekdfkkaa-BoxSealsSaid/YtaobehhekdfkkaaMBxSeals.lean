/- The statement BoxSeals: what any text is sealed to, with any other one, under any key, or why not, is as the document has it. For every input. -/
import Derived.Test.YtaobehhekdfkkaaGk
import Derived.Test.YtaobehhekdfkkaaGa
namespace Go.Proofs.Ytaobehhekdfkkaa
open Go.RowKit Go.ChangeShapes Go.WideShapes Go.ChangeAt

set_option maxHeartbeats 1000000 in
theorem seals_great (H : BoxIs) (A0 A1 A2 A3 : Option Addr) (n0 n1 n2 n3 cap0 cap1 cap2 cap3 : Nat) (v4 : Value) (hg : 100 < n0 ∨ 100 < n1 ∨ 600 < n2 ∨ 600 < n3) (w : World) :
    Calls Try.prog 3 #[.slice A0 n0 cap0, .slice A1 n1 cap1, .slice A2 n2 cap2, .slice A3 n3 cap3, v4] w fun e w' => e = .returned (.bool true) ∧ Below w.heap.size w w' := by
  have W := Lib.hid (works8 H w)
  have hd : (decide ((100 : Int) < (n0 : Int)) = true) ∨ (decide ((100 : Int) < (n0 : Int)) = false ∧ decide ((100 : Int) < (n1 : Int)) = true) ∨ (decide ((100 : Int) < (n0 : Int)) = false ∧ decide ((100 : Int) < (n1 : Int)) = false ∧ decide ((600 : Int) < (n2 : Int)) = true) ∨ (decide ((100 : Int) < (n0 : Int)) = false ∧ decide ((100 : Int) < (n1 : Int)) = false ∧ decide ((600 : Int) < (n2 : Int)) = false ∧ decide ((600 : Int) < (n3 : Int)) = true) := by
    simp only [decide_eq_true_eq, decide_eq_false_iff_not]
    omega
  clear hg
  rcases hd with d0 | ⟨d0, d1⟩ | ⟨d0, d1, d2⟩ | ⟨d0, d1, d2, d3⟩
  all_goals
    go_enter Try.func3, Try.ntmps3
    go_wp2_with fail
    refine W.out.mono ?_
    rintro e w1 ⟨rfl, b1⟩
    have B1 := Lib.hid b1
    clear b1
    go_wp2
    go_ret
    exact ⟨rfl, B1.out⟩

set_option maxRecDepth 100000 in
set_option maxHeartbeats 4000000 in
theorem seals_small (H : BoxIs) (A0 A1 A2 A3 : Option Addr) (n0 n1 n2 n3 cap0 cap1 cap2 cap3 n : Nat) (key nonce wth msg : List UInt8) (hn : n < 18446744073709551616) (hn0 : n0 ≤ 100) (hn1 : n1 ≤ 100) (hn2 : n2 ≤ 600) (hn3 : n3 ≤ 600) (w : World)
    (h0 : BytesAt w (.slice A0 n0 cap0) key) (h1 : BytesAt w (.slice A1 n1 cap1) nonce) (h2 : BytesAt w (.slice A2 n2 cap2) wth) (h3 : BytesAt w (.slice A3 n3 cap3) msg) :
    Calls Try.prog 3 #[.slice A0 n0 cap0, .slice A1 n1 cap1, .slice A2 n2 cap2, .slice A3 n3 cap3, .int .u64 (n : Int)] w fun e w' => e = .returned (.bool true) ∧ Below w.heap.size w w' := by
  have d0 : decide ((100 : Int) < (n0 : Int)) = false := by simp; omega
  have d1 : decide ((100 : Int) < (n1 : Int)) = false := by simp; omega
  have d2 : decide ((600 : Int) < (n2 : Int)) = false := by simp; omega
  have d3 : decide ((600 : Int) < (n3 : Int)) = false := by simp; omega
  have CS := Lib.hid (H.sealAll A0 A1 A2 A3 n0 n1 n2 n3 cap0 cap1 cap2 cap3 key nonce wth msg w (by omega) (by omega) h0 h1 h2 h3)
  have CR : ∀ w1, Below w.heap.size w w1 → Hid _ := fun w1 hw => Lib.hid (refSeal_all A0 A1 A2 A3 n0 n1 n2 n3 cap0 cap1 cap2 cap3 key nonce wth msg w1 (by omega) (by omega) (h0.below hw) (h1.below hw) (h2.below hw) (h3.below hw))
  have HN := Lib.hid hn
  generalize seA n0 n1 key nonce wth msg = a at *
  generalize seC n0 n1 = z at *
  clear h0 h1 h2 h3 hn0 hn1 hn2 hn3 hn
  go_enter Try.func3, Try.ntmps3
  go_wp2_with fail
  refine CS.out.mono ?_
  rintro e w1 ⟨v1, rfl, y1, b1⟩
  have B1 := Lib.hid b1
  have Y1 := Lib.hid y1
  clear b1 y1 CS
  have CR1 := CR w1 B1.out
  clear CR
  go_wp2_with fail
  refine CR1.out.mono ?_
  rintro e w2 ⟨v2, rfl, y2, b2⟩
  have B2 := Lib.hid (B1.out.trans (b2.mono B1.out.size))
  have Y12 := Lib.hid (Y1.out.below b2)
  have Y2 := Lib.hid y2
  clear b2 y2 B1 Y1 CR1
  go_wp2_with fail
  refine reg_begin (by kernel_rfl) fun w3 hb hz => ?_
  have B3 : Hid (Below w.heap.size w w3) := Lib.hid (B2.out.trans (hb.mono B2.out.size))
  have Y13 := Lib.hid (Y12.out.below hb)
  have Y23 := Lib.hid (Y2.out.below hb)
  clear hb hz B2 Y12 Y2
  have r1 : ∀ w', Below w3.heap.size w3 w' → (convert 22 9 v1).run Try.prog w' = .ok (.string ⟨a.toArray⟩) w' := fun w' h => conv_bytes (Y13.out.below h)
  have r2 : ∀ w', Below w3.heap.size w3 w' → (convert 22 9 v2).run Try.prog w' = .ok (.string ⟨a.toArray⟩) w' := fun w' h => conv_bytes (Y23.out.below h)
  refine reg_take (i := 0) (v := ?_) rfl (by kernel_rfl) (by kernel_rfl) (by kernel_rfl) (fun _ _ _ h => h) (by rfl) ?hy0 ?_
  case hy0 => intro w' hw'; go_simp; (try with_reducible rfl)
  simp only [Act.put, List.setIfInBounds_toArray, List.set_cons_zero, List.set_cons_succ]
  refine reg_take (i := 1) (v := ?_) rfl (by kernel_rfl) (by kernel_rfl) (by kernel_rfl) (fun _ _ _ h => h) (by rfl) ?hy1 ?_
  case hy1 => intro w' hw'; go_simp; (try with_reducible rfl)
  simp only [Act.put, List.setIfInBounds_toArray, List.set_cons_zero, List.set_cons_succ]
  refine reg_take (i := 2) (v := ?_) rfl (by kernel_rfl) (by kernel_rfl) (by kernel_rfl) (fun _ _ _ h => h) (by rfl) ?hy2 ?_
  case hy2 => intro w' hw'; go_simp; (try with_reducible rfl)
  simp only [Act.put, List.setIfInBounds_toArray, List.set_cons_zero, List.set_cons_succ]
  refine reg_take (i := 3) (v := ?_) rfl (by kernel_rfl) (by kernel_rfl) (by kernel_rfl) (fun _ _ _ h => h) (by rfl) ?hy3 ?_
  case hy3 => intro w' hw'; go_simp; (try with_reducible rfl)
  simp only [Act.put, List.setIfInBounds_toArray, List.set_cons_zero, List.set_cons_succ]
  refine reg_take (i := 4) (v := ?_) rfl (by kernel_rfl) (by kernel_rfl) (by kernel_rfl) (fun _ _ _ h => h) (by rfl) ?hy4 ?_
  case hy4 => intro w' hw'; go_simp; (try with_reducible rfl)
  simp only [Act.put, List.setIfInBounds_toArray, List.set_cons_zero, List.set_cons_succ]
  refine reg_take (i := 5) (v := ?_) rfl (by kernel_rfl) (by kernel_rfl) (by kernel_rfl) (fun _ _ _ h => h) (by rfl) ?hy5 ?_
  case hy5 => intro w' hw'; go_simp; (try with_reducible rfl)
  simp only [Act.put, List.setIfInBounds_toArray, List.set_cons_zero, List.set_cons_succ]
  refine reg_take (i := 6) (v := ?_) rfl (by kernel_rfl) (by kernel_rfl) (by kernel_rfl) (fun _ _ _ h => h) (by rfl) ?hy6 ?_
  case hy6 => intro w' hw'; go_simp; (try with_reducible rfl)
  simp only [Act.put, List.setIfInBounds_toArray, List.set_cons_zero, List.set_cons_succ]
  refine reg_take (i := 7) (v := ?_) rfl (by kernel_rfl) (by kernel_rfl) (by kernel_rfl) (fun _ _ _ h => h) (by rfl) ?hy7 ?_
  case hy7 => intro w' hw'; go_simp; (try with_reducible rfl)
  simp only [Act.put, List.setIfInBounds_toArray, List.set_cons_zero, List.set_cons_succ]
  refine reg_take (i := 8) (v := ?_) rfl (by kernel_rfl) (by kernel_rfl) (by kernel_rfl) (fun _ _ _ h => h) (by rfl) ?hy8 ?_
  case hy8 => intro w' hw'; go_simp; (try with_reducible rfl)
  simp only [Act.put, List.setIfInBounds_toArray, List.set_cons_zero, List.set_cons_succ]
  refine reg_take (i := 9) (v := ?_) rfl (by kernel_rfl) (by kernel_rfl) (by kernel_rfl) (fun _ _ _ h => h) (by rfl) ?hy9 ?_
  case hy9 => intro w' hw'; go_simp; (try with_reducible rfl)
  simp only [Act.put, List.setIfInBounds_toArray, List.set_cons_zero, List.set_cons_succ]
  refine reg_take (i := 10) (v := ?_) rfl (by kernel_rfl) (by kernel_rfl) (by kernel_rfl) (fun _ _ _ h => h) (by rfl) ?hy10 ?_
  case hy10 => intro w' hw'; go_simp; (try with_reducible rfl)
  simp only [Act.put, List.setIfInBounds_toArray, List.set_cons_zero, List.set_cons_succ]
  refine reg_take (i := 11) (v := ?_) rfl (by kernel_rfl) (by kernel_rfl) (by kernel_rfl) (fun _ _ _ h => h) (by rfl) ?hy11 ?_
  case hy11 => intro w' hw'; go_simp; (try with_reducible rfl)
  simp only [Act.put, List.setIfInBounds_toArray, List.set_cons_zero, List.set_cons_succ]
  refine reg_take (i := 14) (v := ?_) rfl (by kernel_rfl) (by kernel_rfl) (by kernel_rfl) (fun _ _ _ h => h) (by rfl) ?hy14 ?_
  case hy14 => intro w' hw'; go_simp; (try with_reducible rfl)
  simp only [Act.put, List.setIfInBounds_toArray, List.set_cons_zero, List.set_cons_succ]
  clear r1 r2 Y13 Y23
  refine reg_call (i := 12) rfl (by kernel_rfl) (fun K' hK => ?_)
  go_simp
  refine (H.nonce n w3 HN.out).mono ?_
  rintro e w4 ⟨v4, rfl, y4, hb⟩
  have B4 : Hid (Below w.heap.size w w4) := Lib.hid (B3.out.trans (hb.mono B3.out.size))
  have Y4 := Lib.hid y4
  refine hK.out _ _ hb ?_
  clear hK K' hb B3 y4
  have r4 : ∀ w', Below w4.heap.size w4 w' → (convert 22 9 v4).run Try.prog w' = .ok (.string ⟨(nonceB n).toArray⟩) w' := fun w' h => conv_bytes (Y4.out.below h)
  refine reg_take (i := 13) (v := ?_) rfl (by kernel_rfl) (by kernel_rfl) (by kernel_rfl) (fun _ _ _ h => h) (by rfl) ?hy13 ?_
  case hy13 => intro w' hw'; go_simp; (try with_reducible rfl)
  simp only [Act.put, List.setIfInBounds_toArray, List.set_cons_zero, List.set_cons_succ]
  clear r4
  refine reg_call (i := 15) rfl (by kernel_rfl) (fun K' hK => ?_)
  go_simp
  refine (refNonce_any n HN.out w4).mono ?_
  rintro e w5 ⟨v5, rfl, y5, hb⟩
  have B5 : Hid (Below w.heap.size w w5) := Lib.hid (B4.out.trans (hb.mono B4.out.size))
  have Y5 := Lib.hid y5
  refine hK.out _ _ hb ?_
  clear hK K' hb B4 y5 Y4
  have r5 : ∀ w', Below w5.heap.size w5 w' → (convert 22 9 v5).run Try.prog w' = .ok (.string ⟨(nonceB n).toArray⟩) w' := fun w' h => conv_bytes (Y5.out.below h)
  refine reg_take (i := 16) (v := ?_) rfl (by kernel_rfl) (by kernel_rfl) (by kernel_rfl) (fun _ _ _ h => h) (by rfl) ?hy16 ?_
  case hy16 => intro w' hw'; go_simp; (try with_reducible rfl)
  simp only [Act.put, List.setIfInBounds_toArray, List.set_cons_zero, List.set_cons_succ]
  refine reg_take (i := 17) (v := ?_) rfl (by kernel_rfl) (by kernel_rfl) (by kernel_rfl) (fun _ _ _ h => h) (by rfl) ?hy17 ?_
  case hy17 => intro w' hw'; go_simp; (try with_reducible rfl)
  simp only [Act.put, List.setIfInBounds_toArray, List.set_cons_zero, List.set_cons_succ]
  refine reg_take (i := 18) (v := ?_) rfl (by kernel_rfl) (by kernel_rfl) (by kernel_rfl) (fun _ _ _ h => h) (by rfl) ?hy18 ?_
  case hy18 => intro w' hw'; go_simp; (try with_reducible rfl)
  simp only [Act.put, List.setIfInBounds_toArray, List.set_cons_zero, List.set_cons_succ]
  refine reg_take (i := 19) (v := ?_) rfl (by kernel_rfl) (by kernel_rfl) (by kernel_rfl) (fun _ _ _ h => h) (by rfl) ?hy19 ?_
  case hy19 => intro w' hw'; go_simp; (try with_reducible rfl)
  simp only [Act.put, List.setIfInBounds_toArray, List.set_cons_zero, List.set_cons_succ]
  clear r5
  refine reg_call (i := 20) rfl (by kernel_rfl) (fun K' hK => ?_)
  go_simp
  refine (works8 H w5).mono ?_
  rintro e w6 ⟨rfl, hb⟩
  have B6 : Hid (Below w.heap.size w w6) := Lib.hid (B5.out.trans (hb.mono B5.out.size))
  refine hK.out _ _ hb ?_
  clear hK K' hb B5 Y5
  refine reg_take (i := 21) (v := ?_) rfl (by kernel_rfl) (by kernel_rfl) (by kernel_rfl) (fun _ _ _ h => h) (by rfl) ?hy21 ?_
  case hy21 => intro w' hw'; go_simp; (try with_reducible rfl)
  simp only [Act.put, List.setIfInBounds_toArray, List.set_cons_zero, List.set_cons_succ]
  refine reg_take (i := 22) (v := ?_) rfl (by kernel_rfl) (by kernel_rfl) (by kernel_rfl) (fun _ _ _ h => h) (by rfl) ?hy22 ?_
  case hy22 => intro w' hw'; go_simp; (try with_reducible rfl)
  simp only [Act.put, List.setIfInBounds_toArray, List.set_cons_zero, List.set_cons_succ]
  refine reg_end (by kernel_rfl) ?_
  go_wp2
  go_ret
  exact ⟨rfl, B6.out⟩

theorem seals_core (H : BoxIs) (A0 A1 A2 A3 : Option Addr) (n0 n1 n2 n3 cap0 cap1 cap2 cap3 n : Nat) (key nonce wth msg : List UInt8) (hn : n < 18446744073709551616) (w : World)
    (h0 : BytesAt w (.slice A0 n0 cap0) key) (h1 : BytesAt w (.slice A1 n1 cap1) nonce) (h2 : BytesAt w (.slice A2 n2 cap2) wth) (h3 : BytesAt w (.slice A3 n3 cap3) msg) :
    Calls Try.prog 3 #[.slice A0 n0 cap0, .slice A1 n1 cap1, .slice A2 n2 cap2, .slice A3 n3 cap3, .int .u64 (n : Int)] w fun e w' => e = .returned (.bool true) ∧ Below w.heap.size w w' := by
  by_cases hg : 100 < n0 ∨ 100 < n1 ∨ 600 < n2 ∨ 600 < n3
  · exact seals_great H A0 A1 A2 A3 n0 n1 n2 n3 cap0 cap1 cap2 cap3 _ hg w
  · exact seals_small H A0 A1 A2 A3 n0 n1 n2 n3 cap0 cap1 cap2 cap3 n key nonce wth msg hn (by omega) (by omega) (by omega) (by omega) w h0 h1 h2 h3
end Go.Proofs.Ytaobehhekdfkkaa
