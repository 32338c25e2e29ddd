/- The statement PolyTags: which tag any text has under any key, or that it has none, whether any tag is its, and which bits of a key are cleared, is as the document has it. For every input. -/
import Derived.Test.YtbdcligpbogkjaaPoW
import Derived.Test.YtbdcligpbogkjaaGenR
namespace Go.Proofs.Ytbdcligpbogkjaa
open Go.RowKit Go.ChangeShapes Go.WideShapes Go.ChangeAt

set_option maxHeartbeats 1000000 in
theorem tags_great (H : PolyIs) (A0 A1 A2 : Option Addr) (n0 n1 n2 cap0 cap1 cap2 : Nat) (hg : 100 < n0 ∨ 1000 < n1 ∨ 100 < n2) (w : World) :
    Calls Try.prog 3 #[.slice A0 n0 cap0, .slice A1 n1 cap1, .slice A2 n2 cap2] w fun e w' => e = .returned (.bool true) ∧ Below w.heap.size w w' := by
  have W := Lib.hid (works7 H w)
  have hd : (decide ((100 : Int) < (n0 : Int)) = true) ∨ (decide ((100 : Int) < (n0 : Int)) = false ∧ decide ((1000 : Int) < (n1 : Int)) = true) ∨ (decide ((100 : Int) < (n0 : Int)) = false ∧ decide ((1000 : Int) < (n1 : Int)) = false ∧ decide ((100 : Int) < (n2 : Int)) = true) := by
    simp only [decide_eq_true_eq, decide_eq_false_iff_not]
    omega
  clear hg
  rcases hd with d0 | ⟨d0, d1⟩ | ⟨d0, d1, d2⟩
  all_goals
    go_enter Try.func3, Try.ntmps3
    go_wp2_with fail
    refine W.out.mono ?_
    rintro e w1 ⟨rfl, b1⟩
    have B1 := Lib.hid b1
    clear b1
    go_wp2
    go_ret
    exact ⟨rfl, B1.out⟩

set_option maxRecDepth 100000 in
set_option maxHeartbeats 4000000 in
theorem tags_small (H : PolyIs) (A0 A1 A2 : Option Addr) (n0 n1 n2 cap0 cap1 cap2 : Nat) (key msg tag : List UInt8) (hn0 : n0 ≤ 100) (hn1 : n1 ≤ 1000) (hn2 : n2 ≤ 100) (w : World) (h0 : BytesAt w (.slice A0 n0 cap0) key) (h1 : BytesAt w (.slice A1 n1 cap1) msg) (h2 : BytesAt w (.slice A2 n2 cap2) tag) :
    Calls Try.prog 3 #[.slice A0 n0 cap0, .slice A1 n1 cap1, .slice A2 n2 cap2] w fun e w' => e = .returned (.bool true) ∧ Below w.heap.size w w' := by
  have d0 : decide ((100 : Int) < (n0 : Int)) = false := by simp; omega
  have d1 : decide ((1000 : Int) < (n1 : Int)) = false := by simp; omega
  have d2 : decide ((100 : Int) < (n2 : Int)) = false := by simp; omega
  have H0 := Lib.hid h0
  have H1 := Lib.hid h1
  have H2 := Lib.hid h2
  have HN := Lib.hid (And.intro hn0 (And.intro hn1 hn2))
  clear h0 h1 h2 hn0 hn1 hn2
  go_enter Try.func3, Try.ntmps3
  go_wp2_with fail
  refine (polyTag_all H _ _ n0 n1 _ _ key msg w (by have := HN.out; omega) H0.out H1.out).mono ?_
  rintro e w1 ⟨v1, rfl, y1, b1⟩
  have B1 := Lib.hid b1
  have Y1 := Lib.hid y1
  clear b1 y1
  go_wp2_with fail
  refine (refTag_all _ _ n0 n1 _ _ key msg w1 (by have := HN.out; omega) (H0.out.below B1.out) (H1.out.below B1.out)).mono ?_
  rintro e w2 ⟨v2, rfl, y2, b2⟩
  have B2 := Lib.hid (B1.out.trans (b2.mono B1.out.size))
  have Y12 := Lib.hid (Y1.out.below b2)
  have Y2 := Lib.hid y2
  clear b2 y2 B1 Y1
  generalize tagA n0 key msg = a at *
  generalize tagE n0 = z at *
  go_wp2_with fail
  refine reg_begin (by kernel_rfl) fun w3 hb hz => ?_
  have B3 : Hid (Below w.heap.size w w3) := Lib.hid (B2.out.trans (hb.mono B2.out.size))
  have Y13 := Lib.hid (Y12.out.below hb)
  have Y23 := Lib.hid (Y2.out.below hb)
  have K3 := Lib.hid (H0.out.below B3.out)
  have M3 := Lib.hid (H1.out.below B3.out)
  have T3 := Lib.hid (H2.out.below B3.out)
  clear hb hz B2 Y12 Y2
  have r1 : ∀ w', Below w3.heap.size w3 w' → (convert 22 9 v1).run Try.prog w' = .ok (.string ⟨a.toArray⟩) w' := fun w' h => conv_bytes (Y13.out.below h)
  have r2 : ∀ w', Below w3.heap.size w3 w' → (convert 22 9 v2).run Try.prog w' = .ok (.string ⟨a.toArray⟩) w' := fun w' h => conv_bytes (Y23.out.below h)
  obtain ⟨q, hq⟩ : ∃ q, q = decide (n0 = 32 ∧ tagL key msg = tag) := ⟨_, rfl⟩
  have C1 := Lib.hid (H.check _ _ _ n0 n1 n2 _ _ _ key msg tag w3 (by have := HN.out; omega) (by have := HN.out; omega) K3.out M3.out T3.out)
  have C2 : Hid (∀ w4, Below w.heap.size w w4 → Calls Try.prog 10 #[.slice A0 n0 cap0, .slice A1 n1 cap1, .slice A2 n2 cap2] w4 fun e w' => e = .returned (.bool q) ∧ Below w4.heap.size w4 w') := Lib.hid fun w4 h => by
    rw [hq]
    exact refCheck_all _ _ _ n0 n1 n2 _ _ _ key msg tag w4 (by have := HN.out; omega) (H0.out.below h) (H1.out.below h) (H2.out.below h)
  rw [← hq] at C1
  clear hq
  refine reg_take (i := 0) (v := ?_) rfl (by kernel_rfl) (by kernel_rfl) (by kernel_rfl) (fun _ _ _ h => h) (by rfl) ?hy0 ?_
  case hy0 => intro w' hw'; go_simp; (try with_reducible rfl)
  simp only [Act.put, List.setIfInBounds_toArray, List.set_cons_zero, List.set_cons_succ]
  refine reg_take (i := 1) (v := ?_) rfl (by kernel_rfl) (by kernel_rfl) (by kernel_rfl) (fun _ _ _ h => h) (by rfl) ?hy1 ?_
  case hy1 => intro w' hw'; go_simp; (try with_reducible rfl)
  simp only [Act.put, List.setIfInBounds_toArray, List.set_cons_zero, List.set_cons_succ]
  refine reg_take (i := 2) (v := ?_) rfl (by kernel_rfl) (by kernel_rfl) (by kernel_rfl) (fun _ _ _ h => h) (by rfl) ?hy2 ?_
  case hy2 => intro w' hw'; go_simp; (try with_reducible rfl)
  simp only [Act.put, List.setIfInBounds_toArray, List.set_cons_zero, List.set_cons_succ]
  refine reg_take (i := 3) (v := ?_) rfl (by kernel_rfl) (by kernel_rfl) (by kernel_rfl) (fun _ _ _ h => h) (by rfl) ?hy3 ?_
  case hy3 => intro w' hw'; go_simp; (try with_reducible rfl)
  simp only [Act.put, List.setIfInBounds_toArray, List.set_cons_zero, List.set_cons_succ]
  refine reg_take (i := 4) (v := ?_) rfl (by kernel_rfl) (by kernel_rfl) (by kernel_rfl) (fun _ _ _ h => h) (by rfl) ?hy4 ?_
  case hy4 => intro w' hw'; go_simp; (try with_reducible rfl)
  simp only [Act.put, List.setIfInBounds_toArray, List.set_cons_zero, List.set_cons_succ]
  refine reg_take (i := 5) (v := ?_) rfl (by kernel_rfl) (by kernel_rfl) (by kernel_rfl) (fun _ _ _ h => h) (by rfl) ?hy5 ?_
  case hy5 => intro w' hw'; go_simp; (try with_reducible rfl)
  simp only [Act.put, List.setIfInBounds_toArray, List.set_cons_zero, List.set_cons_succ]
  refine reg_take (i := 6) (v := ?_) rfl (by kernel_rfl) (by kernel_rfl) (by kernel_rfl) (fun _ _ _ h => h) (by rfl) ?hy6 ?_
  case hy6 => intro w' hw'; go_simp; (try with_reducible rfl)
  simp only [Act.put, List.setIfInBounds_toArray, List.set_cons_zero, List.set_cons_succ]
  refine reg_take (i := 7) (v := ?_) rfl (by kernel_rfl) (by kernel_rfl) (by kernel_rfl) (fun _ _ _ h => h) (by rfl) ?hy7 ?_
  case hy7 => intro w' hw'; go_simp; (try with_reducible rfl)
  simp only [Act.put, List.setIfInBounds_toArray, List.set_cons_zero, List.set_cons_succ]
  refine reg_take (i := 8) (v := ?_) rfl (by kernel_rfl) (by kernel_rfl) (by kernel_rfl) (fun _ _ _ h => h) (by rfl) ?hy8 ?_
  case hy8 => intro w' hw'; go_simp; (try with_reducible rfl)
  simp only [Act.put, List.setIfInBounds_toArray, List.set_cons_zero, List.set_cons_succ]
  refine reg_take (i := 9) (v := ?_) rfl (by kernel_rfl) (by kernel_rfl) (by kernel_rfl) (fun _ _ _ h => h) (by rfl) ?hy9 ?_
  case hy9 => intro w' hw'; go_simp; (try with_reducible rfl)
  simp only [Act.put, List.setIfInBounds_toArray, List.set_cons_zero, List.set_cons_succ]
  refine reg_take (i := 10) (v := ?_) rfl (by kernel_rfl) (by kernel_rfl) (by kernel_rfl) (fun _ _ _ h => h) (by rfl) ?hy10 ?_
  case hy10 => intro w' hw'; go_simp; (try with_reducible rfl)
  simp only [Act.put, List.setIfInBounds_toArray, List.set_cons_zero, List.set_cons_succ]
  refine reg_take (i := 11) (v := ?_) rfl (by kernel_rfl) (by kernel_rfl) (by kernel_rfl) (fun _ _ _ h => h) (by rfl) ?hy11 ?_
  case hy11 => intro w' hw'; go_simp; (try with_reducible rfl)
  simp only [Act.put, List.setIfInBounds_toArray, List.set_cons_zero, List.set_cons_succ]
  refine reg_take (i := 12) (v := ?_) rfl (by kernel_rfl) (by kernel_rfl) (by kernel_rfl) (fun _ _ _ h => h) (by rfl) ?hy12 ?_
  case hy12 => intro w' hw'; go_simp; (try with_reducible rfl)
  simp only [Act.put, List.setIfInBounds_toArray, List.set_cons_zero, List.set_cons_succ]
  refine reg_take (i := 13) (v := ?_) rfl (by kernel_rfl) (by kernel_rfl) (by kernel_rfl) (fun _ _ _ h => h) (by rfl) ?hy13 ?_
  case hy13 => intro w' hw'; go_simp; (try with_reducible rfl)
  simp only [Act.put, List.setIfInBounds_toArray, List.set_cons_zero, List.set_cons_succ]
  refine reg_take (i := 15) (v := ?_) rfl (by kernel_rfl) (by kernel_rfl) (by kernel_rfl) (fun _ _ _ h => h) (by rfl) ?hy15 ?_
  case hy15 => intro w' hw'; go_simp; (try with_reducible rfl)
  simp only [Act.put, List.setIfInBounds_toArray, List.set_cons_zero, List.set_cons_succ]
  refine reg_take (i := 16) (v := ?_) rfl (by kernel_rfl) (by kernel_rfl) (by kernel_rfl) (fun _ _ _ h => h) (by rfl) ?hy16 ?_
  case hy16 => intro w' hw'; go_simp; (try with_reducible rfl)
  simp only [Act.put, List.setIfInBounds_toArray, List.set_cons_zero, List.set_cons_succ]
  refine reg_take (i := 17) (v := ?_) rfl (by kernel_rfl) (by kernel_rfl) (by kernel_rfl) (fun _ _ _ h => h) (by rfl) ?hy17 ?_
  case hy17 => intro w' hw'; go_simp; (try with_reducible rfl)
  simp only [Act.put, List.setIfInBounds_toArray, List.set_cons_zero, List.set_cons_succ]
  clear r1 r2 Y13 Y23
  refine reg_call (i := 14) rfl (by kernel_rfl) (fun K' hK => ?_)
  go_simp
  refine C1.out.mono ?_
  rintro e w4 ⟨rfl, hb⟩
  have B4 : Hid (Below w.heap.size w w4) := Lib.hid (B3.out.trans (hb.mono B3.out.size))
  refine hK.out _ _ hb ?_
  clear hK K' hb B3 K3 M3 T3
  refine reg_call (i := 18) rfl (by kernel_rfl) (fun K' hK => ?_)
  go_simp
  refine (C2.out w4 B4.out).mono ?_
  rintro e w5 ⟨rfl, hb⟩
  have B5 : Hid (Below w.heap.size w w5) := Lib.hid (B4.out.trans (hb.mono B4.out.size))
  refine hK.out _ _ hb ?_
  clear hK K' hb B4
  clear C1 C2
  refine reg_take (i := 19) (v := ?_) rfl (by kernel_rfl) (by kernel_rfl) (by kernel_rfl) (fun _ _ _ h => h) (by rfl) ?hy19 ?_
  case hy19 => intro w' hw'; go_simp; (try with_reducible rfl)
  simp only [Act.put, List.setIfInBounds_toArray, List.set_cons_zero, List.set_cons_succ]
  refine reg_take (i := 20) (v := ?_) rfl (by kernel_rfl) (by kernel_rfl) (by kernel_rfl) (fun _ _ _ h => h) (by rfl) ?hy20 ?_
  case hy20 => intro w' hw'; go_simp; (try with_reducible rfl)
  simp only [Act.put, List.setIfInBounds_toArray, List.set_cons_zero, List.set_cons_succ]
  refine reg_take (i := 21) (v := ?_) rfl (by kernel_rfl) (by kernel_rfl) (by kernel_rfl) (fun _ _ _ h => h) (by rfl) ?hy21 ?_
  case hy21 => intro w' hw'; go_simp; (try with_reducible rfl)
  simp only [Act.put, List.setIfInBounds_toArray, List.set_cons_zero, List.set_cons_succ]
  refine reg_take (i := 22) (v := ?_) rfl (by kernel_rfl) (by kernel_rfl) (by kernel_rfl) (fun _ _ _ h => h) (by rfl) ?hy22 ?_
  case hy22 => intro w' hw'; go_simp; (try with_reducible rfl)
  simp only [Act.put, List.setIfInBounds_toArray, List.set_cons_zero, List.set_cons_succ]
  refine reg_take (i := 25) (v := ?_) rfl (by kernel_rfl) (by kernel_rfl) (by kernel_rfl) (fun _ _ _ h => h) (by rfl) ?hy25 ?_
  case hy25 => intro w' hw'; go_simp; (try with_reducible rfl)
  simp only [Act.put, List.setIfInBounds_toArray, List.set_cons_zero, List.set_cons_succ]
  refine reg_call (i := 23) rfl (by kernel_rfl) (fun K' hK => ?_)
  go_simp
  refine (H.clamp _ n0 _ key w5 (by have := HN.out; omega) (H0.out.below B5.out)).mono ?_
  rintro e w6 ⟨v6, rfl, y6, hb⟩
  have B6 : Hid (Below w.heap.size w w6) := Lib.hid (B5.out.trans (hb.mono B5.out.size))
  have Y6 := Lib.hid y6
  refine hK.out _ _ hb ?_
  clear hK K' hb B5 y6
  have r6 : ∀ w', Below w6.heap.size w6 w' → (convert 22 9 v6).run Try.prog w' = .ok (.string ⟨(clampL key).toArray⟩) w' := fun w' h => conv_bytes (Y6.out.below h)
  refine reg_take (i := 24) (v := ?_) rfl (by kernel_rfl) (by kernel_rfl) (by kernel_rfl) (fun _ _ _ h => h) (by rfl) ?hy24 ?_
  case hy24 => intro w' hw'; go_simp; (try with_reducible rfl)
  simp only [Act.put, List.setIfInBounds_toArray, List.set_cons_zero, List.set_cons_succ]
  clear r6
  refine reg_call (i := 26) rfl (by kernel_rfl) (fun K' hK => ?_)
  go_simp
  refine (refClamp_any _ n0 _ key w6 (H0.out.below B6.out)).mono ?_
  rintro e w7 ⟨v7, rfl, y7, hb⟩
  have B7 : Hid (Below w.heap.size w w7) := Lib.hid (B6.out.trans (hb.mono B6.out.size))
  have Y7 := Lib.hid y7
  refine hK.out _ _ hb ?_
  clear hK K' hb B6 y7 Y6
  have r7 : ∀ w', Below w7.heap.size w7 w' → (convert 22 9 v7).run Try.prog w' = .ok (.string ⟨(clampL key).toArray⟩) w' := fun w' h => conv_bytes (Y7.out.below h)
  refine reg_take (i := 27) (v := ?_) rfl (by kernel_rfl) (by kernel_rfl) (by kernel_rfl) (fun _ _ _ h => h) (by rfl) ?hy27 ?_
  case hy27 => intro w' hw'; go_simp; (try with_reducible rfl)
  simp only [Act.put, List.setIfInBounds_toArray, List.set_cons_zero, List.set_cons_succ]
  refine reg_take (i := 28) (v := ?_) rfl (by kernel_rfl) (by kernel_rfl) (by kernel_rfl) (fun _ _ _ h => h) (by rfl) ?hy28 ?_
  case hy28 => intro w' hw'; go_simp; (try with_reducible rfl)
  simp only [Act.put, List.setIfInBounds_toArray, List.set_cons_zero, List.set_cons_succ]
  refine reg_take (i := 29) (v := ?_) rfl (by kernel_rfl) (by kernel_rfl) (by kernel_rfl) (fun _ _ _ h => h) (by rfl) ?hy29 ?_
  case hy29 => intro w' hw'; go_simp; (try with_reducible rfl)
  simp only [Act.put, List.setIfInBounds_toArray, List.set_cons_zero, List.set_cons_succ]
  refine reg_take (i := 30) (v := ?_) rfl (by kernel_rfl) (by kernel_rfl) (by kernel_rfl) (fun _ _ _ h => h) (by rfl) ?hy30 ?_
  case hy30 => intro w' hw'; go_simp; (try with_reducible rfl)
  simp only [Act.put, List.setIfInBounds_toArray, List.set_cons_zero, List.set_cons_succ]
  clear r7
  refine reg_call (i := 31) rfl (by kernel_rfl) (fun K' hK => ?_)
  go_simp
  refine (works7 H w7).mono ?_
  rintro e w8 ⟨rfl, hb⟩
  have B8 : Hid (Below w.heap.size w w8) := Lib.hid (B7.out.trans (hb.mono B7.out.size))
  refine hK.out _ _ hb ?_
  clear hK K' hb B7 Y7
  refine reg_take (i := 32) (v := ?_) rfl (by kernel_rfl) (by kernel_rfl) (by kernel_rfl) (fun _ _ _ h => h) (by rfl) ?hy32 ?_
  case hy32 => intro w' hw'; go_simp; (try with_reducible rfl)
  simp only [Act.put, List.setIfInBounds_toArray, List.set_cons_zero, List.set_cons_succ]
  refine reg_take (i := 33) (v := ?_) rfl (by kernel_rfl) (by kernel_rfl) (by kernel_rfl) (fun _ _ _ h => h) (by rfl) ?hy33 ?_
  case hy33 => intro w' hw'; go_simp; (try with_reducible rfl)
  simp only [Act.put, List.setIfInBounds_toArray, List.set_cons_zero, List.set_cons_succ]
  refine reg_end (by kernel_rfl) ?_
  go_wp2
  go_ret
  exact ⟨rfl, B8.out⟩

theorem tags_core (H : PolyIs) (A0 A1 A2 : Option Addr) (n0 n1 n2 cap0 cap1 cap2 : Nat) (key msg tag : List UInt8) (w : World) (h0 : BytesAt w (.slice A0 n0 cap0) key) (h1 : BytesAt w (.slice A1 n1 cap1) msg) (h2 : BytesAt w (.slice A2 n2 cap2) tag) :
    Calls Try.prog 3 #[.slice A0 n0 cap0, .slice A1 n1 cap1, .slice A2 n2 cap2] w fun e w' => e = .returned (.bool true) ∧ Below w.heap.size w w' := by
  by_cases hg : 100 < n0 ∨ 1000 < n1 ∨ 100 < n2
  · exact tags_great H A0 A1 A2 n0 n1 n2 cap0 cap1 cap2 hg w
  · exact tags_small H A0 A1 A2 n0 n1 n2 cap0 cap1 cap2 key msg tag (by omega) (by omega) (by omega) w h0 h1 h2
end Go.Proofs.Ytbdcligpbogkjaa
