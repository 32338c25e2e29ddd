/- The statement DeriveKeys: which key any secret makes, and which bytes any key, by any salt, info, name and number of them, is as the document has it. For every input. -/
import Derived.Test.YtjkbbcnbdjhdbaaDoorDrC
import Derived.Test.YtjkbbcnbdjhdbaaDoorDrF
import Derived.Test.YtjkbbcnbdjhdbaaDoorDgL
import Derived.ChangeMaps5
namespace Go.Proofs.YtjkbbcnbdjhdbaaDoor
open Go.RowKit Go.ChangeShapes Go.WideShapes Go.ChangeAt
open Go.ChangeMaps (open_string shut_string)

set_option maxHeartbeats 4000000 in
theorem keys_great (A0 A1 A2 : Option Addr) (n0 n1 n2 cap0 cap1 cap2 : Nat) (s : ByteArray) (z : Int) (hg : 1000 < n0 ∨ 1000 < n1 ∨ 1000 < n2 ∨ 1000 < s.size ∨ (400 < z ∧ z ≤ 8160)) (w : World) (T : Tab w) :
    Calls Tryd.prog 3 #[.slice A0 n0 cap0, .slice A1 n1 cap1, .slice A2 n2 cap2, .string s, .int .i64 z] w fun e w' => e = .returned (.bool true) ∧ Below w.heap.size w w' := by
  have W := Lib.hid (works5 w T)
  clear T
  have hd : (decide ((1000 : Int) < (n0 : Int)) = true) ∨ (decide ((1000 : Int) < (n0 : Int)) = false ∧ decide ((1000 : Int) < (n1 : Int)) = true) ∨
      (decide ((1000 : Int) < (n0 : Int)) = false ∧ decide ((1000 : Int) < (n1 : Int)) = false ∧ decide ((1000 : Int) < (n2 : Int)) = true) ∨
      (decide ((1000 : Int) < (n0 : Int)) = false ∧ decide ((1000 : Int) < (n1 : Int)) = false ∧ decide ((1000 : Int) < (n2 : Int)) = false ∧ decide ((1000 : Int) < (s.size : Int)) = true) ∨
      (decide ((1000 : Int) < (n0 : Int)) = false ∧ decide ((1000 : Int) < (n1 : Int)) = false ∧ decide ((1000 : Int) < (n2 : Int)) = false ∧ decide ((1000 : Int) < (s.size : Int)) = false ∧ decide ((400 : Int) < z) = true ∧ decide (z ≤ (8160 : Int)) = true) := by
    simp only [decide_eq_true_eq, decide_eq_false_iff_not]
    omega
  clear hg
  rcases hd with d0 | ⟨d0, d1⟩ | ⟨d0, d1, d2⟩ | ⟨d0, d1, d2, d3⟩ | ⟨d0, d1, d2, d3, d4, d5⟩
  all_goals
    go_enter Tryd.func3, Tryd.ntmps3
    go_wp2_with fail
    refine W.out.mono ?_
    rintro e w1 ⟨rfl, b1⟩
    have B1 := Lib.hid b1
    clear b1
    go_wp2
    go_ret
    exact ⟨rfl, B1.out⟩

/-- What lies here, and stays. -/
structure KeysF (w : World) (v0 v1 v2 va vb vc vd : Value) (l0 l1 l2 a c : List UInt8) (W : World) : Prop where
  h0 : BytesAt W v0 l0
  h1 : BytesAt W v1 l1
  h2 : BytesAt W v2 l2
  ha : BytesAt W va a
  hb : BytesAt W vb a
  hc : BytesAt W vc c
  hd : BytesAt W vd c
  t : Tab W
  b : Below w.heap.size w W
theorem KeysF.below {w : World} {v0 v1 v2 va vb vc vd : Value} {l0 l1 l2 a c : List UInt8} {W W' : World} (h : KeysF w v0 v1 v2 va vb vc vd l0 l1 l2 a c W) (hb : Below W.heap.size W W') : KeysF w v0 v1 v2 va vb vc vd l0 l1 l2 a c W' :=
  ⟨h.h0.below hb, h.h1.below hb, h.h2.below hb, h.ha.below hb, h.hb.below hb, h.hc.below hb, h.hd.below hb, h.t.below hb h.t.pos, h.b.trans (hb.mono h.b.size)⟩

set_option maxRecDepth 100000 in
set_option maxHeartbeats 4000000 in
theorem keys_small (A0 A1 A2 : Option Addr) (l0 l1 l2 : List UInt8) (cap0 cap1 cap2 : Nat) (s : ByteArray) (z : Int) (hl0 : l0.length ≤ 1000) (hl1 : l1.length ≤ 1000) (hl2 : l2.length ≤ 1000) (hs : s.size ≤ 1000) (hz : z ≤ 400) (w : World)
    (h0 : BytesAt w (.slice A0 l0.length cap0) l0) (h1 : BytesAt w (.slice A1 l1.length cap1) l1) (h2 : BytesAt w (.slice A2 l2.length cap2) l2) (T : Tab w) :
    Calls Tryd.prog 3 #[.slice A0 l0.length cap0, .slice A1 l1.length cap1, .slice A2 l2.length cap2, .string s, .int .i64 z] w fun e w' => e = .returned (.bool true) ∧ Below w.heap.size w w' := by
  have d0 : decide ((1000 : Int) < (l0.length : Int)) = false := by simp; omega
  have d1 : decide ((1000 : Int) < (l1.length : Int)) = false := by simp; omega
  have d2 : decide ((1000 : Int) < (l2.length : Int)) = false := by simp; omega
  have d3 : decide ((1000 : Int) < (s.size : Int)) = false := by simp; omega
  have d4 : decide ((400 : Int) < z) = false := by simp; omega
  have T0 := Lib.hid T
  have H0 := Lib.hid h0
  have H1 := Lib.hid h1
  have H2 := Lib.hid h2
  have EX := Lib.hid (extractL_length l0 l1)
  clear T h0 h1 h2
  go_enter Tryd.func3, Tryd.ntmps3
  go_wp2_with fail
  refine (expand_all _ _ l1 l2 z w H1.out H2.out (by omega) (by omega) T0.out).mono ?_
  rintro e w1 ⟨va, rfl, ya, b1⟩
  have B1 := Lib.hid b1
  have Ya := Lib.hid ya
  clear b1 ya
  go_wp2_with fail
  refine (refExpand_all _ _ l1 l2 z w1 (H1.out.below B1.out) (H2.out.below B1.out) (by omega) (by omega)).mono ?_
  rintro e w2 ⟨vb, rfl, yb, b2⟩
  have B2 := Lib.hid (B1.out.trans (b2.mono B1.out.size))
  have Ya2 := Lib.hid (Ya.out.below b2)
  have Yb := Lib.hid yb
  clear b2 yb Ya B1
  go_wp2_with fail
  refine (derKey_all _ _ _ l0 l1 l2 z w2 (H0.out.below B2.out) (H1.out.below B2.out) (H2.out.below B2.out) (by omega) (by omega) (by omega) (T0.out.below B2.out T0.out.pos)).mono ?_
  rintro e w3 ⟨vc, rfl, yc, b3⟩
  have B3 := Lib.hid (B2.out.trans (b3.mono B2.out.size))
  have Ya3 := Lib.hid (Ya2.out.below b3)
  have Yb3 := Lib.hid (Yb.out.below b3)
  have Yc := Lib.hid yc
  clear b3 yc Ya2 Yb B2
  go_wp2_with fail
  refine (refExtract_any _ _ l0 l1 w3 (H0.out.below B3.out) (H1.out.below B3.out) (by omega) (by omega)).mono ?_
  rintro e w4 ⟨vx, rfl, yx, b4⟩
  have B4 := Lib.hid (B3.out.trans (b4.mono B3.out.size))
  have Ya4 := Lib.hid (Ya3.out.below b4)
  have Yb4 := Lib.hid (Yb3.out.below b4)
  have Yc4 := Lib.hid (Yc.out.below b4)
  have Yx := Lib.hid yx
  clear b4 yx Ya3 Yb3 Yc B3
  go_wp2_with fail
  refine (refExpand_all _ _ (extractL l0 l1) l2 z w4 Yx.out (H2.out.below B4.out) (by have := EX.out; omega) (by omega)).mono ?_
  rintro e w5 ⟨vd, rfl, yd, b5⟩
  have B5 := Lib.hid (B4.out.trans (b5.mono B4.out.size))
  have FK := Lib.hid (KeysF.mk (w := w) (H0.out.below B5.out) (H1.out.below B5.out) (H2.out.below B5.out) (Ya4.out.below b5) (Yb4.out.below b5) (Yc4.out.below b5) yd (T0.out.below B5.out T0.out.pos) B5.out)
  clear b5 yd Ya4 Yb4 Yc4 Yx B4 B5
  have K1 : Hid (∀ W, KeysF w (.slice A0 l0.length cap0) (.slice A1 l1.length cap1) (.slice A2 l2.length cap2) va vb vc vd l0 l1 l2 (exA l1 l2 z) (exA (extractL l0 l1) l2 z) W → Calls Tryd.prog 10 #[.slice A0 l0.length cap0, .slice A1 l1.length cap1] W fun e w' => ∃ v', e = .returned v' ∧ BytesAt w' v' (extractL l0 l1) ∧ Below W.heap.size W w') := Lib.hid fun W h => extract_any _ _ l0 l1 W h.h0 h.h1 (by omega) (by omega) h.t
  have R1 : Hid (∀ W, KeysF w (.slice A0 l0.length cap0) (.slice A1 l1.length cap1) (.slice A2 l2.length cap2) va vb vc vd l0 l1 l2 (exA l1 l2 z) (exA (extractL l0 l1) l2 z) W → Calls Tryd.prog 9 #[.slice A0 l0.length cap0, .slice A1 l1.length cap1] W fun e w' => ∃ v', e = .returned v' ∧ BytesAt w' v' (extractL l0 l1) ∧ Below W.heap.size W w') := Lib.hid fun W h => refExtract_any _ _ l0 l1 W h.h0 h.h1 (by omega) (by omega)
  have K2 : Hid (∀ W, KeysF w (.slice A0 l0.length cap0) (.slice A1 l1.length cap1) (.slice A2 l2.length cap2) va vb vc vd l0 l1 l2 (exA l1 l2 z) (exA (extractL l0 l1) l2 z) W → Calls Tryd.prog 11 #[.slice A1 l1.length cap1, .string s] W fun e w' => ∃ v', e = .returned v' ∧ BytesAt w' v' (namedL l1 s.data.toList) ∧ Below W.heap.size W w') := Lib.hid fun W h => named_any _ s l1 W h.h1 (by omega) (by omega) h.t
  have R2 : Hid (∀ W, KeysF w (.slice A0 l0.length cap0) (.slice A1 l1.length cap1) (.slice A2 l2.length cap2) va vb vc vd l0 l1 l2 (exA l1 l2 z) (exA (extractL l0 l1) l2 z) W → Calls Tryd.prog 12 #[.slice A1 l1.length cap1, .string s] W fun e w' => ∃ v', e = .returned v' ∧ BytesAt w' v' (namedL l1 s.data.toList) ∧ Below W.heap.size W w') := Lib.hid fun W h => refNamed_any _ s l1 W h.h1 (by omega) (by omega)
  clear H0 H1 H2 T0 EX
  generalize exA l1 l2 z = a at *
  generalize exA (extractL l0 l1) l2 z = c at *
  generalize extractL l0 l1 = E at *
  generalize namedL l1 s.data.toList = N at *
  generalize exC z = x at *
  go_wp2_with fail
  clear d0 d1 d2 d3 d4 
  refine reg_begin (by kernel_rfl) fun w6 hb6 hz6 => ?_
  have F6 := Lib.hid (FK.out.below hb6)
  clear hb6 hz6 FK
  refine reg_take (i := 0) (v := ?_) rfl (by kernel_rfl) (by kernel_rfl) (by kernel_rfl) (fun _ _ _ h => h) (by rfl) ?hy0 ?_
  case hy0 => intro w' hw'; go_simp; (try with_reducible rfl)
  simp only [Act.put, List.setIfInBounds_toArray, List.set_cons_zero, List.set_cons_succ]
  refine reg_take (i := 1) (v := ?_) rfl (by kernel_rfl) (by kernel_rfl) (by kernel_rfl) (fun _ _ _ h => h) (by rfl) ?hy1 ?_
  case hy1 => intro w' hw'; go_simp; (try with_reducible rfl)
  simp only [Act.put, List.setIfInBounds_toArray, List.set_cons_zero, List.set_cons_succ]
  refine reg_take (i := 4) (v := ?_) rfl (by kernel_rfl) (by kernel_rfl) (by kernel_rfl) (fun _ _ _ h => h) (by rfl) ?hy4 ?_
  case hy4 => intro w' hw'; go_simp; (try with_reducible rfl)
  simp only [Act.put, List.setIfInBounds_toArray, List.set_cons_zero, List.set_cons_succ]
  refine reg_take (i := 5) (v := ?_) rfl (by kernel_rfl) (by kernel_rfl) (by kernel_rfl) (fun _ _ _ h => h) (by rfl) ?hy5 ?_
  case hy5 => intro w' hw'; go_simp; (try with_reducible rfl)
  simp only [Act.put, List.setIfInBounds_toArray, List.set_cons_zero, List.set_cons_succ]
  refine reg_call (i := 2) rfl (by kernel_rfl) (fun K' hK => ?_)
  go_simp
  refine (K1.out w6 F6.out).mono ?_
  rintro e w7 ⟨u2, rfl, y, b7⟩
  have F7 := Lib.hid (F6.out.below b7)
  have C7 := Lib.hid y
  refine hK.out _ _ b7 ?_
  clear hK K' b7 F6 y
  have r : ∀ w', Below w7.heap.size w7 w' → (convert 22 9 u2).run Tryd.prog w' = .ok (.string ⟨E.toArray⟩) w' := fun w' h => conv_bytes (C7.out.below h)
  refine reg_take (i := 3) (v := ?_) rfl (by kernel_rfl) (by kernel_rfl) (by kernel_rfl) (fun _ _ _ h => h) (by rfl) ?hy3 ?_
  case hy3 => intro w' hw'; go_simp; (try with_reducible rfl)
  simp only [Act.put, List.setIfInBounds_toArray, List.set_cons_zero, List.set_cons_succ]
  clear r
  refine reg_call (i := 6) rfl (by kernel_rfl) (fun K' hK => ?_)
  go_simp
  refine (R1.out w7 F7.out).mono ?_
  rintro e w8 ⟨u6, rfl, y, b8⟩
  have F8 := Lib.hid (F7.out.below b8)
  have C8 := Lib.hid y
  refine hK.out _ _ b8 ?_
  clear hK K' b8 F7 y
  have r : ∀ w', Below w8.heap.size w8 w' → (convert 22 9 u6).run Tryd.prog w' = .ok (.string ⟨E.toArray⟩) w' := fun w' h => conv_bytes (C8.out.below h)
  refine reg_take (i := 7) (v := ?_) rfl (by kernel_rfl) (by kernel_rfl) (by kernel_rfl) (fun _ _ _ h => h) (by rfl) ?hy7 ?_
  case hy7 => intro w' hw'; go_simp; (try with_reducible rfl)
  simp only [Act.put, List.setIfInBounds_toArray, List.set_cons_zero, List.set_cons_succ]
  clear r
  refine reg_take (i := 8) (v := ?_) rfl (by kernel_rfl) (by kernel_rfl) (by kernel_rfl) (fun _ _ _ h => h) (by rfl) ?hy8 ?_
  case hy8 => intro w' hw'; go_simp; (try with_reducible rfl)
  simp only [Act.put, List.setIfInBounds_toArray, List.set_cons_zero, List.set_cons_succ]
  refine reg_take (i := 9) (v := ?_) rfl (by kernel_rfl) (by kernel_rfl) (by kernel_rfl) (fun _ _ _ h => h) (by rfl) ?hy9 ?_
  case hy9 => intro w' hw'; go_simp; (try with_reducible rfl)
  simp only [Act.put, List.setIfInBounds_toArray, List.set_cons_zero, List.set_cons_succ]
  refine reg_take (i := 10) (v := ?_) rfl (by kernel_rfl) (by kernel_rfl) (by kernel_rfl) (fun _ _ _ h => h) (by rfl) ?hy10 ?_
  case hy10 => intro w' hw'; go_simp; (try with_reducible rfl)
  simp only [Act.put, List.setIfInBounds_toArray, List.set_cons_zero, List.set_cons_succ]
  refine reg_take (i := 12) (v := ?_) rfl (by kernel_rfl) (by kernel_rfl) (by kernel_rfl) (fun _ _ _ h => h) (by rfl) ?hy12 ?_
  case hy12 => intro w' hw'; go_simp; (try with_reducible rfl)
  simp only [Act.put, List.setIfInBounds_toArray, List.set_cons_zero, List.set_cons_succ]
  have r : ∀ w', Below w8.heap.size w8 w' → (convert 22 9 va).run Tryd.prog w' = .ok (.string ⟨a.toArray⟩) w' := fun w' h => conv_bytes (F8.out.ha.below h)
  refine reg_take (i := 11) (v := ?_) rfl (by kernel_rfl) (by kernel_rfl) (by kernel_rfl) (fun _ _ _ h => h) (by rfl) ?hy11 ?_
  case hy11 => intro w' hw'; go_simp; (try with_reducible rfl)
  simp only [Act.put, List.setIfInBounds_toArray, List.set_cons_zero, List.set_cons_succ]
  clear r
  have r : ∀ w', Below w8.heap.size w8 w' → (convert 22 9 vb).run Tryd.prog w' = .ok (.string ⟨a.toArray⟩) w' := fun w' h => conv_bytes (F8.out.hb.below h)
  refine reg_take (i := 13) (v := ?_) rfl (by kernel_rfl) (by kernel_rfl) (by kernel_rfl) (fun _ _ _ h => h) (by rfl) ?hy13 ?_
  case hy13 => intro w' hw'; go_simp; (try with_reducible rfl)
  simp only [Act.put, List.setIfInBounds_toArray, List.set_cons_zero, List.set_cons_succ]
  clear r
  refine reg_take (i := 14) (v := ?_) rfl (by kernel_rfl) (by kernel_rfl) (by kernel_rfl) (fun _ _ _ h => h) (by rfl) ?hy14 ?_
  case hy14 => intro w' hw'; go_simp; (try with_reducible rfl)
  simp only [Act.put, List.setIfInBounds_toArray, List.set_cons_zero, List.set_cons_succ]
  refine reg_take (i := 15) (v := ?_) rfl (by kernel_rfl) (by kernel_rfl) (by kernel_rfl) (fun _ _ _ h => h) (by rfl) ?hy15 ?_
  case hy15 => intro w' hw'; go_simp; (try with_reducible rfl)
  simp only [Act.put, List.setIfInBounds_toArray, List.set_cons_zero, List.set_cons_succ]
  refine reg_take (i := 16) (v := ?_) rfl (by kernel_rfl) (by kernel_rfl) (by kernel_rfl) (fun _ _ _ h => h) (by rfl) ?hy16 ?_
  case hy16 => intro w' hw'; go_simp; (try with_reducible rfl)
  simp only [Act.put, List.setIfInBounds_toArray, List.set_cons_zero, List.set_cons_succ]
  refine reg_take (i := 17) (v := ?_) rfl (by kernel_rfl) (by kernel_rfl) (by kernel_rfl) (fun _ _ _ h => h) (by rfl) ?hy17 ?_
  case hy17 => intro w' hw'; go_simp; (try with_reducible rfl)
  simp only [Act.put, List.setIfInBounds_toArray, List.set_cons_zero, List.set_cons_succ]
  refine reg_take (i := 18) (v := ?_) rfl (by kernel_rfl) (by kernel_rfl) (by kernel_rfl) (fun _ _ _ h => h) (by rfl) ?hy18 ?_
  case hy18 => intro w' hw'; go_simp; (try with_reducible rfl)
  simp only [Act.put, List.setIfInBounds_toArray, List.set_cons_zero, List.set_cons_succ]
  refine reg_take (i := 19) (v := ?_) rfl (by kernel_rfl) (by kernel_rfl) (by kernel_rfl) (fun _ _ _ h => h) (by rfl) ?hy19 ?_
  case hy19 => intro w' hw'; go_simp; (try with_reducible rfl)
  simp only [Act.put, List.setIfInBounds_toArray, List.set_cons_zero, List.set_cons_succ]
  refine reg_take (i := 20) (v := ?_) rfl (by kernel_rfl) (by kernel_rfl) (by kernel_rfl) (fun _ _ _ h => h) (by rfl) ?hy20 ?_
  case hy20 => intro w' hw'; go_simp; (try with_reducible rfl)
  simp only [Act.put, List.setIfInBounds_toArray, List.set_cons_zero, List.set_cons_succ]
  refine reg_take (i := 21) (v := ?_) rfl (by kernel_rfl) (by kernel_rfl) (by kernel_rfl) (fun _ _ _ h => h) (by rfl) ?hy21 ?_
  case hy21 => intro w' hw'; go_simp; (try with_reducible rfl)
  simp only [Act.put, List.setIfInBounds_toArray, List.set_cons_zero, List.set_cons_succ]
  refine reg_take (i := 22) (v := ?_) rfl (by kernel_rfl) (by kernel_rfl) (by kernel_rfl) (fun _ _ _ h => h) (by rfl) ?hy22 ?_
  case hy22 => intro w' hw'; go_simp; (try with_reducible rfl)
  simp only [Act.put, List.setIfInBounds_toArray, List.set_cons_zero, List.set_cons_succ]
  refine reg_take (i := 24) (v := ?_) rfl (by kernel_rfl) (by kernel_rfl) (by kernel_rfl) (fun _ _ _ h => h) (by rfl) ?hy24 ?_
  case hy24 => intro w' hw'; go_simp; (try with_reducible rfl)
  simp only [Act.put, List.setIfInBounds_toArray, List.set_cons_zero, List.set_cons_succ]
  have r : ∀ w', Below w8.heap.size w8 w' → (convert 22 9 vc).run Tryd.prog w' = .ok (.string ⟨c.toArray⟩) w' := fun w' h => conv_bytes (F8.out.hc.below h)
  refine reg_take (i := 23) (v := ?_) rfl (by kernel_rfl) (by kernel_rfl) (by kernel_rfl) (fun _ _ _ h => h) (by rfl) ?hy23 ?_
  case hy23 => intro w' hw'; go_simp; (try with_reducible rfl)
  simp only [Act.put, List.setIfInBounds_toArray, List.set_cons_zero, List.set_cons_succ]
  clear r
  have r : ∀ w', Below w8.heap.size w8 w' → (convert 22 9 vd).run Tryd.prog w' = .ok (.string ⟨c.toArray⟩) w' := fun w' h => conv_bytes (F8.out.hd.below h)
  refine reg_take (i := 25) (v := ?_) rfl (by kernel_rfl) (by kernel_rfl) (by kernel_rfl) (fun _ _ _ h => h) (by rfl) ?hy25 ?_
  case hy25 => intro w' hw'; go_simp; (try with_reducible rfl)
  simp only [Act.put, List.setIfInBounds_toArray, List.set_cons_zero, List.set_cons_succ]
  clear r
  refine reg_take (i := 26) (v := ?_) rfl (by kernel_rfl) (by kernel_rfl) (by kernel_rfl) (fun _ _ _ h => h) (by rfl) ?hy26 ?_
  case hy26 => intro w' hw'; go_simp; (try with_reducible rfl)
  simp only [Act.put, List.setIfInBounds_toArray, List.set_cons_zero, List.set_cons_succ]
  refine reg_take (i := 27) (v := ?_) rfl (by kernel_rfl) (by kernel_rfl) (by kernel_rfl) (fun _ _ _ h => h) (by rfl) ?hy27 ?_
  case hy27 => intro w' hw'; go_simp; (try with_reducible rfl)
  simp only [Act.put, List.setIfInBounds_toArray, List.set_cons_zero, List.set_cons_succ]
  refine reg_take (i := 28) (v := ?_) rfl (by kernel_rfl) (by kernel_rfl) (by kernel_rfl) (fun _ _ _ h => h) (by rfl) ?hy28 ?_
  case hy28 => intro w' hw'; go_simp; (try with_reducible rfl)
  simp only [Act.put, List.setIfInBounds_toArray, List.set_cons_zero, List.set_cons_succ]
  refine reg_take (i := 29) (v := ?_) rfl (by kernel_rfl) (by kernel_rfl) (by kernel_rfl) (fun _ _ _ h => h) (by rfl) ?hy29 ?_
  case hy29 => intro w' hw'; go_simp; (try with_reducible rfl)
  simp only [Act.put, List.setIfInBounds_toArray, List.set_cons_zero, List.set_cons_succ]
  refine reg_take (i := 30) (v := ?_) rfl (by kernel_rfl) (by kernel_rfl) (by kernel_rfl) (fun _ _ _ h => h) (by rfl) ?hy30 ?_
  case hy30 => intro w' hw'; go_simp; (try with_reducible rfl)
  simp only [Act.put, List.setIfInBounds_toArray, List.set_cons_zero, List.set_cons_succ]
  refine reg_take (i := 31) (v := ?_) rfl (by kernel_rfl) (by kernel_rfl) (by kernel_rfl) (fun _ _ _ h => h) (by rfl) ?hy31 ?_
  case hy31 => intro w' hw'; go_simp; (try with_reducible rfl)
  simp only [Act.put, List.setIfInBounds_toArray, List.set_cons_zero, List.set_cons_succ]
  refine reg_take (i := 32) (v := ?_) rfl (by kernel_rfl) (by kernel_rfl) (by kernel_rfl) (fun _ _ _ h => h) (by rfl) ?hy32 ?_
  case hy32 => intro w' hw'; go_simp; (try with_reducible rfl)
  simp only [Act.put, List.setIfInBounds_toArray, List.set_cons_zero, List.set_cons_succ]
  refine reg_take (i := 33) (v := ?_) rfl (by kernel_rfl) (by kernel_rfl) (by kernel_rfl) (fun _ _ _ h => h) (by rfl) ?hy33 ?_
  case hy33 => intro w' hw'; go_simp; (try with_reducible rfl)
  simp only [Act.put, List.setIfInBounds_toArray, List.set_cons_zero, List.set_cons_succ]
  refine reg_take (i := 34) (v := ?_) rfl (by kernel_rfl) (by kernel_rfl) (by kernel_rfl) (fun _ _ _ h => h) (by rfl) ?hy34 ?_
  case hy34 => intro w' hw'; go_simp; (try with_reducible rfl)
  simp only [Act.put, List.setIfInBounds_toArray, List.set_cons_zero, List.set_cons_succ]
  refine reg_take (i := 35) (v := ?_) rfl (by kernel_rfl) (by kernel_rfl) (by kernel_rfl) (fun _ _ _ h => h) (by rfl) ?hy35 ?_
  case hy35 => intro w' hw'; go_simp; (try with_reducible rfl)
  simp only [Act.put, List.setIfInBounds_toArray, List.set_cons_zero, List.set_cons_succ]
  refine reg_take (i := 38) (v := ?_) rfl (by kernel_rfl) (by kernel_rfl) (by kernel_rfl) (fun _ _ _ h => h) (by rfl) ?hy38 ?_
  case hy38 => intro w' hw'; go_simp; (try with_reducible rfl)
  simp only [Act.put, List.setIfInBounds_toArray, List.set_cons_zero, List.set_cons_succ]
  refine reg_take (i := 39) (v := ?_) rfl (by kernel_rfl) (by kernel_rfl) (by kernel_rfl) (fun _ _ _ h => h) (by rfl) ?hy39 ?_
  case hy39 => intro w' hw'; go_simp; (try with_reducible rfl)
  simp only [Act.put, List.setIfInBounds_toArray, List.set_cons_zero, List.set_cons_succ]
  refine reg_call (i := 36) rfl (by kernel_rfl) (fun K' hK => ?_)
  go_simp
  refine (K2.out w8 F8.out).mono ?_
  rintro e w9 ⟨u36, rfl, y, b9⟩
  have F9 := Lib.hid (F8.out.below b9)
  have C9 := Lib.hid y
  refine hK.out _ _ b9 ?_
  clear hK K' b9 F8 y
  have r : ∀ w', Below w9.heap.size w9 w' → (convert 22 9 u36).run Tryd.prog w' = .ok (.string ⟨N.toArray⟩) w' := fun w' h => conv_bytes (C9.out.below h)
  refine reg_take (i := 37) (v := ?_) rfl (by kernel_rfl) (by kernel_rfl) (by kernel_rfl) (fun _ _ _ h => h) (by rfl) ?hy37 ?_
  case hy37 => intro w' hw'; go_simp; (try with_reducible rfl)
  simp only [Act.put, List.setIfInBounds_toArray, List.set_cons_zero, List.set_cons_succ]
  clear r
  refine reg_call (i := 40) rfl (by kernel_rfl) (fun K' hK => ?_)
  go_simp
  refine (R2.out w9 F9.out).mono ?_
  rintro e w10 ⟨u40, rfl, y, b10⟩
  have F10 := Lib.hid (F9.out.below b10)
  have C10 := Lib.hid y
  refine hK.out _ _ b10 ?_
  clear hK K' b10 F9 y
  have r : ∀ w', Below w10.heap.size w10 w' → (convert 22 9 u40).run Tryd.prog w' = .ok (.string ⟨N.toArray⟩) w' := fun w' h => conv_bytes (C10.out.below h)
  refine reg_take (i := 41) (v := ?_) rfl (by kernel_rfl) (by kernel_rfl) (by kernel_rfl) (fun _ _ _ h => h) (by rfl) ?hy41 ?_
  case hy41 => intro w' hw'; go_simp; (try with_reducible rfl)
  simp only [Act.put, List.setIfInBounds_toArray, List.set_cons_zero, List.set_cons_succ]
  clear r
  refine reg_take (i := 42) (v := ?_) rfl (by kernel_rfl) (by kernel_rfl) (by kernel_rfl) (fun _ _ _ h => h) (by rfl) ?hy42 ?_
  case hy42 => intro w' hw'; go_simp; (try with_reducible rfl)
  simp only [Act.put, List.setIfInBounds_toArray, List.set_cons_zero, List.set_cons_succ]
  refine reg_take (i := 43) (v := ?_) rfl (by kernel_rfl) (by kernel_rfl) (by kernel_rfl) (fun _ _ _ h => h) (by rfl) ?hy43 ?_
  case hy43 => intro w' hw'; go_simp; (try with_reducible rfl)
  simp only [Act.put, List.setIfInBounds_toArray, List.set_cons_zero, List.set_cons_succ]
  refine reg_take (i := 44) (v := ?_) rfl (by kernel_rfl) (by kernel_rfl) (by kernel_rfl) (fun _ _ _ h => h) (by rfl) ?hy44 ?_
  case hy44 => intro w' hw'; go_simp; (try with_reducible rfl)
  simp only [Act.put, List.setIfInBounds_toArray, List.set_cons_zero, List.set_cons_succ]
  refine reg_call (i := 45) rfl (by kernel_rfl) (fun K' hK => ?_)
  go_simp
  refine (works5 w10 F10.out.t).mono ?_
  rintro e w11 ⟨rfl, b11⟩
  have F11 := Lib.hid (F10.out.below b11)
  refine hK.out _ _ b11 ?_
  clear hK K' b11 F10
  refine reg_take (i := 46) (v := ?_) rfl (by kernel_rfl) (by kernel_rfl) (by kernel_rfl) (fun _ _ _ h => h) (by rfl) ?hy46 ?_
  case hy46 => intro w' hw'; go_simp; (try with_reducible rfl)
  simp only [Act.put, List.setIfInBounds_toArray, List.set_cons_zero, List.set_cons_succ]
  refine reg_take (i := 47) (v := ?_) rfl (by kernel_rfl) (by kernel_rfl) (by kernel_rfl) (fun _ _ _ h => h) (by rfl) ?hy47 ?_
  case hy47 => intro w' hw'; go_simp; (try with_reducible rfl)
  simp only [Act.put, List.setIfInBounds_toArray, List.set_cons_zero, List.set_cons_succ]
  refine reg_end (by kernel_rfl) ?_
  go_wp2
  go_ret
  exact ⟨rfl, F11.out.b⟩

set_option maxRecDepth 100000 in
set_option maxHeartbeats 4000000 in
theorem keys_high (A0 A1 A2 : Option Addr) (l0 l1 l2 : List UInt8) (cap0 cap1 cap2 : Nat) (s : ByteArray) (z : Int) (hl0 : l0.length ≤ 1000) (hl1 : l1.length ≤ 1000) (hl2 : l2.length ≤ 1000) (hs : s.size ≤ 1000) (hz : 8160 < z) (w : World)
    (h0 : BytesAt w (.slice A0 l0.length cap0) l0) (h1 : BytesAt w (.slice A1 l1.length cap1) l1) (h2 : BytesAt w (.slice A2 l2.length cap2) l2) (T : Tab w) :
    Calls Tryd.prog 3 #[.slice A0 l0.length cap0, .slice A1 l1.length cap1, .slice A2 l2.length cap2, .string s, .int .i64 z] w fun e w' => e = .returned (.bool true) ∧ Below w.heap.size w w' := by
  have d0 : decide ((1000 : Int) < (l0.length : Int)) = false := by simp; omega
  have d1 : decide ((1000 : Int) < (l1.length : Int)) = false := by simp; omega
  have d2 : decide ((1000 : Int) < (l2.length : Int)) = false := by simp; omega
  have d3 : decide ((1000 : Int) < (s.size : Int)) = false := by simp; omega
  have d4 : decide ((400 : Int) < z) = true := by simp; omega
  have d5 : decide (z ≤ (8160 : Int)) = false := by simp; omega
  have T0 := Lib.hid T
  have H0 := Lib.hid h0
  have H1 := Lib.hid h1
  have H2 := Lib.hid h2
  have EX := Lib.hid (extractL_length l0 l1)
  clear T h0 h1 h2
  go_enter Tryd.func3, Tryd.ntmps3
  go_wp2_with fail
  refine (expand_all _ _ l1 l2 z w H1.out H2.out (by omega) (by omega) T0.out).mono ?_
  rintro e w1 ⟨va, rfl, ya, b1⟩
  have B1 := Lib.hid b1
  have Ya := Lib.hid ya
  clear b1 ya
  go_wp2_with fail
  refine (refExpand_all _ _ l1 l2 z w1 (H1.out.below B1.out) (H2.out.below B1.out) (by omega) (by omega)).mono ?_
  rintro e w2 ⟨vb, rfl, yb, b2⟩
  have B2 := Lib.hid (B1.out.trans (b2.mono B1.out.size))
  have Ya2 := Lib.hid (Ya.out.below b2)
  have Yb := Lib.hid yb
  clear b2 yb Ya B1
  go_wp2_with fail
  refine (derKey_all _ _ _ l0 l1 l2 z w2 (H0.out.below B2.out) (H1.out.below B2.out) (H2.out.below B2.out) (by omega) (by omega) (by omega) (T0.out.below B2.out T0.out.pos)).mono ?_
  rintro e w3 ⟨vc, rfl, yc, b3⟩
  have B3 := Lib.hid (B2.out.trans (b3.mono B2.out.size))
  have Ya3 := Lib.hid (Ya2.out.below b3)
  have Yb3 := Lib.hid (Yb.out.below b3)
  have Yc := Lib.hid yc
  clear b3 yc Ya2 Yb B2
  go_wp2_with fail
  refine (refExtract_any _ _ l0 l1 w3 (H0.out.below B3.out) (H1.out.below B3.out) (by omega) (by omega)).mono ?_
  rintro e w4 ⟨vx, rfl, yx, b4⟩
  have B4 := Lib.hid (B3.out.trans (b4.mono B3.out.size))
  have Ya4 := Lib.hid (Ya3.out.below b4)
  have Yb4 := Lib.hid (Yb3.out.below b4)
  have Yc4 := Lib.hid (Yc.out.below b4)
  have Yx := Lib.hid yx
  clear b4 yx Ya3 Yb3 Yc B3
  go_wp2_with fail
  refine (refExpand_all _ _ (extractL l0 l1) l2 z w4 Yx.out (H2.out.below B4.out) (by have := EX.out; omega) (by omega)).mono ?_
  rintro e w5 ⟨vd, rfl, yd, b5⟩
  have B5 := Lib.hid (B4.out.trans (b5.mono B4.out.size))
  have FK := Lib.hid (KeysF.mk (w := w) (H0.out.below B5.out) (H1.out.below B5.out) (H2.out.below B5.out) (Ya4.out.below b5) (Yb4.out.below b5) (Yc4.out.below b5) yd (T0.out.below B5.out T0.out.pos) B5.out)
  clear b5 yd Ya4 Yb4 Yc4 Yx B4 B5
  have K1 : Hid (∀ W, KeysF w (.slice A0 l0.length cap0) (.slice A1 l1.length cap1) (.slice A2 l2.length cap2) va vb vc vd l0 l1 l2 (exA l1 l2 z) (exA (extractL l0 l1) l2 z) W → Calls Tryd.prog 10 #[.slice A0 l0.length cap0, .slice A1 l1.length cap1] W fun e w' => ∃ v', e = .returned v' ∧ BytesAt w' v' (extractL l0 l1) ∧ Below W.heap.size W w') := Lib.hid fun W h => extract_any _ _ l0 l1 W h.h0 h.h1 (by omega) (by omega) h.t
  have R1 : Hid (∀ W, KeysF w (.slice A0 l0.length cap0) (.slice A1 l1.length cap1) (.slice A2 l2.length cap2) va vb vc vd l0 l1 l2 (exA l1 l2 z) (exA (extractL l0 l1) l2 z) W → Calls Tryd.prog 9 #[.slice A0 l0.length cap0, .slice A1 l1.length cap1] W fun e w' => ∃ v', e = .returned v' ∧ BytesAt w' v' (extractL l0 l1) ∧ Below W.heap.size W w') := Lib.hid fun W h => refExtract_any _ _ l0 l1 W h.h0 h.h1 (by omega) (by omega)
  have K2 : Hid (∀ W, KeysF w (.slice A0 l0.length cap0) (.slice A1 l1.length cap1) (.slice A2 l2.length cap2) va vb vc vd l0 l1 l2 (exA l1 l2 z) (exA (extractL l0 l1) l2 z) W → Calls Tryd.prog 11 #[.slice A1 l1.length cap1, .string s] W fun e w' => ∃ v', e = .returned v' ∧ BytesAt w' v' (namedL l1 s.data.toList) ∧ Below W.heap.size W w') := Lib.hid fun W h => named_any _ s l1 W h.h1 (by omega) (by omega) h.t
  have R2 : Hid (∀ W, KeysF w (.slice A0 l0.length cap0) (.slice A1 l1.length cap1) (.slice A2 l2.length cap2) va vb vc vd l0 l1 l2 (exA l1 l2 z) (exA (extractL l0 l1) l2 z) W → Calls Tryd.prog 12 #[.slice A1 l1.length cap1, .string s] W fun e w' => ∃ v', e = .returned v' ∧ BytesAt w' v' (namedL l1 s.data.toList) ∧ Below W.heap.size W w') := Lib.hid fun W h => refNamed_any _ s l1 W h.h1 (by omega) (by omega)
  clear H0 H1 H2 T0 EX
  generalize exA l1 l2 z = a at *
  generalize exA (extractL l0 l1) l2 z = c at *
  generalize extractL l0 l1 = E at *
  generalize namedL l1 s.data.toList = N at *
  generalize exC z = x at *
  go_wp2_with fail
  clear d0 d1 d2 d3 d4 d5
  refine reg_begin (by kernel_rfl) fun w6 hb6 hz6 => ?_
  have F6 := Lib.hid (FK.out.below hb6)
  clear hb6 hz6 FK
  refine reg_take (i := 0) (v := ?_) rfl (by kernel_rfl) (by kernel_rfl) (by kernel_rfl) (fun _ _ _ h => h) (by rfl) ?hy0 ?_
  case hy0 => intro w' hw'; go_simp; (try with_reducible rfl)
  simp only [Act.put, List.setIfInBounds_toArray, List.set_cons_zero, List.set_cons_succ]
  refine reg_take (i := 1) (v := ?_) rfl (by kernel_rfl) (by kernel_rfl) (by kernel_rfl) (fun _ _ _ h => h) (by rfl) ?hy1 ?_
  case hy1 => intro w' hw'; go_simp; (try with_reducible rfl)
  simp only [Act.put, List.setIfInBounds_toArray, List.set_cons_zero, List.set_cons_succ]
  refine reg_take (i := 4) (v := ?_) rfl (by kernel_rfl) (by kernel_rfl) (by kernel_rfl) (fun _ _ _ h => h) (by rfl) ?hy4 ?_
  case hy4 => intro w' hw'; go_simp; (try with_reducible rfl)
  simp only [Act.put, List.setIfInBounds_toArray, List.set_cons_zero, List.set_cons_succ]
  refine reg_take (i := 5) (v := ?_) rfl (by kernel_rfl) (by kernel_rfl) (by kernel_rfl) (fun _ _ _ h => h) (by rfl) ?hy5 ?_
  case hy5 => intro w' hw'; go_simp; (try with_reducible rfl)
  simp only [Act.put, List.setIfInBounds_toArray, List.set_cons_zero, List.set_cons_succ]
  refine reg_call (i := 2) rfl (by kernel_rfl) (fun K' hK => ?_)
  go_simp
  refine (K1.out w6 F6.out).mono ?_
  rintro e w7 ⟨u2, rfl, y, b7⟩
  have F7 := Lib.hid (F6.out.below b7)
  have C7 := Lib.hid y
  refine hK.out _ _ b7 ?_
  clear hK K' b7 F6 y
  have r : ∀ w', Below w7.heap.size w7 w' → (convert 22 9 u2).run Tryd.prog w' = .ok (.string ⟨E.toArray⟩) w' := fun w' h => conv_bytes (C7.out.below h)
  refine reg_take (i := 3) (v := ?_) rfl (by kernel_rfl) (by kernel_rfl) (by kernel_rfl) (fun _ _ _ h => h) (by rfl) ?hy3 ?_
  case hy3 => intro w' hw'; go_simp; (try with_reducible rfl)
  simp only [Act.put, List.setIfInBounds_toArray, List.set_cons_zero, List.set_cons_succ]
  clear r
  refine reg_call (i := 6) rfl (by kernel_rfl) (fun K' hK => ?_)
  go_simp
  refine (R1.out w7 F7.out).mono ?_
  rintro e w8 ⟨u6, rfl, y, b8⟩
  have F8 := Lib.hid (F7.out.below b8)
  have C8 := Lib.hid y
  refine hK.out _ _ b8 ?_
  clear hK K' b8 F7 y
  have r : ∀ w', Below w8.heap.size w8 w' → (convert 22 9 u6).run Tryd.prog w' = .ok (.string ⟨E.toArray⟩) w' := fun w' h => conv_bytes (C8.out.below h)
  refine reg_take (i := 7) (v := ?_) rfl (by kernel_rfl) (by kernel_rfl) (by kernel_rfl) (fun _ _ _ h => h) (by rfl) ?hy7 ?_
  case hy7 => intro w' hw'; go_simp; (try with_reducible rfl)
  simp only [Act.put, List.setIfInBounds_toArray, List.set_cons_zero, List.set_cons_succ]
  clear r
  refine reg_take (i := 8) (v := ?_) rfl (by kernel_rfl) (by kernel_rfl) (by kernel_rfl) (fun _ _ _ h => h) (by rfl) ?hy8 ?_
  case hy8 => intro w' hw'; go_simp; (try with_reducible rfl)
  simp only [Act.put, List.setIfInBounds_toArray, List.set_cons_zero, List.set_cons_succ]
  refine reg_take (i := 9) (v := ?_) rfl (by kernel_rfl) (by kernel_rfl) (by kernel_rfl) (fun _ _ _ h => h) (by rfl) ?hy9 ?_
  case hy9 => intro w' hw'; go_simp; (try with_reducible rfl)
  simp only [Act.put, List.setIfInBounds_toArray, List.set_cons_zero, List.set_cons_succ]
  refine reg_take (i := 10) (v := ?_) rfl (by kernel_rfl) (by kernel_rfl) (by kernel_rfl) (fun _ _ _ h => h) (by rfl) ?hy10 ?_
  case hy10 => intro w' hw'; go_simp; (try with_reducible rfl)
  simp only [Act.put, List.setIfInBounds_toArray, List.set_cons_zero, List.set_cons_succ]
  refine reg_take (i := 12) (v := ?_) rfl (by kernel_rfl) (by kernel_rfl) (by kernel_rfl) (fun _ _ _ h => h) (by rfl) ?hy12 ?_
  case hy12 => intro w' hw'; go_simp; (try with_reducible rfl)
  simp only [Act.put, List.setIfInBounds_toArray, List.set_cons_zero, List.set_cons_succ]
  have r : ∀ w', Below w8.heap.size w8 w' → (convert 22 9 va).run Tryd.prog w' = .ok (.string ⟨a.toArray⟩) w' := fun w' h => conv_bytes (F8.out.ha.below h)
  refine reg_take (i := 11) (v := ?_) rfl (by kernel_rfl) (by kernel_rfl) (by kernel_rfl) (fun _ _ _ h => h) (by rfl) ?hy11 ?_
  case hy11 => intro w' hw'; go_simp; (try with_reducible rfl)
  simp only [Act.put, List.setIfInBounds_toArray, List.set_cons_zero, List.set_cons_succ]
  clear r
  have r : ∀ w', Below w8.heap.size w8 w' → (convert 22 9 vb).run Tryd.prog w' = .ok (.string ⟨a.toArray⟩) w' := fun w' h => conv_bytes (F8.out.hb.below h)
  refine reg_take (i := 13) (v := ?_) rfl (by kernel_rfl) (by kernel_rfl) (by kernel_rfl) (fun _ _ _ h => h) (by rfl) ?hy13 ?_
  case hy13 => intro w' hw'; go_simp; (try with_reducible rfl)
  simp only [Act.put, List.setIfInBounds_toArray, List.set_cons_zero, List.set_cons_succ]
  clear r
  refine reg_take (i := 14) (v := ?_) rfl (by kernel_rfl) (by kernel_rfl) (by kernel_rfl) (fun _ _ _ h => h) (by rfl) ?hy14 ?_
  case hy14 => intro w' hw'; go_simp; (try with_reducible rfl)
  simp only [Act.put, List.setIfInBounds_toArray, List.set_cons_zero, List.set_cons_succ]
  refine reg_take (i := 15) (v := ?_) rfl (by kernel_rfl) (by kernel_rfl) (by kernel_rfl) (fun _ _ _ h => h) (by rfl) ?hy15 ?_
  case hy15 => intro w' hw'; go_simp; (try with_reducible rfl)
  simp only [Act.put, List.setIfInBounds_toArray, List.set_cons_zero, List.set_cons_succ]
  refine reg_take (i := 16) (v := ?_) rfl (by kernel_rfl) (by kernel_rfl) (by kernel_rfl) (fun _ _ _ h => h) (by rfl) ?hy16 ?_
  case hy16 => intro w' hw'; go_simp; (try with_reducible rfl)
  simp only [Act.put, List.setIfInBounds_toArray, List.set_cons_zero, List.set_cons_succ]
  refine reg_take (i := 17) (v := ?_) rfl (by kernel_rfl) (by kernel_rfl) (by kernel_rfl) (fun _ _ _ h => h) (by rfl) ?hy17 ?_
  case hy17 => intro w' hw'; go_simp; (try with_reducible rfl)
  simp only [Act.put, List.setIfInBounds_toArray, List.set_cons_zero, List.set_cons_succ]
  refine reg_take (i := 18) (v := ?_) rfl (by kernel_rfl) (by kernel_rfl) (by kernel_rfl) (fun _ _ _ h => h) (by rfl) ?hy18 ?_
  case hy18 => intro w' hw'; go_simp; (try with_reducible rfl)
  simp only [Act.put, List.setIfInBounds_toArray, List.set_cons_zero, List.set_cons_succ]
  refine reg_take (i := 19) (v := ?_) rfl (by kernel_rfl) (by kernel_rfl) (by kernel_rfl) (fun _ _ _ h => h) (by rfl) ?hy19 ?_
  case hy19 => intro w' hw'; go_simp; (try with_reducible rfl)
  simp only [Act.put, List.setIfInBounds_toArray, List.set_cons_zero, List.set_cons_succ]
  refine reg_take (i := 20) (v := ?_) rfl (by kernel_rfl) (by kernel_rfl) (by kernel_rfl) (fun _ _ _ h => h) (by rfl) ?hy20 ?_
  case hy20 => intro w' hw'; go_simp; (try with_reducible rfl)
  simp only [Act.put, List.setIfInBounds_toArray, List.set_cons_zero, List.set_cons_succ]
  refine reg_take (i := 21) (v := ?_) rfl (by kernel_rfl) (by kernel_rfl) (by kernel_rfl) (fun _ _ _ h => h) (by rfl) ?hy21 ?_
  case hy21 => intro w' hw'; go_simp; (try with_reducible rfl)
  simp only [Act.put, List.setIfInBounds_toArray, List.set_cons_zero, List.set_cons_succ]
  refine reg_take (i := 22) (v := ?_) rfl (by kernel_rfl) (by kernel_rfl) (by kernel_rfl) (fun _ _ _ h => h) (by rfl) ?hy22 ?_
  case hy22 => intro w' hw'; go_simp; (try with_reducible rfl)
  simp only [Act.put, List.setIfInBounds_toArray, List.set_cons_zero, List.set_cons_succ]
  refine reg_take (i := 24) (v := ?_) rfl (by kernel_rfl) (by kernel_rfl) (by kernel_rfl) (fun _ _ _ h => h) (by rfl) ?hy24 ?_
  case hy24 => intro w' hw'; go_simp; (try with_reducible rfl)
  simp only [Act.put, List.setIfInBounds_toArray, List.set_cons_zero, List.set_cons_succ]
  have r : ∀ w', Below w8.heap.size w8 w' → (convert 22 9 vc).run Tryd.prog w' = .ok (.string ⟨c.toArray⟩) w' := fun w' h => conv_bytes (F8.out.hc.below h)
  refine reg_take (i := 23) (v := ?_) rfl (by kernel_rfl) (by kernel_rfl) (by kernel_rfl) (fun _ _ _ h => h) (by rfl) ?hy23 ?_
  case hy23 => intro w' hw'; go_simp; (try with_reducible rfl)
  simp only [Act.put, List.setIfInBounds_toArray, List.set_cons_zero, List.set_cons_succ]
  clear r
  have r : ∀ w', Below w8.heap.size w8 w' → (convert 22 9 vd).run Tryd.prog w' = .ok (.string ⟨c.toArray⟩) w' := fun w' h => conv_bytes (F8.out.hd.below h)
  refine reg_take (i := 25) (v := ?_) rfl (by kernel_rfl) (by kernel_rfl) (by kernel_rfl) (fun _ _ _ h => h) (by rfl) ?hy25 ?_
  case hy25 => intro w' hw'; go_simp; (try with_reducible rfl)
  simp only [Act.put, List.setIfInBounds_toArray, List.set_cons_zero, List.set_cons_succ]
  clear r
  refine reg_take (i := 26) (v := ?_) rfl (by kernel_rfl) (by kernel_rfl) (by kernel_rfl) (fun _ _ _ h => h) (by rfl) ?hy26 ?_
  case hy26 => intro w' hw'; go_simp; (try with_reducible rfl)
  simp only [Act.put, List.setIfInBounds_toArray, List.set_cons_zero, List.set_cons_succ]
  refine reg_take (i := 27) (v := ?_) rfl (by kernel_rfl) (by kernel_rfl) (by kernel_rfl) (fun _ _ _ h => h) (by rfl) ?hy27 ?_
  case hy27 => intro w' hw'; go_simp; (try with_reducible rfl)
  simp only [Act.put, List.setIfInBounds_toArray, List.set_cons_zero, List.set_cons_succ]
  refine reg_take (i := 28) (v := ?_) rfl (by kernel_rfl) (by kernel_rfl) (by kernel_rfl) (fun _ _ _ h => h) (by rfl) ?hy28 ?_
  case hy28 => intro w' hw'; go_simp; (try with_reducible rfl)
  simp only [Act.put, List.setIfInBounds_toArray, List.set_cons_zero, List.set_cons_succ]
  refine reg_take (i := 29) (v := ?_) rfl (by kernel_rfl) (by kernel_rfl) (by kernel_rfl) (fun _ _ _ h => h) (by rfl) ?hy29 ?_
  case hy29 => intro w' hw'; go_simp; (try with_reducible rfl)
  simp only [Act.put, List.setIfInBounds_toArray, List.set_cons_zero, List.set_cons_succ]
  refine reg_take (i := 30) (v := ?_) rfl (by kernel_rfl) (by kernel_rfl) (by kernel_rfl) (fun _ _ _ h => h) (by rfl) ?hy30 ?_
  case hy30 => intro w' hw'; go_simp; (try with_reducible rfl)
  simp only [Act.put, List.setIfInBounds_toArray, List.set_cons_zero, List.set_cons_succ]
  refine reg_take (i := 31) (v := ?_) rfl (by kernel_rfl) (by kernel_rfl) (by kernel_rfl) (fun _ _ _ h => h) (by rfl) ?hy31 ?_
  case hy31 => intro w' hw'; go_simp; (try with_reducible rfl)
  simp only [Act.put, List.setIfInBounds_toArray, List.set_cons_zero, List.set_cons_succ]
  refine reg_take (i := 32) (v := ?_) rfl (by kernel_rfl) (by kernel_rfl) (by kernel_rfl) (fun _ _ _ h => h) (by rfl) ?hy32 ?_
  case hy32 => intro w' hw'; go_simp; (try with_reducible rfl)
  simp only [Act.put, List.setIfInBounds_toArray, List.set_cons_zero, List.set_cons_succ]
  refine reg_take (i := 33) (v := ?_) rfl (by kernel_rfl) (by kernel_rfl) (by kernel_rfl) (fun _ _ _ h => h) (by rfl) ?hy33 ?_
  case hy33 => intro w' hw'; go_simp; (try with_reducible rfl)
  simp only [Act.put, List.setIfInBounds_toArray, List.set_cons_zero, List.set_cons_succ]
  refine reg_take (i := 34) (v := ?_) rfl (by kernel_rfl) (by kernel_rfl) (by kernel_rfl) (fun _ _ _ h => h) (by rfl) ?hy34 ?_
  case hy34 => intro w' hw'; go_simp; (try with_reducible rfl)
  simp only [Act.put, List.setIfInBounds_toArray, List.set_cons_zero, List.set_cons_succ]
  refine reg_take (i := 35) (v := ?_) rfl (by kernel_rfl) (by kernel_rfl) (by kernel_rfl) (fun _ _ _ h => h) (by rfl) ?hy35 ?_
  case hy35 => intro w' hw'; go_simp; (try with_reducible rfl)
  simp only [Act.put, List.setIfInBounds_toArray, List.set_cons_zero, List.set_cons_succ]
  refine reg_take (i := 38) (v := ?_) rfl (by kernel_rfl) (by kernel_rfl) (by kernel_rfl) (fun _ _ _ h => h) (by rfl) ?hy38 ?_
  case hy38 => intro w' hw'; go_simp; (try with_reducible rfl)
  simp only [Act.put, List.setIfInBounds_toArray, List.set_cons_zero, List.set_cons_succ]
  refine reg_take (i := 39) (v := ?_) rfl (by kernel_rfl) (by kernel_rfl) (by kernel_rfl) (fun _ _ _ h => h) (by rfl) ?hy39 ?_
  case hy39 => intro w' hw'; go_simp; (try with_reducible rfl)
  simp only [Act.put, List.setIfInBounds_toArray, List.set_cons_zero, List.set_cons_succ]
  refine reg_call (i := 36) rfl (by kernel_rfl) (fun K' hK => ?_)
  go_simp
  refine (K2.out w8 F8.out).mono ?_
  rintro e w9 ⟨u36, rfl, y, b9⟩
  have F9 := Lib.hid (F8.out.below b9)
  have C9 := Lib.hid y
  refine hK.out _ _ b9 ?_
  clear hK K' b9 F8 y
  have r : ∀ w', Below w9.heap.size w9 w' → (convert 22 9 u36).run Tryd.prog w' = .ok (.string ⟨N.toArray⟩) w' := fun w' h => conv_bytes (C9.out.below h)
  refine reg_take (i := 37) (v := ?_) rfl (by kernel_rfl) (by kernel_rfl) (by kernel_rfl) (fun _ _ _ h => h) (by rfl) ?hy37 ?_
  case hy37 => intro w' hw'; go_simp; (try with_reducible rfl)
  simp only [Act.put, List.setIfInBounds_toArray, List.set_cons_zero, List.set_cons_succ]
  clear r
  refine reg_call (i := 40) rfl (by kernel_rfl) (fun K' hK => ?_)
  go_simp
  refine (R2.out w9 F9.out).mono ?_
  rintro e w10 ⟨u40, rfl, y, b10⟩
  have F10 := Lib.hid (F9.out.below b10)
  have C10 := Lib.hid y
  refine hK.out _ _ b10 ?_
  clear hK K' b10 F9 y
  have r : ∀ w', Below w10.heap.size w10 w' → (convert 22 9 u40).run Tryd.prog w' = .ok (.string ⟨N.toArray⟩) w' := fun w' h => conv_bytes (C10.out.below h)
  refine reg_take (i := 41) (v := ?_) rfl (by kernel_rfl) (by kernel_rfl) (by kernel_rfl) (fun _ _ _ h => h) (by rfl) ?hy41 ?_
  case hy41 => intro w' hw'; go_simp; (try with_reducible rfl)
  simp only [Act.put, List.setIfInBounds_toArray, List.set_cons_zero, List.set_cons_succ]
  clear r
  refine reg_take (i := 42) (v := ?_) rfl (by kernel_rfl) (by kernel_rfl) (by kernel_rfl) (fun _ _ _ h => h) (by rfl) ?hy42 ?_
  case hy42 => intro w' hw'; go_simp; (try with_reducible rfl)
  simp only [Act.put, List.setIfInBounds_toArray, List.set_cons_zero, List.set_cons_succ]
  refine reg_take (i := 43) (v := ?_) rfl (by kernel_rfl) (by kernel_rfl) (by kernel_rfl) (fun _ _ _ h => h) (by rfl) ?hy43 ?_
  case hy43 => intro w' hw'; go_simp; (try with_reducible rfl)
  simp only [Act.put, List.setIfInBounds_toArray, List.set_cons_zero, List.set_cons_succ]
  refine reg_take (i := 44) (v := ?_) rfl (by kernel_rfl) (by kernel_rfl) (by kernel_rfl) (fun _ _ _ h => h) (by rfl) ?hy44 ?_
  case hy44 => intro w' hw'; go_simp; (try with_reducible rfl)
  simp only [Act.put, List.setIfInBounds_toArray, List.set_cons_zero, List.set_cons_succ]
  refine reg_call (i := 45) rfl (by kernel_rfl) (fun K' hK => ?_)
  go_simp
  refine (works5 w10 F10.out.t).mono ?_
  rintro e w11 ⟨rfl, b11⟩
  have F11 := Lib.hid (F10.out.below b11)
  refine hK.out _ _ b11 ?_
  clear hK K' b11 F10
  refine reg_take (i := 46) (v := ?_) rfl (by kernel_rfl) (by kernel_rfl) (by kernel_rfl) (fun _ _ _ h => h) (by rfl) ?hy46 ?_
  case hy46 => intro w' hw'; go_simp; (try with_reducible rfl)
  simp only [Act.put, List.setIfInBounds_toArray, List.set_cons_zero, List.set_cons_succ]
  refine reg_take (i := 47) (v := ?_) rfl (by kernel_rfl) (by kernel_rfl) (by kernel_rfl) (fun _ _ _ h => h) (by rfl) ?hy47 ?_
  case hy47 => intro w' hw'; go_simp; (try with_reducible rfl)
  simp only [Act.put, List.setIfInBounds_toArray, List.set_cons_zero, List.set_cons_succ]
  refine reg_end (by kernel_rfl) ?_
  go_wp2
  go_ret
  exact ⟨rfl, F11.out.b⟩

theorem keys_core (A0 A1 A2 : Option Addr) (l0 l1 l2 : List UInt8) (n0 n1 n2 cap0 cap1 cap2 : Nat) (s : ByteArray) (z : Int) (w : World) (h0 : BytesAt w (.slice A0 n0 cap0) l0) (h1 : BytesAt w (.slice A1 n1 cap1) l1) (h2 : BytesAt w (.slice A2 n2 cap2) l2) (T : Tab w) :
    Calls Tryd.prog 3 #[.slice A0 n0 cap0, .slice A1 n1 cap1, .slice A2 n2 cap2, .string s, .int .i64 z] w fun e w' => e = .returned (.bool true) ∧ Below w.heap.size w w' := by
  obtain ⟨hn0, _⟩ := h0.size
  obtain ⟨hn1, _⟩ := h1.size
  obtain ⟨hn2, _⟩ := h2.size
  subst hn0 hn1 hn2
  by_cases hg : 1000 < l0.length ∨ 1000 < l1.length ∨ 1000 < l2.length ∨ 1000 < s.size ∨ (400 < z ∧ z ≤ 8160)
  · exact keys_great A0 A1 A2 _ _ _ cap0 cap1 cap2 s z hg w T
  · by_cases hz : z ≤ 400
    · exact keys_small A0 A1 A2 l0 l1 l2 cap0 cap1 cap2 s z (by omega) (by omega) (by omega) (by omega) hz w h0 h1 h2 T
    · exact keys_high A0 A1 A2 l0 l1 l2 cap0 cap1 cap2 s z (by omega) (by omega) (by omega) (by omega) (by omega) w h0 h1 h2 T

set_option maxRecDepth 100000 in
theorem keys_core_lifted (os : Os) (started : os.Started) (H : Type) (enc : TypeId × Value → H) :
    ReturnsInHanded {} Tryd.checked os 3 .any (fun w args => (Rows.deriveKeysSpec.pre enc Tryd.prog Tryd.f3 [] false w args ∧ laidMetH Tryd.prog laidC w) ∧ sizedMet enc Tryd.prog Tryd.f3 (OpenSpec.ofChange Rows.deriveKeysSpec) false w args)
      (Rows.deriveKeysSpec.post enc Tryd.prog Tryd.f3 false true false false) := by
  refine returnsInHanded_of_change_and (C := Tryd.checked) (X := fun w _ => laidMetH Tryd.prog laidC w) (fun _ _ _ hh h => h.of_heap hh) own started (by kernel_rfl) Tryd.func3
    (ChangeSpec.witness_shaped (enc := enc) (C := Tryd.checked) (os := os) (X := fun w _ => laidMetH Tryd.prog laidC w) false (World.doorLaid Tryd.prog 400 os) #[.slice none 0 0, .slice none 0 0, .slice none 0 0, .string ByteArray.empty, .int .i64 0] 8 rfl (World.shaped_of_RefB (by kernel_rfl) (by kernel_rfl)) (by kernel_rfl) (by kernel_rfl) (by kernel_rfl) (door_met os _)) ?_
  intro W base args ds gs before hval0 hW _ _ hL _
  have hval : ∀ (j : Nat) t v, Tryd.f3.params[j]? = some t → args[j]? = some v → Value.okWide Tryd.prog W .any base t v := hval0
  have hW' := hW
  obtain ⟨p, q, hA0, hV, rfl, hfz, hnd⟩ := hW
  have hA : DataW.TrodAll enc Tryd.prog W 0 (fun _ => true) true Tryd.f3.params.toList args.toList ds p := hA0
  rw [Tryd.params3] at hA hval
  obtain ⟨v0, vs0, d0, ds0, p0, q0, hargs, rfl, rfl, h0, r0⟩ := trodAll_cons hA
  obtain ⟨v1, vs1, d1, ds1, p1, q1, rfl, rfl, rfl, h1, r1⟩ := trodAll_cons r0
  obtain ⟨v2, vs2, d2, ds2, p2, q2, rfl, rfl, rfl, h2, r2⟩ := trodAll_cons r1
  obtain ⟨v3, vs3, d3, ds3, p3, q3, rfl, rfl, rfl, h3, r3⟩ := trodAll_cons r2
  obtain ⟨v4, vs4, d4, ds4, p4, q4, rfl, rfl, rfl, h4, r4⟩ := trodAll_cons r3
  obtain ⟨rfl, rfl, rfl⟩ := trodAll_nil r4
  obtain rfl : args = #[v0, v1, v2, v3, v4] := by cases args; simp_all
  obtain ⟨rfl, rfl⟩ := trodVars_none hV
  obtain ⟨a0, len0, cap0, rfl⟩ := okWide_slice Tryd.underlying22 (hval 0 22 v0 rfl rfl)
  have k0 := h0
  have lt0 : ∀ x ∈ p0, x.block < W.heap.size := by obtain ⟨m, hm⟩ := k0; exact DataW.trod_lt m _ _ _ hm
  obtain ⟨l0, w0⟩ := open_bytes h0
  obtain ⟨a1, len1, cap1, rfl⟩ := okWide_slice Tryd.underlying22 (hval 1 22 v1 rfl rfl)
  have k1 := h1
  have lt1 : ∀ x ∈ p1, x.block < W.heap.size := by obtain ⟨m, hm⟩ := k1; exact DataW.trod_lt m _ _ _ hm
  obtain ⟨l1, w1⟩ := open_bytes h1
  obtain ⟨a2, len2, cap2, rfl⟩ := okWide_slice Tryd.underlying22 (hval 2 22 v2 rfl rfl)
  have k2 := h2
  have lt2 : ∀ x ∈ p2, x.block < W.heap.size := by obtain ⟨m, hm⟩ := k2; exact DataW.trod_lt m _ _ _ hm
  obtain ⟨l2, w2⟩ := open_bytes h2
  obtain ⟨s3, rfl, rfl, rfl, w3⟩ := open_string Tryd.underlying9 (hval 3 9 v3 rfl rfl) h3
  obtain ⟨a4, rfl, rfl, rfl, w4⟩ := open_int Tryd.underlying3 (hval 4 3 v4 rfl rfl) h4
  clear hA0 hval0
  refine (keys_core a0 a1 a2 l0 l1 l2 len0 len1 len2 cap0 cap1 cap2 s3 a4 W w0 w1 w2 (tab_of_laid hL)).mono fun e W' ⟨he, bel⟩ => ?_
  subst he
  exact ⟨_, rfl, _, _, _, [], _, [], hW', trodAll_mk1 (shut_bool Tryd.underlying4 _), (trodAll_cons_mk (Below.trod laidOut (by kernel_rfl) (of_decide_eq_true (by kernel_rfl)) k0 bel lt0) (trodAll_cons_mk (Below.trod laidOut (by kernel_rfl) (of_decide_eq_true (by kernel_rfl)) k1 bel lt1) (trodAll_cons_mk (Below.trod laidOut (by kernel_rfl) (of_decide_eq_true (by kernel_rfl)) k2 bel lt2) (trodAll_cons_mk (shut_string Tryd.underlying9 w3) (trodAll_cons_mk (shut_int Tryd.underlying3 w4) trodAll_mk0))))), rfl, bel.frame _, fun h => by cases h⟩

theorem deriveKeys_row : Rows.DeriveKeysSaid :=
  OpenClaim.holds_of_wide 3 Tryd.f3 rfl rfl rfl rfl rfl rfl rfl ⟨rfl, rfl, rfl, rfl, rfl⟩ rfl rfl rfl rfl rfl (by kernel_rfl) Tryd.func3 (by kernel_rfl)
    (of_decide_eq_true (by kernel_rfl)) (by unfold Func.isWrapper; first | (rw [if_pos (by decide +kernel)]; kernel_rfl) | (rw [if_neg (by decide +kernel)]; exact ⟨rfl, rfl⟩))
    (fun os started H enc _ => keys_core_lifted os started H enc)

/-- The statement. -/
theorem deriveKeys_holds : Rows.DeriveKeysCardSaid :=
  Claim7.holds_tied_plain_at .later [] [.data] true (true, "7fcdd2a17387f4ad8b2856c593f87a87c2ce029b604717810657ade3e2abf322") false
    deriveKeys_row (fun _ h => by cases h) (by kernel_rfl) (fun _ h => by cases h) deriveKeys_row_tie rfl ⟨rfl, rfl⟩ (by kernel_rfl) rfl
    (fun f fn hf hfn => by
      obtain rfl : f = 3 := Option.some.inj ((show Tryd.prog.funcNamed "carcanet/carcanetlaw05.DeriveKeys" = some 3 by kernel_rfl).symm.trans hf) |>.symm
      obtain rfl : fn = Tryd.f3 := (Option.some.inj (Tryd.func3.symm.trans hfn)).symm
      exact ⟨by kernel_rfl, fun j t ht => by
        rw [Tryd.params3] at ht
        have hm : t ∈ [22, 22, 22, 9, 3] := by simpa using Array.mem_of_getElem? ht
        have hall : ([22, 22, 22, 9, 3].all fun u => !Tryd.prog.wantsStandIn u) = true := by kernel_rfl
        exact (show Tryd.prog.wantsStandIn t = false by simpa using List.all_eq_true.1 hall t hm)⟩)
    (by kernel_rfl)
#print axioms deriveKeys_holds
end Go.Proofs.YtjkbbcnbdjhdbaaDoor
