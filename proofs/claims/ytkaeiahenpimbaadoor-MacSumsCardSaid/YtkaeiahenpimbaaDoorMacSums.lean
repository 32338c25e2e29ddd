/- The statement MacSums: which tag any text has under any key, whole or in two parts, whether any tag is its, and how a key is made long. For every input. -/
import Derived.Test.YtkaeiahenpimbaaDoorMacB
import Derived.Test.YtkaeiahenpimbaaDoorMacC
import Derived.Test.YtkaeiahenpimbaaDoorDgL
namespace Go.Proofs.YtkaeiahenpimbaaDoor
open Go.RowKit Go.ChangeShapes Go.WideShapes Go.ChangeAt

set_option maxHeartbeats 1000000 in
theorem sums_great (A0 A1 A2 A3 : Option Addr) (n0 n1 n2 n3 cap0 cap1 cap2 cap3 : Nat) (hg : 2000 < n0 ∨ 2000 < n1 ∨ 2000 < n2 ∨ 2000 < n3) (w : World) (T : Tab w) :
    Calls Tryd.prog 3 #[.slice A0 n0 cap0, .slice A1 n1 cap1, .slice A2 n2 cap2, .slice A3 n3 cap3] w fun e w' => e = .returned (.bool true) ∧ Below w.heap.size w w' := by
  have W := Lib.hid (works4 w T)
  clear T
  by_cases h0 : 2000 < n0
  · have d0 : decide ((2000 : Int) < (n0 : Int)) = true := by simp; omega
    go_enter Tryd.func3, Tryd.ntmps3
    go_wp2_with fail
    refine W.out.mono ?_
    rintro e w1 ⟨rfl, b1⟩
    have B1 := Lib.hid b1
    clear b1
    go_wp2
    go_ret
    exact ⟨rfl, B1.out⟩
  · have d0 : decide ((2000 : Int) < (n0 : Int)) = false := by simp; omega
    by_cases h1 : 2000 < n1
    · have d1 : decide ((2000 : Int) < (n1 : Int)) = true := by simp; omega
      go_enter Tryd.func3, Tryd.ntmps3
      go_wp2_with fail
      refine W.out.mono ?_
      rintro e w1 ⟨rfl, b1⟩
      have B1 := Lib.hid b1
      clear b1
      go_wp2
      go_ret
      exact ⟨rfl, B1.out⟩
    · have d1 : decide ((2000 : Int) < (n1 : Int)) = false := by simp; omega
      by_cases h2 : 2000 < n2
      · have d2 : decide ((2000 : Int) < (n2 : Int)) = true := by simp; omega
        go_enter Tryd.func3, Tryd.ntmps3
        go_wp2_with fail
        refine W.out.mono ?_
        rintro e w1 ⟨rfl, b1⟩
        have B1 := Lib.hid b1
        clear b1
        go_wp2
        go_ret
        exact ⟨rfl, B1.out⟩
      · have d2 : decide ((2000 : Int) < (n2 : Int)) = false := by simp; omega
        have d3 : decide ((2000 : Int) < (n3 : Int)) = true := by simp; omega
        go_enter Tryd.func3, Tryd.ntmps3
        go_wp2_with fail
        refine W.out.mono ?_
        rintro e w1 ⟨rfl, b1⟩
        have B1 := Lib.hid b1
        clear b1
        go_wp2
        go_ret
        exact ⟨rfl, B1.out⟩

set_option maxRecDepth 100000 in
set_option maxHeartbeats 4000000 in
theorem sums_small (A0 A1 A2 A3 : Option Addr) (l0 l1 l2 l3 : List UInt8) (cap0 cap1 cap2 cap3 : Nat) (hl0 : l0.length ≤ 2000) (hl1 : l1.length ≤ 2000) (hl2 : l2.length ≤ 2000) (hl3 : l3.length ≤ 2000) (w : World)
    (h0 : BytesAt w (.slice A0 l0.length cap0) l0) (h1 : BytesAt w (.slice A1 l1.length cap1) l1) (h2 : BytesAt w (.slice A2 l2.length cap2) l2) (h3 : BytesAt w (.slice A3 l3.length cap3) l3) (T : Tab w) :
    Calls Tryd.prog 3 #[.slice A0 l0.length cap0, .slice A1 l1.length cap1, .slice A2 l2.length cap2, .slice A3 l3.length cap3] w fun e w' => e = .returned (.bool true) ∧ Below w.heap.size w w' := by
  have d0 : decide ((2000 : Int) < (l0.length : Int)) = false := by simp; omega
  have d1 : decide ((2000 : Int) < (l1.length : Int)) = false := by simp; omega
  have d2 : decide ((2000 : Int) < (l2.length : Int)) = false := by simp; omega
  have d3 : decide ((2000 : Int) < (l3.length : Int)) = false := by simp; omega
  have T0 := Lib.hid T
  have H0 := Lib.hid h0
  have H1 := Lib.hid h1
  have H2 := Lib.hid h2
  have H3 := Lib.hid h3
  clear T h0 h1 h2 h3
  go_enter Tryd.func3, Tryd.ntmps3
  go_wp2_with (with_reducible refine wpList_append_bytes rfl _ _ rfl w.heap.size _ _ _ ?hv (own_empty w) _ _ ?hx (H1.out.below ((Below.refl _ _).alloc (Nat.le_refl _) _)) ?hlen ?hbase ?_)
  case hv => exact rfl
  case hx => exact rfl
  case hlen => omega
  case hbase => simp
  intro v1 w1 ho1 hg1
  have B1 := Lib.hid (((Below.refl w.heap.size w).alloc (Nat.le_refl _) (.cells #[] 5)).grown hg1 (by simp) (fun k hk => ((own_empty w).lt k hk).1))
  have HO1 := Lib.hid ho1
  clear ho1 hg1
  go_wp2_with (with_reducible refine wpList_append_bytes rfl _ _ rfl w.heap.size _ _ _ ?hv HO1.out _ _ ?hx (H2.out.below B1.out) ?hlen ?hbase ?_)
  case hv => exact rfl
  case hx => exact rfl
  case hlen => omega
  case hbase => exact B1.out.size
  intro v9 w2 ho2 hg2
  have lt2 := HO1.out.lt
  have B2 := Lib.hid (B1.out.grown hg2 B1.out.size (fun k hk => (lt2 k hk).1))
  have Y2 : Hid (BytesAt w2 v9 (l1 ++ l2)) := Lib.hid (BytesAt.of_own (base := w.heap.size) (by rw [List.length_append, bv_append]; exact ho2))
  have HLB : Hid ((l1 ++ l2).length ≤ 4900) := Lib.hid (by simp; omega)
  clear lt2 ho2 hg2 HO1 B1
  have K1 : Hid (∀ W, BytesAt W (.slice A0 l0.length cap0) l0 → Tab W → Calls Tryd.prog 8 #[.slice A0 l0.length cap0] W fun e w' => ∃ v', e = .returned v' ∧ BytesAt w' v' (keyL l0) ∧ Below W.heap.size W w') := Lib.hid fun W h t => key_any _ l0 W h (by omega) t
  have R1 : Hid (∀ W, BytesAt W (.slice A0 l0.length cap0) l0 → Calls Tryd.prog 9 #[.slice A0 l0.length cap0] W fun e w' => ∃ v', e = .returned v' ∧ BytesAt w' v' (keyL l0) ∧ Below W.heap.size W w') := Lib.hid fun W h => refKey_any _ l0 W h (by omega)
  have K2 : Hid (∀ W, BytesAt W (.slice A0 l0.length cap0) l0 → BytesAt W (.slice A1 l1.length cap1) l1 → Tab W → Calls Tryd.prog 10 #[.slice A0 l0.length cap0, .slice A1 l1.length cap1] W fun e w' => ∃ v', e = .returned v' ∧ BytesAt w' v' (macL l0 l1) ∧ Below W.heap.size W w') := Lib.hid fun W h h' t => mac_any _ _ l0 l1 W h h' (by omega) (by omega) t
  have R2 : Hid (∀ W, BytesAt W (.slice A0 l0.length cap0) l0 → BytesAt W (.slice A1 l1.length cap1) l1 → Calls Tryd.prog 7 #[.slice A0 l0.length cap0, .slice A1 l1.length cap1] W fun e w' => ∃ v', e = .returned v' ∧ BytesAt w' v' (macL l0 l1) ∧ Below W.heap.size W w') := Lib.hid fun W h h' => refMac_any _ _ l0 l1 W h h' (by omega) (by omega)
  have K3 : Hid (∀ W g, W.cell? ⟨g, 0, none⟩ = some (.slice A1 l1.length cap1) → W.cell? ⟨g, 1, none⟩ = some (.slice A2 l2.length cap2) → BytesAt W (.slice A0 l0.length cap0) l0 → BytesAt W (.slice A1 l1.length cap1) l1 → BytesAt W (.slice A2 l2.length cap2) l2 → Tab W → Calls Tryd.prog 11 #[.slice A0 l0.length cap0, .slice (some ⟨g, 0, none⟩) 2 2] W fun e w' => ∃ v', e = .returned v' ∧ BytesAt w' v' (macL l0 (l1 ++ l2)) ∧ Below W.heap.size W w') := Lib.hid fun W g c0 c1 h h' h'' t => parts_any _ _ _ g l0 l1 l2 W c0 c1 h h' h'' (by omega) (by omega) (by omega) t
  have K4 : Hid (∀ W u t, BytesAt W (.slice A0 l0.length cap0) l0 → BytesAt W v9 (l1 ++ l2) → BytesAt W u t → t.length ≤ 2000 → Tab W → Calls Tryd.prog 12 #[.slice A0 l0.length cap0, v9, u] W fun e w' => e = .returned (.bool (decide (macL l0 (l1 ++ l2) = t))) ∧ Below W.heap.size W w') := Lib.hid fun W u t p q r s z => check_any _ _ u l0 (l1 ++ l2) t W p q r (by omega) HLB.out (by omega) z
  have R4 : Hid (∀ W, BytesAt W (.slice A0 l0.length cap0) l0 → BytesAt W v9 (l1 ++ l2) → Calls Tryd.prog 7 #[.slice A0 l0.length cap0, v9] W fun e w' => ∃ v', e = .returned v' ∧ BytesAt w' v' (macL l0 (l1 ++ l2)) ∧ Below W.heap.size W w') := Lib.hid fun W h h' => refMac_any _ v9 l0 (l1 ++ l2) W h h' (by omega) HLB.out
  have ML : Hid ((macL l0 (l1 ++ l2)).length = 32) := Lib.hid (macL_length _ _)
  generalize macL l0 (l1 ++ l2) = M at *
  generalize macL l0 l1 = N at *
  generalize keyL l0 = K at *
  clear HLB d0 d1 d2 d3
  go_wp2_with fail
  refine (R4.out w2 (H0.out.below B2.out) Y2.out).mono ?_
  rintro e w3 ⟨v10, rfl, y3, b3⟩
  have B3 : Hid (Below w.heap.size w w3) := B2.out.trans (b3.mono B2.out.size)
  have G3 := Lib.hid (H0.out.below B3.out)
  have I3 := Lib.hid (H1.out.below B3.out)
  have J3 := Lib.hid (H2.out.below B3.out)
  have L3 := Lib.hid (H3.out.below B3.out)
  have Y3 := Lib.hid (Y2.out.below b3)
  have Z3 := Lib.hid y3
  clear b3 y3 B2 H0 H1 H2 H3 Y2 R4
  go_wp2_with fail
  refine reg_begin (by kernel_rfl) fun w4 hb4 hz4 => ?_
  have B4 : Hid (Below w.heap.size w w4) := B3.out.trans (hb4.mono B3.out.size)
  have T4 := Lib.hid (T0.out.below B4.out T0.out.pos)
  have G4 := Lib.hid (G3.out.below hb4)
  have I4 := Lib.hid (I3.out.below hb4)
  have J4 := Lib.hid (J3.out.below hb4)
  have L4 := Lib.hid (L3.out.below hb4)
  have Y4 := Lib.hid (Y3.out.below hb4)
  have Z4 := Lib.hid (Z3.out.below hb4)
  clear G3 I3 J3 L3 Y3 Z3
  clear hb4 hz4
  refine reg_take (i := 0) (v := ?_) rfl (by kernel_rfl) (by kernel_rfl) (by kernel_rfl) (fun _ _ _ h => h) (by rfl) ?hy0 ?_
  case hy0 => intro w' hw'; go_simp; (try with_reducible rfl)
  simp only [Act.put, List.setIfInBounds_toArray, List.set_cons_zero, List.set_cons_succ]
  refine reg_take (i := 3) (v := ?_) rfl (by kernel_rfl) (by kernel_rfl) (by kernel_rfl) (fun _ _ _ h => h) (by rfl) ?hy3 ?_
  case hy3 => intro w' hw'; go_simp; (try with_reducible rfl)
  simp only [Act.put, List.setIfInBounds_toArray, List.set_cons_zero, List.set_cons_succ]
  refine reg_call (i := 1) rfl (by kernel_rfl) (fun K' hK => ?_)
  go_simp
  refine (K1.out w4 G4.out T4.out).mono ?_
  rintro e w5 ⟨u1, rfl, y, b5⟩
  have B5 : Hid (Below w.heap.size w w5) := B4.out.trans (b5.mono B4.out.size)
  have T5 := Lib.hid (T0.out.below B5.out T0.out.pos)
  have G5 := Lib.hid (G4.out.below b5)
  have I5 := Lib.hid (I4.out.below b5)
  have J5 := Lib.hid (J4.out.below b5)
  have L5 := Lib.hid (L4.out.below b5)
  have Y5 := Lib.hid (Y4.out.below b5)
  have Z5 := Lib.hid (Z4.out.below b5)
  clear G4 I4 J4 L4 Y4 Z4
  have C5 := Lib.hid y
  refine hK.out _ _ b5 ?_
  clear hK K' b5 B4 T4 y
  have r : ∀ w', Below w5.heap.size w5 w' → (convert 22 9 u1).run Tryd.prog w' = .ok (.string ⟨K.toArray⟩) w' := fun w' h => conv_bytes (C5.out.below h)
  refine reg_take (i := 2) (v := ?_) rfl (by kernel_rfl) (by kernel_rfl) (by kernel_rfl) (fun _ _ _ h => h) (by rfl) ?hy2 ?_
  case hy2 => intro w' hw'; go_simp; (try with_reducible rfl)
  simp only [Act.put, List.setIfInBounds_toArray, List.set_cons_zero, List.set_cons_succ]
  clear r
  refine reg_call (i := 4) rfl (by kernel_rfl) (fun K' hK => ?_)
  go_simp
  refine (R1.out w5 G5.out).mono ?_
  rintro e w6 ⟨u4, rfl, y, b6⟩
  have B6 : Hid (Below w.heap.size w w6) := B5.out.trans (b6.mono B5.out.size)
  have T6 := Lib.hid (T0.out.below B6.out T0.out.pos)
  have G6 := Lib.hid (G5.out.below b6)
  have I6 := Lib.hid (I5.out.below b6)
  have J6 := Lib.hid (J5.out.below b6)
  have L6 := Lib.hid (L5.out.below b6)
  have Y6 := Lib.hid (Y5.out.below b6)
  have Z6 := Lib.hid (Z5.out.below b6)
  clear G5 I5 J5 L5 Y5 Z5
  have C6 := Lib.hid y
  refine hK.out _ _ b6 ?_
  clear hK K' b6 B5 T5 y
  have r : ∀ w', Below w6.heap.size w6 w' → (convert 22 9 u4).run Tryd.prog w' = .ok (.string ⟨K.toArray⟩) w' := fun w' h => conv_bytes (C6.out.below h)
  refine reg_take (i := 5) (v := ?_) rfl (by kernel_rfl) (by kernel_rfl) (by kernel_rfl) (fun _ _ _ h => h) (by rfl) ?hy5 ?_
  case hy5 => intro w' hw'; go_simp; (try with_reducible rfl)
  simp only [Act.put, List.setIfInBounds_toArray, List.set_cons_zero, List.set_cons_succ]
  clear r
  refine reg_take (i := 6) (v := ?_) rfl (by kernel_rfl) (by kernel_rfl) (by kernel_rfl) (fun _ _ _ h => h) (by rfl) ?hy6 ?_
  case hy6 => intro w' hw'; go_simp; (try with_reducible rfl)
  simp only [Act.put, List.setIfInBounds_toArray, List.set_cons_zero, List.set_cons_succ]
  refine reg_take (i := 7) (v := ?_) rfl (by kernel_rfl) (by kernel_rfl) (by kernel_rfl) (fun _ _ _ h => h) (by rfl) ?hy7 ?_
  case hy7 => intro w' hw'; go_simp; (try with_reducible rfl)
  simp only [Act.put, List.setIfInBounds_toArray, List.set_cons_zero, List.set_cons_succ]
  refine reg_take (i := 8) (v := ?_) rfl (by kernel_rfl) (by kernel_rfl) (by kernel_rfl) (fun _ _ _ h => h) (by rfl) ?hy8 ?_
  case hy8 => intro w' hw'; go_simp; (try with_reducible rfl)
  simp only [Act.put, List.setIfInBounds_toArray, List.set_cons_zero, List.set_cons_succ]
  refine reg_take (i := 9) (v := ?_) rfl (by kernel_rfl) (by kernel_rfl) (by kernel_rfl) (fun _ _ _ h => h) (by rfl) ?hy9 ?_
  case hy9 => intro w' hw'; go_simp; (try with_reducible rfl)
  simp only [Act.put, List.setIfInBounds_toArray, List.set_cons_zero, List.set_cons_succ]
  refine reg_take (i := 12) (v := ?_) rfl (by kernel_rfl) (by kernel_rfl) (by kernel_rfl) (fun _ _ _ h => h) (by rfl) ?hy12 ?_
  case hy12 => intro w' hw'; go_simp; (try with_reducible rfl)
  simp only [Act.put, List.setIfInBounds_toArray, List.set_cons_zero, List.set_cons_succ]
  refine reg_take (i := 13) (v := ?_) rfl (by kernel_rfl) (by kernel_rfl) (by kernel_rfl) (fun _ _ _ h => h) (by rfl) ?hy13 ?_
  case hy13 => intro w' hw'; go_simp; (try with_reducible rfl)
  simp only [Act.put, List.setIfInBounds_toArray, List.set_cons_zero, List.set_cons_succ]
  refine reg_call (i := 10) rfl (by kernel_rfl) (fun K' hK => ?_)
  go_simp
  refine (K2.out w6 G6.out I6.out T6.out).mono ?_
  rintro e w7 ⟨u10, rfl, y, b7⟩
  have B7 : Hid (Below w.heap.size w w7) := B6.out.trans (b7.mono B6.out.size)
  have T7 := Lib.hid (T0.out.below B7.out T0.out.pos)
  have G7 := Lib.hid (G6.out.below b7)
  have I7 := Lib.hid (I6.out.below b7)
  have J7 := Lib.hid (J6.out.below b7)
  have L7 := Lib.hid (L6.out.below b7)
  have Y7 := Lib.hid (Y6.out.below b7)
  have Z7 := Lib.hid (Z6.out.below b7)
  clear G6 I6 J6 L6 Y6 Z6
  have C7 := Lib.hid y
  refine hK.out _ _ b7 ?_
  clear hK K' b7 B6 T6 y
  have r : ∀ w', Below w7.heap.size w7 w' → (convert 22 9 u10).run Tryd.prog w' = .ok (.string ⟨N.toArray⟩) w' := fun w' h => conv_bytes (C7.out.below h)
  refine reg_take (i := 11) (v := ?_) rfl (by kernel_rfl) (by kernel_rfl) (by kernel_rfl) (fun _ _ _ h => h) (by rfl) ?hy11 ?_
  case hy11 => intro w' hw'; go_simp; (try with_reducible rfl)
  simp only [Act.put, List.setIfInBounds_toArray, List.set_cons_zero, List.set_cons_succ]
  clear r
  refine reg_call (i := 14) rfl (by kernel_rfl) (fun K' hK => ?_)
  go_simp
  refine (R2.out w7 G7.out I7.out).mono ?_
  rintro e w8 ⟨u14, rfl, y, b8⟩
  have B8 : Hid (Below w.heap.size w w8) := B7.out.trans (b8.mono B7.out.size)
  have T8 := Lib.hid (T0.out.below B8.out T0.out.pos)
  have G8 := Lib.hid (G7.out.below b8)
  have I8 := Lib.hid (I7.out.below b8)
  have J8 := Lib.hid (J7.out.below b8)
  have L8 := Lib.hid (L7.out.below b8)
  have Y8 := Lib.hid (Y7.out.below b8)
  have Z8 := Lib.hid (Z7.out.below b8)
  clear G7 I7 J7 L7 Y7 Z7
  have C8 := Lib.hid y
  refine hK.out _ _ b8 ?_
  clear hK K' b8 B7 T7 y
  have r : ∀ w', Below w8.heap.size w8 w' → (convert 22 9 u14).run Tryd.prog w' = .ok (.string ⟨N.toArray⟩) w' := fun w' h => conv_bytes (C8.out.below h)
  refine reg_take (i := 15) (v := ?_) rfl (by kernel_rfl) (by kernel_rfl) (by kernel_rfl) (fun _ _ _ h => h) (by rfl) ?hy15 ?_
  case hy15 => intro w' hw'; go_simp; (try with_reducible rfl)
  simp only [Act.put, List.setIfInBounds_toArray, List.set_cons_zero, List.set_cons_succ]
  clear r
  refine reg_take (i := 16) (v := ?_) rfl (by kernel_rfl) (by kernel_rfl) (by kernel_rfl) (fun _ _ _ h => h) (by rfl) ?hy16 ?_
  case hy16 => intro w' hw'; go_simp; (try with_reducible rfl)
  simp only [Act.put, List.setIfInBounds_toArray, List.set_cons_zero, List.set_cons_succ]
  refine reg_take (i := 17) (v := ?_) rfl (by kernel_rfl) (by kernel_rfl) (by kernel_rfl) (fun _ _ _ h => h) (by rfl) ?hy17 ?_
  case hy17 => intro w' hw'; go_simp; (try with_reducible rfl)
  simp only [Act.put, List.setIfInBounds_toArray, List.set_cons_zero, List.set_cons_succ]
  refine reg_take (i := 18) (v := ?_) rfl (by kernel_rfl) (by kernel_rfl) (by kernel_rfl) (fun _ _ _ h => h) (by rfl) ?hy18 ?_
  case hy18 => intro w' hw'; go_simp; (try with_reducible rfl)
  simp only [Act.put, List.setIfInBounds_toArray, List.set_cons_zero, List.set_cons_succ]
  refine reg_take (i := 19) (v := ?_) rfl (by kernel_rfl) (by kernel_rfl) (by kernel_rfl) (fun _ _ _ h => h) (by rfl) ?hy19 ?_
  case hy19 => intro w' hw'; go_simp; (try with_reducible rfl)
  simp only [Act.put, List.setIfInBounds_toArray, List.set_cons_zero, List.set_cons_succ]
  refine reg_take (i := 20) (v := ?_) rfl (by kernel_rfl) (by kernel_rfl) (by kernel_rfl) (fun _ _ _ h => h) (by rfl) ?hy20 ?_
  case hy20 => intro w' hw'; go_simp; (try with_reducible rfl)
  simp only [Act.put, List.setIfInBounds_toArray, List.set_cons_zero, List.set_cons_succ]
  refine reg_take (i := 21) (v := ?_) rfl (by kernel_rfl) (by kernel_rfl) (by kernel_rfl) (fun _ _ _ h => h) (by rfl) ?hy21 ?_
  case hy21 => intro w' hw'; go_simp; (try with_reducible rfl)
  simp only [Act.put, List.setIfInBounds_toArray, List.set_cons_zero, List.set_cons_succ]
  refine reg_take (i := 25) (v := ?_) rfl (by kernel_rfl) (by kernel_rfl) (by kernel_rfl) (fun _ _ _ h => h) (by rfl) ?hy25 ?_
  case hy25 => intro w' hw'; go_simp; (try with_reducible rfl)
  simp only [Act.put, List.setIfInBounds_toArray, List.set_cons_zero, List.set_cons_succ]
  have r : ∀ w', Below w8.heap.size w8 w' → (convert 22 9 v10).run Tryd.prog w' = .ok (.string ⟨M.toArray⟩) w' := fun w' h => conv_bytes (Z8.out.below h)
  refine reg_take (i := 26) (v := ?_) rfl (by kernel_rfl) (by kernel_rfl) (by kernel_rfl) (fun _ _ _ h => h) (by rfl) ?hy26 ?_
  case hy26 => intro w' hw'; go_simp; (try with_reducible rfl)
  simp only [Act.put, List.setIfInBounds_toArray, List.set_cons_zero, List.set_cons_succ]
  clear r
  refine reg_call (i := 22) rfl (by kernel_rfl) (fun K' hK => ?_)
  go_simp
  have x : Whole (w8.alloc (.cells #[.slice A1 l1.length cap1, .slice A2 l2.length cap2] 22)) w8.heap.size 22 #[.slice A1 l1.length cap1, .slice A2 l2.length cap2] := Whole.new _ _ _
  have b9 : Below w8.heap.size w8 (w8.alloc (.cells #[.slice A1 l1.length cap1, .slice A2 l2.length cap2] 22)) := (Below.refl _ _).alloc (Nat.le_refl _) _
  refine hK.out _ _ b9 ?_
  clear hK K'
  generalize w8.alloc (.cells #[.slice A1 l1.length cap1, .slice A2 l2.length cap2] 22) = w9 at *
  have B9 : Hid (Below w.heap.size w w9) := B8.out.trans (b9.mono B8.out.size)
  have T9 := Lib.hid (T0.out.below B9.out T0.out.pos)
  have G9 := Lib.hid (G8.out.below b9)
  have I9 := Lib.hid (I8.out.below b9)
  have J9 := Lib.hid (J8.out.below b9)
  have L9 := Lib.hid (L8.out.below b9)
  have Y9 := Lib.hid (Y8.out.below b9)
  have Z9 := Lib.hid (Z8.out.below b9)
  clear G8 I8 J8 L8 Y8 Z8
  have X := Lib.hid x
  generalize w8.heap.size = g at *
  clear x B8 T8
  clear b9
  refine reg_call (i := 23) rfl (by kernel_rfl) (fun K' hK => ?_)
  go_simp
  refine (K3.out w9 g (X.out.at_ 0) (X.out.at_ 1) G9.out I9.out J9.out T9.out).mono ?_
  rintro e w10 ⟨u23, rfl, y, b10⟩
  have B10 : Hid (Below w.heap.size w w10) := B9.out.trans (b10.mono B9.out.size)
  have T10 := Lib.hid (T0.out.below B10.out T0.out.pos)
  have G10 := Lib.hid (G9.out.below b10)
  have I10 := Lib.hid (I9.out.below b10)
  have J10 := Lib.hid (J9.out.below b10)
  have L10 := Lib.hid (L9.out.below b10)
  have Y10 := Lib.hid (Y9.out.below b10)
  have Z10 := Lib.hid (Z9.out.below b10)
  clear G9 I9 J9 L9 Y9 Z9
  have C10 := Lib.hid y
  refine hK.out _ _ b10 ?_
  clear hK K' b10 B9 T9 y
  have r : ∀ w', Below w10.heap.size w10 w' → (convert 22 9 u23).run Tryd.prog w' = .ok (.string ⟨M.toArray⟩) w' := fun w' h => conv_bytes (C10.out.below h)
  refine reg_take (i := 24) (v := ?_) rfl (by kernel_rfl) (by kernel_rfl) (by kernel_rfl) (fun _ _ _ h => h) (by rfl) ?hy24 ?_
  case hy24 => intro w' hw'; go_simp; (try with_reducible rfl)
  simp only [Act.put, List.setIfInBounds_toArray, List.set_cons_zero, List.set_cons_succ]
  clear r
  refine reg_take (i := 27) (v := ?_) rfl (by kernel_rfl) (by kernel_rfl) (by kernel_rfl) (fun _ _ _ h => h) (by rfl) ?hy27 ?_
  case hy27 => intro w' hw'; go_simp; (try with_reducible rfl)
  simp only [Act.put, List.setIfInBounds_toArray, List.set_cons_zero, List.set_cons_succ]
  refine reg_take (i := 28) (v := ?_) rfl (by kernel_rfl) (by kernel_rfl) (by kernel_rfl) (fun _ _ _ h => h) (by rfl) ?hy28 ?_
  case hy28 => intro w' hw'; go_simp; (try with_reducible rfl)
  simp only [Act.put, List.setIfInBounds_toArray, List.set_cons_zero, List.set_cons_succ]
  refine reg_take (i := 29) (v := ?_) rfl (by kernel_rfl) (by kernel_rfl) (by kernel_rfl) (fun _ _ _ h => h) (by rfl) ?hy29 ?_
  case hy29 => intro w' hw'; go_simp; (try with_reducible rfl)
  simp only [Act.put, List.setIfInBounds_toArray, List.set_cons_zero, List.set_cons_succ]
  refine reg_take (i := 30) (v := ?_) rfl (by kernel_rfl) (by kernel_rfl) (by kernel_rfl) (fun _ _ _ h => h) (by rfl) ?hy30 ?_
  case hy30 => intro w' hw'; go_simp; (try with_reducible rfl)
  simp only [Act.put, List.setIfInBounds_toArray, List.set_cons_zero, List.set_cons_succ]
  refine reg_take (i := 31) (v := ?_) rfl (by kernel_rfl) (by kernel_rfl) (by kernel_rfl) (fun _ _ _ h => h) (by rfl) ?hy31 ?_
  case hy31 => intro w' hw'; go_simp; (try with_reducible rfl)
  simp only [Act.put, List.setIfInBounds_toArray, List.set_cons_zero, List.set_cons_succ]
  refine reg_take (i := 32) (v := ?_) rfl (by kernel_rfl) (by kernel_rfl) (by kernel_rfl) (fun _ _ _ h => h) (by rfl) ?hy32 ?_
  case hy32 => intro w' hw'; go_simp; (try with_reducible rfl)
  simp only [Act.put, List.setIfInBounds_toArray, List.set_cons_zero, List.set_cons_succ]
  refine reg_take (i := 34) (v := ?_) rfl (by kernel_rfl) (by kernel_rfl) (by kernel_rfl) (fun _ _ _ h => h) (by rfl) ?hy34 ?_
  case hy34 => intro w' hw'; go_simp; (try with_reducible rfl)
  simp only [Act.put, List.setIfInBounds_toArray, List.set_cons_zero, List.set_cons_succ]
  refine reg_take (i := 36) (v := ?_) rfl (by kernel_rfl) (by kernel_rfl) (by kernel_rfl) (fun _ _ _ h => h) (by rfl) ?hy36 ?_
  case hy36 => intro w' hw'; go_simp; (try with_reducible rfl)
  simp only [Act.put, List.setIfInBounds_toArray, List.set_cons_zero, List.set_cons_succ]
  have r : ∀ w', Below w10.heap.size w10 w' → (convert 22 9 (.slice A3 l3.length cap3)).run Tryd.prog w' = .ok (.string ⟨l3.toArray⟩) w' := fun w' h => conv_bytes (L10.out.below h)
  refine reg_take (i := 35) (v := ?_) rfl (by kernel_rfl) (by kernel_rfl) (by kernel_rfl) (fun _ _ _ h => h) (by rfl) ?hy35 ?_
  case hy35 => intro w' hw'; go_simp; (try with_reducible rfl)
  simp only [Act.put, List.setIfInBounds_toArray, List.set_cons_zero, List.set_cons_succ]
  clear r
  have r : ∀ w', Below w10.heap.size w10 w' → (convert 22 9 v10).run Tryd.prog w' = .ok (.string ⟨M.toArray⟩) w' := fun w' h => conv_bytes (Z10.out.below h)
  refine reg_take (i := 37) (v := ?_) rfl (by kernel_rfl) (by kernel_rfl) (by kernel_rfl) (fun _ _ _ h => h) (by rfl) ?hy37 ?_
  case hy37 => intro w' hw'; go_simp; (try with_reducible rfl)
  simp only [Act.put, List.setIfInBounds_toArray, List.set_cons_zero, List.set_cons_succ]
  clear r
  have E1 : (l3 == M) = decide (M = l3) := by
    rw [Bool.eq_iff_iff, beq_iff_eq, decide_eq_true_eq]
    exact eq_comm
  refine reg_take (i := 38) (v := ?_) rfl (by kernel_rfl) (by kernel_rfl) (by kernel_rfl) (fun _ _ _ h => h) (by rfl) ?hy38 ?_
  case hy38 => intro w' hw'; go_simp; (try with_reducible rfl)
  simp only [Act.put, List.setIfInBounds_toArray, List.set_cons_zero, List.set_cons_succ]
  clear E1
  refine reg_call (i := 33) rfl (by kernel_rfl) (fun K' hK => ?_)
  go_simp
  refine (K4.out w10 _ l3 G10.out Y10.out L10.out hl3 T10.out).mono ?_
  rintro e w11 ⟨rfl, b11⟩
  have B11 : Hid (Below w.heap.size w w11) := B10.out.trans (b11.mono B10.out.size)
  have T11 := Lib.hid (T0.out.below B11.out T0.out.pos)
  have G11 := Lib.hid (G10.out.below b11)
  have I11 := Lib.hid (I10.out.below b11)
  have J11 := Lib.hid (J10.out.below b11)
  have L11 := Lib.hid (L10.out.below b11)
  have Y11 := Lib.hid (Y10.out.below b11)
  have Z11 := Lib.hid (Z10.out.below b11)
  clear G10 I10 J10 L10 Y10 Z10
  refine hK.out _ _ b11 ?_
  clear hK K' b11 B10 T10
  generalize decide (M = l3) = q at *
  refine reg_take (i := 39) (v := ?_) rfl (by kernel_rfl) (by kernel_rfl) (by kernel_rfl) (fun _ _ _ h => h) (by rfl) ?hy39 ?_
  case hy39 => intro w' hw'; go_simp; (try with_reducible rfl)
  simp only [Act.put, List.setIfInBounds_toArray, List.set_cons_zero, List.set_cons_succ]
  refine reg_take (i := 40) (v := ?_) rfl (by kernel_rfl) (by kernel_rfl) (by kernel_rfl) (fun _ _ _ h => h) (by rfl) ?hy40 ?_
  case hy40 => intro w' hw'; go_simp; (try with_reducible rfl)
  simp only [Act.put, List.setIfInBounds_toArray, List.set_cons_zero, List.set_cons_succ]
  refine reg_take (i := 41) (v := ?_) rfl (by kernel_rfl) (by kernel_rfl) (by kernel_rfl) (fun _ _ _ h => h) (by rfl) ?hy41 ?_
  case hy41 => intro w' hw'; go_simp; (try with_reducible rfl)
  simp only [Act.put, List.setIfInBounds_toArray, List.set_cons_zero, List.set_cons_succ]
  refine reg_take (i := 42) (v := ?_) rfl (by kernel_rfl) (by kernel_rfl) (by kernel_rfl) (fun _ _ _ h => h) (by rfl) ?hy42 ?_
  case hy42 => intro w' hw'; go_simp; (try with_reducible rfl)
  simp only [Act.put, List.setIfInBounds_toArray, List.set_cons_zero, List.set_cons_succ]
  refine reg_take (i := 43) (v := ?_) rfl (by kernel_rfl) (by kernel_rfl) (by kernel_rfl) (fun _ _ _ h => h) (by rfl) ?hy43 ?_
  case hy43 => intro w' hw'; go_simp; (try with_reducible rfl)
  simp only [Act.put, List.setIfInBounds_toArray, List.set_cons_zero, List.set_cons_succ]
  refine reg_take (i := 44) (v := ?_) rfl (by kernel_rfl) (by kernel_rfl) (by kernel_rfl) (fun _ _ _ h => h) (by rfl) ?hy44 ?_
  case hy44 => intro w' hw'; go_simp; (try with_reducible rfl)
  simp only [Act.put, List.setIfInBounds_toArray, List.set_cons_zero, List.set_cons_succ]
  refine reg_call (i := 45) rfl (by kernel_rfl) (fun K' hK => ?_)
  go_simp
  refine (K4.out w11 _ M G11.out Y11.out Z11.out (by have := ML.out; omega) T11.out).mono ?_
  rintro e w12 ⟨rfl, b12⟩
  rw [decide_eq_true (rfl : M = M)]
  have B12 : Hid (Below w.heap.size w w12) := B11.out.trans (b12.mono B11.out.size)
  have T12 := Lib.hid (T0.out.below B12.out T0.out.pos)
  have G12 := Lib.hid (G11.out.below b12)
  have I12 := Lib.hid (I11.out.below b12)
  have J12 := Lib.hid (J11.out.below b12)
  have L12 := Lib.hid (L11.out.below b12)
  have Y12 := Lib.hid (Y11.out.below b12)
  have Z12 := Lib.hid (Z11.out.below b12)
  clear G11 I11 J11 L11 Y11 Z11
  refine hK.out _ _ b12 ?_
  clear hK K' b12 B11 T11
  refine reg_take (i := 46) (v := ?_) rfl (by kernel_rfl) (by kernel_rfl) (by kernel_rfl) (fun _ _ _ h => h) (by rfl) ?hy46 ?_
  case hy46 => intro w' hw'; go_simp; (try with_reducible rfl)
  simp only [Act.put, List.setIfInBounds_toArray, List.set_cons_zero, List.set_cons_succ]
  refine reg_take (i := 47) (v := ?_) rfl (by kernel_rfl) (by kernel_rfl) (by kernel_rfl) (fun _ _ _ h => h) (by rfl) ?hy47 ?_
  case hy47 => intro w' hw'; go_simp; (try with_reducible rfl)
  simp only [Act.put, List.setIfInBounds_toArray, List.set_cons_zero, List.set_cons_succ]
  refine reg_call (i := 48) rfl (by kernel_rfl) (fun K' hK => ?_)
  go_simp
  refine (works4 w12 T12.out).mono ?_
  rintro e w13 ⟨rfl, b13⟩
  have B13 : Hid (Below w.heap.size w w13) := B12.out.trans (b13.mono B12.out.size)
  have T13 := Lib.hid (T0.out.below B13.out T0.out.pos)
  have G13 := Lib.hid (G12.out.below b13)
  have I13 := Lib.hid (I12.out.below b13)
  have J13 := Lib.hid (J12.out.below b13)
  have L13 := Lib.hid (L12.out.below b13)
  have Y13 := Lib.hid (Y12.out.below b13)
  have Z13 := Lib.hid (Z12.out.below b13)
  clear G12 I12 J12 L12 Y12 Z12
  refine hK.out _ _ b13 ?_
  clear hK K' b13 B12 T12
  refine reg_take (i := 49) (v := ?_) rfl (by kernel_rfl) (by kernel_rfl) (by kernel_rfl) (fun _ _ _ h => h) (by rfl) ?hy49 ?_
  case hy49 => intro w' hw'; go_simp; (try with_reducible rfl)
  simp only [Act.put, List.setIfInBounds_toArray, List.set_cons_zero, List.set_cons_succ]
  refine reg_take (i := 50) (v := ?_) rfl (by kernel_rfl) (by kernel_rfl) (by kernel_rfl) (fun _ _ _ h => h) (by rfl) ?hy50 ?_
  case hy50 => intro w' hw'; go_simp; (try with_reducible rfl)
  simp only [Act.put, List.setIfInBounds_toArray, List.set_cons_zero, List.set_cons_succ]
  refine reg_end (by kernel_rfl) ?_
  go_wp2
  go_ret
  exact ⟨rfl, B13.out⟩

theorem sums_core (A0 A1 A2 A3 : Option Addr) (l0 l1 l2 l3 : List UInt8) (n0 n1 n2 n3 cap0 cap1 cap2 cap3 : Nat) (w : World)
    (h0 : BytesAt w (.slice A0 n0 cap0) l0) (h1 : BytesAt w (.slice A1 n1 cap1) l1) (h2 : BytesAt w (.slice A2 n2 cap2) l2) (h3 : BytesAt w (.slice A3 n3 cap3) l3) (T : Tab w) :
    Calls Tryd.prog 3 #[.slice A0 n0 cap0, .slice A1 n1 cap1, .slice A2 n2 cap2, .slice A3 n3 cap3] w fun e w' => e = .returned (.bool true) ∧ Below w.heap.size w w' := by
  obtain ⟨hn0, _⟩ := h0.size
  obtain ⟨hn1, _⟩ := h1.size
  obtain ⟨hn2, _⟩ := h2.size
  obtain ⟨hn3, _⟩ := h3.size
  subst hn0 hn1 hn2 hn3
  by_cases hg : 2000 < l0.length ∨ 2000 < l1.length ∨ 2000 < l2.length ∨ 2000 < l3.length
  · exact sums_great A0 A1 A2 A3 _ _ _ _ cap0 cap1 cap2 cap3 hg w T
  · exact sums_small A0 A1 A2 A3 l0 l1 l2 l3 cap0 cap1 cap2 cap3 (by omega) (by omega) (by omega) (by omega) w h0 h1 h2 h3 T

set_option maxRecDepth 100000 in
theorem sums_core_lifted (os : Os) (started : os.Started) (H : Type) (enc : TypeId × Value → H) :
    ReturnsInHanded {} Tryd.checked os 3 .any (fun w args => (Rows.macSumsSpec.pre enc Tryd.prog Tryd.f3 [] false w args ∧ laidMetH Tryd.prog laidC w) ∧ sizedMet enc Tryd.prog Tryd.f3 (OpenSpec.ofChange Rows.macSumsSpec) false w args)
      (Rows.macSumsSpec.post enc Tryd.prog Tryd.f3 false true false false) := by
  refine returnsInHanded_of_change_and (C := Tryd.checked) (X := fun w _ => laidMetH Tryd.prog laidC w) (fun _ _ _ hh h => h.of_heap hh) own started (by kernel_rfl) Tryd.func3
    (ChangeSpec.witness_shaped (enc := enc) (C := Tryd.checked) (os := os) (X := fun w _ => laidMetH Tryd.prog laidC w) false (World.doorLaid Tryd.prog 400 os) #[.slice none 0 0, .slice none 0 0, .slice none 0 0, .slice none 0 0] 8 rfl (World.shaped_of_RefB (by kernel_rfl) (by kernel_rfl)) (by kernel_rfl) (by kernel_rfl) (by kernel_rfl) (door_met os _)) ?_
  intro W base args ds gs before hval0 hW _ _ hL _
  have hval : ∀ (j : Nat) t v, Tryd.f3.params[j]? = some t → args[j]? = some v → Value.okWide Tryd.prog W .any base t v := hval0
  have hW' := hW
  obtain ⟨p, q, hA0, hV, rfl, hfz, hnd⟩ := hW
  have hA : DataW.TrodAll enc Tryd.prog W 0 (fun _ => true) true Tryd.f3.params.toList args.toList ds p := hA0
  rw [Tryd.params3] at hA hval
  obtain ⟨v0, vs0, d0, ds0, p0, q0, hargs, rfl, rfl, h0, r0⟩ := trodAll_cons hA
  obtain ⟨v1, vs1, d1, ds1, p1, q1, rfl, rfl, rfl, h1, r1⟩ := trodAll_cons r0
  obtain ⟨v2, vs2, d2, ds2, p2, q2, rfl, rfl, rfl, h2, r2⟩ := trodAll_cons r1
  obtain ⟨v3, vs3, d3, ds3, p3, q3, rfl, rfl, rfl, h3, r3⟩ := trodAll_cons r2
  obtain ⟨rfl, rfl, rfl⟩ := trodAll_nil r3
  obtain rfl : args = #[v0, v1, v2, v3] := by cases args; simp_all
  obtain ⟨rfl, rfl⟩ := trodVars_none hV
  obtain ⟨a0, len0, cap0, rfl⟩ := okWide_slice Tryd.underlying22 (hval 0 22 v0 rfl rfl)
  have k0 := h0
  have lt0 : ∀ x ∈ p0, x.block < W.heap.size := by obtain ⟨m, hm⟩ := k0; exact DataW.trod_lt m _ _ _ hm
  obtain ⟨l0, w0⟩ := open_bytes h0
  obtain ⟨a1, len1, cap1, rfl⟩ := okWide_slice Tryd.underlying22 (hval 1 22 v1 rfl rfl)
  have k1 := h1
  have lt1 : ∀ x ∈ p1, x.block < W.heap.size := by obtain ⟨m, hm⟩ := k1; exact DataW.trod_lt m _ _ _ hm
  obtain ⟨l1, w1⟩ := open_bytes h1
  obtain ⟨a2, len2, cap2, rfl⟩ := okWide_slice Tryd.underlying22 (hval 2 22 v2 rfl rfl)
  have k2 := h2
  have lt2 : ∀ x ∈ p2, x.block < W.heap.size := by obtain ⟨m, hm⟩ := k2; exact DataW.trod_lt m _ _ _ hm
  obtain ⟨l2, w2⟩ := open_bytes h2
  obtain ⟨a3, len3, cap3, rfl⟩ := okWide_slice Tryd.underlying22 (hval 3 22 v3 rfl rfl)
  have k3 := h3
  have lt3 : ∀ x ∈ p3, x.block < W.heap.size := by obtain ⟨m, hm⟩ := k3; exact DataW.trod_lt m _ _ _ hm
  obtain ⟨l3, w3⟩ := open_bytes h3
  clear hA0 hval0
  refine (sums_core a0 a1 a2 a3 l0 l1 l2 l3 len0 len1 len2 len3 cap0 cap1 cap2 cap3 W w0 w1 w2 w3 (tab_of_laid hL)).mono fun e W' ⟨he, bel⟩ => ?_
  subst he
  exact ⟨_, rfl, _, _, _, [], _, [], hW', trodAll_mk1 (shut_bool Tryd.underlying4 _), (trodAll_cons_mk (Below.trod laidOut (by kernel_rfl) (of_decide_eq_true (by kernel_rfl)) k0 bel lt0) (trodAll_cons_mk (Below.trod laidOut (by kernel_rfl) (of_decide_eq_true (by kernel_rfl)) k1 bel lt1) (trodAll_cons_mk (Below.trod laidOut (by kernel_rfl) (of_decide_eq_true (by kernel_rfl)) k2 bel lt2) (trodAll_cons_mk (Below.trod laidOut (by kernel_rfl) (of_decide_eq_true (by kernel_rfl)) k3 bel lt3) trodAll_mk0)))), rfl, bel.frame _, fun h => by cases h⟩

theorem macSums_row : Rows.MacSumsSaid :=
  OpenClaim.holds_of_wide 3 Tryd.f3 rfl rfl rfl rfl rfl rfl rfl ⟨rfl, rfl, rfl, rfl, rfl⟩ rfl rfl rfl rfl rfl (by kernel_rfl) Tryd.func3 (by kernel_rfl)
    (of_decide_eq_true (by kernel_rfl)) (by unfold Func.isWrapper; first | (rw [if_pos (by decide +kernel)]; kernel_rfl) | (rw [if_neg (by decide +kernel)]; exact ⟨rfl, rfl⟩))
    (fun os started H enc _ => sums_core_lifted os started H enc)

/-- The statement. -/
theorem macSums_holds : Rows.MacSumsCardSaid :=
  Claim7.holds_tied_plain_at .later [] [.data] true (true, "c2792173907cb4263b58ea06a600f4b1a288a632bb4782c3dbf3a395fe556097") false
    macSums_row (fun _ h => by cases h) (by kernel_rfl) (fun _ h => by cases h) macSums_row_tie rfl ⟨rfl, rfl⟩ (by kernel_rfl) rfl
    (fun f fn hf hfn => by
      obtain rfl : f = 3 := Option.some.inj ((show Tryd.prog.funcNamed "carcanet/carcanetlaw04.MacSums" = some 3 by kernel_rfl).symm.trans hf) |>.symm
      obtain rfl : fn = Tryd.f3 := (Option.some.inj (Tryd.func3.symm.trans hfn)).symm
      exact ⟨by kernel_rfl, fun j t ht => by
        rw [Tryd.params3] at ht
        have hm : t ∈ [22, 22, 22, 22] := by simpa using Array.mem_of_getElem? ht
        have hall : ([22, 22, 22, 22].all fun u => !Tryd.prog.wantsStandIn u) = true := by kernel_rfl
        exact (show Tryd.prog.wantsStandIn t = false by simpa using List.all_eq_true.1 hall t hm)⟩)
    (by kernel_rfl)
#print axioms macSums_holds
end Go.Proofs.YtkaeiahenpimbaaDoor
