/- The statement DigestSums: which sum, and which number, any bytes have, and two texts, one behind the other. -/
import Derived.Test.YtihegkngonhoaaaDoorDgH
namespace Go.Proofs.YtihegkngonhoaaaDoor
open Go.RowKit Go.ChangeShapes Go.WideShapes Go.ChangeAt

set_option maxHeartbeats 1000000 in
theorem sums_great (A0 A1 : Option Addr) (n0 n1 cap0 cap1 : Nat) (hg : 2000 < n0 ∨ 2000 < n1) (w : World) (T : Tab w) :
    Calls Tryd.prog 5 #[.slice A0 n0 cap0, .slice A1 n1 cap1] w fun e w' => e = .returned (.bool true) ∧ Below w.heap.size w w' := by
  have W := Lib.hid (works3 w T)
  clear T
  by_cases h0 : 2000 < n0
  · have d0 : decide ((2000 : Int) < (n0 : Int)) = true := by simp; omega
    go_enter Tryd.func5, Tryd.ntmps5
    go_wp2_with fail
    refine W.out.mono ?_
    rintro e w1 ⟨rfl, b1⟩
    have B1 := Lib.hid b1
    clear b1
    go_wp2
    go_ret
    exact ⟨rfl, B1.out⟩
  · have d0 : decide ((2000 : Int) < (n0 : Int)) = false := by simp; omega
    have d1 : decide ((2000 : Int) < (n1 : Int)) = true := by simp; omega
    go_enter Tryd.func5, Tryd.ntmps5
    go_wp2_with fail
    refine W.out.mono ?_
    rintro e w1 ⟨rfl, b1⟩
    have B1 := Lib.hid b1
    clear b1
    go_wp2
    go_ret
    exact ⟨rfl, B1.out⟩

set_option maxRecDepth 100000 in
set_option maxHeartbeats 4000000 in
theorem sums_small (A0 A1 : Option Addr) (l0 l1 : List UInt8) (cap0 cap1 : Nat) (hl0 : l0.length ≤ 2000) (hl1 : l1.length ≤ 2000) (w : World) (h0 : BytesAt w (.slice A0 l0.length cap0) l0) (h1 : BytesAt w (.slice A1 l1.length cap1) l1) (T : Tab w) :
    Calls Tryd.prog 5 #[.slice A0 l0.length cap0, .slice A1 l1.length cap1] w fun e w' => e = .returned (.bool true) ∧ Below w.heap.size w w' := by
  have d0 : decide ((2000 : Int) < (l0.length : Int)) = false := by simp; omega
  have d1 : decide ((2000 : Int) < (l1.length : Int)) = false := by simp; omega
  have T0 := Lib.hid T
  have H0 := Lib.hid h0
  have H1 := Lib.hid h1
  clear T h0 h1
  go_enter Tryd.func5, Tryd.ntmps5
  go_wp2_with (with_reducible refine wpList_append_bytes rfl _ _ rfl w.heap.size _ _ _ ?hv (own_empty w) _ _ ?hx (H0.out.below ((Below.refl _ _).alloc (Nat.le_refl _) _)) ?hlen ?hbase ?_)
  case hv => exact rfl
  case hx => exact rfl
  case hlen => omega
  case hbase => simp
  intro v2 w2 ho2 hg2
  have B2 := Lib.hid (((Below.refl w.heap.size w).alloc (Nat.le_refl _) (.cells #[] 5)).grown hg2 (by simp) (fun k hk => ((own_empty w).lt k hk).1))
  have HO2 := Lib.hid ho2
  clear ho2 hg2
  go_wp2_with (with_reducible refine wpList_append_bytes rfl _ _ rfl w.heap.size _ _ _ ?hv HO2.out _ _ ?hx (H1.out.below B2.out) ?hlen ?hbase ?_)
  case hv => exact rfl
  case hx => exact rfl
  case hlen => omega
  case hbase => exact B2.out.size
  intro v3 w3 ho3 hg3
  have hlt3 := HO2.out.lt
  have B3 := Lib.hid (B2.out.grown hg3 B2.out.size (fun k hk => (hlt3 k hk).1))
  have Y3 : Hid (BytesAt w3 v3 (l0 ++ l1)) := BytesAt.of_own (base := w.heap.size) (by rw [List.length_append, bv_append]; exact ho3)
  have hlb : (l0 ++ l1).length ≤ 5000 := by simp; omega
  have HLB := Lib.hid hlb
  have S0 : Hid (∀ W, BytesAt W (.slice A0 l0.length cap0) l0 → Tab W → Calls Tryd.prog 15 #[.slice A0 l0.length cap0] W fun e w' => ∃ v', e = .returned v' ∧ BytesAt w' v' (sumL l0) ∧ Below W.heap.size W w') := fun W h t => sum_any _ _ (by omega) W h t
  have R0 : Hid (∀ W, BytesAt W (.slice A0 l0.length cap0) l0 → Calls Tryd.prog 16 #[.slice A0 l0.length cap0] W fun e w' => ∃ v', e = .returned v' ∧ BytesAt w' v' (sumL l0) ∧ Below W.heap.size W w') := fun W h => refSum_any _ _ (by omega) W h
  have S2 : Hid (∀ W, BytesAt W (.slice A0 l0.length cap0) l0 → BytesAt W (.slice A1 l1.length cap1) l1 → Tab W → Calls Tryd.prog 17 #[.slice A0 l0.length cap0, .slice A1 l1.length cap1] W fun e w' => ∃ v', e = .returned v' ∧ BytesAt w' v' (sumL (l0 ++ l1)) ∧ Below W.heap.size W w') := fun W h h' t => two_any _ _ _ _ (by omega) (by omega) W h h' t
  have R2 : Hid (∀ W, BytesAt W v3 (l0 ++ l1) → Calls Tryd.prog 16 #[v3] W fun e w' => ∃ v', e = .returned v' ∧ BytesAt w' v' (sumL (l0 ++ l1)) ∧ Below W.heap.size W w') := fun W h => refSum_any _ _ HLB.out W h
  have I1 : Hid (∀ W, BytesAt W (.slice A0 l0.length cap0) l0 → Tab W → Calls Tryd.prog 18 #[.slice A0 l0.length cap0] W fun e w' => e = .returned (.int .u64 ((idL l0).toNat : Int)) ∧ Below W.heap.size W w') := fun W h t => id_any _ _ (by omega) W h t
  have I2 : Hid (∀ W, BytesAt W (.slice A0 l0.length cap0) l0 → Calls Tryd.prog 19 #[.slice A0 l0.length cap0] W fun e w' => e = .returned (.int .u64 ((idL l0).toNat : Int)) ∧ Below W.heap.size W w') := fun W h => refId_any _ _ (by omega) W h
  generalize sumL l0 = M0 at *
  generalize sumL (l0 ++ l1) = M2 at *
  generalize ((idL l0).toNat : Int) = I at *
  have G3 := Lib.hid (H0.out.below B3.out)
  have K3 := Lib.hid (H1.out.below B3.out)
  clear hlt3 ho3 hg3 HO2 B2 hlb HLB H0 H1 d0 d1
  go_wp2_with fail
  refine reg_begin (by kernel_rfl) fun w4 hb4 hz4 => ?_
  have B4 : Hid (Below w.heap.size w w4) := B3.out.trans (hb4.mono B3.out.size)
  have G4 := Lib.hid (G3.out.below hb4)
  have K4 := Lib.hid (K3.out.below hb4)
  have Y4 := Lib.hid (Y3.out.below hb4)
  have T4 := Lib.hid (T0.out.below B4.out T0.out.pos)
  clear hb4 hz4 B3 G3 K3 Y3
  refine reg_take (i := 0) (v := ?_) rfl (by kernel_rfl) (by kernel_rfl) (by kernel_rfl) (fun _ _ _ h => h) (by rfl) ?hy0 ?_
  case hy0 => intro w' hw'; go_simp; (try with_reducible rfl)
  simp only [Act.put, List.setIfInBounds_toArray, List.set_cons_zero, List.set_cons_succ]
  refine reg_take (i := 3) (v := ?_) rfl (by kernel_rfl) (by kernel_rfl) (by kernel_rfl) (fun _ _ _ h => h) (by rfl) ?hy3 ?_
  case hy3 => intro w' hw'; go_simp; (try with_reducible rfl)
  simp only [Act.put, List.setIfInBounds_toArray, List.set_cons_zero, List.set_cons_succ]
  refine reg_call (i := 1) rfl (by kernel_rfl) (fun K' hK => ?_)
  go_simp
  refine (S0.out w4 G4.out T4.out).mono ?_
  rintro e w5 ⟨v5, rfl, z5, b5⟩
  have B5 : Hid (Below w.heap.size w w5) := B4.out.trans (b5.mono B4.out.size)
  have G5 := Lib.hid (G4.out.below b5)
  have K5 := Lib.hid (K4.out.below b5)
  have Y5 := Lib.hid (Y4.out.below b5)
  have T5 := Lib.hid (T4.out.below b5 T4.out.pos)
  have Z5 := Lib.hid z5
  refine hK.out _ _ b5 ?_
  clear hK K' b5 B4 G4 K4 Y4 T4 z5
  have r : ∀ w', Below w5.heap.size w5 w' → (convert 29 9 v5).run Tryd.prog w' = .ok (.string ⟨M0.toArray⟩) w' := fun w' h => conv_bytes (Z5.out.below h)
  refine reg_take (i := 2) (v := ?_) rfl (by kernel_rfl) (by kernel_rfl) (by kernel_rfl) (fun _ _ _ h => h) (by rfl) ?hy2 ?_
  case hy2 => intro w' hw'; go_simp; (try with_reducible rfl)
  simp only [Act.put, List.setIfInBounds_toArray, List.set_cons_zero, List.set_cons_succ]
  clear r
  refine reg_call (i := 4) rfl (by kernel_rfl) (fun K' hK => ?_)
  go_simp
  refine (R0.out w5 G5.out).mono ?_
  rintro e w6 ⟨v6, rfl, z6, b6⟩
  have B6 : Hid (Below w.heap.size w w6) := B5.out.trans (b6.mono B5.out.size)
  have G6 := Lib.hid (G5.out.below b6)
  have K6 := Lib.hid (K5.out.below b6)
  have Y6 := Lib.hid (Y5.out.below b6)
  have T6 := Lib.hid (T5.out.below b6 T5.out.pos)
  have Z6 := Lib.hid z6
  refine hK.out _ _ b6 ?_
  clear hK K' b6 B5 G5 K5 Y5 T5 z6
  have r : ∀ w', Below w6.heap.size w6 w' → (convert 29 9 v6).run Tryd.prog w' = .ok (.string ⟨M0.toArray⟩) w' := fun w' h => conv_bytes (Z6.out.below h)
  refine reg_take (i := 5) (v := ?_) rfl (by kernel_rfl) (by kernel_rfl) (by kernel_rfl) (fun _ _ _ h => h) (by rfl) ?hy5 ?_
  case hy5 => intro w' hw'; go_simp; (try with_reducible rfl)
  simp only [Act.put, List.setIfInBounds_toArray, List.set_cons_zero, List.set_cons_succ]
  clear r
  refine reg_take (i := 6) (v := ?_) rfl (by kernel_rfl) (by kernel_rfl) (by kernel_rfl) (fun _ _ _ h => h) (by rfl) ?hy6 ?_
  case hy6 => intro w' hw'; go_simp; (try with_reducible rfl)
  simp only [Act.put, List.setIfInBounds_toArray, List.set_cons_zero, List.set_cons_succ]
  refine reg_take (i := 7) (v := ?_) rfl (by kernel_rfl) (by kernel_rfl) (by kernel_rfl) (fun _ _ _ h => h) (by rfl) ?hy7 ?_
  case hy7 => intro w' hw'; go_simp; (try with_reducible rfl)
  simp only [Act.put, List.setIfInBounds_toArray, List.set_cons_zero, List.set_cons_succ]
  refine reg_take (i := 8) (v := ?_) rfl (by kernel_rfl) (by kernel_rfl) (by kernel_rfl) (fun _ _ _ h => h) (by rfl) ?hy8 ?_
  case hy8 => intro w' hw'; go_simp; (try with_reducible rfl)
  simp only [Act.put, List.setIfInBounds_toArray, List.set_cons_zero, List.set_cons_succ]
  refine reg_take (i := 9) (v := ?_) rfl (by kernel_rfl) (by kernel_rfl) (by kernel_rfl) (fun _ _ _ h => h) (by rfl) ?hy9 ?_
  case hy9 => intro w' hw'; go_simp; (try with_reducible rfl)
  simp only [Act.put, List.setIfInBounds_toArray, List.set_cons_zero, List.set_cons_succ]
  refine reg_take (i := 12) (v := ?_) rfl (by kernel_rfl) (by kernel_rfl) (by kernel_rfl) (fun _ _ _ h => h) (by rfl) ?hy12 ?_
  case hy12 => intro w' hw'; go_simp; (try with_reducible rfl)
  simp only [Act.put, List.setIfInBounds_toArray, List.set_cons_zero, List.set_cons_succ]
  refine reg_call (i := 10) rfl (by kernel_rfl) (fun K' hK => ?_)
  go_simp
  refine (S2.out w6 G6.out K6.out T6.out).mono ?_
  rintro e w7 ⟨v7, rfl, z7, b7⟩
  have B7 : Hid (Below w.heap.size w w7) := B6.out.trans (b7.mono B6.out.size)
  have G7 := Lib.hid (G6.out.below b7)
  have K7 := Lib.hid (K6.out.below b7)
  have Y7 := Lib.hid (Y6.out.below b7)
  have T7 := Lib.hid (T6.out.below b7 T6.out.pos)
  have Z7 := Lib.hid z7
  refine hK.out _ _ b7 ?_
  clear hK K' b7 B6 G6 K6 Y6 T6 z7
  have r : ∀ w', Below w7.heap.size w7 w' → (convert 29 9 v7).run Tryd.prog w' = .ok (.string ⟨M2.toArray⟩) w' := fun w' h => conv_bytes (Z7.out.below h)
  refine reg_take (i := 11) (v := ?_) rfl (by kernel_rfl) (by kernel_rfl) (by kernel_rfl) (fun _ _ _ h => h) (by rfl) ?hy11 ?_
  case hy11 => intro w' hw'; go_simp; (try with_reducible rfl)
  simp only [Act.put, List.setIfInBounds_toArray, List.set_cons_zero, List.set_cons_succ]
  clear r
  refine reg_call (i := 13) rfl (by kernel_rfl) (fun K' hK => ?_)
  go_simp
  refine (R2.out w7 Y7.out).mono ?_
  rintro e w8 ⟨v8, rfl, z8, b8⟩
  have B8 : Hid (Below w.heap.size w w8) := B7.out.trans (b8.mono B7.out.size)
  have G8 := Lib.hid (G7.out.below b8)
  have K8 := Lib.hid (K7.out.below b8)
  have Y8 := Lib.hid (Y7.out.below b8)
  have T8 := Lib.hid (T7.out.below b8 T7.out.pos)
  have Z8 := Lib.hid z8
  refine hK.out _ _ b8 ?_
  clear hK K' b8 B7 G7 K7 Y7 T7 z8
  have r : ∀ w', Below w8.heap.size w8 w' → (convert 29 9 v8).run Tryd.prog w' = .ok (.string ⟨M2.toArray⟩) w' := fun w' h => conv_bytes (Z8.out.below h)
  refine reg_take (i := 14) (v := ?_) rfl (by kernel_rfl) (by kernel_rfl) (by kernel_rfl) (fun _ _ _ h => h) (by rfl) ?hy14 ?_
  case hy14 => intro w' hw'; go_simp; (try with_reducible rfl)
  simp only [Act.put, List.setIfInBounds_toArray, List.set_cons_zero, List.set_cons_succ]
  clear r
  refine reg_take (i := 15) (v := ?_) rfl (by kernel_rfl) (by kernel_rfl) (by kernel_rfl) (fun _ _ _ h => h) (by rfl) ?hy15 ?_
  case hy15 => intro w' hw'; go_simp; (try with_reducible rfl)
  simp only [Act.put, List.setIfInBounds_toArray, List.set_cons_zero, List.set_cons_succ]
  refine reg_take (i := 16) (v := ?_) rfl (by kernel_rfl) (by kernel_rfl) (by kernel_rfl) (fun _ _ _ h => h) (by rfl) ?hy16 ?_
  case hy16 => intro w' hw'; go_simp; (try with_reducible rfl)
  simp only [Act.put, List.setIfInBounds_toArray, List.set_cons_zero, List.set_cons_succ]
  refine reg_take (i := 17) (v := ?_) rfl (by kernel_rfl) (by kernel_rfl) (by kernel_rfl) (fun _ _ _ h => h) (by rfl) ?hy17 ?_
  case hy17 => intro w' hw'; go_simp; (try with_reducible rfl)
  simp only [Act.put, List.setIfInBounds_toArray, List.set_cons_zero, List.set_cons_succ]
  refine reg_take (i := 18) (v := ?_) rfl (by kernel_rfl) (by kernel_rfl) (by kernel_rfl) (fun _ _ _ h => h) (by rfl) ?hy18 ?_
  case hy18 => intro w' hw'; go_simp; (try with_reducible rfl)
  simp only [Act.put, List.setIfInBounds_toArray, List.set_cons_zero, List.set_cons_succ]
  refine reg_take (i := 20) (v := ?_) rfl (by kernel_rfl) (by kernel_rfl) (by kernel_rfl) (fun _ _ _ h => h) (by rfl) ?hy20 ?_
  case hy20 => intro w' hw'; go_simp; (try with_reducible rfl)
  simp only [Act.put, List.setIfInBounds_toArray, List.set_cons_zero, List.set_cons_succ]
  refine reg_call (i := 19) rfl (by kernel_rfl) (fun K' hK => ?_)
  go_simp
  refine (I1.out w8 G8.out T8.out).mono ?_
  rintro e w9 ⟨rfl, b9⟩
  have B9 : Hid (Below w.heap.size w w9) := B8.out.trans (b9.mono B8.out.size)
  have G9 := Lib.hid (G8.out.below b9)
  have K9 := Lib.hid (K8.out.below b9)
  have Y9 := Lib.hid (Y8.out.below b9)
  have T9 := Lib.hid (T8.out.below b9 T8.out.pos)
  refine hK.out _ _ b9 ?_
  clear hK K' b9 B8 G8 K8 Y8 T8
  refine reg_call (i := 21) rfl (by kernel_rfl) (fun K' hK => ?_)
  go_simp
  refine (I2.out w9 G9.out).mono ?_
  rintro e w10 ⟨rfl, b10⟩
  have B10 : Hid (Below w.heap.size w w10) := B9.out.trans (b10.mono B9.out.size)
  have G10 := Lib.hid (G9.out.below b10)
  have K10 := Lib.hid (K9.out.below b10)
  have Y10 := Lib.hid (Y9.out.below b10)
  have T10 := Lib.hid (T9.out.below b10 T9.out.pos)
  refine hK.out _ _ b10 ?_
  clear hK K' b10 B9 G9 K9 Y9 T9
  refine reg_take (i := 22) (v := ?_) rfl (by kernel_rfl) (by kernel_rfl) (by kernel_rfl) (fun _ _ _ h => h) (by rfl) ?hy22 ?_
  case hy22 => intro w' hw'; go_simp; (try with_reducible rfl)
  simp only [Act.put, List.setIfInBounds_toArray, List.set_cons_zero, List.set_cons_succ]
  refine reg_take (i := 23) (v := ?_) rfl (by kernel_rfl) (by kernel_rfl) (by kernel_rfl) (fun _ _ _ h => h) (by rfl) ?hy23 ?_
  case hy23 => intro w' hw'; go_simp; (try with_reducible rfl)
  simp only [Act.put, List.setIfInBounds_toArray, List.set_cons_zero, List.set_cons_succ]
  refine reg_take (i := 24) (v := ?_) rfl (by kernel_rfl) (by kernel_rfl) (by kernel_rfl) (fun _ _ _ h => h) (by rfl) ?hy24 ?_
  case hy24 => intro w' hw'; go_simp; (try with_reducible rfl)
  simp only [Act.put, List.setIfInBounds_toArray, List.set_cons_zero, List.set_cons_succ]
  refine reg_call (i := 25) rfl (by kernel_rfl) (fun K' hK => ?_)
  go_simp
  refine (works3 w10 T10.out).mono ?_
  rintro e w11 ⟨rfl, b11⟩
  have B11 : Hid (Below w.heap.size w w11) := B10.out.trans (b11.mono B10.out.size)
  have G11 := Lib.hid (G10.out.below b11)
  have K11 := Lib.hid (K10.out.below b11)
  have Y11 := Lib.hid (Y10.out.below b11)
  have T11 := Lib.hid (T10.out.below b11 T10.out.pos)
  refine hK.out _ _ b11 ?_
  clear hK K' b11 B10 G10 K10 Y10 T10
  refine reg_take (i := 26) (v := ?_) rfl (by kernel_rfl) (by kernel_rfl) (by kernel_rfl) (fun _ _ _ h => h) (by rfl) ?hy26 ?_
  case hy26 => intro w' hw'; go_simp; (try with_reducible rfl)
  simp only [Act.put, List.setIfInBounds_toArray, List.set_cons_zero, List.set_cons_succ]
  refine reg_take (i := 27) (v := ?_) rfl (by kernel_rfl) (by kernel_rfl) (by kernel_rfl) (fun _ _ _ h => h) (by rfl) ?hy27 ?_
  case hy27 => intro w' hw'; go_simp; (try with_reducible rfl)
  simp only [Act.put, List.setIfInBounds_toArray, List.set_cons_zero, List.set_cons_succ]
  refine reg_end (by kernel_rfl) ?_
  go_wp2
  go_ret
  exact ⟨rfl, B11.out⟩

theorem sums_core (A0 A1 : Option Addr) (l0 l1 : List UInt8) (n0 n1 cap0 cap1 : Nat) (w : World) (h0 : BytesAt w (.slice A0 n0 cap0) l0) (h1 : BytesAt w (.slice A1 n1 cap1) l1) (T : Tab w) :
    Calls Tryd.prog 5 #[.slice A0 n0 cap0, .slice A1 n1 cap1] w fun e w' => e = .returned (.bool true) ∧ Below w.heap.size w w' := by
  obtain ⟨hn0, _⟩ := h0.size
  obtain ⟨hn1, _⟩ := h1.size
  subst hn0 hn1
  by_cases hg : 2000 < l0.length ∨ 2000 < l1.length
  · exact sums_great A0 A1 _ _ cap0 cap1 hg w T
  · exact sums_small A0 A1 l0 l1 cap0 cap1 (by omega) (by omega) w h0 h1 T

set_option maxRecDepth 100000 in
theorem sums_core_lifted (os : Os) (started : os.Started) (H : Type) (enc : TypeId × Value → H) :
    ReturnsInHanded {} Tryd.checked os 5 .any (fun w args => (Rows.digestSumsSpec.pre enc Tryd.prog Tryd.f5 [] false w args ∧ laidMetH Tryd.prog laidC w) ∧ sizedMet enc Tryd.prog Tryd.f5 (OpenSpec.ofChange Rows.digestSumsSpec) false w args)
      (Rows.digestSumsSpec.post enc Tryd.prog Tryd.f5 false true false false) := by
  refine returnsInHanded_of_change_and (C := Tryd.checked) (X := fun w _ => laidMetH Tryd.prog laidC w) (fun _ _ _ hh h => h.of_heap hh) own started (by kernel_rfl) Tryd.func5
    (ChangeSpec.witness_shaped (enc := enc) (C := Tryd.checked) (os := os) (X := fun w _ => laidMetH Tryd.prog laidC w) false (World.doorLaid Tryd.prog 400 os) #[.slice none 0 0, .slice none 0 0] 8 rfl (World.shaped_of_RefB (by kernel_rfl) (by kernel_rfl)) (by kernel_rfl) (by kernel_rfl) (by kernel_rfl) (door_met os _)) ?_
  intro W base args ds gs before hval0 hW _ _ hL _
  have hval : ∀ (j : Nat) t v, Tryd.f5.params[j]? = some t → args[j]? = some v → Value.okWide Tryd.prog W .any base t v := hval0
  have hW' := hW
  obtain ⟨p, q, hA0, hV, rfl, hfz, hnd⟩ := hW
  have hA : DataW.TrodAll enc Tryd.prog W 0 (fun _ => true) true Tryd.f5.params.toList args.toList ds p := hA0
  rw [Tryd.params5] at hA hval
  obtain ⟨v0, vs0, d0, ds0, p0, q0, hargs, rfl, rfl, h0, r0⟩ := trodAll_cons hA
  obtain ⟨v1, vs1, d1, ds1, p1, q1, rfl, rfl, rfl, h1, r1⟩ := trodAll_cons r0
  obtain ⟨rfl, rfl, rfl⟩ := trodAll_nil r1
  obtain rfl : args = #[v0, v1] := by cases args; simp_all
  obtain ⟨rfl, rfl⟩ := trodVars_none hV
  obtain ⟨a0, len0, cap0, rfl⟩ := okWide_slice Tryd.underlying29 (hval 0 29 v0 rfl rfl)
  have k0 := h0
  have lt0 : ∀ x ∈ p0, x.block < W.heap.size := by obtain ⟨m, hm⟩ := k0; exact DataW.trod_lt m _ _ _ hm
  obtain ⟨l0, w0⟩ := open_bytes h0
  obtain ⟨a1, len1, cap1, rfl⟩ := okWide_slice Tryd.underlying29 (hval 1 29 v1 rfl rfl)
  have k1 := h1
  have lt1 : ∀ x ∈ p1, x.block < W.heap.size := by obtain ⟨m, hm⟩ := k1; exact DataW.trod_lt m _ _ _ hm
  obtain ⟨l1, w1⟩ := open_bytes h1
  clear hA0 hval0
  refine (sums_core a0 a1 l0 l1 len0 len1 cap0 cap1 W w0 w1 (tab_of_laid hL)).mono fun e W' ⟨he, bel⟩ => ?_
  subst he
  exact ⟨_, rfl, _, _, _, [], _, [], hW', trodAll_mk1 (shut_bool Tryd.underlying4 _), (trodAll_cons_mk (Below.trod laidOut (by kernel_rfl) (of_decide_eq_true (by kernel_rfl)) k0 bel lt0) (trodAll_cons_mk (Below.trod laidOut (by kernel_rfl) (of_decide_eq_true (by kernel_rfl)) k1 bel lt1) trodAll_mk0)), rfl, bel.frame _, fun h => by cases h⟩

theorem digestSums_row : Rows.DigestSumsSaid :=
  OpenClaim.holds_of_wide 5 Tryd.f5 rfl rfl rfl rfl rfl rfl rfl ⟨rfl, rfl, rfl, rfl, rfl⟩ rfl rfl rfl rfl rfl (by kernel_rfl) Tryd.func5 (by kernel_rfl)
    (of_decide_eq_true (by kernel_rfl)) (by unfold Func.isWrapper; first | (rw [if_pos (by decide +kernel)]; kernel_rfl) | (rw [if_neg (by decide +kernel)]; exact ⟨rfl, rfl⟩))
    (fun os started H enc _ => sums_core_lifted os started H enc)

/-- The statement. -/
theorem digestSums_holds : Rows.DigestSumsCardSaid :=
  Claim7.holds_tied_plain_at .later [] [.data] true (true, "5f10133e9aaf8b882eef537391fe638dacc67f2794c812549e6e0364a255879d") false
    digestSums_row (fun _ h => by cases h) (by kernel_rfl) (fun _ h => by cases h) digestSums_row_tie rfl ⟨rfl, rfl⟩ (by kernel_rfl) rfl
    (fun f fn hf hfn => by
      obtain rfl : f = 5 := Option.some.inj ((show Tryd.prog.funcNamed "carcanet/carcanetlaw03.DigestSums" = some 5 by kernel_rfl).symm.trans hf) |>.symm
      obtain rfl : fn = Tryd.f5 := (Option.some.inj (Tryd.func5.symm.trans hfn)).symm
      exact ⟨by kernel_rfl, fun j t ht => by
        rw [Tryd.params5] at ht
        have hm : t ∈ [29, 29] := by simpa using Array.mem_of_getElem? ht
        have hall : ([29, 29].all fun u => !Tryd.prog.wantsStandIn u) = true := by kernel_rfl
        exact (show Tryd.prog.wantsStandIn t = false by simpa using List.all_eq_true.1 hall t hm)⟩)
    (by kernel_rfl)
#print axioms digestSums_holds
end Go.Proofs.YtihegkngonhoaaaDoor
