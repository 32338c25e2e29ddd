/- Package msg: Right. (Written by tools/mkmsright.py.) -/
import Derived.Test.YtnjeopgcpffkcaaGx
import Derived.Test.YtnjeopgcpffkcaaGq
import Derived.Test.YtnjeopgcpffkcaaGz
import Derived.Test.YtnjeopgcpffkcaaGb
namespace Go.Proofs.Ytnjeopgcpffkcaa
set_option maxRecDepth 100000
open Go.RowKit

theorem key5 (k : Int) : inK k 5 = (decide (k = 8) || decide (k = 10)) := by
  rcases kinds k with rfl | rfl | rfl | rfl | rfl | rfl | rfl | rfl | rfl | rfl | rfl | rfl | rfl | rfl | rfl | rfl | hk
  all_goals first | decide | (have h8 : ¬ k = 8 := by omega
                              have h10 : ¬ k = 10 := by omega
                              simp [inK, fld_out hk, h8, h10])
theorem rightM_eq (m : Mg) : rightM m = (knownK m.kind && ((decide (0 ≤ m.rid) && decide (m.rid ≤ 1073741824)) && (decide (m = bareM m) && ((decide (0 ≤ m.error) && decide (m.error ≤ 99)) && ((decide (0 ≤ m.ver) && decide (m.ver ≤ 1073741824)) && (keyX m && (decide (m.val.length ≤ 32) && (esX m && itsX m.its)))))))) := by
  rw [Bool.eq_iff_iff, rightM, decide_eq_true_eq]
  simp only [knownK, keyX, esX, esN, itsX, Bool.and_eq_true, Bool.or_eq_true, Bool.not_eq_true', decide_eq_true_eq, List.all_eq_true]
  constructor
  · intro h
    refine ⟨⟨h.k1, h.k2⟩, ⟨h.r1, h.r2⟩, h.bare, ⟨h.e1, h.e2⟩, ⟨h.v1, h.v2⟩, ?_, h.val, ⟨?_, h.es⟩, h.items, h.its⟩
    · have := h.key
      rw [key5] at this
      cases hq : (decide (m.kind = 8) || decide (m.kind = 10)) with
      | false => exact .inl rfl
      | true => exact .inr (this hq)
    · split
      · next h7 => simpa using h.one h7
      · simpa using h.many
  · rintro ⟨⟨a1, a2⟩, ⟨a3, a4⟩, a5, ⟨a6, a7⟩, ⟨a8, a9⟩, a10, a11, ⟨a12, a13⟩, a14, a15⟩
    refine ⟨a1, a2, a3, a4, a5, a6, a7, a8, a9, ?_, a11, ?_, ?_, a14, a13, a15⟩
    · intro h5
      rw [key5] at h5
      rcases a10 with h | h
      · rw [h] at h5; cases h5
      · exact h
    · intro h7
      rw [if_pos h7] at a12
      simpa using a12
    · split at a12
      · have : m.es.length = 1 := by simpa using a12
        omega
      · simpa using a12

set_option maxHeartbeats 16000000 in
theorem msRight_any (m : Mg) (e t : Row) (hes : m.es.length ≤ 1000000) (hits : m.its.length ≤ 1000000) (w : World) (h : Lists w e t m) :
    Calls Try.prog 12 #[(m.raw e t).val] w fun x w' => x = .returned (.bool (rightM m)) ∧ Below w.heap.size w w' := by
  have C0 := fun w => Lib.hid ((known_any m.kind w).mono (R' := fun x w' => x = .returned (.bool (knownK m.kind)) ∧ Below w.heap.size w w') fun _ _ q => ⟨q.1, q.2 ▸ Below.refl _ _⟩)
  have C1 := fun w => Lib.hid ((msWithin_any m.rid 0 1073741824 w).mono (R' := fun x w' => x = .returned (.bool (decide (0 ≤ m.rid) && decide (m.rid ≤ 1073741824))) ∧ Below w.heap.size w w') fun _ _ q => ⟨q.1, q.2 ▸ Below.refl _ _⟩)
  have CB := fun w1 (b : Below w.heap.size w w1) => Lib.hid (msbare_any m e t w1 (h.below b))
  have C2 := fun e1 t1 w1 (b : Below w.heap.size w w1) hl => Lib.hid (msSame_any m (bareM m) e t e1 t1 hes hits w1 (h.below b) hl)
  have C3 := fun w => Lib.hid ((msWithin_any m.error 0 99 w).mono (R' := fun x w' => x = .returned (.bool (decide (0 ≤ m.error) && decide (m.error ≤ 99))) ∧ Below w.heap.size w w') fun _ _ q => ⟨q.1, q.2 ▸ Below.refl _ _⟩)
  have C4 := fun w => Lib.hid ((msWithin_any m.ver 0 1073741824 w).mono (R' := fun x w' => x = .returned (.bool (decide (0 ≤ m.ver) && decide (m.ver ≤ 1073741824))) ∧ Below w.heap.size w w') fun _ _ q => ⟨q.1, q.2 ▸ Below.refl _ _⟩)
  have C5 := fun w => Lib.hid (rightKey_any m e t w)
  have C6 := fun w => Lib.hid ((labelVal_any m.val w).mono (R' := fun x w' => x = .returned (.bool (decide (m.val.length ≤ 32))) ∧ Below w.heap.size w w') fun _ _ q => ⟨q.1, q.2 ▸ Below.refl _ _⟩)
  have C7 := fun w1 (b : Below w.heap.size w w1) => Lib.hid (rightEntries_any m e t hes w1 (h.below b))
  have C8 := fun w1 (b : Below w.heap.size w w1) => Lib.hid (rightItems_any t m.its hits w1 (h.below b).its)
  have HR := Lib.hid (rightM_eq m)
  clear h hes hits
  generalize knownK m.kind = q0 at *
  generalize (decide (0 ≤ m.rid) && decide (m.rid ≤ 1073741824)) = q1 at *
  generalize decide (m = bareM m) = q2 at *
  generalize (decide (0 ≤ m.error) && decide (m.error ≤ 99)) = q3 at *
  generalize (decide (0 ≤ m.ver) && decide (m.ver ≤ 1073741824)) = q4 at *
  generalize keyX m = q5 at *
  generalize decide (m.val.length ≤ 32) = q6 at *
  generalize esX m = q7 at *
  generalize itsX m.its = q8 at *
  generalize rightM m = q at *
  obtain rfl := HR.out
  clear HR
  go_enter Try.func12, Try.ntmps12
  go_wp2_with (refine wpList_box_row rfl 27 _ rfl (m.raw e t).enc.toArray (by with_unfolding_all exact rfl) ?_)
  intro w1 b1 x1 z1
  obtain ⟨gM, hgM⟩ : ∃ g, g = w.heap.size := ⟨_, rfl⟩
  have M_M := Lib.hid (show w.heap.size ≤ gM from by rw [hgM]; exact Nat.le_refl _)
  have B1 := Lib.hid b1
  rw [← hgM] at x1 ⊢
  have M1 : Hid (Mr.At w1 gM (m.raw e t)) := Lib.hid x1
  clear b1 x1 z1 hgM 
  cases q0 with
  | false =>
    go_wp2_with (with_reducible refine wpList_load_whole_st Mr.isRec rfl _ rfl gM (by with_unfolding_all exact rfl) _ _ (Mr.len _) M1.out ?_)
    refine reg_begin (by kernel_rfl) fun w2 b2 z2 => ?_
    have M2 : Hid (Mr.At w2 gM (m.raw e t)) := Lib.hid (Whole.below M1.out b2 M1.out.lt)
    have B2 := Lib.hid (B1.out.trans (b2.mono B1.out.size))
    clear b2 z2 M1 B1
    refine reg_take (i := 0) (v := ?_) rfl (by kernel_rfl) (by kernel_rfl) (by kernel_rfl) (fun _ _ _ h => h) (by rfl) ?hy0 ?_
    case hy0 => intro w' hw'; go_simp; (try with_reducible rfl)
    simp only [Act.put, List.setIfInBounds_toArray, List.set_cons_zero, List.set_cons_succ]
    refine reg_take (i := 1) (v := (.int .i64 ((m.raw e t)).kind)) rfl (by kernel_rfl) (by kernel_rfl) (by kernel_rfl) (fun _ _ _ h => h) (by rfl) ?hy1 ?_
    case hy1 => intro w' hw'; have c := Mr.At.at_kind (Whole.below M2.out hw' M2.out.lt); go_simp; (try with_reducible rfl)
    simp only [Act.put, List.setIfInBounds_toArray, List.set_cons_zero, List.set_cons_succ]
    refine reg_call (i := 2) rfl (by kernel_rfl) (fun K' hK => ?_)
    go_simp
    refine ((C0 w2).out).mono ?_
    rintro e3 w3 ⟨rfl, b3⟩
    have M3 : Hid (Mr.At w3 gM (m.raw e t)) := Lib.hid (Whole.below M2.out b3 M2.out.lt)
    have B3 := Lib.hid (B2.out.trans (b3.mono B2.out.size))
    refine hK.out _ _ b3 ?_
    clear hK K' b3 M2 B2
    refine reg_take (i := 3) (v := ?_) rfl (by kernel_rfl) (by kernel_rfl) (by kernel_rfl) (fun _ _ _ h => h) (by rfl) ?hy3 ?_
    case hy3 => intro w' hw'; go_simp; (try with_reducible rfl)
    simp only [Act.put, List.setIfInBounds_toArray, List.set_cons_zero, List.set_cons_succ]
    refine reg_skip (i := 4) rfl (by kernel_rfl) (by kernel_rfl) (by kernel_rfl) (fun _ _ _ h => h) (by rfl) ?_
    simp only [Act.put, List.setIfInBounds_toArray, List.set_cons_zero, List.set_cons_succ]
    refine reg_skip (i := 5) rfl (by kernel_rfl) (by kernel_rfl) (by kernel_rfl) (fun _ _ _ h => h) (by rfl) ?_
    simp only [Act.put, List.setIfInBounds_toArray, List.set_cons_zero, List.set_cons_succ]
    refine reg_skip (i := 6) rfl (by kernel_rfl) (by kernel_rfl) (by kernel_rfl) (fun _ _ _ h => h) (by rfl) ?_
    simp only [Act.put, List.setIfInBounds_toArray, List.set_cons_zero, List.set_cons_succ]
    refine reg_take (i := 7) (v := ?_) rfl (by kernel_rfl) (by kernel_rfl) (by kernel_rfl) (fun _ _ _ h => h) (by rfl) ?hy7 ?_
    case hy7 => intro w' hw'; go_simp; (try with_reducible rfl)
    simp only [Act.put, List.setIfInBounds_toArray, List.set_cons_zero, List.set_cons_succ]
    refine reg_take (i := 8) (v := ?_) rfl (by kernel_rfl) (by kernel_rfl) (by kernel_rfl) (fun _ _ _ h => h) (by rfl) ?hy8 ?_
    case hy8 => intro w' hw'; go_simp; (try with_reducible rfl)
    simp only [Act.put, List.setIfInBounds_toArray, List.set_cons_zero, List.set_cons_succ]
    refine reg_skip (i := 9) rfl (by kernel_rfl) (by kernel_rfl) (by kernel_rfl) (fun _ _ _ h => h) (by rfl) ?_
    simp only [Act.put, List.setIfInBounds_toArray, List.set_cons_zero, List.set_cons_succ]
    refine reg_skip (i := 10) rfl (by kernel_rfl) (by kernel_rfl) (by kernel_rfl) (fun _ _ _ h => h) (by rfl) ?_
    simp only [Act.put, List.setIfInBounds_toArray, List.set_cons_zero, List.set_cons_succ]
    refine reg_skip (i := 11) rfl (by kernel_rfl) (by kernel_rfl) (by kernel_rfl) (fun _ _ _ h => h) (by rfl) ?_
    simp only [Act.put, List.setIfInBounds_toArray, List.set_cons_zero, List.set_cons_succ]
    refine reg_skip (i := 12) rfl (by kernel_rfl) (by kernel_rfl) (by kernel_rfl) (fun _ _ _ h => h) (by rfl) ?_
    simp only [Act.put, List.setIfInBounds_toArray, List.set_cons_zero, List.set_cons_succ]
    refine reg_take (i := 13) (v := ?_) rfl (by kernel_rfl) (by kernel_rfl) (by kernel_rfl) (fun _ _ _ h => h) (by rfl) ?hy13 ?_
    case hy13 => intro w' hw'; go_simp; (try with_reducible rfl)
    simp only [Act.put, List.setIfInBounds_toArray, List.set_cons_zero, List.set_cons_succ]
    refine reg_take (i := 14) (v := ?_) rfl (by kernel_rfl) (by kernel_rfl) (by kernel_rfl) (fun _ _ _ h => h) (by rfl) ?hy14 ?_
    case hy14 => intro w' hw'; go_simp; (try with_reducible rfl)
    simp only [Act.put, List.setIfInBounds_toArray, List.set_cons_zero, List.set_cons_succ]
    refine reg_skip (i := 15) rfl (by kernel_rfl) (by kernel_rfl) (by kernel_rfl) (fun _ _ _ h => h) (by rfl) ?_
    simp only [Act.put, List.setIfInBounds_toArray, List.set_cons_zero, List.set_cons_succ]
    refine reg_skip (i := 16) rfl (by kernel_rfl) (by kernel_rfl) (by kernel_rfl) (fun _ _ _ h => h) (by rfl) ?_
    simp only [Act.put, List.setIfInBounds_toArray, List.set_cons_zero, List.set_cons_succ]
    refine reg_skip (i := 17) rfl (by kernel_rfl) (by kernel_rfl) (by kernel_rfl) (fun _ _ _ h => h) (by rfl) ?_
    simp only [Act.put, List.setIfInBounds_toArray, List.set_cons_zero, List.set_cons_succ]
    refine reg_take (i := 18) (v := ?_) rfl (by kernel_rfl) (by kernel_rfl) (by kernel_rfl) (fun _ _ _ h => h) (by rfl) ?hy18 ?_
    case hy18 => intro w' hw'; go_simp; (try with_reducible rfl)
    simp only [Act.put, List.setIfInBounds_toArray, List.set_cons_zero, List.set_cons_succ]
    refine reg_take (i := 19) (v := ?_) rfl (by kernel_rfl) (by kernel_rfl) (by kernel_rfl) (fun _ _ _ h => h) (by rfl) ?hy19 ?_
    case hy19 => intro w' hw'; go_simp; (try with_reducible rfl)
    simp only [Act.put, List.setIfInBounds_toArray, List.set_cons_zero, List.set_cons_succ]
    refine reg_skip (i := 20) rfl (by kernel_rfl) (by kernel_rfl) (by kernel_rfl) (fun _ _ _ h => h) (by rfl) ?_
    simp only [Act.put, List.setIfInBounds_toArray, List.set_cons_zero, List.set_cons_succ]
    refine reg_skip (i := 21) rfl (by kernel_rfl) (by kernel_rfl) (by kernel_rfl) (fun _ _ _ h => h) (by rfl) ?_
    simp only [Act.put, List.setIfInBounds_toArray, List.set_cons_zero, List.set_cons_succ]
    refine reg_skip (i := 22) rfl (by kernel_rfl) (by kernel_rfl) (by kernel_rfl) (fun _ _ _ h => h) (by rfl) ?_
    simp only [Act.put, List.setIfInBounds_toArray, List.set_cons_zero, List.set_cons_succ]
    refine reg_take (i := 23) (v := ?_) rfl (by kernel_rfl) (by kernel_rfl) (by kernel_rfl) (fun _ _ _ h => h) (by rfl) ?hy23 ?_
    case hy23 => intro w' hw'; go_simp; (try with_reducible rfl)
    simp only [Act.put, List.setIfInBounds_toArray, List.set_cons_zero, List.set_cons_succ]
    refine reg_take (i := 24) (v := ?_) rfl (by kernel_rfl) (by kernel_rfl) (by kernel_rfl) (fun _ _ _ h => h) (by rfl) ?hy24 ?_
    case hy24 => intro w' hw'; go_simp; (try with_reducible rfl)
    simp only [Act.put, List.setIfInBounds_toArray, List.set_cons_zero, List.set_cons_succ]
    refine reg_skip (i := 25) rfl (by kernel_rfl) (by kernel_rfl) (by kernel_rfl) (fun _ _ _ h => h) (by rfl) ?_
    simp only [Act.put, List.setIfInBounds_toArray, List.set_cons_zero, List.set_cons_succ]
    refine reg_skip (i := 26) rfl (by kernel_rfl) (by kernel_rfl) (by kernel_rfl) (fun _ _ _ h => h) (by rfl) ?_
    simp only [Act.put, List.setIfInBounds_toArray, List.set_cons_zero, List.set_cons_succ]
    refine reg_take (i := 27) (v := ?_) rfl (by kernel_rfl) (by kernel_rfl) (by kernel_rfl) (fun _ _ _ h => h) (by rfl) ?hy27 ?_
    case hy27 => intro w' hw'; go_simp; (try with_reducible rfl)
    simp only [Act.put, List.setIfInBounds_toArray, List.set_cons_zero, List.set_cons_succ]
    refine reg_take (i := 28) (v := ?_) rfl (by kernel_rfl) (by kernel_rfl) (by kernel_rfl) (fun _ _ _ h => h) (by rfl) ?hy28 ?_
    case hy28 => intro w' hw'; go_simp; (try with_reducible rfl)
    simp only [Act.put, List.setIfInBounds_toArray, List.set_cons_zero, List.set_cons_succ]
    refine reg_skip (i := 29) rfl (by kernel_rfl) (by kernel_rfl) (by kernel_rfl) (fun _ _ _ h => h) (by rfl) ?_
    simp only [Act.put, List.setIfInBounds_toArray, List.set_cons_zero, List.set_cons_succ]
    refine reg_skip (i := 30) rfl (by kernel_rfl) (by kernel_rfl) (by kernel_rfl) (fun _ _ _ h => h) (by rfl) ?_
    simp only [Act.put, List.setIfInBounds_toArray, List.set_cons_zero, List.set_cons_succ]
    refine reg_skip (i := 31) rfl (by kernel_rfl) (by kernel_rfl) (by kernel_rfl) (fun _ _ _ h => h) (by rfl) ?_
    simp only [Act.put, List.setIfInBounds_toArray, List.set_cons_zero, List.set_cons_succ]
    refine reg_take (i := 32) (v := ?_) rfl (by kernel_rfl) (by kernel_rfl) (by kernel_rfl) (fun _ _ _ h => h) (by rfl) ?hy32 ?_
    case hy32 => intro w' hw'; go_simp; (try with_reducible rfl)
    simp only [Act.put, List.setIfInBounds_toArray, List.set_cons_zero, List.set_cons_succ]
    refine reg_take (i := 33) (v := ?_) rfl (by kernel_rfl) (by kernel_rfl) (by kernel_rfl) (fun _ _ _ h => h) (by rfl) ?hy33 ?_
    case hy33 => intro w' hw'; go_simp; (try with_reducible rfl)
    simp only [Act.put, List.setIfInBounds_toArray, List.set_cons_zero, List.set_cons_succ]
    refine reg_skip (i := 34) rfl (by kernel_rfl) (by kernel_rfl) (by kernel_rfl) (fun _ _ _ h => h) (by rfl) ?_
    simp only [Act.put, List.setIfInBounds_toArray, List.set_cons_zero, List.set_cons_succ]
    refine reg_skip (i := 35) rfl (by kernel_rfl) (by kernel_rfl) (by kernel_rfl) (fun _ _ _ h => h) (by rfl) ?_
    simp only [Act.put, List.setIfInBounds_toArray, List.set_cons_zero, List.set_cons_succ]
    refine reg_take (i := 36) (v := ?_) rfl (by kernel_rfl) (by kernel_rfl) (by kernel_rfl) (fun _ _ _ h => h) (by rfl) ?hy36 ?_
    case hy36 => intro w' hw'; go_simp; (try with_reducible rfl)
    simp only [Act.put, List.setIfInBounds_toArray, List.set_cons_zero, List.set_cons_succ]
    refine reg_take (i := 37) (v := ?_) rfl (by kernel_rfl) (by kernel_rfl) (by kernel_rfl) (fun _ _ _ h => h) (by rfl) ?hy37 ?_
    case hy37 => intro w' hw'; go_simp; (try with_reducible rfl)
    simp only [Act.put, List.setIfInBounds_toArray, List.set_cons_zero, List.set_cons_succ]
    refine reg_skip (i := 38) rfl (by kernel_rfl) (by kernel_rfl) (by kernel_rfl) (fun _ _ _ h => h) (by rfl) ?_
    simp only [Act.put, List.setIfInBounds_toArray, List.set_cons_zero, List.set_cons_succ]
    refine reg_skip (i := 39) rfl (by kernel_rfl) (by kernel_rfl) (by kernel_rfl) (fun _ _ _ h => h) (by rfl) ?_
    simp only [Act.put, List.setIfInBounds_toArray, List.set_cons_zero, List.set_cons_succ]
    refine reg_skip (i := 40) rfl (by kernel_rfl) (by kernel_rfl) (by kernel_rfl) (fun _ _ _ h => h) (by rfl) ?_
    simp only [Act.put, List.setIfInBounds_toArray, List.set_cons_zero, List.set_cons_succ]
    refine reg_take (i := 41) (v := ?_) rfl (by kernel_rfl) (by kernel_rfl) (by kernel_rfl) (fun _ _ _ h => h) (by rfl) ?hy41 ?_
    case hy41 => intro w' hw'; go_simp; (try with_reducible rfl)
    simp only [Act.put, List.setIfInBounds_toArray, List.set_cons_zero, List.set_cons_succ]
    refine reg_take (i := 42) (v := ?_) rfl (by kernel_rfl) (by kernel_rfl) (by kernel_rfl) (fun _ _ _ h => h) (by rfl) ?hy42 ?_
    case hy42 => intro w' hw'; go_simp; (try with_reducible rfl)
    simp only [Act.put, List.setIfInBounds_toArray, List.set_cons_zero, List.set_cons_succ]
    refine reg_end (by kernel_rfl) ?_
    go_wp2
    go_ret
    exact ⟨rfl, B3.out⟩
  | true =>
    cases q1 with
    | false =>
      go_wp2_with (with_reducible refine wpList_load_whole_st Mr.isRec rfl _ rfl gM (by with_unfolding_all exact rfl) _ _ (Mr.len _) M1.out ?_)
      refine reg_begin (by kernel_rfl) fun w2 b2 z2 => ?_
      have M2 : Hid (Mr.At w2 gM (m.raw e t)) := Lib.hid (Whole.below M1.out b2 M1.out.lt)
      have B2 := Lib.hid (B1.out.trans (b2.mono B1.out.size))
      clear b2 z2 M1 B1
      refine reg_take (i := 0) (v := ?_) rfl (by kernel_rfl) (by kernel_rfl) (by kernel_rfl) (fun _ _ _ h => h) (by rfl) ?hy0 ?_
      case hy0 => intro w' hw'; go_simp; (try with_reducible rfl)
      simp only [Act.put, List.setIfInBounds_toArray, List.set_cons_zero, List.set_cons_succ]
      refine reg_take (i := 1) (v := (.int .i64 ((m.raw e t)).kind)) rfl (by kernel_rfl) (by kernel_rfl) (by kernel_rfl) (fun _ _ _ h => h) (by rfl) ?hy1 ?_
      case hy1 => intro w' hw'; have c := Mr.At.at_kind (Whole.below M2.out hw' M2.out.lt); go_simp; (try with_reducible rfl)
      simp only [Act.put, List.setIfInBounds_toArray, List.set_cons_zero, List.set_cons_succ]
      refine reg_call (i := 2) rfl (by kernel_rfl) (fun K' hK => ?_)
      go_simp
      refine ((C0 w2).out).mono ?_
      rintro e3 w3 ⟨rfl, b3⟩
      have M3 : Hid (Mr.At w3 gM (m.raw e t)) := Lib.hid (Whole.below M2.out b3 M2.out.lt)
      have B3 := Lib.hid (B2.out.trans (b3.mono B2.out.size))
      refine hK.out _ _ b3 ?_
      clear hK K' b3 M2 B2
      refine reg_take (i := 3) (v := ?_) rfl (by kernel_rfl) (by kernel_rfl) (by kernel_rfl) (fun _ _ _ h => h) (by rfl) ?hy3 ?_
      case hy3 => intro w' hw'; go_simp; (try with_reducible rfl)
      simp only [Act.put, List.setIfInBounds_toArray, List.set_cons_zero, List.set_cons_succ]
      refine reg_take (i := 4) (v := ?_) rfl (by kernel_rfl) (by kernel_rfl) (by kernel_rfl) (fun _ _ _ h => h) (by rfl) ?hy4 ?_
      case hy4 => intro w' hw'; go_simp; (try with_reducible rfl)
      simp only [Act.put, List.setIfInBounds_toArray, List.set_cons_zero, List.set_cons_succ]
      refine reg_take (i := 5) (v := (.int .i64 ((m.raw e t)).rid)) rfl (by kernel_rfl) (by kernel_rfl) (by kernel_rfl) (fun _ _ _ h => h) (by rfl) ?hy5 ?_
      case hy5 => intro w' hw'; have c := Mr.At.at_rid (Whole.below M3.out hw' M3.out.lt); go_simp; (try with_reducible rfl)
      simp only [Act.put, List.setIfInBounds_toArray, List.set_cons_zero, List.set_cons_succ]
      refine reg_call (i := 6) rfl (by kernel_rfl) (fun K' hK => ?_)
      go_simp
      refine ((C1 w3).out).mono ?_
      rintro e4 w4 ⟨rfl, b4⟩
      have M4 : Hid (Mr.At w4 gM (m.raw e t)) := Lib.hid (Whole.below M3.out b4 M3.out.lt)
      have B4 := Lib.hid (B3.out.trans (b4.mono B3.out.size))
      refine hK.out _ _ b4 ?_
      clear hK K' b4 M3 B3
      refine reg_take (i := 7) (v := ?_) rfl (by kernel_rfl) (by kernel_rfl) (by kernel_rfl) (fun _ _ _ h => h) (by rfl) ?hy7 ?_
      case hy7 => intro w' hw'; go_simp; (try with_reducible rfl)
      simp only [Act.put, List.setIfInBounds_toArray, List.set_cons_zero, List.set_cons_succ]
      refine reg_take (i := 8) (v := ?_) rfl (by kernel_rfl) (by kernel_rfl) (by kernel_rfl) (fun _ _ _ h => h) (by rfl) ?hy8 ?_
      case hy8 => intro w' hw'; go_simp; (try with_reducible rfl)
      simp only [Act.put, List.setIfInBounds_toArray, List.set_cons_zero, List.set_cons_succ]
      refine reg_skip (i := 9) rfl (by kernel_rfl) (by kernel_rfl) (by kernel_rfl) (fun _ _ _ h => h) (by rfl) ?_
      simp only [Act.put, List.setIfInBounds_toArray, List.set_cons_zero, List.set_cons_succ]
      refine reg_skip (i := 10) rfl (by kernel_rfl) (by kernel_rfl) (by kernel_rfl) (fun _ _ _ h => h) (by rfl) ?_
      simp only [Act.put, List.setIfInBounds_toArray, List.set_cons_zero, List.set_cons_succ]
      refine reg_skip (i := 11) rfl (by kernel_rfl) (by kernel_rfl) (by kernel_rfl) (fun _ _ _ h => h) (by rfl) ?_
      simp only [Act.put, List.setIfInBounds_toArray, List.set_cons_zero, List.set_cons_succ]
      refine reg_skip (i := 12) rfl (by kernel_rfl) (by kernel_rfl) (by kernel_rfl) (fun _ _ _ h => h) (by rfl) ?_
      simp only [Act.put, List.setIfInBounds_toArray, List.set_cons_zero, List.set_cons_succ]
      refine reg_take (i := 13) (v := ?_) rfl (by kernel_rfl) (by kernel_rfl) (by kernel_rfl) (fun _ _ _ h => h) (by rfl) ?hy13 ?_
      case hy13 => intro w' hw'; go_simp; (try with_reducible rfl)
      simp only [Act.put, List.setIfInBounds_toArray, List.set_cons_zero, List.set_cons_succ]
      refine reg_take (i := 14) (v := ?_) rfl (by kernel_rfl) (by kernel_rfl) (by kernel_rfl) (fun _ _ _ h => h) (by rfl) ?hy14 ?_
      case hy14 => intro w' hw'; go_simp; (try with_reducible rfl)
      simp only [Act.put, List.setIfInBounds_toArray, List.set_cons_zero, List.set_cons_succ]
      refine reg_skip (i := 15) rfl (by kernel_rfl) (by kernel_rfl) (by kernel_rfl) (fun _ _ _ h => h) (by rfl) ?_
      simp only [Act.put, List.setIfInBounds_toArray, List.set_cons_zero, List.set_cons_succ]
      refine reg_skip (i := 16) rfl (by kernel_rfl) (by kernel_rfl) (by kernel_rfl) (fun _ _ _ h => h) (by rfl) ?_
      simp only [Act.put, List.setIfInBounds_toArray, List.set_cons_zero, List.set_cons_succ]
      refine reg_skip (i := 17) rfl (by kernel_rfl) (by kernel_rfl) (by kernel_rfl) (fun _ _ _ h => h) (by rfl) ?_
      simp only [Act.put, List.setIfInBounds_toArray, List.set_cons_zero, List.set_cons_succ]
      refine reg_take (i := 18) (v := ?_) rfl (by kernel_rfl) (by kernel_rfl) (by kernel_rfl) (fun _ _ _ h => h) (by rfl) ?hy18 ?_
      case hy18 => intro w' hw'; go_simp; (try with_reducible rfl)
      simp only [Act.put, List.setIfInBounds_toArray, List.set_cons_zero, List.set_cons_succ]
      refine reg_take (i := 19) (v := ?_) rfl (by kernel_rfl) (by kernel_rfl) (by kernel_rfl) (fun _ _ _ h => h) (by rfl) ?hy19 ?_
      case hy19 => intro w' hw'; go_simp; (try with_reducible rfl)
      simp only [Act.put, List.setIfInBounds_toArray, List.set_cons_zero, List.set_cons_succ]
      refine reg_skip (i := 20) rfl (by kernel_rfl) (by kernel_rfl) (by kernel_rfl) (fun _ _ _ h => h) (by rfl) ?_
      simp only [Act.put, List.setIfInBounds_toArray, List.set_cons_zero, List.set_cons_succ]
      refine reg_skip (i := 21) rfl (by kernel_rfl) (by kernel_rfl) (by kernel_rfl) (fun _ _ _ h => h) (by rfl) ?_
      simp only [Act.put, List.setIfInBounds_toArray, List.set_cons_zero, List.set_cons_succ]
      refine reg_skip (i := 22) rfl (by kernel_rfl) (by kernel_rfl) (by kernel_rfl) (fun _ _ _ h => h) (by rfl) ?_
      simp only [Act.put, List.setIfInBounds_toArray, List.set_cons_zero, List.set_cons_succ]
      refine reg_take (i := 23) (v := ?_) rfl (by kernel_rfl) (by kernel_rfl) (by kernel_rfl) (fun _ _ _ h => h) (by rfl) ?hy23 ?_
      case hy23 => intro w' hw'; go_simp; (try with_reducible rfl)
      simp only [Act.put, List.setIfInBounds_toArray, List.set_cons_zero, List.set_cons_succ]
      refine reg_take (i := 24) (v := ?_) rfl (by kernel_rfl) (by kernel_rfl) (by kernel_rfl) (fun _ _ _ h => h) (by rfl) ?hy24 ?_
      case hy24 => intro w' hw'; go_simp; (try with_reducible rfl)
      simp only [Act.put, List.setIfInBounds_toArray, List.set_cons_zero, List.set_cons_succ]
      refine reg_skip (i := 25) rfl (by kernel_rfl) (by kernel_rfl) (by kernel_rfl) (fun _ _ _ h => h) (by rfl) ?_
      simp only [Act.put, List.setIfInBounds_toArray, List.set_cons_zero, List.set_cons_succ]
      refine reg_skip (i := 26) rfl (by kernel_rfl) (by kernel_rfl) (by kernel_rfl) (fun _ _ _ h => h) (by rfl) ?_
      simp only [Act.put, List.setIfInBounds_toArray, List.set_cons_zero, List.set_cons_succ]
      refine reg_take (i := 27) (v := ?_) rfl (by kernel_rfl) (by kernel_rfl) (by kernel_rfl) (fun _ _ _ h => h) (by rfl) ?hy27 ?_
      case hy27 => intro w' hw'; go_simp; (try with_reducible rfl)
      simp only [Act.put, List.setIfInBounds_toArray, List.set_cons_zero, List.set_cons_succ]
      refine reg_take (i := 28) (v := ?_) rfl (by kernel_rfl) (by kernel_rfl) (by kernel_rfl) (fun _ _ _ h => h) (by rfl) ?hy28 ?_
      case hy28 => intro w' hw'; go_simp; (try with_reducible rfl)
      simp only [Act.put, List.setIfInBounds_toArray, List.set_cons_zero, List.set_cons_succ]
      refine reg_skip (i := 29) rfl (by kernel_rfl) (by kernel_rfl) (by kernel_rfl) (fun _ _ _ h => h) (by rfl) ?_
      simp only [Act.put, List.setIfInBounds_toArray, List.set_cons_zero, List.set_cons_succ]
      refine reg_skip (i := 30) rfl (by kernel_rfl) (by kernel_rfl) (by kernel_rfl) (fun _ _ _ h => h) (by rfl) ?_
      simp only [Act.put, List.setIfInBounds_toArray, List.set_cons_zero, List.set_cons_succ]
      refine reg_skip (i := 31) rfl (by kernel_rfl) (by kernel_rfl) (by kernel_rfl) (fun _ _ _ h => h) (by rfl) ?_
      simp only [Act.put, List.setIfInBounds_toArray, List.set_cons_zero, List.set_cons_succ]
      refine reg_take (i := 32) (v := ?_) rfl (by kernel_rfl) (by kernel_rfl) (by kernel_rfl) (fun _ _ _ h => h) (by rfl) ?hy32 ?_
      case hy32 => intro w' hw'; go_simp; (try with_reducible rfl)
      simp only [Act.put, List.setIfInBounds_toArray, List.set_cons_zero, List.set_cons_succ]
      refine reg_take (i := 33) (v := ?_) rfl (by kernel_rfl) (by kernel_rfl) (by kernel_rfl) (fun _ _ _ h => h) (by rfl) ?hy33 ?_
      case hy33 => intro w' hw'; go_simp; (try with_reducible rfl)
      simp only [Act.put, List.setIfInBounds_toArray, List.set_cons_zero, List.set_cons_succ]
      refine reg_skip (i := 34) rfl (by kernel_rfl) (by kernel_rfl) (by kernel_rfl) (fun _ _ _ h => h) (by rfl) ?_
      simp only [Act.put, List.setIfInBounds_toArray, List.set_cons_zero, List.set_cons_succ]
      refine reg_skip (i := 35) rfl (by kernel_rfl) (by kernel_rfl) (by kernel_rfl) (fun _ _ _ h => h) (by rfl) ?_
      simp only [Act.put, List.setIfInBounds_toArray, List.set_cons_zero, List.set_cons_succ]
      refine reg_take (i := 36) (v := ?_) rfl (by kernel_rfl) (by kernel_rfl) (by kernel_rfl) (fun _ _ _ h => h) (by rfl) ?hy36 ?_
      case hy36 => intro w' hw'; go_simp; (try with_reducible rfl)
      simp only [Act.put, List.setIfInBounds_toArray, List.set_cons_zero, List.set_cons_succ]
      refine reg_take (i := 37) (v := ?_) rfl (by kernel_rfl) (by kernel_rfl) (by kernel_rfl) (fun _ _ _ h => h) (by rfl) ?hy37 ?_
      case hy37 => intro w' hw'; go_simp; (try with_reducible rfl)
      simp only [Act.put, List.setIfInBounds_toArray, List.set_cons_zero, List.set_cons_succ]
      refine reg_skip (i := 38) rfl (by kernel_rfl) (by kernel_rfl) (by kernel_rfl) (fun _ _ _ h => h) (by rfl) ?_
      simp only [Act.put, List.setIfInBounds_toArray, List.set_cons_zero, List.set_cons_succ]
      refine reg_skip (i := 39) rfl (by kernel_rfl) (by kernel_rfl) (by kernel_rfl) (fun _ _ _ h => h) (by rfl) ?_
      simp only [Act.put, List.setIfInBounds_toArray, List.set_cons_zero, List.set_cons_succ]
      refine reg_skip (i := 40) rfl (by kernel_rfl) (by kernel_rfl) (by kernel_rfl) (fun _ _ _ h => h) (by rfl) ?_
      simp only [Act.put, List.setIfInBounds_toArray, List.set_cons_zero, List.set_cons_succ]
      refine reg_take (i := 41) (v := ?_) rfl (by kernel_rfl) (by kernel_rfl) (by kernel_rfl) (fun _ _ _ h => h) (by rfl) ?hy41 ?_
      case hy41 => intro w' hw'; go_simp; (try with_reducible rfl)
      simp only [Act.put, List.setIfInBounds_toArray, List.set_cons_zero, List.set_cons_succ]
      refine reg_take (i := 42) (v := ?_) rfl (by kernel_rfl) (by kernel_rfl) (by kernel_rfl) (fun _ _ _ h => h) (by rfl) ?hy42 ?_
      case hy42 => intro w' hw'; go_simp; (try with_reducible rfl)
      simp only [Act.put, List.setIfInBounds_toArray, List.set_cons_zero, List.set_cons_succ]
      refine reg_end (by kernel_rfl) ?_
      go_wp2
      go_ret
      exact ⟨rfl, B4.out⟩
    | true =>
      cases q2 with
      | false =>
        go_wp2_with (with_reducible refine wpList_load_whole_st Mr.isRec rfl _ rfl gM (by with_unfolding_all exact rfl) _ _ (Mr.len _) M1.out ?_)
        refine reg_begin (by kernel_rfl) fun w2 b2 z2 => ?_
        have M2 : Hid (Mr.At w2 gM (m.raw e t)) := Lib.hid (Whole.below M1.out b2 M1.out.lt)
        have B2 := Lib.hid (B1.out.trans (b2.mono B1.out.size))
        clear b2 z2 M1 B1
        refine reg_take (i := 0) (v := ?_) rfl (by kernel_rfl) (by kernel_rfl) (by kernel_rfl) (fun _ _ _ h => h) (by rfl) ?hy0 ?_
        case hy0 => intro w' hw'; go_simp; (try with_reducible rfl)
        simp only [Act.put, List.setIfInBounds_toArray, List.set_cons_zero, List.set_cons_succ]
        refine reg_take (i := 1) (v := (.int .i64 ((m.raw e t)).kind)) rfl (by kernel_rfl) (by kernel_rfl) (by kernel_rfl) (fun _ _ _ h => h) (by rfl) ?hy1 ?_
        case hy1 => intro w' hw'; have c := Mr.At.at_kind (Whole.below M2.out hw' M2.out.lt); go_simp; (try with_reducible rfl)
        simp only [Act.put, List.setIfInBounds_toArray, List.set_cons_zero, List.set_cons_succ]
        refine reg_call (i := 2) rfl (by kernel_rfl) (fun K' hK => ?_)
        go_simp
        refine ((C0 w2).out).mono ?_
        rintro e3 w3 ⟨rfl, b3⟩
        have M3 : Hid (Mr.At w3 gM (m.raw e t)) := Lib.hid (Whole.below M2.out b3 M2.out.lt)
        have B3 := Lib.hid (B2.out.trans (b3.mono B2.out.size))
        refine hK.out _ _ b3 ?_
        clear hK K' b3 M2 B2
        refine reg_take (i := 3) (v := ?_) rfl (by kernel_rfl) (by kernel_rfl) (by kernel_rfl) (fun _ _ _ h => h) (by rfl) ?hy3 ?_
        case hy3 => intro w' hw'; go_simp; (try with_reducible rfl)
        simp only [Act.put, List.setIfInBounds_toArray, List.set_cons_zero, List.set_cons_succ]
        refine reg_take (i := 4) (v := ?_) rfl (by kernel_rfl) (by kernel_rfl) (by kernel_rfl) (fun _ _ _ h => h) (by rfl) ?hy4 ?_
        case hy4 => intro w' hw'; go_simp; (try with_reducible rfl)
        simp only [Act.put, List.setIfInBounds_toArray, List.set_cons_zero, List.set_cons_succ]
        refine reg_take (i := 5) (v := (.int .i64 ((m.raw e t)).rid)) rfl (by kernel_rfl) (by kernel_rfl) (by kernel_rfl) (fun _ _ _ h => h) (by rfl) ?hy5 ?_
        case hy5 => intro w' hw'; have c := Mr.At.at_rid (Whole.below M3.out hw' M3.out.lt); go_simp; (try with_reducible rfl)
        simp only [Act.put, List.setIfInBounds_toArray, List.set_cons_zero, List.set_cons_succ]
        refine reg_call (i := 6) rfl (by kernel_rfl) (fun K' hK => ?_)
        go_simp
        refine ((C1 w3).out).mono ?_
        rintro e4 w4 ⟨rfl, b4⟩
        have M4 : Hid (Mr.At w4 gM (m.raw e t)) := Lib.hid (Whole.below M3.out b4 M3.out.lt)
        have B4 := Lib.hid (B3.out.trans (b4.mono B3.out.size))
        refine hK.out _ _ b4 ?_
        clear hK K' b4 M3 B3
        refine reg_take (i := 7) (v := ?_) rfl (by kernel_rfl) (by kernel_rfl) (by kernel_rfl) (fun _ _ _ h => h) (by rfl) ?hy7 ?_
        case hy7 => intro w' hw'; go_simp; (try with_reducible rfl)
        simp only [Act.put, List.setIfInBounds_toArray, List.set_cons_zero, List.set_cons_succ]
        refine reg_take (i := 8) (v := ?_) rfl (by kernel_rfl) (by kernel_rfl) (by kernel_rfl) (fun _ _ _ h => h) (by rfl) ?hy8 ?_
        case hy8 => intro w' hw'; go_simp; (try with_reducible rfl)
        simp only [Act.put, List.setIfInBounds_toArray, List.set_cons_zero, List.set_cons_succ]
        refine reg_take (i := 9) (v := Mr.val ((m.raw e t))) rfl (by kernel_rfl) (by kernel_rfl) (by kernel_rfl) (fun _ _ _ h => h) (by rfl) ?hy9 ?_
        case hy9 => intro w' hw'; exact exec_load_whole_st Mr.isRec _ rfl gM rfl _ _ (Mr.len _) w' (Whole.below M4.out hw' M4.out.lt)
        simp only [Act.put, List.setIfInBounds_toArray, List.set_cons_zero, List.set_cons_succ]
        refine reg_take (i := 10) (v := Mr.val ((m.raw e t))) rfl (by kernel_rfl) (by kernel_rfl) (by kernel_rfl) (fun _ _ _ h => h) (by rfl) ?hy10 ?_
        case hy10 => intro w' hw'; exact exec_load_whole_st Mr.isRec _ rfl gM rfl _ _ (Mr.len _) w' (Whole.below M4.out hw' M4.out.lt)
        simp only [Act.put, List.setIfInBounds_toArray, List.set_cons_zero, List.set_cons_succ]
        refine reg_call (i := 11) rfl (by kernel_rfl) (fun K' hK => ?_)
        go_simp
        refine ((CB w4 B4.out).out).mono ?_
        rintro e5 w5 ⟨e1, t1, rfl, hL, b5⟩
        have M5 : Hid (Mr.At w5 gM (m.raw e t)) := Lib.hid (Whole.below M4.out b5 M4.out.lt)
        have B5 := Lib.hid (B4.out.trans (b5.mono B4.out.size))
        have L5 : Hid (Lists w5 e1 t1 (bareM m)) := Lib.hid hL
        refine hK.out _ _ b5 ?_
        clear hK K' b5 M4 B4 hL
        refine reg_call (i := 12) rfl (by kernel_rfl) (fun K' hK => ?_)
        go_simp
        refine ((C2 e1 t1 w5 B5.out L5.out).out).mono ?_
        rintro e6 w6 ⟨rfl, b6⟩
        have M6 : Hid (Mr.At w6 gM (m.raw e t)) := Lib.hid (Whole.below M5.out b6 M5.out.lt)
        have L6 : Hid (Lists w6 e1 t1 (bareM m)) := Lib.hid (L5.out.below b6)
        have B6 := Lib.hid (B5.out.trans (b6.mono B5.out.size))
        refine hK.out _ _ b6 ?_
        clear hK K' b6 M5 L5 B5
        refine reg_take (i := 13) (v := ?_) rfl (by kernel_rfl) (by kernel_rfl) (by kernel_rfl) (fun _ _ _ h => h) (by rfl) ?hy13 ?_
        case hy13 => intro w' hw'; go_simp; (try with_reducible rfl)
        simp only [Act.put, List.setIfInBounds_toArray, List.set_cons_zero, List.set_cons_succ]
        refine reg_take (i := 14) (v := ?_) rfl (by kernel_rfl) (by kernel_rfl) (by kernel_rfl) (fun _ _ _ h => h) (by rfl) ?hy14 ?_
        case hy14 => intro w' hw'; go_simp; (try with_reducible rfl)
        simp only [Act.put, List.setIfInBounds_toArray, List.set_cons_zero, List.set_cons_succ]
        refine reg_skip (i := 15) rfl (by kernel_rfl) (by kernel_rfl) (by kernel_rfl) (fun _ _ _ h => h) (by rfl) ?_
        simp only [Act.put, List.setIfInBounds_toArray, List.set_cons_zero, List.set_cons_succ]
        refine reg_skip (i := 16) rfl (by kernel_rfl) (by kernel_rfl) (by kernel_rfl) (fun _ _ _ h => h) (by rfl) ?_
        simp only [Act.put, List.setIfInBounds_toArray, List.set_cons_zero, List.set_cons_succ]
        refine reg_skip (i := 17) rfl (by kernel_rfl) (by kernel_rfl) (by kernel_rfl) (fun _ _ _ h => h) (by rfl) ?_
        simp only [Act.put, List.setIfInBounds_toArray, List.set_cons_zero, List.set_cons_succ]
        refine reg_take (i := 18) (v := ?_) rfl (by kernel_rfl) (by kernel_rfl) (by kernel_rfl) (fun _ _ _ h => h) (by rfl) ?hy18 ?_
        case hy18 => intro w' hw'; go_simp; (try with_reducible rfl)
        simp only [Act.put, List.setIfInBounds_toArray, List.set_cons_zero, List.set_cons_succ]
        refine reg_take (i := 19) (v := ?_) rfl (by kernel_rfl) (by kernel_rfl) (by kernel_rfl) (fun _ _ _ h => h) (by rfl) ?hy19 ?_
        case hy19 => intro w' hw'; go_simp; (try with_reducible rfl)
        simp only [Act.put, List.setIfInBounds_toArray, List.set_cons_zero, List.set_cons_succ]
        refine reg_skip (i := 20) rfl (by kernel_rfl) (by kernel_rfl) (by kernel_rfl) (fun _ _ _ h => h) (by rfl) ?_
        simp only [Act.put, List.setIfInBounds_toArray, List.set_cons_zero, List.set_cons_succ]
        refine reg_skip (i := 21) rfl (by kernel_rfl) (by kernel_rfl) (by kernel_rfl) (fun _ _ _ h => h) (by rfl) ?_
        simp only [Act.put, List.setIfInBounds_toArray, List.set_cons_zero, List.set_cons_succ]
        refine reg_skip (i := 22) rfl (by kernel_rfl) (by kernel_rfl) (by kernel_rfl) (fun _ _ _ h => h) (by rfl) ?_
        simp only [Act.put, List.setIfInBounds_toArray, List.set_cons_zero, List.set_cons_succ]
        refine reg_take (i := 23) (v := ?_) rfl (by kernel_rfl) (by kernel_rfl) (by kernel_rfl) (fun _ _ _ h => h) (by rfl) ?hy23 ?_
        case hy23 => intro w' hw'; go_simp; (try with_reducible rfl)
        simp only [Act.put, List.setIfInBounds_toArray, List.set_cons_zero, List.set_cons_succ]
        refine reg_take (i := 24) (v := ?_) rfl (by kernel_rfl) (by kernel_rfl) (by kernel_rfl) (fun _ _ _ h => h) (by rfl) ?hy24 ?_
        case hy24 => intro w' hw'; go_simp; (try with_reducible rfl)
        simp only [Act.put, List.setIfInBounds_toArray, List.set_cons_zero, List.set_cons_succ]
        refine reg_skip (i := 25) rfl (by kernel_rfl) (by kernel_rfl) (by kernel_rfl) (fun _ _ _ h => h) (by rfl) ?_
        simp only [Act.put, List.setIfInBounds_toArray, List.set_cons_zero, List.set_cons_succ]
        refine reg_skip (i := 26) rfl (by kernel_rfl) (by kernel_rfl) (by kernel_rfl) (fun _ _ _ h => h) (by rfl) ?_
        simp only [Act.put, List.setIfInBounds_toArray, List.set_cons_zero, List.set_cons_succ]
        refine reg_take (i := 27) (v := ?_) rfl (by kernel_rfl) (by kernel_rfl) (by kernel_rfl) (fun _ _ _ h => h) (by rfl) ?hy27 ?_
        case hy27 => intro w' hw'; go_simp; (try with_reducible rfl)
        simp only [Act.put, List.setIfInBounds_toArray, List.set_cons_zero, List.set_cons_succ]
        refine reg_take (i := 28) (v := ?_) rfl (by kernel_rfl) (by kernel_rfl) (by kernel_rfl) (fun _ _ _ h => h) (by rfl) ?hy28 ?_
        case hy28 => intro w' hw'; go_simp; (try with_reducible rfl)
        simp only [Act.put, List.setIfInBounds_toArray, List.set_cons_zero, List.set_cons_succ]
        refine reg_skip (i := 29) rfl (by kernel_rfl) (by kernel_rfl) (by kernel_rfl) (fun _ _ _ h => h) (by rfl) ?_
        simp only [Act.put, List.setIfInBounds_toArray, List.set_cons_zero, List.set_cons_succ]
        refine reg_skip (i := 30) rfl (by kernel_rfl) (by kernel_rfl) (by kernel_rfl) (fun _ _ _ h => h) (by rfl) ?_
        simp only [Act.put, List.setIfInBounds_toArray, List.set_cons_zero, List.set_cons_succ]
        refine reg_skip (i := 31) rfl (by kernel_rfl) (by kernel_rfl) (by kernel_rfl) (fun _ _ _ h => h) (by rfl) ?_
        simp only [Act.put, List.setIfInBounds_toArray, List.set_cons_zero, List.set_cons_succ]
        refine reg_take (i := 32) (v := ?_) rfl (by kernel_rfl) (by kernel_rfl) (by kernel_rfl) (fun _ _ _ h => h) (by rfl) ?hy32 ?_
        case hy32 => intro w' hw'; go_simp; (try with_reducible rfl)
        simp only [Act.put, List.setIfInBounds_toArray, List.set_cons_zero, List.set_cons_succ]
        refine reg_take (i := 33) (v := ?_) rfl (by kernel_rfl) (by kernel_rfl) (by kernel_rfl) (fun _ _ _ h => h) (by rfl) ?hy33 ?_
        case hy33 => intro w' hw'; go_simp; (try with_reducible rfl)
        simp only [Act.put, List.setIfInBounds_toArray, List.set_cons_zero, List.set_cons_succ]
        refine reg_skip (i := 34) rfl (by kernel_rfl) (by kernel_rfl) (by kernel_rfl) (fun _ _ _ h => h) (by rfl) ?_
        simp only [Act.put, List.setIfInBounds_toArray, List.set_cons_zero, List.set_cons_succ]
        refine reg_skip (i := 35) rfl (by kernel_rfl) (by kernel_rfl) (by kernel_rfl) (fun _ _ _ h => h) (by rfl) ?_
        simp only [Act.put, List.setIfInBounds_toArray, List.set_cons_zero, List.set_cons_succ]
        refine reg_take (i := 36) (v := ?_) rfl (by kernel_rfl) (by kernel_rfl) (by kernel_rfl) (fun _ _ _ h => h) (by rfl) ?hy36 ?_
        case hy36 => intro w' hw'; go_simp; (try with_reducible rfl)
        simp only [Act.put, List.setIfInBounds_toArray, List.set_cons_zero, List.set_cons_succ]
        refine reg_take (i := 37) (v := ?_) rfl (by kernel_rfl) (by kernel_rfl) (by kernel_rfl) (fun _ _ _ h => h) (by rfl) ?hy37 ?_
        case hy37 => intro w' hw'; go_simp; (try with_reducible rfl)
        simp only [Act.put, List.setIfInBounds_toArray, List.set_cons_zero, List.set_cons_succ]
        refine reg_skip (i := 38) rfl (by kernel_rfl) (by kernel_rfl) (by kernel_rfl) (fun _ _ _ h => h) (by rfl) ?_
        simp only [Act.put, List.setIfInBounds_toArray, List.set_cons_zero, List.set_cons_succ]
        refine reg_skip (i := 39) rfl (by kernel_rfl) (by kernel_rfl) (by kernel_rfl) (fun _ _ _ h => h) (by rfl) ?_
        simp only [Act.put, List.setIfInBounds_toArray, List.set_cons_zero, List.set_cons_succ]
        refine reg_skip (i := 40) rfl (by kernel_rfl) (by kernel_rfl) (by kernel_rfl) (fun _ _ _ h => h) (by rfl) ?_
        simp only [Act.put, List.setIfInBounds_toArray, List.set_cons_zero, List.set_cons_succ]
        refine reg_take (i := 41) (v := ?_) rfl (by kernel_rfl) (by kernel_rfl) (by kernel_rfl) (fun _ _ _ h => h) (by rfl) ?hy41 ?_
        case hy41 => intro w' hw'; go_simp; (try with_reducible rfl)
        simp only [Act.put, List.setIfInBounds_toArray, List.set_cons_zero, List.set_cons_succ]
        refine reg_take (i := 42) (v := ?_) rfl (by kernel_rfl) (by kernel_rfl) (by kernel_rfl) (fun _ _ _ h => h) (by rfl) ?hy42 ?_
        case hy42 => intro w' hw'; go_simp; (try with_reducible rfl)
        simp only [Act.put, List.setIfInBounds_toArray, List.set_cons_zero, List.set_cons_succ]
        refine reg_end (by kernel_rfl) ?_
        go_wp2
        go_ret
        exact ⟨rfl, B6.out⟩
      | true =>
        cases q3 with
        | false =>
          go_wp2_with (with_reducible refine wpList_load_whole_st Mr.isRec rfl _ rfl gM (by with_unfolding_all exact rfl) _ _ (Mr.len _) M1.out ?_)
          refine reg_begin (by kernel_rfl) fun w2 b2 z2 => ?_
          have M2 : Hid (Mr.At w2 gM (m.raw e t)) := Lib.hid (Whole.below M1.out b2 M1.out.lt)
          have B2 := Lib.hid (B1.out.trans (b2.mono B1.out.size))
          clear b2 z2 M1 B1
          refine reg_take (i := 0) (v := ?_) rfl (by kernel_rfl) (by kernel_rfl) (by kernel_rfl) (fun _ _ _ h => h) (by rfl) ?hy0 ?_
          case hy0 => intro w' hw'; go_simp; (try with_reducible rfl)
          simp only [Act.put, List.setIfInBounds_toArray, List.set_cons_zero, List.set_cons_succ]
          refine reg_take (i := 1) (v := (.int .i64 ((m.raw e t)).kind)) rfl (by kernel_rfl) (by kernel_rfl) (by kernel_rfl) (fun _ _ _ h => h) (by rfl) ?hy1 ?_
          case hy1 => intro w' hw'; have c := Mr.At.at_kind (Whole.below M2.out hw' M2.out.lt); go_simp; (try with_reducible rfl)
          simp only [Act.put, List.setIfInBounds_toArray, List.set_cons_zero, List.set_cons_succ]
          refine reg_call (i := 2) rfl (by kernel_rfl) (fun K' hK => ?_)
          go_simp
          refine ((C0 w2).out).mono ?_
          rintro e3 w3 ⟨rfl, b3⟩
          have M3 : Hid (Mr.At w3 gM (m.raw e t)) := Lib.hid (Whole.below M2.out b3 M2.out.lt)
          have B3 := Lib.hid (B2.out.trans (b3.mono B2.out.size))
          refine hK.out _ _ b3 ?_
          clear hK K' b3 M2 B2
          refine reg_take (i := 3) (v := ?_) rfl (by kernel_rfl) (by kernel_rfl) (by kernel_rfl) (fun _ _ _ h => h) (by rfl) ?hy3 ?_
          case hy3 => intro w' hw'; go_simp; (try with_reducible rfl)
          simp only [Act.put, List.setIfInBounds_toArray, List.set_cons_zero, List.set_cons_succ]
          refine reg_take (i := 4) (v := ?_) rfl (by kernel_rfl) (by kernel_rfl) (by kernel_rfl) (fun _ _ _ h => h) (by rfl) ?hy4 ?_
          case hy4 => intro w' hw'; go_simp; (try with_reducible rfl)
          simp only [Act.put, List.setIfInBounds_toArray, List.set_cons_zero, List.set_cons_succ]
          refine reg_take (i := 5) (v := (.int .i64 ((m.raw e t)).rid)) rfl (by kernel_rfl) (by kernel_rfl) (by kernel_rfl) (fun _ _ _ h => h) (by rfl) ?hy5 ?_
          case hy5 => intro w' hw'; have c := Mr.At.at_rid (Whole.below M3.out hw' M3.out.lt); go_simp; (try with_reducible rfl)
          simp only [Act.put, List.setIfInBounds_toArray, List.set_cons_zero, List.set_cons_succ]
          refine reg_call (i := 6) rfl (by kernel_rfl) (fun K' hK => ?_)
          go_simp
          refine ((C1 w3).out).mono ?_
          rintro e4 w4 ⟨rfl, b4⟩
          have M4 : Hid (Mr.At w4 gM (m.raw e t)) := Lib.hid (Whole.below M3.out b4 M3.out.lt)
          have B4 := Lib.hid (B3.out.trans (b4.mono B3.out.size))
          refine hK.out _ _ b4 ?_
          clear hK K' b4 M3 B3
          refine reg_take (i := 7) (v := ?_) rfl (by kernel_rfl) (by kernel_rfl) (by kernel_rfl) (fun _ _ _ h => h) (by rfl) ?hy7 ?_
          case hy7 => intro w' hw'; go_simp; (try with_reducible rfl)
          simp only [Act.put, List.setIfInBounds_toArray, List.set_cons_zero, List.set_cons_succ]
          refine reg_take (i := 8) (v := ?_) rfl (by kernel_rfl) (by kernel_rfl) (by kernel_rfl) (fun _ _ _ h => h) (by rfl) ?hy8 ?_
          case hy8 => intro w' hw'; go_simp; (try with_reducible rfl)
          simp only [Act.put, List.setIfInBounds_toArray, List.set_cons_zero, List.set_cons_succ]
          refine reg_take (i := 9) (v := Mr.val ((m.raw e t))) rfl (by kernel_rfl) (by kernel_rfl) (by kernel_rfl) (fun _ _ _ h => h) (by rfl) ?hy9 ?_
          case hy9 => intro w' hw'; exact exec_load_whole_st Mr.isRec _ rfl gM rfl _ _ (Mr.len _) w' (Whole.below M4.out hw' M4.out.lt)
          simp only [Act.put, List.setIfInBounds_toArray, List.set_cons_zero, List.set_cons_succ]
          refine reg_take (i := 10) (v := Mr.val ((m.raw e t))) rfl (by kernel_rfl) (by kernel_rfl) (by kernel_rfl) (fun _ _ _ h => h) (by rfl) ?hy10 ?_
          case hy10 => intro w' hw'; exact exec_load_whole_st Mr.isRec _ rfl gM rfl _ _ (Mr.len _) w' (Whole.below M4.out hw' M4.out.lt)
          simp only [Act.put, List.setIfInBounds_toArray, List.set_cons_zero, List.set_cons_succ]
          refine reg_call (i := 11) rfl (by kernel_rfl) (fun K' hK => ?_)
          go_simp
          refine ((CB w4 B4.out).out).mono ?_
          rintro e5 w5 ⟨e1, t1, rfl, hL, b5⟩
          have M5 : Hid (Mr.At w5 gM (m.raw e t)) := Lib.hid (Whole.below M4.out b5 M4.out.lt)
          have B5 := Lib.hid (B4.out.trans (b5.mono B4.out.size))
          have L5 : Hid (Lists w5 e1 t1 (bareM m)) := Lib.hid hL
          refine hK.out _ _ b5 ?_
          clear hK K' b5 M4 B4 hL
          refine reg_call (i := 12) rfl (by kernel_rfl) (fun K' hK => ?_)
          go_simp
          refine ((C2 e1 t1 w5 B5.out L5.out).out).mono ?_
          rintro e6 w6 ⟨rfl, b6⟩
          have M6 : Hid (Mr.At w6 gM (m.raw e t)) := Lib.hid (Whole.below M5.out b6 M5.out.lt)
          have L6 : Hid (Lists w6 e1 t1 (bareM m)) := Lib.hid (L5.out.below b6)
          have B6 := Lib.hid (B5.out.trans (b6.mono B5.out.size))
          refine hK.out _ _ b6 ?_
          clear hK K' b6 M5 L5 B5
          refine reg_take (i := 13) (v := ?_) rfl (by kernel_rfl) (by kernel_rfl) (by kernel_rfl) (fun _ _ _ h => h) (by rfl) ?hy13 ?_
          case hy13 => intro w' hw'; go_simp; (try with_reducible rfl)
          simp only [Act.put, List.setIfInBounds_toArray, List.set_cons_zero, List.set_cons_succ]
          refine reg_take (i := 14) (v := ?_) rfl (by kernel_rfl) (by kernel_rfl) (by kernel_rfl) (fun _ _ _ h => h) (by rfl) ?hy14 ?_
          case hy14 => intro w' hw'; go_simp; (try with_reducible rfl)
          simp only [Act.put, List.setIfInBounds_toArray, List.set_cons_zero, List.set_cons_succ]
          refine reg_take (i := 15) (v := ?_) rfl (by kernel_rfl) (by kernel_rfl) (by kernel_rfl) (fun _ _ _ h => h) (by rfl) ?hy15 ?_
          case hy15 => intro w' hw'; go_simp; (try with_reducible rfl)
          simp only [Act.put, List.setIfInBounds_toArray, List.set_cons_zero, List.set_cons_succ]
          refine reg_take (i := 16) (v := (.int .i64 ((m.raw e t)).error)) rfl (by kernel_rfl) (by kernel_rfl) (by kernel_rfl) (fun _ _ _ h => h) (by rfl) ?hy16 ?_
          case hy16 => intro w' hw'; have c := Mr.At.at_error (Whole.below M6.out hw' M6.out.lt); go_simp; (try with_reducible rfl)
          simp only [Act.put, List.setIfInBounds_toArray, List.set_cons_zero, List.set_cons_succ]
          refine reg_call (i := 17) rfl (by kernel_rfl) (fun K' hK => ?_)
          go_simp
          refine ((C3 w6).out).mono ?_
          rintro e7 w7 ⟨rfl, b7⟩
          have M7 : Hid (Mr.At w7 gM (m.raw e t)) := Lib.hid (Whole.below M6.out b7 M6.out.lt)
          have L7 : Hid (Lists w7 e1 t1 (bareM m)) := Lib.hid (L6.out.below b7)
          have B7 := Lib.hid (B6.out.trans (b7.mono B6.out.size))
          refine hK.out _ _ b7 ?_
          clear hK K' b7 M6 L6 B6
          refine reg_take (i := 18) (v := ?_) rfl (by kernel_rfl) (by kernel_rfl) (by kernel_rfl) (fun _ _ _ h => h) (by rfl) ?hy18 ?_
          case hy18 => intro w' hw'; go_simp; (try with_reducible rfl)
          simp only [Act.put, List.setIfInBounds_toArray, List.set_cons_zero, List.set_cons_succ]
          refine reg_take (i := 19) (v := ?_) rfl (by kernel_rfl) (by kernel_rfl) (by kernel_rfl) (fun _ _ _ h => h) (by rfl) ?hy19 ?_
          case hy19 => intro w' hw'; go_simp; (try with_reducible rfl)
          simp only [Act.put, List.setIfInBounds_toArray, List.set_cons_zero, List.set_cons_succ]
          refine reg_skip (i := 20) rfl (by kernel_rfl) (by kernel_rfl) (by kernel_rfl) (fun _ _ _ h => h) (by rfl) ?_
          simp only [Act.put, List.setIfInBounds_toArray, List.set_cons_zero, List.set_cons_succ]
          refine reg_skip (i := 21) rfl (by kernel_rfl) (by kernel_rfl) (by kernel_rfl) (fun _ _ _ h => h) (by rfl) ?_
          simp only [Act.put, List.setIfInBounds_toArray, List.set_cons_zero, List.set_cons_succ]
          refine reg_skip (i := 22) rfl (by kernel_rfl) (by kernel_rfl) (by kernel_rfl) (fun _ _ _ h => h) (by rfl) ?_
          simp only [Act.put, List.setIfInBounds_toArray, List.set_cons_zero, List.set_cons_succ]
          refine reg_take (i := 23) (v := ?_) rfl (by kernel_rfl) (by kernel_rfl) (by kernel_rfl) (fun _ _ _ h => h) (by rfl) ?hy23 ?_
          case hy23 => intro w' hw'; go_simp; (try with_reducible rfl)
          simp only [Act.put, List.setIfInBounds_toArray, List.set_cons_zero, List.set_cons_succ]
          refine reg_take (i := 24) (v := ?_) rfl (by kernel_rfl) (by kernel_rfl) (by kernel_rfl) (fun _ _ _ h => h) (by rfl) ?hy24 ?_
          case hy24 => intro w' hw'; go_simp; (try with_reducible rfl)
          simp only [Act.put, List.setIfInBounds_toArray, List.set_cons_zero, List.set_cons_succ]
          refine reg_skip (i := 25) rfl (by kernel_rfl) (by kernel_rfl) (by kernel_rfl) (fun _ _ _ h => h) (by rfl) ?_
          simp only [Act.put, List.setIfInBounds_toArray, List.set_cons_zero, List.set_cons_succ]
          refine reg_skip (i := 26) rfl (by kernel_rfl) (by kernel_rfl) (by kernel_rfl) (fun _ _ _ h => h) (by rfl) ?_
          simp only [Act.put, List.setIfInBounds_toArray, List.set_cons_zero, List.set_cons_succ]
          refine reg_take (i := 27) (v := ?_) rfl (by kernel_rfl) (by kernel_rfl) (by kernel_rfl) (fun _ _ _ h => h) (by rfl) ?hy27 ?_
          case hy27 => intro w' hw'; go_simp; (try with_reducible rfl)
          simp only [Act.put, List.setIfInBounds_toArray, List.set_cons_zero, List.set_cons_succ]
          refine reg_take (i := 28) (v := ?_) rfl (by kernel_rfl) (by kernel_rfl) (by kernel_rfl) (fun _ _ _ h => h) (by rfl) ?hy28 ?_
          case hy28 => intro w' hw'; go_simp; (try with_reducible rfl)
          simp only [Act.put, List.setIfInBounds_toArray, List.set_cons_zero, List.set_cons_succ]
          refine reg_skip (i := 29) rfl (by kernel_rfl) (by kernel_rfl) (by kernel_rfl) (fun _ _ _ h => h) (by rfl) ?_
          simp only [Act.put, List.setIfInBounds_toArray, List.set_cons_zero, List.set_cons_succ]
          refine reg_skip (i := 30) rfl (by kernel_rfl) (by kernel_rfl) (by kernel_rfl) (fun _ _ _ h => h) (by rfl) ?_
          simp only [Act.put, List.setIfInBounds_toArray, List.set_cons_zero, List.set_cons_succ]
          refine reg_skip (i := 31) rfl (by kernel_rfl) (by kernel_rfl) (by kernel_rfl) (fun _ _ _ h => h) (by rfl) ?_
          simp only [Act.put, List.setIfInBounds_toArray, List.set_cons_zero, List.set_cons_succ]
          refine reg_take (i := 32) (v := ?_) rfl (by kernel_rfl) (by kernel_rfl) (by kernel_rfl) (fun _ _ _ h => h) (by rfl) ?hy32 ?_
          case hy32 => intro w' hw'; go_simp; (try with_reducible rfl)
          simp only [Act.put, List.setIfInBounds_toArray, List.set_cons_zero, List.set_cons_succ]
          refine reg_take (i := 33) (v := ?_) rfl (by kernel_rfl) (by kernel_rfl) (by kernel_rfl) (fun _ _ _ h => h) (by rfl) ?hy33 ?_
          case hy33 => intro w' hw'; go_simp; (try with_reducible rfl)
          simp only [Act.put, List.setIfInBounds_toArray, List.set_cons_zero, List.set_cons_succ]
          refine reg_skip (i := 34) rfl (by kernel_rfl) (by kernel_rfl) (by kernel_rfl) (fun _ _ _ h => h) (by rfl) ?_
          simp only [Act.put, List.setIfInBounds_toArray, List.set_cons_zero, List.set_cons_succ]
          refine reg_skip (i := 35) rfl (by kernel_rfl) (by kernel_rfl) (by kernel_rfl) (fun _ _ _ h => h) (by rfl) ?_
          simp only [Act.put, List.setIfInBounds_toArray, List.set_cons_zero, List.set_cons_succ]
          refine reg_take (i := 36) (v := ?_) rfl (by kernel_rfl) (by kernel_rfl) (by kernel_rfl) (fun _ _ _ h => h) (by rfl) ?hy36 ?_
          case hy36 => intro w' hw'; go_simp; (try with_reducible rfl)
          simp only [Act.put, List.setIfInBounds_toArray, List.set_cons_zero, List.set_cons_succ]
          refine reg_take (i := 37) (v := ?_) rfl (by kernel_rfl) (by kernel_rfl) (by kernel_rfl) (fun _ _ _ h => h) (by rfl) ?hy37 ?_
          case hy37 => intro w' hw'; go_simp; (try with_reducible rfl)
          simp only [Act.put, List.setIfInBounds_toArray, List.set_cons_zero, List.set_cons_succ]
          refine reg_skip (i := 38) rfl (by kernel_rfl) (by kernel_rfl) (by kernel_rfl) (fun _ _ _ h => h) (by rfl) ?_
          simp only [Act.put, List.setIfInBounds_toArray, List.set_cons_zero, List.set_cons_succ]
          refine reg_skip (i := 39) rfl (by kernel_rfl) (by kernel_rfl) (by kernel_rfl) (fun _ _ _ h => h) (by rfl) ?_
          simp only [Act.put, List.setIfInBounds_toArray, List.set_cons_zero, List.set_cons_succ]
          refine reg_skip (i := 40) rfl (by kernel_rfl) (by kernel_rfl) (by kernel_rfl) (fun _ _ _ h => h) (by rfl) ?_
          simp only [Act.put, List.setIfInBounds_toArray, List.set_cons_zero, List.set_cons_succ]
          refine reg_take (i := 41) (v := ?_) rfl (by kernel_rfl) (by kernel_rfl) (by kernel_rfl) (fun _ _ _ h => h) (by rfl) ?hy41 ?_
          case hy41 => intro w' hw'; go_simp; (try with_reducible rfl)
          simp only [Act.put, List.setIfInBounds_toArray, List.set_cons_zero, List.set_cons_succ]
          refine reg_take (i := 42) (v := ?_) rfl (by kernel_rfl) (by kernel_rfl) (by kernel_rfl) (fun _ _ _ h => h) (by rfl) ?hy42 ?_
          case hy42 => intro w' hw'; go_simp; (try with_reducible rfl)
          simp only [Act.put, List.setIfInBounds_toArray, List.set_cons_zero, List.set_cons_succ]
          refine reg_end (by kernel_rfl) ?_
          go_wp2
          go_ret
          exact ⟨rfl, B7.out⟩
        | true =>
          cases q4 with
          | false =>
            go_wp2_with (with_reducible refine wpList_load_whole_st Mr.isRec rfl _ rfl gM (by with_unfolding_all exact rfl) _ _ (Mr.len _) M1.out ?_)
            refine reg_begin (by kernel_rfl) fun w2 b2 z2 => ?_
            have M2 : Hid (Mr.At w2 gM (m.raw e t)) := Lib.hid (Whole.below M1.out b2 M1.out.lt)
            have B2 := Lib.hid (B1.out.trans (b2.mono B1.out.size))
            clear b2 z2 M1 B1
            refine reg_take (i := 0) (v := ?_) rfl (by kernel_rfl) (by kernel_rfl) (by kernel_rfl) (fun _ _ _ h => h) (by rfl) ?hy0 ?_
            case hy0 => intro w' hw'; go_simp; (try with_reducible rfl)
            simp only [Act.put, List.setIfInBounds_toArray, List.set_cons_zero, List.set_cons_succ]
            refine reg_take (i := 1) (v := (.int .i64 ((m.raw e t)).kind)) rfl (by kernel_rfl) (by kernel_rfl) (by kernel_rfl) (fun _ _ _ h => h) (by rfl) ?hy1 ?_
            case hy1 => intro w' hw'; have c := Mr.At.at_kind (Whole.below M2.out hw' M2.out.lt); go_simp; (try with_reducible rfl)
            simp only [Act.put, List.setIfInBounds_toArray, List.set_cons_zero, List.set_cons_succ]
            refine reg_call (i := 2) rfl (by kernel_rfl) (fun K' hK => ?_)
            go_simp
            refine ((C0 w2).out).mono ?_
            rintro e3 w3 ⟨rfl, b3⟩
            have M3 : Hid (Mr.At w3 gM (m.raw e t)) := Lib.hid (Whole.below M2.out b3 M2.out.lt)
            have B3 := Lib.hid (B2.out.trans (b3.mono B2.out.size))
            refine hK.out _ _ b3 ?_
            clear hK K' b3 M2 B2
            refine reg_take (i := 3) (v := ?_) rfl (by kernel_rfl) (by kernel_rfl) (by kernel_rfl) (fun _ _ _ h => h) (by rfl) ?hy3 ?_
            case hy3 => intro w' hw'; go_simp; (try with_reducible rfl)
            simp only [Act.put, List.setIfInBounds_toArray, List.set_cons_zero, List.set_cons_succ]
            refine reg_take (i := 4) (v := ?_) rfl (by kernel_rfl) (by kernel_rfl) (by kernel_rfl) (fun _ _ _ h => h) (by rfl) ?hy4 ?_
            case hy4 => intro w' hw'; go_simp; (try with_reducible rfl)
            simp only [Act.put, List.setIfInBounds_toArray, List.set_cons_zero, List.set_cons_succ]
            refine reg_take (i := 5) (v := (.int .i64 ((m.raw e t)).rid)) rfl (by kernel_rfl) (by kernel_rfl) (by kernel_rfl) (fun _ _ _ h => h) (by rfl) ?hy5 ?_
            case hy5 => intro w' hw'; have c := Mr.At.at_rid (Whole.below M3.out hw' M3.out.lt); go_simp; (try with_reducible rfl)
            simp only [Act.put, List.setIfInBounds_toArray, List.set_cons_zero, List.set_cons_succ]
            refine reg_call (i := 6) rfl (by kernel_rfl) (fun K' hK => ?_)
            go_simp
            refine ((C1 w3).out).mono ?_
            rintro e4 w4 ⟨rfl, b4⟩
            have M4 : Hid (Mr.At w4 gM (m.raw e t)) := Lib.hid (Whole.below M3.out b4 M3.out.lt)
            have B4 := Lib.hid (B3.out.trans (b4.mono B3.out.size))
            refine hK.out _ _ b4 ?_
            clear hK K' b4 M3 B3
            refine reg_take (i := 7) (v := ?_) rfl (by kernel_rfl) (by kernel_rfl) (by kernel_rfl) (fun _ _ _ h => h) (by rfl) ?hy7 ?_
            case hy7 => intro w' hw'; go_simp; (try with_reducible rfl)
            simp only [Act.put, List.setIfInBounds_toArray, List.set_cons_zero, List.set_cons_succ]
            refine reg_take (i := 8) (v := ?_) rfl (by kernel_rfl) (by kernel_rfl) (by kernel_rfl) (fun _ _ _ h => h) (by rfl) ?hy8 ?_
            case hy8 => intro w' hw'; go_simp; (try with_reducible rfl)
            simp only [Act.put, List.setIfInBounds_toArray, List.set_cons_zero, List.set_cons_succ]
            refine reg_take (i := 9) (v := Mr.val ((m.raw e t))) rfl (by kernel_rfl) (by kernel_rfl) (by kernel_rfl) (fun _ _ _ h => h) (by rfl) ?hy9 ?_
            case hy9 => intro w' hw'; exact exec_load_whole_st Mr.isRec _ rfl gM rfl _ _ (Mr.len _) w' (Whole.below M4.out hw' M4.out.lt)
            simp only [Act.put, List.setIfInBounds_toArray, List.set_cons_zero, List.set_cons_succ]
            refine reg_take (i := 10) (v := Mr.val ((m.raw e t))) rfl (by kernel_rfl) (by kernel_rfl) (by kernel_rfl) (fun _ _ _ h => h) (by rfl) ?hy10 ?_
            case hy10 => intro w' hw'; exact exec_load_whole_st Mr.isRec _ rfl gM rfl _ _ (Mr.len _) w' (Whole.below M4.out hw' M4.out.lt)
            simp only [Act.put, List.setIfInBounds_toArray, List.set_cons_zero, List.set_cons_succ]
            refine reg_call (i := 11) rfl (by kernel_rfl) (fun K' hK => ?_)
            go_simp
            refine ((CB w4 B4.out).out).mono ?_
            rintro e5 w5 ⟨e1, t1, rfl, hL, b5⟩
            have M5 : Hid (Mr.At w5 gM (m.raw e t)) := Lib.hid (Whole.below M4.out b5 M4.out.lt)
            have B5 := Lib.hid (B4.out.trans (b5.mono B4.out.size))
            have L5 : Hid (Lists w5 e1 t1 (bareM m)) := Lib.hid hL
            refine hK.out _ _ b5 ?_
            clear hK K' b5 M4 B4 hL
            refine reg_call (i := 12) rfl (by kernel_rfl) (fun K' hK => ?_)
            go_simp
            refine ((C2 e1 t1 w5 B5.out L5.out).out).mono ?_
            rintro e6 w6 ⟨rfl, b6⟩
            have M6 : Hid (Mr.At w6 gM (m.raw e t)) := Lib.hid (Whole.below M5.out b6 M5.out.lt)
            have L6 : Hid (Lists w6 e1 t1 (bareM m)) := Lib.hid (L5.out.below b6)
            have B6 := Lib.hid (B5.out.trans (b6.mono B5.out.size))
            refine hK.out _ _ b6 ?_
            clear hK K' b6 M5 L5 B5
            refine reg_take (i := 13) (v := ?_) rfl (by kernel_rfl) (by kernel_rfl) (by kernel_rfl) (fun _ _ _ h => h) (by rfl) ?hy13 ?_
            case hy13 => intro w' hw'; go_simp; (try with_reducible rfl)
            simp only [Act.put, List.setIfInBounds_toArray, List.set_cons_zero, List.set_cons_succ]
            refine reg_take (i := 14) (v := ?_) rfl (by kernel_rfl) (by kernel_rfl) (by kernel_rfl) (fun _ _ _ h => h) (by rfl) ?hy14 ?_
            case hy14 => intro w' hw'; go_simp; (try with_reducible rfl)
            simp only [Act.put, List.setIfInBounds_toArray, List.set_cons_zero, List.set_cons_succ]
            refine reg_take (i := 15) (v := ?_) rfl (by kernel_rfl) (by kernel_rfl) (by kernel_rfl) (fun _ _ _ h => h) (by rfl) ?hy15 ?_
            case hy15 => intro w' hw'; go_simp; (try with_reducible rfl)
            simp only [Act.put, List.setIfInBounds_toArray, List.set_cons_zero, List.set_cons_succ]
            refine reg_take (i := 16) (v := (.int .i64 ((m.raw e t)).error)) rfl (by kernel_rfl) (by kernel_rfl) (by kernel_rfl) (fun _ _ _ h => h) (by rfl) ?hy16 ?_
            case hy16 => intro w' hw'; have c := Mr.At.at_error (Whole.below M6.out hw' M6.out.lt); go_simp; (try with_reducible rfl)
            simp only [Act.put, List.setIfInBounds_toArray, List.set_cons_zero, List.set_cons_succ]
            refine reg_call (i := 17) rfl (by kernel_rfl) (fun K' hK => ?_)
            go_simp
            refine ((C3 w6).out).mono ?_
            rintro e7 w7 ⟨rfl, b7⟩
            have M7 : Hid (Mr.At w7 gM (m.raw e t)) := Lib.hid (Whole.below M6.out b7 M6.out.lt)
            have L7 : Hid (Lists w7 e1 t1 (bareM m)) := Lib.hid (L6.out.below b7)
            have B7 := Lib.hid (B6.out.trans (b7.mono B6.out.size))
            refine hK.out _ _ b7 ?_
            clear hK K' b7 M6 L6 B6
            refine reg_take (i := 18) (v := ?_) rfl (by kernel_rfl) (by kernel_rfl) (by kernel_rfl) (fun _ _ _ h => h) (by rfl) ?hy18 ?_
            case hy18 => intro w' hw'; go_simp; (try with_reducible rfl)
            simp only [Act.put, List.setIfInBounds_toArray, List.set_cons_zero, List.set_cons_succ]
            refine reg_take (i := 19) (v := ?_) rfl (by kernel_rfl) (by kernel_rfl) (by kernel_rfl) (fun _ _ _ h => h) (by rfl) ?hy19 ?_
            case hy19 => intro w' hw'; go_simp; (try with_reducible rfl)
            simp only [Act.put, List.setIfInBounds_toArray, List.set_cons_zero, List.set_cons_succ]
            refine reg_take (i := 20) (v := ?_) rfl (by kernel_rfl) (by kernel_rfl) (by kernel_rfl) (fun _ _ _ h => h) (by rfl) ?hy20 ?_
            case hy20 => intro w' hw'; go_simp; (try with_reducible rfl)
            simp only [Act.put, List.setIfInBounds_toArray, List.set_cons_zero, List.set_cons_succ]
            refine reg_take (i := 21) (v := (.int .i64 ((m.raw e t)).ver)) rfl (by kernel_rfl) (by kernel_rfl) (by kernel_rfl) (fun _ _ _ h => h) (by rfl) ?hy21 ?_
            case hy21 => intro w' hw'; have c := Mr.At.at_ver (Whole.below M7.out hw' M7.out.lt); go_simp; (try with_reducible rfl)
            simp only [Act.put, List.setIfInBounds_toArray, List.set_cons_zero, List.set_cons_succ]
            refine reg_call (i := 22) rfl (by kernel_rfl) (fun K' hK => ?_)
            go_simp
            refine ((C4 w7).out).mono ?_
            rintro e8 w8 ⟨rfl, b8⟩
            have M8 : Hid (Mr.At w8 gM (m.raw e t)) := Lib.hid (Whole.below M7.out b8 M7.out.lt)
            have L8 : Hid (Lists w8 e1 t1 (bareM m)) := Lib.hid (L7.out.below b8)
            have B8 := Lib.hid (B7.out.trans (b8.mono B7.out.size))
            refine hK.out _ _ b8 ?_
            clear hK K' b8 M7 L7 B7
            refine reg_take (i := 23) (v := ?_) rfl (by kernel_rfl) (by kernel_rfl) (by kernel_rfl) (fun _ _ _ h => h) (by rfl) ?hy23 ?_
            case hy23 => intro w' hw'; go_simp; (try with_reducible rfl)
            simp only [Act.put, List.setIfInBounds_toArray, List.set_cons_zero, List.set_cons_succ]
            refine reg_take (i := 24) (v := ?_) rfl (by kernel_rfl) (by kernel_rfl) (by kernel_rfl) (fun _ _ _ h => h) (by rfl) ?hy24 ?_
            case hy24 => intro w' hw'; go_simp; (try with_reducible rfl)
            simp only [Act.put, List.setIfInBounds_toArray, List.set_cons_zero, List.set_cons_succ]
            refine reg_skip (i := 25) rfl (by kernel_rfl) (by kernel_rfl) (by kernel_rfl) (fun _ _ _ h => h) (by rfl) ?_
            simp only [Act.put, List.setIfInBounds_toArray, List.set_cons_zero, List.set_cons_succ]
            refine reg_skip (i := 26) rfl (by kernel_rfl) (by kernel_rfl) (by kernel_rfl) (fun _ _ _ h => h) (by rfl) ?_
            simp only [Act.put, List.setIfInBounds_toArray, List.set_cons_zero, List.set_cons_succ]
            refine reg_take (i := 27) (v := ?_) rfl (by kernel_rfl) (by kernel_rfl) (by kernel_rfl) (fun _ _ _ h => h) (by rfl) ?hy27 ?_
            case hy27 => intro w' hw'; go_simp; (try with_reducible rfl)
            simp only [Act.put, List.setIfInBounds_toArray, List.set_cons_zero, List.set_cons_succ]
            refine reg_take (i := 28) (v := ?_) rfl (by kernel_rfl) (by kernel_rfl) (by kernel_rfl) (fun _ _ _ h => h) (by rfl) ?hy28 ?_
            case hy28 => intro w' hw'; go_simp; (try with_reducible rfl)
            simp only [Act.put, List.setIfInBounds_toArray, List.set_cons_zero, List.set_cons_succ]
            refine reg_skip (i := 29) rfl (by kernel_rfl) (by kernel_rfl) (by kernel_rfl) (fun _ _ _ h => h) (by rfl) ?_
            simp only [Act.put, List.setIfInBounds_toArray, List.set_cons_zero, List.set_cons_succ]
            refine reg_skip (i := 30) rfl (by kernel_rfl) (by kernel_rfl) (by kernel_rfl) (fun _ _ _ h => h) (by rfl) ?_
            simp only [Act.put, List.setIfInBounds_toArray, List.set_cons_zero, List.set_cons_succ]
            refine reg_skip (i := 31) rfl (by kernel_rfl) (by kernel_rfl) (by kernel_rfl) (fun _ _ _ h => h) (by rfl) ?_
            simp only [Act.put, List.setIfInBounds_toArray, List.set_cons_zero, List.set_cons_succ]
            refine reg_take (i := 32) (v := ?_) rfl (by kernel_rfl) (by kernel_rfl) (by kernel_rfl) (fun _ _ _ h => h) (by rfl) ?hy32 ?_
            case hy32 => intro w' hw'; go_simp; (try with_reducible rfl)
            simp only [Act.put, List.setIfInBounds_toArray, List.set_cons_zero, List.set_cons_succ]
            refine reg_take (i := 33) (v := ?_) rfl (by kernel_rfl) (by kernel_rfl) (by kernel_rfl) (fun _ _ _ h => h) (by rfl) ?hy33 ?_
            case hy33 => intro w' hw'; go_simp; (try with_reducible rfl)
            simp only [Act.put, List.setIfInBounds_toArray, List.set_cons_zero, List.set_cons_succ]
            refine reg_skip (i := 34) rfl (by kernel_rfl) (by kernel_rfl) (by kernel_rfl) (fun _ _ _ h => h) (by rfl) ?_
            simp only [Act.put, List.setIfInBounds_toArray, List.set_cons_zero, List.set_cons_succ]
            refine reg_skip (i := 35) rfl (by kernel_rfl) (by kernel_rfl) (by kernel_rfl) (fun _ _ _ h => h) (by rfl) ?_
            simp only [Act.put, List.setIfInBounds_toArray, List.set_cons_zero, List.set_cons_succ]
            refine reg_take (i := 36) (v := ?_) rfl (by kernel_rfl) (by kernel_rfl) (by kernel_rfl) (fun _ _ _ h => h) (by rfl) ?hy36 ?_
            case hy36 => intro w' hw'; go_simp; (try with_reducible rfl)
            simp only [Act.put, List.setIfInBounds_toArray, List.set_cons_zero, List.set_cons_succ]
            refine reg_take (i := 37) (v := ?_) rfl (by kernel_rfl) (by kernel_rfl) (by kernel_rfl) (fun _ _ _ h => h) (by rfl) ?hy37 ?_
            case hy37 => intro w' hw'; go_simp; (try with_reducible rfl)
            simp only [Act.put, List.setIfInBounds_toArray, List.set_cons_zero, List.set_cons_succ]
            refine reg_skip (i := 38) rfl (by kernel_rfl) (by kernel_rfl) (by kernel_rfl) (fun _ _ _ h => h) (by rfl) ?_
            simp only [Act.put, List.setIfInBounds_toArray, List.set_cons_zero, List.set_cons_succ]
            refine reg_skip (i := 39) rfl (by kernel_rfl) (by kernel_rfl) (by kernel_rfl) (fun _ _ _ h => h) (by rfl) ?_
            simp only [Act.put, List.setIfInBounds_toArray, List.set_cons_zero, List.set_cons_succ]
            refine reg_skip (i := 40) rfl (by kernel_rfl) (by kernel_rfl) (by kernel_rfl) (fun _ _ _ h => h) (by rfl) ?_
            simp only [Act.put, List.setIfInBounds_toArray, List.set_cons_zero, List.set_cons_succ]
            refine reg_take (i := 41) (v := ?_) rfl (by kernel_rfl) (by kernel_rfl) (by kernel_rfl) (fun _ _ _ h => h) (by rfl) ?hy41 ?_
            case hy41 => intro w' hw'; go_simp; (try with_reducible rfl)
            simp only [Act.put, List.setIfInBounds_toArray, List.set_cons_zero, List.set_cons_succ]
            refine reg_take (i := 42) (v := ?_) rfl (by kernel_rfl) (by kernel_rfl) (by kernel_rfl) (fun _ _ _ h => h) (by rfl) ?hy42 ?_
            case hy42 => intro w' hw'; go_simp; (try with_reducible rfl)
            simp only [Act.put, List.setIfInBounds_toArray, List.set_cons_zero, List.set_cons_succ]
            refine reg_end (by kernel_rfl) ?_
            go_wp2
            go_ret
            exact ⟨rfl, B8.out⟩
          | true =>
            cases q5 with
            | false =>
              go_wp2_with (with_reducible refine wpList_load_whole_st Mr.isRec rfl _ rfl gM (by with_unfolding_all exact rfl) _ _ (Mr.len _) M1.out ?_)
              refine reg_begin (by kernel_rfl) fun w2 b2 z2 => ?_
              have M2 : Hid (Mr.At w2 gM (m.raw e t)) := Lib.hid (Whole.below M1.out b2 M1.out.lt)
              have B2 := Lib.hid (B1.out.trans (b2.mono B1.out.size))
              clear b2 z2 M1 B1
              refine reg_take (i := 0) (v := ?_) rfl (by kernel_rfl) (by kernel_rfl) (by kernel_rfl) (fun _ _ _ h => h) (by rfl) ?hy0 ?_
              case hy0 => intro w' hw'; go_simp; (try with_reducible rfl)
              simp only [Act.put, List.setIfInBounds_toArray, List.set_cons_zero, List.set_cons_succ]
              refine reg_take (i := 1) (v := (.int .i64 ((m.raw e t)).kind)) rfl (by kernel_rfl) (by kernel_rfl) (by kernel_rfl) (fun _ _ _ h => h) (by rfl) ?hy1 ?_
              case hy1 => intro w' hw'; have c := Mr.At.at_kind (Whole.below M2.out hw' M2.out.lt); go_simp; (try with_reducible rfl)
              simp only [Act.put, List.setIfInBounds_toArray, List.set_cons_zero, List.set_cons_succ]
              refine reg_call (i := 2) rfl (by kernel_rfl) (fun K' hK => ?_)
              go_simp
              refine ((C0 w2).out).mono ?_
              rintro e3 w3 ⟨rfl, b3⟩
              have M3 : Hid (Mr.At w3 gM (m.raw e t)) := Lib.hid (Whole.below M2.out b3 M2.out.lt)
              have B3 := Lib.hid (B2.out.trans (b3.mono B2.out.size))
              refine hK.out _ _ b3 ?_
              clear hK K' b3 M2 B2
              refine reg_take (i := 3) (v := ?_) rfl (by kernel_rfl) (by kernel_rfl) (by kernel_rfl) (fun _ _ _ h => h) (by rfl) ?hy3 ?_
              case hy3 => intro w' hw'; go_simp; (try with_reducible rfl)
              simp only [Act.put, List.setIfInBounds_toArray, List.set_cons_zero, List.set_cons_succ]
              refine reg_take (i := 4) (v := ?_) rfl (by kernel_rfl) (by kernel_rfl) (by kernel_rfl) (fun _ _ _ h => h) (by rfl) ?hy4 ?_
              case hy4 => intro w' hw'; go_simp; (try with_reducible rfl)
              simp only [Act.put, List.setIfInBounds_toArray, List.set_cons_zero, List.set_cons_succ]
              refine reg_take (i := 5) (v := (.int .i64 ((m.raw e t)).rid)) rfl (by kernel_rfl) (by kernel_rfl) (by kernel_rfl) (fun _ _ _ h => h) (by rfl) ?hy5 ?_
              case hy5 => intro w' hw'; have c := Mr.At.at_rid (Whole.below M3.out hw' M3.out.lt); go_simp; (try with_reducible rfl)
              simp only [Act.put, List.setIfInBounds_toArray, List.set_cons_zero, List.set_cons_succ]
              refine reg_call (i := 6) rfl (by kernel_rfl) (fun K' hK => ?_)
              go_simp
              refine ((C1 w3).out).mono ?_
              rintro e4 w4 ⟨rfl, b4⟩
              have M4 : Hid (Mr.At w4 gM (m.raw e t)) := Lib.hid (Whole.below M3.out b4 M3.out.lt)
              have B4 := Lib.hid (B3.out.trans (b4.mono B3.out.size))
              refine hK.out _ _ b4 ?_
              clear hK K' b4 M3 B3
              refine reg_take (i := 7) (v := ?_) rfl (by kernel_rfl) (by kernel_rfl) (by kernel_rfl) (fun _ _ _ h => h) (by rfl) ?hy7 ?_
              case hy7 => intro w' hw'; go_simp; (try with_reducible rfl)
              simp only [Act.put, List.setIfInBounds_toArray, List.set_cons_zero, List.set_cons_succ]
              refine reg_take (i := 8) (v := ?_) rfl (by kernel_rfl) (by kernel_rfl) (by kernel_rfl) (fun _ _ _ h => h) (by rfl) ?hy8 ?_
              case hy8 => intro w' hw'; go_simp; (try with_reducible rfl)
              simp only [Act.put, List.setIfInBounds_toArray, List.set_cons_zero, List.set_cons_succ]
              refine reg_take (i := 9) (v := Mr.val ((m.raw e t))) rfl (by kernel_rfl) (by kernel_rfl) (by kernel_rfl) (fun _ _ _ h => h) (by rfl) ?hy9 ?_
              case hy9 => intro w' hw'; exact exec_load_whole_st Mr.isRec _ rfl gM rfl _ _ (Mr.len _) w' (Whole.below M4.out hw' M4.out.lt)
              simp only [Act.put, List.setIfInBounds_toArray, List.set_cons_zero, List.set_cons_succ]
              refine reg_take (i := 10) (v := Mr.val ((m.raw e t))) rfl (by kernel_rfl) (by kernel_rfl) (by kernel_rfl) (fun _ _ _ h => h) (by rfl) ?hy10 ?_
              case hy10 => intro w' hw'; exact exec_load_whole_st Mr.isRec _ rfl gM rfl _ _ (Mr.len _) w' (Whole.below M4.out hw' M4.out.lt)
              simp only [Act.put, List.setIfInBounds_toArray, List.set_cons_zero, List.set_cons_succ]
              refine reg_call (i := 11) rfl (by kernel_rfl) (fun K' hK => ?_)
              go_simp
              refine ((CB w4 B4.out).out).mono ?_
              rintro e5 w5 ⟨e1, t1, rfl, hL, b5⟩
              have M5 : Hid (Mr.At w5 gM (m.raw e t)) := Lib.hid (Whole.below M4.out b5 M4.out.lt)
              have B5 := Lib.hid (B4.out.trans (b5.mono B4.out.size))
              have L5 : Hid (Lists w5 e1 t1 (bareM m)) := Lib.hid hL
              refine hK.out _ _ b5 ?_
              clear hK K' b5 M4 B4 hL
              refine reg_call (i := 12) rfl (by kernel_rfl) (fun K' hK => ?_)
              go_simp
              refine ((C2 e1 t1 w5 B5.out L5.out).out).mono ?_
              rintro e6 w6 ⟨rfl, b6⟩
              have M6 : Hid (Mr.At w6 gM (m.raw e t)) := Lib.hid (Whole.below M5.out b6 M5.out.lt)
              have L6 : Hid (Lists w6 e1 t1 (bareM m)) := Lib.hid (L5.out.below b6)
              have B6 := Lib.hid (B5.out.trans (b6.mono B5.out.size))
              refine hK.out _ _ b6 ?_
              clear hK K' b6 M5 L5 B5
              refine reg_take (i := 13) (v := ?_) rfl (by kernel_rfl) (by kernel_rfl) (by kernel_rfl) (fun _ _ _ h => h) (by rfl) ?hy13 ?_
              case hy13 => intro w' hw'; go_simp; (try with_reducible rfl)
              simp only [Act.put, List.setIfInBounds_toArray, List.set_cons_zero, List.set_cons_succ]
              refine reg_take (i := 14) (v := ?_) rfl (by kernel_rfl) (by kernel_rfl) (by kernel_rfl) (fun _ _ _ h => h) (by rfl) ?hy14 ?_
              case hy14 => intro w' hw'; go_simp; (try with_reducible rfl)
              simp only [Act.put, List.setIfInBounds_toArray, List.set_cons_zero, List.set_cons_succ]
              refine reg_take (i := 15) (v := ?_) rfl (by kernel_rfl) (by kernel_rfl) (by kernel_rfl) (fun _ _ _ h => h) (by rfl) ?hy15 ?_
              case hy15 => intro w' hw'; go_simp; (try with_reducible rfl)
              simp only [Act.put, List.setIfInBounds_toArray, List.set_cons_zero, List.set_cons_succ]
              refine reg_take (i := 16) (v := (.int .i64 ((m.raw e t)).error)) rfl (by kernel_rfl) (by kernel_rfl) (by kernel_rfl) (fun _ _ _ h => h) (by rfl) ?hy16 ?_
              case hy16 => intro w' hw'; have c := Mr.At.at_error (Whole.below M6.out hw' M6.out.lt); go_simp; (try with_reducible rfl)
              simp only [Act.put, List.setIfInBounds_toArray, List.set_cons_zero, List.set_cons_succ]
              refine reg_call (i := 17) rfl (by kernel_rfl) (fun K' hK => ?_)
              go_simp
              refine ((C3 w6).out).mono ?_
              rintro e7 w7 ⟨rfl, b7⟩
              have M7 : Hid (Mr.At w7 gM (m.raw e t)) := Lib.hid (Whole.below M6.out b7 M6.out.lt)
              have L7 : Hid (Lists w7 e1 t1 (bareM m)) := Lib.hid (L6.out.below b7)
              have B7 := Lib.hid (B6.out.trans (b7.mono B6.out.size))
              refine hK.out _ _ b7 ?_
              clear hK K' b7 M6 L6 B6
              refine reg_take (i := 18) (v := ?_) rfl (by kernel_rfl) (by kernel_rfl) (by kernel_rfl) (fun _ _ _ h => h) (by rfl) ?hy18 ?_
              case hy18 => intro w' hw'; go_simp; (try with_reducible rfl)
              simp only [Act.put, List.setIfInBounds_toArray, List.set_cons_zero, List.set_cons_succ]
              refine reg_take (i := 19) (v := ?_) rfl (by kernel_rfl) (by kernel_rfl) (by kernel_rfl) (fun _ _ _ h => h) (by rfl) ?hy19 ?_
              case hy19 => intro w' hw'; go_simp; (try with_reducible rfl)
              simp only [Act.put, List.setIfInBounds_toArray, List.set_cons_zero, List.set_cons_succ]
              refine reg_take (i := 20) (v := ?_) rfl (by kernel_rfl) (by kernel_rfl) (by kernel_rfl) (fun _ _ _ h => h) (by rfl) ?hy20 ?_
              case hy20 => intro w' hw'; go_simp; (try with_reducible rfl)
              simp only [Act.put, List.setIfInBounds_toArray, List.set_cons_zero, List.set_cons_succ]
              refine reg_take (i := 21) (v := (.int .i64 ((m.raw e t)).ver)) rfl (by kernel_rfl) (by kernel_rfl) (by kernel_rfl) (fun _ _ _ h => h) (by rfl) ?hy21 ?_
              case hy21 => intro w' hw'; have c := Mr.At.at_ver (Whole.below M7.out hw' M7.out.lt); go_simp; (try with_reducible rfl)
              simp only [Act.put, List.setIfInBounds_toArray, List.set_cons_zero, List.set_cons_succ]
              refine reg_call (i := 22) rfl (by kernel_rfl) (fun K' hK => ?_)
              go_simp
              refine ((C4 w7).out).mono ?_
              rintro e8 w8 ⟨rfl, b8⟩
              have M8 : Hid (Mr.At w8 gM (m.raw e t)) := Lib.hid (Whole.below M7.out b8 M7.out.lt)
              have L8 : Hid (Lists w8 e1 t1 (bareM m)) := Lib.hid (L7.out.below b8)
              have B8 := Lib.hid (B7.out.trans (b8.mono B7.out.size))
              refine hK.out _ _ b8 ?_
              clear hK K' b8 M7 L7 B7
              refine reg_take (i := 23) (v := ?_) rfl (by kernel_rfl) (by kernel_rfl) (by kernel_rfl) (fun _ _ _ h => h) (by rfl) ?hy23 ?_
              case hy23 => intro w' hw'; go_simp; (try with_reducible rfl)
              simp only [Act.put, List.setIfInBounds_toArray, List.set_cons_zero, List.set_cons_succ]
              refine reg_take (i := 24) (v := ?_) rfl (by kernel_rfl) (by kernel_rfl) (by kernel_rfl) (fun _ _ _ h => h) (by rfl) ?hy24 ?_
              case hy24 => intro w' hw'; go_simp; (try with_reducible rfl)
              simp only [Act.put, List.setIfInBounds_toArray, List.set_cons_zero, List.set_cons_succ]
              refine reg_take (i := 25) (v := Mr.val ((m.raw e t))) rfl (by kernel_rfl) (by kernel_rfl) (by kernel_rfl) (fun _ _ _ h => h) (by rfl) ?hy25 ?_
              case hy25 => intro w' hw'; exact exec_load_whole_st Mr.isRec _ rfl gM rfl _ _ (Mr.len _) w' (Whole.below M8.out hw' M8.out.lt)
              simp only [Act.put, List.setIfInBounds_toArray, List.set_cons_zero, List.set_cons_succ]
              refine reg_call (i := 26) rfl (by kernel_rfl) (fun K' hK => ?_)
              go_simp
              refine ((C5 w8).out).mono ?_
              rintro e9 w9 ⟨rfl, b9⟩
              have M9 : Hid (Mr.At w9 gM (m.raw e t)) := Lib.hid (Whole.below M8.out b9 M8.out.lt)
              have L9 : Hid (Lists w9 e1 t1 (bareM m)) := Lib.hid (L8.out.below b9)
              have B9 := Lib.hid (B8.out.trans (b9.mono B8.out.size))
              refine hK.out _ _ b9 ?_
              clear hK K' b9 M8 L8 B8
              refine reg_take (i := 27) (v := ?_) rfl (by kernel_rfl) (by kernel_rfl) (by kernel_rfl) (fun _ _ _ h => h) (by rfl) ?hy27 ?_
              case hy27 => intro w' hw'; go_simp; (try with_reducible rfl)
              simp only [Act.put, List.setIfInBounds_toArray, List.set_cons_zero, List.set_cons_succ]
              refine reg_take (i := 28) (v := ?_) rfl (by kernel_rfl) (by kernel_rfl) (by kernel_rfl) (fun _ _ _ h => h) (by rfl) ?hy28 ?_
              case hy28 => intro w' hw'; go_simp; (try with_reducible rfl)
              simp only [Act.put, List.setIfInBounds_toArray, List.set_cons_zero, List.set_cons_succ]
              refine reg_skip (i := 29) rfl (by kernel_rfl) (by kernel_rfl) (by kernel_rfl) (fun _ _ _ h => h) (by rfl) ?_
              simp only [Act.put, List.setIfInBounds_toArray, List.set_cons_zero, List.set_cons_succ]
              refine reg_skip (i := 30) rfl (by kernel_rfl) (by kernel_rfl) (by kernel_rfl) (fun _ _ _ h => h) (by rfl) ?_
              simp only [Act.put, List.setIfInBounds_toArray, List.set_cons_zero, List.set_cons_succ]
              refine reg_skip (i := 31) rfl (by kernel_rfl) (by kernel_rfl) (by kernel_rfl) (fun _ _ _ h => h) (by rfl) ?_
              simp only [Act.put, List.setIfInBounds_toArray, List.set_cons_zero, List.set_cons_succ]
              refine reg_take (i := 32) (v := ?_) rfl (by kernel_rfl) (by kernel_rfl) (by kernel_rfl) (fun _ _ _ h => h) (by rfl) ?hy32 ?_
              case hy32 => intro w' hw'; go_simp; (try with_reducible rfl)
              simp only [Act.put, List.setIfInBounds_toArray, List.set_cons_zero, List.set_cons_succ]
              refine reg_take (i := 33) (v := ?_) rfl (by kernel_rfl) (by kernel_rfl) (by kernel_rfl) (fun _ _ _ h => h) (by rfl) ?hy33 ?_
              case hy33 => intro w' hw'; go_simp; (try with_reducible rfl)
              simp only [Act.put, List.setIfInBounds_toArray, List.set_cons_zero, List.set_cons_succ]
              refine reg_skip (i := 34) rfl (by kernel_rfl) (by kernel_rfl) (by kernel_rfl) (fun _ _ _ h => h) (by rfl) ?_
              simp only [Act.put, List.setIfInBounds_toArray, List.set_cons_zero, List.set_cons_succ]
              refine reg_skip (i := 35) rfl (by kernel_rfl) (by kernel_rfl) (by kernel_rfl) (fun _ _ _ h => h) (by rfl) ?_
              simp only [Act.put, List.setIfInBounds_toArray, List.set_cons_zero, List.set_cons_succ]
              refine reg_take (i := 36) (v := ?_) rfl (by kernel_rfl) (by kernel_rfl) (by kernel_rfl) (fun _ _ _ h => h) (by rfl) ?hy36 ?_
              case hy36 => intro w' hw'; go_simp; (try with_reducible rfl)
              simp only [Act.put, List.setIfInBounds_toArray, List.set_cons_zero, List.set_cons_succ]
              refine reg_take (i := 37) (v := ?_) rfl (by kernel_rfl) (by kernel_rfl) (by kernel_rfl) (fun _ _ _ h => h) (by rfl) ?hy37 ?_
              case hy37 => intro w' hw'; go_simp; (try with_reducible rfl)
              simp only [Act.put, List.setIfInBounds_toArray, List.set_cons_zero, List.set_cons_succ]
              refine reg_skip (i := 38) rfl (by kernel_rfl) (by kernel_rfl) (by kernel_rfl) (fun _ _ _ h => h) (by rfl) ?_
              simp only [Act.put, List.setIfInBounds_toArray, List.set_cons_zero, List.set_cons_succ]
              refine reg_skip (i := 39) rfl (by kernel_rfl) (by kernel_rfl) (by kernel_rfl) (fun _ _ _ h => h) (by rfl) ?_
              simp only [Act.put, List.setIfInBounds_toArray, List.set_cons_zero, List.set_cons_succ]
              refine reg_skip (i := 40) rfl (by kernel_rfl) (by kernel_rfl) (by kernel_rfl) (fun _ _ _ h => h) (by rfl) ?_
              simp only [Act.put, List.setIfInBounds_toArray, List.set_cons_zero, List.set_cons_succ]
              refine reg_take (i := 41) (v := ?_) rfl (by kernel_rfl) (by kernel_rfl) (by kernel_rfl) (fun _ _ _ h => h) (by rfl) ?hy41 ?_
              case hy41 => intro w' hw'; go_simp; (try with_reducible rfl)
              simp only [Act.put, List.setIfInBounds_toArray, List.set_cons_zero, List.set_cons_succ]
              refine reg_take (i := 42) (v := ?_) rfl (by kernel_rfl) (by kernel_rfl) (by kernel_rfl) (fun _ _ _ h => h) (by rfl) ?hy42 ?_
              case hy42 => intro w' hw'; go_simp; (try with_reducible rfl)
              simp only [Act.put, List.setIfInBounds_toArray, List.set_cons_zero, List.set_cons_succ]
              refine reg_end (by kernel_rfl) ?_
              go_wp2
              go_ret
              exact ⟨rfl, B9.out⟩
            | true =>
              cases q6 with
              | false =>
                go_wp2_with (with_reducible refine wpList_load_whole_st Mr.isRec rfl _ rfl gM (by with_unfolding_all exact rfl) _ _ (Mr.len _) M1.out ?_)
                refine reg_begin (by kernel_rfl) fun w2 b2 z2 => ?_
                have M2 : Hid (Mr.At w2 gM (m.raw e t)) := Lib.hid (Whole.below M1.out b2 M1.out.lt)
                have B2 := Lib.hid (B1.out.trans (b2.mono B1.out.size))
                clear b2 z2 M1 B1
                refine reg_take (i := 0) (v := ?_) rfl (by kernel_rfl) (by kernel_rfl) (by kernel_rfl) (fun _ _ _ h => h) (by rfl) ?hy0 ?_
                case hy0 => intro w' hw'; go_simp; (try with_reducible rfl)
                simp only [Act.put, List.setIfInBounds_toArray, List.set_cons_zero, List.set_cons_succ]
                refine reg_take (i := 1) (v := (.int .i64 ((m.raw e t)).kind)) rfl (by kernel_rfl) (by kernel_rfl) (by kernel_rfl) (fun _ _ _ h => h) (by rfl) ?hy1 ?_
                case hy1 => intro w' hw'; have c := Mr.At.at_kind (Whole.below M2.out hw' M2.out.lt); go_simp; (try with_reducible rfl)
                simp only [Act.put, List.setIfInBounds_toArray, List.set_cons_zero, List.set_cons_succ]
                refine reg_call (i := 2) rfl (by kernel_rfl) (fun K' hK => ?_)
                go_simp
                refine ((C0 w2).out).mono ?_
                rintro e3 w3 ⟨rfl, b3⟩
                have M3 : Hid (Mr.At w3 gM (m.raw e t)) := Lib.hid (Whole.below M2.out b3 M2.out.lt)
                have B3 := Lib.hid (B2.out.trans (b3.mono B2.out.size))
                refine hK.out _ _ b3 ?_
                clear hK K' b3 M2 B2
                refine reg_take (i := 3) (v := ?_) rfl (by kernel_rfl) (by kernel_rfl) (by kernel_rfl) (fun _ _ _ h => h) (by rfl) ?hy3 ?_
                case hy3 => intro w' hw'; go_simp; (try with_reducible rfl)
                simp only [Act.put, List.setIfInBounds_toArray, List.set_cons_zero, List.set_cons_succ]
                refine reg_take (i := 4) (v := ?_) rfl (by kernel_rfl) (by kernel_rfl) (by kernel_rfl) (fun _ _ _ h => h) (by rfl) ?hy4 ?_
                case hy4 => intro w' hw'; go_simp; (try with_reducible rfl)
                simp only [Act.put, List.setIfInBounds_toArray, List.set_cons_zero, List.set_cons_succ]
                refine reg_take (i := 5) (v := (.int .i64 ((m.raw e t)).rid)) rfl (by kernel_rfl) (by kernel_rfl) (by kernel_rfl) (fun _ _ _ h => h) (by rfl) ?hy5 ?_
                case hy5 => intro w' hw'; have c := Mr.At.at_rid (Whole.below M3.out hw' M3.out.lt); go_simp; (try with_reducible rfl)
                simp only [Act.put, List.setIfInBounds_toArray, List.set_cons_zero, List.set_cons_succ]
                refine reg_call (i := 6) rfl (by kernel_rfl) (fun K' hK => ?_)
                go_simp
                refine ((C1 w3).out).mono ?_
                rintro e4 w4 ⟨rfl, b4⟩
                have M4 : Hid (Mr.At w4 gM (m.raw e t)) := Lib.hid (Whole.below M3.out b4 M3.out.lt)
                have B4 := Lib.hid (B3.out.trans (b4.mono B3.out.size))
                refine hK.out _ _ b4 ?_
                clear hK K' b4 M3 B3
                refine reg_take (i := 7) (v := ?_) rfl (by kernel_rfl) (by kernel_rfl) (by kernel_rfl) (fun _ _ _ h => h) (by rfl) ?hy7 ?_
                case hy7 => intro w' hw'; go_simp; (try with_reducible rfl)
                simp only [Act.put, List.setIfInBounds_toArray, List.set_cons_zero, List.set_cons_succ]
                refine reg_take (i := 8) (v := ?_) rfl (by kernel_rfl) (by kernel_rfl) (by kernel_rfl) (fun _ _ _ h => h) (by rfl) ?hy8 ?_
                case hy8 => intro w' hw'; go_simp; (try with_reducible rfl)
                simp only [Act.put, List.setIfInBounds_toArray, List.set_cons_zero, List.set_cons_succ]
                refine reg_take (i := 9) (v := Mr.val ((m.raw e t))) rfl (by kernel_rfl) (by kernel_rfl) (by kernel_rfl) (fun _ _ _ h => h) (by rfl) ?hy9 ?_
                case hy9 => intro w' hw'; exact exec_load_whole_st Mr.isRec _ rfl gM rfl _ _ (Mr.len _) w' (Whole.below M4.out hw' M4.out.lt)
                simp only [Act.put, List.setIfInBounds_toArray, List.set_cons_zero, List.set_cons_succ]
                refine reg_take (i := 10) (v := Mr.val ((m.raw e t))) rfl (by kernel_rfl) (by kernel_rfl) (by kernel_rfl) (fun _ _ _ h => h) (by rfl) ?hy10 ?_
                case hy10 => intro w' hw'; exact exec_load_whole_st Mr.isRec _ rfl gM rfl _ _ (Mr.len _) w' (Whole.below M4.out hw' M4.out.lt)
                simp only [Act.put, List.setIfInBounds_toArray, List.set_cons_zero, List.set_cons_succ]
                refine reg_call (i := 11) rfl (by kernel_rfl) (fun K' hK => ?_)
                go_simp
                refine ((CB w4 B4.out).out).mono ?_
                rintro e5 w5 ⟨e1, t1, rfl, hL, b5⟩
                have M5 : Hid (Mr.At w5 gM (m.raw e t)) := Lib.hid (Whole.below M4.out b5 M4.out.lt)
                have B5 := Lib.hid (B4.out.trans (b5.mono B4.out.size))
                have L5 : Hid (Lists w5 e1 t1 (bareM m)) := Lib.hid hL
                refine hK.out _ _ b5 ?_
                clear hK K' b5 M4 B4 hL
                refine reg_call (i := 12) rfl (by kernel_rfl) (fun K' hK => ?_)
                go_simp
                refine ((C2 e1 t1 w5 B5.out L5.out).out).mono ?_
                rintro e6 w6 ⟨rfl, b6⟩
                have M6 : Hid (Mr.At w6 gM (m.raw e t)) := Lib.hid (Whole.below M5.out b6 M5.out.lt)
                have L6 : Hid (Lists w6 e1 t1 (bareM m)) := Lib.hid (L5.out.below b6)
                have B6 := Lib.hid (B5.out.trans (b6.mono B5.out.size))
                refine hK.out _ _ b6 ?_
                clear hK K' b6 M5 L5 B5
                refine reg_take (i := 13) (v := ?_) rfl (by kernel_rfl) (by kernel_rfl) (by kernel_rfl) (fun _ _ _ h => h) (by rfl) ?hy13 ?_
                case hy13 => intro w' hw'; go_simp; (try with_reducible rfl)
                simp only [Act.put, List.setIfInBounds_toArray, List.set_cons_zero, List.set_cons_succ]
                refine reg_take (i := 14) (v := ?_) rfl (by kernel_rfl) (by kernel_rfl) (by kernel_rfl) (fun _ _ _ h => h) (by rfl) ?hy14 ?_
                case hy14 => intro w' hw'; go_simp; (try with_reducible rfl)
                simp only [Act.put, List.setIfInBounds_toArray, List.set_cons_zero, List.set_cons_succ]
                refine reg_take (i := 15) (v := ?_) rfl (by kernel_rfl) (by kernel_rfl) (by kernel_rfl) (fun _ _ _ h => h) (by rfl) ?hy15 ?_
                case hy15 => intro w' hw'; go_simp; (try with_reducible rfl)
                simp only [Act.put, List.setIfInBounds_toArray, List.set_cons_zero, List.set_cons_succ]
                refine reg_take (i := 16) (v := (.int .i64 ((m.raw e t)).error)) rfl (by kernel_rfl) (by kernel_rfl) (by kernel_rfl) (fun _ _ _ h => h) (by rfl) ?hy16 ?_
                case hy16 => intro w' hw'; have c := Mr.At.at_error (Whole.below M6.out hw' M6.out.lt); go_simp; (try with_reducible rfl)
                simp only [Act.put, List.setIfInBounds_toArray, List.set_cons_zero, List.set_cons_succ]
                refine reg_call (i := 17) rfl (by kernel_rfl) (fun K' hK => ?_)
                go_simp
                refine ((C3 w6).out).mono ?_
                rintro e7 w7 ⟨rfl, b7⟩
                have M7 : Hid (Mr.At w7 gM (m.raw e t)) := Lib.hid (Whole.below M6.out b7 M6.out.lt)
                have L7 : Hid (Lists w7 e1 t1 (bareM m)) := Lib.hid (L6.out.below b7)
                have B7 := Lib.hid (B6.out.trans (b7.mono B6.out.size))
                refine hK.out _ _ b7 ?_
                clear hK K' b7 M6 L6 B6
                refine reg_take (i := 18) (v := ?_) rfl (by kernel_rfl) (by kernel_rfl) (by kernel_rfl) (fun _ _ _ h => h) (by rfl) ?hy18 ?_
                case hy18 => intro w' hw'; go_simp; (try with_reducible rfl)
                simp only [Act.put, List.setIfInBounds_toArray, List.set_cons_zero, List.set_cons_succ]
                refine reg_take (i := 19) (v := ?_) rfl (by kernel_rfl) (by kernel_rfl) (by kernel_rfl) (fun _ _ _ h => h) (by rfl) ?hy19 ?_
                case hy19 => intro w' hw'; go_simp; (try with_reducible rfl)
                simp only [Act.put, List.setIfInBounds_toArray, List.set_cons_zero, List.set_cons_succ]
                refine reg_take (i := 20) (v := ?_) rfl (by kernel_rfl) (by kernel_rfl) (by kernel_rfl) (fun _ _ _ h => h) (by rfl) ?hy20 ?_
                case hy20 => intro w' hw'; go_simp; (try with_reducible rfl)
                simp only [Act.put, List.setIfInBounds_toArray, List.set_cons_zero, List.set_cons_succ]
                refine reg_take (i := 21) (v := (.int .i64 ((m.raw e t)).ver)) rfl (by kernel_rfl) (by kernel_rfl) (by kernel_rfl) (fun _ _ _ h => h) (by rfl) ?hy21 ?_
                case hy21 => intro w' hw'; have c := Mr.At.at_ver (Whole.below M7.out hw' M7.out.lt); go_simp; (try with_reducible rfl)
                simp only [Act.put, List.setIfInBounds_toArray, List.set_cons_zero, List.set_cons_succ]
                refine reg_call (i := 22) rfl (by kernel_rfl) (fun K' hK => ?_)
                go_simp
                refine ((C4 w7).out).mono ?_
                rintro e8 w8 ⟨rfl, b8⟩
                have M8 : Hid (Mr.At w8 gM (m.raw e t)) := Lib.hid (Whole.below M7.out b8 M7.out.lt)
                have L8 : Hid (Lists w8 e1 t1 (bareM m)) := Lib.hid (L7.out.below b8)
                have B8 := Lib.hid (B7.out.trans (b8.mono B7.out.size))
                refine hK.out _ _ b8 ?_
                clear hK K' b8 M7 L7 B7
                refine reg_take (i := 23) (v := ?_) rfl (by kernel_rfl) (by kernel_rfl) (by kernel_rfl) (fun _ _ _ h => h) (by rfl) ?hy23 ?_
                case hy23 => intro w' hw'; go_simp; (try with_reducible rfl)
                simp only [Act.put, List.setIfInBounds_toArray, List.set_cons_zero, List.set_cons_succ]
                refine reg_take (i := 24) (v := ?_) rfl (by kernel_rfl) (by kernel_rfl) (by kernel_rfl) (fun _ _ _ h => h) (by rfl) ?hy24 ?_
                case hy24 => intro w' hw'; go_simp; (try with_reducible rfl)
                simp only [Act.put, List.setIfInBounds_toArray, List.set_cons_zero, List.set_cons_succ]
                refine reg_take (i := 25) (v := Mr.val ((m.raw e t))) rfl (by kernel_rfl) (by kernel_rfl) (by kernel_rfl) (fun _ _ _ h => h) (by rfl) ?hy25 ?_
                case hy25 => intro w' hw'; exact exec_load_whole_st Mr.isRec _ rfl gM rfl _ _ (Mr.len _) w' (Whole.below M8.out hw' M8.out.lt)
                simp only [Act.put, List.setIfInBounds_toArray, List.set_cons_zero, List.set_cons_succ]
                refine reg_call (i := 26) rfl (by kernel_rfl) (fun K' hK => ?_)
                go_simp
                refine ((C5 w8).out).mono ?_
                rintro e9 w9 ⟨rfl, b9⟩
                have M9 : Hid (Mr.At w9 gM (m.raw e t)) := Lib.hid (Whole.below M8.out b9 M8.out.lt)
                have L9 : Hid (Lists w9 e1 t1 (bareM m)) := Lib.hid (L8.out.below b9)
                have B9 := Lib.hid (B8.out.trans (b9.mono B8.out.size))
                refine hK.out _ _ b9 ?_
                clear hK K' b9 M8 L8 B8
                refine reg_take (i := 27) (v := ?_) rfl (by kernel_rfl) (by kernel_rfl) (by kernel_rfl) (fun _ _ _ h => h) (by rfl) ?hy27 ?_
                case hy27 => intro w' hw'; go_simp; (try with_reducible rfl)
                simp only [Act.put, List.setIfInBounds_toArray, List.set_cons_zero, List.set_cons_succ]
                refine reg_take (i := 28) (v := ?_) rfl (by kernel_rfl) (by kernel_rfl) (by kernel_rfl) (fun _ _ _ h => h) (by rfl) ?hy28 ?_
                case hy28 => intro w' hw'; go_simp; (try with_reducible rfl)
                simp only [Act.put, List.setIfInBounds_toArray, List.set_cons_zero, List.set_cons_succ]
                refine reg_take (i := 29) (v := ?_) rfl (by kernel_rfl) (by kernel_rfl) (by kernel_rfl) (fun _ _ _ h => h) (by rfl) ?hy29 ?_
                case hy29 => intro w' hw'; go_simp; (try with_reducible rfl)
                simp only [Act.put, List.setIfInBounds_toArray, List.set_cons_zero, List.set_cons_succ]
                refine reg_take (i := 30) (v := (.string ⟨((m.raw e t)).text.toArray⟩)) rfl (by kernel_rfl) (by kernel_rfl) (by kernel_rfl) (fun _ _ _ h => h) (by rfl) ?hy30 ?_
                case hy30 => intro w' hw'; have c := Mr.At.at_text (Whole.below M9.out hw' M9.out.lt); go_simp; (try with_reducible rfl)
                simp only [Act.put, List.setIfInBounds_toArray, List.set_cons_zero, List.set_cons_succ]
                refine reg_call (i := 31) rfl (by kernel_rfl) (fun K' hK => ?_)
                go_simp
                refine ((C6 w9).out).mono ?_
                rintro e10 w10 ⟨rfl, b10⟩
                have M10 : Hid (Mr.At w10 gM (m.raw e t)) := Lib.hid (Whole.below M9.out b10 M9.out.lt)
                have L10 : Hid (Lists w10 e1 t1 (bareM m)) := Lib.hid (L9.out.below b10)
                have B10 := Lib.hid (B9.out.trans (b10.mono B9.out.size))
                refine hK.out _ _ b10 ?_
                clear hK K' b10 M9 L9 B9
                refine reg_take (i := 32) (v := ?_) rfl (by kernel_rfl) (by kernel_rfl) (by kernel_rfl) (fun _ _ _ h => h) (by rfl) ?hy32 ?_
                case hy32 => intro w' hw'; go_simp; (try with_reducible rfl)
                simp only [Act.put, List.setIfInBounds_toArray, List.set_cons_zero, List.set_cons_succ]
                refine reg_take (i := 33) (v := ?_) rfl (by kernel_rfl) (by kernel_rfl) (by kernel_rfl) (fun _ _ _ h => h) (by rfl) ?hy33 ?_
                case hy33 => intro w' hw'; go_simp; (try with_reducible rfl)
                simp only [Act.put, List.setIfInBounds_toArray, List.set_cons_zero, List.set_cons_succ]
                refine reg_skip (i := 34) rfl (by kernel_rfl) (by kernel_rfl) (by kernel_rfl) (fun _ _ _ h => h) (by rfl) ?_
                simp only [Act.put, List.setIfInBounds_toArray, List.set_cons_zero, List.set_cons_succ]
                refine reg_skip (i := 35) rfl (by kernel_rfl) (by kernel_rfl) (by kernel_rfl) (fun _ _ _ h => h) (by rfl) ?_
                simp only [Act.put, List.setIfInBounds_toArray, List.set_cons_zero, List.set_cons_succ]
                refine reg_take (i := 36) (v := ?_) rfl (by kernel_rfl) (by kernel_rfl) (by kernel_rfl) (fun _ _ _ h => h) (by rfl) ?hy36 ?_
                case hy36 => intro w' hw'; go_simp; (try with_reducible rfl)
                simp only [Act.put, List.setIfInBounds_toArray, List.set_cons_zero, List.set_cons_succ]
                refine reg_take (i := 37) (v := ?_) rfl (by kernel_rfl) (by kernel_rfl) (by kernel_rfl) (fun _ _ _ h => h) (by rfl) ?hy37 ?_
                case hy37 => intro w' hw'; go_simp; (try with_reducible rfl)
                simp only [Act.put, List.setIfInBounds_toArray, List.set_cons_zero, List.set_cons_succ]
                refine reg_skip (i := 38) rfl (by kernel_rfl) (by kernel_rfl) (by kernel_rfl) (fun _ _ _ h => h) (by rfl) ?_
                simp only [Act.put, List.setIfInBounds_toArray, List.set_cons_zero, List.set_cons_succ]
                refine reg_skip (i := 39) rfl (by kernel_rfl) (by kernel_rfl) (by kernel_rfl) (fun _ _ _ h => h) (by rfl) ?_
                simp only [Act.put, List.setIfInBounds_toArray, List.set_cons_zero, List.set_cons_succ]
                refine reg_skip (i := 40) rfl (by kernel_rfl) (by kernel_rfl) (by kernel_rfl) (fun _ _ _ h => h) (by rfl) ?_
                simp only [Act.put, List.setIfInBounds_toArray, List.set_cons_zero, List.set_cons_succ]
                refine reg_take (i := 41) (v := ?_) rfl (by kernel_rfl) (by kernel_rfl) (by kernel_rfl) (fun _ _ _ h => h) (by rfl) ?hy41 ?_
                case hy41 => intro w' hw'; go_simp; (try with_reducible rfl)
                simp only [Act.put, List.setIfInBounds_toArray, List.set_cons_zero, List.set_cons_succ]
                refine reg_take (i := 42) (v := ?_) rfl (by kernel_rfl) (by kernel_rfl) (by kernel_rfl) (fun _ _ _ h => h) (by rfl) ?hy42 ?_
                case hy42 => intro w' hw'; go_simp; (try with_reducible rfl)
                simp only [Act.put, List.setIfInBounds_toArray, List.set_cons_zero, List.set_cons_succ]
                refine reg_end (by kernel_rfl) ?_
                go_wp2
                go_ret
                exact ⟨rfl, B10.out⟩
              | true =>
                cases q7 with
                | false =>
                  go_wp2_with (with_reducible refine wpList_load_whole_st Mr.isRec rfl _ rfl gM (by with_unfolding_all exact rfl) _ _ (Mr.len _) M1.out ?_)
                  refine reg_begin (by kernel_rfl) fun w2 b2 z2 => ?_
                  have M2 : Hid (Mr.At w2 gM (m.raw e t)) := Lib.hid (Whole.below M1.out b2 M1.out.lt)
                  have B2 := Lib.hid (B1.out.trans (b2.mono B1.out.size))
                  clear b2 z2 M1 B1
                  refine reg_take (i := 0) (v := ?_) rfl (by kernel_rfl) (by kernel_rfl) (by kernel_rfl) (fun _ _ _ h => h) (by rfl) ?hy0 ?_
                  case hy0 => intro w' hw'; go_simp; (try with_reducible rfl)
                  simp only [Act.put, List.setIfInBounds_toArray, List.set_cons_zero, List.set_cons_succ]
                  refine reg_take (i := 1) (v := (.int .i64 ((m.raw e t)).kind)) rfl (by kernel_rfl) (by kernel_rfl) (by kernel_rfl) (fun _ _ _ h => h) (by rfl) ?hy1 ?_
                  case hy1 => intro w' hw'; have c := Mr.At.at_kind (Whole.below M2.out hw' M2.out.lt); go_simp; (try with_reducible rfl)
                  simp only [Act.put, List.setIfInBounds_toArray, List.set_cons_zero, List.set_cons_succ]
                  refine reg_call (i := 2) rfl (by kernel_rfl) (fun K' hK => ?_)
                  go_simp
                  refine ((C0 w2).out).mono ?_
                  rintro e3 w3 ⟨rfl, b3⟩
                  have M3 : Hid (Mr.At w3 gM (m.raw e t)) := Lib.hid (Whole.below M2.out b3 M2.out.lt)
                  have B3 := Lib.hid (B2.out.trans (b3.mono B2.out.size))
                  refine hK.out _ _ b3 ?_
                  clear hK K' b3 M2 B2
                  refine reg_take (i := 3) (v := ?_) rfl (by kernel_rfl) (by kernel_rfl) (by kernel_rfl) (fun _ _ _ h => h) (by rfl) ?hy3 ?_
                  case hy3 => intro w' hw'; go_simp; (try with_reducible rfl)
                  simp only [Act.put, List.setIfInBounds_toArray, List.set_cons_zero, List.set_cons_succ]
                  refine reg_take (i := 4) (v := ?_) rfl (by kernel_rfl) (by kernel_rfl) (by kernel_rfl) (fun _ _ _ h => h) (by rfl) ?hy4 ?_
                  case hy4 => intro w' hw'; go_simp; (try with_reducible rfl)
                  simp only [Act.put, List.setIfInBounds_toArray, List.set_cons_zero, List.set_cons_succ]
                  refine reg_take (i := 5) (v := (.int .i64 ((m.raw e t)).rid)) rfl (by kernel_rfl) (by kernel_rfl) (by kernel_rfl) (fun _ _ _ h => h) (by rfl) ?hy5 ?_
                  case hy5 => intro w' hw'; have c := Mr.At.at_rid (Whole.below M3.out hw' M3.out.lt); go_simp; (try with_reducible rfl)
                  simp only [Act.put, List.setIfInBounds_toArray, List.set_cons_zero, List.set_cons_succ]
                  refine reg_call (i := 6) rfl (by kernel_rfl) (fun K' hK => ?_)
                  go_simp
                  refine ((C1 w3).out).mono ?_
                  rintro e4 w4 ⟨rfl, b4⟩
                  have M4 : Hid (Mr.At w4 gM (m.raw e t)) := Lib.hid (Whole.below M3.out b4 M3.out.lt)
                  have B4 := Lib.hid (B3.out.trans (b4.mono B3.out.size))
                  refine hK.out _ _ b4 ?_
                  clear hK K' b4 M3 B3
                  refine reg_take (i := 7) (v := ?_) rfl (by kernel_rfl) (by kernel_rfl) (by kernel_rfl) (fun _ _ _ h => h) (by rfl) ?hy7 ?_
                  case hy7 => intro w' hw'; go_simp; (try with_reducible rfl)
                  simp only [Act.put, List.setIfInBounds_toArray, List.set_cons_zero, List.set_cons_succ]
                  refine reg_take (i := 8) (v := ?_) rfl (by kernel_rfl) (by kernel_rfl) (by kernel_rfl) (fun _ _ _ h => h) (by rfl) ?hy8 ?_
                  case hy8 => intro w' hw'; go_simp; (try with_reducible rfl)
                  simp only [Act.put, List.setIfInBounds_toArray, List.set_cons_zero, List.set_cons_succ]
                  refine reg_take (i := 9) (v := Mr.val ((m.raw e t))) rfl (by kernel_rfl) (by kernel_rfl) (by kernel_rfl) (fun _ _ _ h => h) (by rfl) ?hy9 ?_
                  case hy9 => intro w' hw'; exact exec_load_whole_st Mr.isRec _ rfl gM rfl _ _ (Mr.len _) w' (Whole.below M4.out hw' M4.out.lt)
                  simp only [Act.put, List.setIfInBounds_toArray, List.set_cons_zero, List.set_cons_succ]
                  refine reg_take (i := 10) (v := Mr.val ((m.raw e t))) rfl (by kernel_rfl) (by kernel_rfl) (by kernel_rfl) (fun _ _ _ h => h) (by rfl) ?hy10 ?_
                  case hy10 => intro w' hw'; exact exec_load_whole_st Mr.isRec _ rfl gM rfl _ _ (Mr.len _) w' (Whole.below M4.out hw' M4.out.lt)
                  simp only [Act.put, List.setIfInBounds_toArray, List.set_cons_zero, List.set_cons_succ]
                  refine reg_call (i := 11) rfl (by kernel_rfl) (fun K' hK => ?_)
                  go_simp
                  refine ((CB w4 B4.out).out).mono ?_
                  rintro e5 w5 ⟨e1, t1, rfl, hL, b5⟩
                  have M5 : Hid (Mr.At w5 gM (m.raw e t)) := Lib.hid (Whole.below M4.out b5 M4.out.lt)
                  have B5 := Lib.hid (B4.out.trans (b5.mono B4.out.size))
                  have L5 : Hid (Lists w5 e1 t1 (bareM m)) := Lib.hid hL
                  refine hK.out _ _ b5 ?_
                  clear hK K' b5 M4 B4 hL
                  refine reg_call (i := 12) rfl (by kernel_rfl) (fun K' hK => ?_)
                  go_simp
                  refine ((C2 e1 t1 w5 B5.out L5.out).out).mono ?_
                  rintro e6 w6 ⟨rfl, b6⟩
                  have M6 : Hid (Mr.At w6 gM (m.raw e t)) := Lib.hid (Whole.below M5.out b6 M5.out.lt)
                  have L6 : Hid (Lists w6 e1 t1 (bareM m)) := Lib.hid (L5.out.below b6)
                  have B6 := Lib.hid (B5.out.trans (b6.mono B5.out.size))
                  refine hK.out _ _ b6 ?_
                  clear hK K' b6 M5 L5 B5
                  refine reg_take (i := 13) (v := ?_) rfl (by kernel_rfl) (by kernel_rfl) (by kernel_rfl) (fun _ _ _ h => h) (by rfl) ?hy13 ?_
                  case hy13 => intro w' hw'; go_simp; (try with_reducible rfl)
                  simp only [Act.put, List.setIfInBounds_toArray, List.set_cons_zero, List.set_cons_succ]
                  refine reg_take (i := 14) (v := ?_) rfl (by kernel_rfl) (by kernel_rfl) (by kernel_rfl) (fun _ _ _ h => h) (by rfl) ?hy14 ?_
                  case hy14 => intro w' hw'; go_simp; (try with_reducible rfl)
                  simp only [Act.put, List.setIfInBounds_toArray, List.set_cons_zero, List.set_cons_succ]
                  refine reg_take (i := 15) (v := ?_) rfl (by kernel_rfl) (by kernel_rfl) (by kernel_rfl) (fun _ _ _ h => h) (by rfl) ?hy15 ?_
                  case hy15 => intro w' hw'; go_simp; (try with_reducible rfl)
                  simp only [Act.put, List.setIfInBounds_toArray, List.set_cons_zero, List.set_cons_succ]
                  refine reg_take (i := 16) (v := (.int .i64 ((m.raw e t)).error)) rfl (by kernel_rfl) (by kernel_rfl) (by kernel_rfl) (fun _ _ _ h => h) (by rfl) ?hy16 ?_
                  case hy16 => intro w' hw'; have c := Mr.At.at_error (Whole.below M6.out hw' M6.out.lt); go_simp; (try with_reducible rfl)
                  simp only [Act.put, List.setIfInBounds_toArray, List.set_cons_zero, List.set_cons_succ]
                  refine reg_call (i := 17) rfl (by kernel_rfl) (fun K' hK => ?_)
                  go_simp
                  refine ((C3 w6).out).mono ?_
                  rintro e7 w7 ⟨rfl, b7⟩
                  have M7 : Hid (Mr.At w7 gM (m.raw e t)) := Lib.hid (Whole.below M6.out b7 M6.out.lt)
                  have L7 : Hid (Lists w7 e1 t1 (bareM m)) := Lib.hid (L6.out.below b7)
                  have B7 := Lib.hid (B6.out.trans (b7.mono B6.out.size))
                  refine hK.out _ _ b7 ?_
                  clear hK K' b7 M6 L6 B6
                  refine reg_take (i := 18) (v := ?_) rfl (by kernel_rfl) (by kernel_rfl) (by kernel_rfl) (fun _ _ _ h => h) (by rfl) ?hy18 ?_
                  case hy18 => intro w' hw'; go_simp; (try with_reducible rfl)
                  simp only [Act.put, List.setIfInBounds_toArray, List.set_cons_zero, List.set_cons_succ]
                  refine reg_take (i := 19) (v := ?_) rfl (by kernel_rfl) (by kernel_rfl) (by kernel_rfl) (fun _ _ _ h => h) (by rfl) ?hy19 ?_
                  case hy19 => intro w' hw'; go_simp; (try with_reducible rfl)
                  simp only [Act.put, List.setIfInBounds_toArray, List.set_cons_zero, List.set_cons_succ]
                  refine reg_take (i := 20) (v := ?_) rfl (by kernel_rfl) (by kernel_rfl) (by kernel_rfl) (fun _ _ _ h => h) (by rfl) ?hy20 ?_
                  case hy20 => intro w' hw'; go_simp; (try with_reducible rfl)
                  simp only [Act.put, List.setIfInBounds_toArray, List.set_cons_zero, List.set_cons_succ]
                  refine reg_take (i := 21) (v := (.int .i64 ((m.raw e t)).ver)) rfl (by kernel_rfl) (by kernel_rfl) (by kernel_rfl) (fun _ _ _ h => h) (by rfl) ?hy21 ?_
                  case hy21 => intro w' hw'; have c := Mr.At.at_ver (Whole.below M7.out hw' M7.out.lt); go_simp; (try with_reducible rfl)
                  simp only [Act.put, List.setIfInBounds_toArray, List.set_cons_zero, List.set_cons_succ]
                  refine reg_call (i := 22) rfl (by kernel_rfl) (fun K' hK => ?_)
                  go_simp
                  refine ((C4 w7).out).mono ?_
                  rintro e8 w8 ⟨rfl, b8⟩
                  have M8 : Hid (Mr.At w8 gM (m.raw e t)) := Lib.hid (Whole.below M7.out b8 M7.out.lt)
                  have L8 : Hid (Lists w8 e1 t1 (bareM m)) := Lib.hid (L7.out.below b8)
                  have B8 := Lib.hid (B7.out.trans (b8.mono B7.out.size))
                  refine hK.out _ _ b8 ?_
                  clear hK K' b8 M7 L7 B7
                  refine reg_take (i := 23) (v := ?_) rfl (by kernel_rfl) (by kernel_rfl) (by kernel_rfl) (fun _ _ _ h => h) (by rfl) ?hy23 ?_
                  case hy23 => intro w' hw'; go_simp; (try with_reducible rfl)
                  simp only [Act.put, List.setIfInBounds_toArray, List.set_cons_zero, List.set_cons_succ]
                  refine reg_take (i := 24) (v := ?_) rfl (by kernel_rfl) (by kernel_rfl) (by kernel_rfl) (fun _ _ _ h => h) (by rfl) ?hy24 ?_
                  case hy24 => intro w' hw'; go_simp; (try with_reducible rfl)
                  simp only [Act.put, List.setIfInBounds_toArray, List.set_cons_zero, List.set_cons_succ]
                  refine reg_take (i := 25) (v := Mr.val ((m.raw e t))) rfl (by kernel_rfl) (by kernel_rfl) (by kernel_rfl) (fun _ _ _ h => h) (by rfl) ?hy25 ?_
                  case hy25 => intro w' hw'; exact exec_load_whole_st Mr.isRec _ rfl gM rfl _ _ (Mr.len _) w' (Whole.below M8.out hw' M8.out.lt)
                  simp only [Act.put, List.setIfInBounds_toArray, List.set_cons_zero, List.set_cons_succ]
                  refine reg_call (i := 26) rfl (by kernel_rfl) (fun K' hK => ?_)
                  go_simp
                  refine ((C5 w8).out).mono ?_
                  rintro e9 w9 ⟨rfl, b9⟩
                  have M9 : Hid (Mr.At w9 gM (m.raw e t)) := Lib.hid (Whole.below M8.out b9 M8.out.lt)
                  have L9 : Hid (Lists w9 e1 t1 (bareM m)) := Lib.hid (L8.out.below b9)
                  have B9 := Lib.hid (B8.out.trans (b9.mono B8.out.size))
                  refine hK.out _ _ b9 ?_
                  clear hK K' b9 M8 L8 B8
                  refine reg_take (i := 27) (v := ?_) rfl (by kernel_rfl) (by kernel_rfl) (by kernel_rfl) (fun _ _ _ h => h) (by rfl) ?hy27 ?_
                  case hy27 => intro w' hw'; go_simp; (try with_reducible rfl)
                  simp only [Act.put, List.setIfInBounds_toArray, List.set_cons_zero, List.set_cons_succ]
                  refine reg_take (i := 28) (v := ?_) rfl (by kernel_rfl) (by kernel_rfl) (by kernel_rfl) (fun _ _ _ h => h) (by rfl) ?hy28 ?_
                  case hy28 => intro w' hw'; go_simp; (try with_reducible rfl)
                  simp only [Act.put, List.setIfInBounds_toArray, List.set_cons_zero, List.set_cons_succ]
                  refine reg_take (i := 29) (v := ?_) rfl (by kernel_rfl) (by kernel_rfl) (by kernel_rfl) (fun _ _ _ h => h) (by rfl) ?hy29 ?_
                  case hy29 => intro w' hw'; go_simp; (try with_reducible rfl)
                  simp only [Act.put, List.setIfInBounds_toArray, List.set_cons_zero, List.set_cons_succ]
                  refine reg_take (i := 30) (v := (.string ⟨((m.raw e t)).text.toArray⟩)) rfl (by kernel_rfl) (by kernel_rfl) (by kernel_rfl) (fun _ _ _ h => h) (by rfl) ?hy30 ?_
                  case hy30 => intro w' hw'; have c := Mr.At.at_text (Whole.below M9.out hw' M9.out.lt); go_simp; (try with_reducible rfl)
                  simp only [Act.put, List.setIfInBounds_toArray, List.set_cons_zero, List.set_cons_succ]
                  refine reg_call (i := 31) rfl (by kernel_rfl) (fun K' hK => ?_)
                  go_simp
                  refine ((C6 w9).out).mono ?_
                  rintro e10 w10 ⟨rfl, b10⟩
                  have M10 : Hid (Mr.At w10 gM (m.raw e t)) := Lib.hid (Whole.below M9.out b10 M9.out.lt)
                  have L10 : Hid (Lists w10 e1 t1 (bareM m)) := Lib.hid (L9.out.below b10)
                  have B10 := Lib.hid (B9.out.trans (b10.mono B9.out.size))
                  refine hK.out _ _ b10 ?_
                  clear hK K' b10 M9 L9 B9
                  refine reg_take (i := 32) (v := ?_) rfl (by kernel_rfl) (by kernel_rfl) (by kernel_rfl) (fun _ _ _ h => h) (by rfl) ?hy32 ?_
                  case hy32 => intro w' hw'; go_simp; (try with_reducible rfl)
                  simp only [Act.put, List.setIfInBounds_toArray, List.set_cons_zero, List.set_cons_succ]
                  refine reg_take (i := 33) (v := ?_) rfl (by kernel_rfl) (by kernel_rfl) (by kernel_rfl) (fun _ _ _ h => h) (by rfl) ?hy33 ?_
                  case hy33 => intro w' hw'; go_simp; (try with_reducible rfl)
                  simp only [Act.put, List.setIfInBounds_toArray, List.set_cons_zero, List.set_cons_succ]
                  refine reg_take (i := 34) (v := Mr.val ((m.raw e t))) rfl (by kernel_rfl) (by kernel_rfl) (by kernel_rfl) (fun _ _ _ h => h) (by rfl) ?hy34 ?_
                  case hy34 => intro w' hw'; exact exec_load_whole_st Mr.isRec _ rfl gM rfl _ _ (Mr.len _) w' (Whole.below M10.out hw' M10.out.lt)
                  simp only [Act.put, List.setIfInBounds_toArray, List.set_cons_zero, List.set_cons_succ]
                  refine reg_call (i := 35) rfl (by kernel_rfl) (fun K' hK => ?_)
                  go_simp
                  refine ((C7 w10 B10.out).out).mono ?_
                  rintro e11 w11 ⟨rfl, b11⟩
                  have M11 : Hid (Mr.At w11 gM (m.raw e t)) := Lib.hid (Whole.below M10.out b11 M10.out.lt)
                  have L11 : Hid (Lists w11 e1 t1 (bareM m)) := Lib.hid (L10.out.below b11)
                  have B11 := Lib.hid (B10.out.trans (b11.mono B10.out.size))
                  refine hK.out _ _ b11 ?_
                  clear hK K' b11 M10 L10 B10
                  refine reg_take (i := 36) (v := ?_) rfl (by kernel_rfl) (by kernel_rfl) (by kernel_rfl) (fun _ _ _ h => h) (by rfl) ?hy36 ?_
                  case hy36 => intro w' hw'; go_simp; (try with_reducible rfl)
                  simp only [Act.put, List.setIfInBounds_toArray, List.set_cons_zero, List.set_cons_succ]
                  refine reg_take (i := 37) (v := ?_) rfl (by kernel_rfl) (by kernel_rfl) (by kernel_rfl) (fun _ _ _ h => h) (by rfl) ?hy37 ?_
                  case hy37 => intro w' hw'; go_simp; (try with_reducible rfl)
                  simp only [Act.put, List.setIfInBounds_toArray, List.set_cons_zero, List.set_cons_succ]
                  refine reg_skip (i := 38) rfl (by kernel_rfl) (by kernel_rfl) (by kernel_rfl) (fun _ _ _ h => h) (by rfl) ?_
                  simp only [Act.put, List.setIfInBounds_toArray, List.set_cons_zero, List.set_cons_succ]
                  refine reg_skip (i := 39) rfl (by kernel_rfl) (by kernel_rfl) (by kernel_rfl) (fun _ _ _ h => h) (by rfl) ?_
                  simp only [Act.put, List.setIfInBounds_toArray, List.set_cons_zero, List.set_cons_succ]
                  refine reg_skip (i := 40) rfl (by kernel_rfl) (by kernel_rfl) (by kernel_rfl) (fun _ _ _ h => h) (by rfl) ?_
                  simp only [Act.put, List.setIfInBounds_toArray, List.set_cons_zero, List.set_cons_succ]
                  refine reg_take (i := 41) (v := ?_) rfl (by kernel_rfl) (by kernel_rfl) (by kernel_rfl) (fun _ _ _ h => h) (by rfl) ?hy41 ?_
                  case hy41 => intro w' hw'; go_simp; (try with_reducible rfl)
                  simp only [Act.put, List.setIfInBounds_toArray, List.set_cons_zero, List.set_cons_succ]
                  refine reg_take (i := 42) (v := ?_) rfl (by kernel_rfl) (by kernel_rfl) (by kernel_rfl) (fun _ _ _ h => h) (by rfl) ?hy42 ?_
                  case hy42 => intro w' hw'; go_simp; (try with_reducible rfl)
                  simp only [Act.put, List.setIfInBounds_toArray, List.set_cons_zero, List.set_cons_succ]
                  refine reg_end (by kernel_rfl) ?_
                  go_wp2
                  go_ret
                  exact ⟨rfl, B11.out⟩
                | true =>
                  go_wp2_with (with_reducible refine wpList_load_whole_st Mr.isRec rfl _ rfl gM (by with_unfolding_all exact rfl) _ _ (Mr.len _) M1.out ?_)
                  refine reg_begin (by kernel_rfl) fun w2 b2 z2 => ?_
                  have M2 : Hid (Mr.At w2 gM (m.raw e t)) := Lib.hid (Whole.below M1.out b2 M1.out.lt)
                  have B2 := Lib.hid (B1.out.trans (b2.mono B1.out.size))
                  clear b2 z2 M1 B1
                  refine reg_take (i := 0) (v := ?_) rfl (by kernel_rfl) (by kernel_rfl) (by kernel_rfl) (fun _ _ _ h => h) (by rfl) ?hy0 ?_
                  case hy0 => intro w' hw'; go_simp; (try with_reducible rfl)
                  simp only [Act.put, List.setIfInBounds_toArray, List.set_cons_zero, List.set_cons_succ]
                  refine reg_take (i := 1) (v := (.int .i64 ((m.raw e t)).kind)) rfl (by kernel_rfl) (by kernel_rfl) (by kernel_rfl) (fun _ _ _ h => h) (by rfl) ?hy1 ?_
                  case hy1 => intro w' hw'; have c := Mr.At.at_kind (Whole.below M2.out hw' M2.out.lt); go_simp; (try with_reducible rfl)
                  simp only [Act.put, List.setIfInBounds_toArray, List.set_cons_zero, List.set_cons_succ]
                  refine reg_call (i := 2) rfl (by kernel_rfl) (fun K' hK => ?_)
                  go_simp
                  refine ((C0 w2).out).mono ?_
                  rintro e3 w3 ⟨rfl, b3⟩
                  have M3 : Hid (Mr.At w3 gM (m.raw e t)) := Lib.hid (Whole.below M2.out b3 M2.out.lt)
                  have B3 := Lib.hid (B2.out.trans (b3.mono B2.out.size))
                  refine hK.out _ _ b3 ?_
                  clear hK K' b3 M2 B2
                  refine reg_take (i := 3) (v := ?_) rfl (by kernel_rfl) (by kernel_rfl) (by kernel_rfl) (fun _ _ _ h => h) (by rfl) ?hy3 ?_
                  case hy3 => intro w' hw'; go_simp; (try with_reducible rfl)
                  simp only [Act.put, List.setIfInBounds_toArray, List.set_cons_zero, List.set_cons_succ]
                  refine reg_take (i := 4) (v := ?_) rfl (by kernel_rfl) (by kernel_rfl) (by kernel_rfl) (fun _ _ _ h => h) (by rfl) ?hy4 ?_
                  case hy4 => intro w' hw'; go_simp; (try with_reducible rfl)
                  simp only [Act.put, List.setIfInBounds_toArray, List.set_cons_zero, List.set_cons_succ]
                  refine reg_take (i := 5) (v := (.int .i64 ((m.raw e t)).rid)) rfl (by kernel_rfl) (by kernel_rfl) (by kernel_rfl) (fun _ _ _ h => h) (by rfl) ?hy5 ?_
                  case hy5 => intro w' hw'; have c := Mr.At.at_rid (Whole.below M3.out hw' M3.out.lt); go_simp; (try with_reducible rfl)
                  simp only [Act.put, List.setIfInBounds_toArray, List.set_cons_zero, List.set_cons_succ]
                  refine reg_call (i := 6) rfl (by kernel_rfl) (fun K' hK => ?_)
                  go_simp
                  refine ((C1 w3).out).mono ?_
                  rintro e4 w4 ⟨rfl, b4⟩
                  have M4 : Hid (Mr.At w4 gM (m.raw e t)) := Lib.hid (Whole.below M3.out b4 M3.out.lt)
                  have B4 := Lib.hid (B3.out.trans (b4.mono B3.out.size))
                  refine hK.out _ _ b4 ?_
                  clear hK K' b4 M3 B3
                  refine reg_take (i := 7) (v := ?_) rfl (by kernel_rfl) (by kernel_rfl) (by kernel_rfl) (fun _ _ _ h => h) (by rfl) ?hy7 ?_
                  case hy7 => intro w' hw'; go_simp; (try with_reducible rfl)
                  simp only [Act.put, List.setIfInBounds_toArray, List.set_cons_zero, List.set_cons_succ]
                  refine reg_take (i := 8) (v := ?_) rfl (by kernel_rfl) (by kernel_rfl) (by kernel_rfl) (fun _ _ _ h => h) (by rfl) ?hy8 ?_
                  case hy8 => intro w' hw'; go_simp; (try with_reducible rfl)
                  simp only [Act.put, List.setIfInBounds_toArray, List.set_cons_zero, List.set_cons_succ]
                  refine reg_take (i := 9) (v := Mr.val ((m.raw e t))) rfl (by kernel_rfl) (by kernel_rfl) (by kernel_rfl) (fun _ _ _ h => h) (by rfl) ?hy9 ?_
                  case hy9 => intro w' hw'; exact exec_load_whole_st Mr.isRec _ rfl gM rfl _ _ (Mr.len _) w' (Whole.below M4.out hw' M4.out.lt)
                  simp only [Act.put, List.setIfInBounds_toArray, List.set_cons_zero, List.set_cons_succ]
                  refine reg_take (i := 10) (v := Mr.val ((m.raw e t))) rfl (by kernel_rfl) (by kernel_rfl) (by kernel_rfl) (fun _ _ _ h => h) (by rfl) ?hy10 ?_
                  case hy10 => intro w' hw'; exact exec_load_whole_st Mr.isRec _ rfl gM rfl _ _ (Mr.len _) w' (Whole.below M4.out hw' M4.out.lt)
                  simp only [Act.put, List.setIfInBounds_toArray, List.set_cons_zero, List.set_cons_succ]
                  refine reg_call (i := 11) rfl (by kernel_rfl) (fun K' hK => ?_)
                  go_simp
                  refine ((CB w4 B4.out).out).mono ?_
                  rintro e5 w5 ⟨e1, t1, rfl, hL, b5⟩
                  have M5 : Hid (Mr.At w5 gM (m.raw e t)) := Lib.hid (Whole.below M4.out b5 M4.out.lt)
                  have B5 := Lib.hid (B4.out.trans (b5.mono B4.out.size))
                  have L5 : Hid (Lists w5 e1 t1 (bareM m)) := Lib.hid hL
                  refine hK.out _ _ b5 ?_
                  clear hK K' b5 M4 B4 hL
                  refine reg_call (i := 12) rfl (by kernel_rfl) (fun K' hK => ?_)
                  go_simp
                  refine ((C2 e1 t1 w5 B5.out L5.out).out).mono ?_
                  rintro e6 w6 ⟨rfl, b6⟩
                  have M6 : Hid (Mr.At w6 gM (m.raw e t)) := Lib.hid (Whole.below M5.out b6 M5.out.lt)
                  have L6 : Hid (Lists w6 e1 t1 (bareM m)) := Lib.hid (L5.out.below b6)
                  have B6 := Lib.hid (B5.out.trans (b6.mono B5.out.size))
                  refine hK.out _ _ b6 ?_
                  clear hK K' b6 M5 L5 B5
                  refine reg_take (i := 13) (v := ?_) rfl (by kernel_rfl) (by kernel_rfl) (by kernel_rfl) (fun _ _ _ h => h) (by rfl) ?hy13 ?_
                  case hy13 => intro w' hw'; go_simp; (try with_reducible rfl)
                  simp only [Act.put, List.setIfInBounds_toArray, List.set_cons_zero, List.set_cons_succ]
                  refine reg_take (i := 14) (v := ?_) rfl (by kernel_rfl) (by kernel_rfl) (by kernel_rfl) (fun _ _ _ h => h) (by rfl) ?hy14 ?_
                  case hy14 => intro w' hw'; go_simp; (try with_reducible rfl)
                  simp only [Act.put, List.setIfInBounds_toArray, List.set_cons_zero, List.set_cons_succ]
                  refine reg_take (i := 15) (v := ?_) rfl (by kernel_rfl) (by kernel_rfl) (by kernel_rfl) (fun _ _ _ h => h) (by rfl) ?hy15 ?_
                  case hy15 => intro w' hw'; go_simp; (try with_reducible rfl)
                  simp only [Act.put, List.setIfInBounds_toArray, List.set_cons_zero, List.set_cons_succ]
                  refine reg_take (i := 16) (v := (.int .i64 ((m.raw e t)).error)) rfl (by kernel_rfl) (by kernel_rfl) (by kernel_rfl) (fun _ _ _ h => h) (by rfl) ?hy16 ?_
                  case hy16 => intro w' hw'; have c := Mr.At.at_error (Whole.below M6.out hw' M6.out.lt); go_simp; (try with_reducible rfl)
                  simp only [Act.put, List.setIfInBounds_toArray, List.set_cons_zero, List.set_cons_succ]
                  refine reg_call (i := 17) rfl (by kernel_rfl) (fun K' hK => ?_)
                  go_simp
                  refine ((C3 w6).out).mono ?_
                  rintro e7 w7 ⟨rfl, b7⟩
                  have M7 : Hid (Mr.At w7 gM (m.raw e t)) := Lib.hid (Whole.below M6.out b7 M6.out.lt)
                  have L7 : Hid (Lists w7 e1 t1 (bareM m)) := Lib.hid (L6.out.below b7)
                  have B7 := Lib.hid (B6.out.trans (b7.mono B6.out.size))
                  refine hK.out _ _ b7 ?_
                  clear hK K' b7 M6 L6 B6
                  refine reg_take (i := 18) (v := ?_) rfl (by kernel_rfl) (by kernel_rfl) (by kernel_rfl) (fun _ _ _ h => h) (by rfl) ?hy18 ?_
                  case hy18 => intro w' hw'; go_simp; (try with_reducible rfl)
                  simp only [Act.put, List.setIfInBounds_toArray, List.set_cons_zero, List.set_cons_succ]
                  refine reg_take (i := 19) (v := ?_) rfl (by kernel_rfl) (by kernel_rfl) (by kernel_rfl) (fun _ _ _ h => h) (by rfl) ?hy19 ?_
                  case hy19 => intro w' hw'; go_simp; (try with_reducible rfl)
                  simp only [Act.put, List.setIfInBounds_toArray, List.set_cons_zero, List.set_cons_succ]
                  refine reg_take (i := 20) (v := ?_) rfl (by kernel_rfl) (by kernel_rfl) (by kernel_rfl) (fun _ _ _ h => h) (by rfl) ?hy20 ?_
                  case hy20 => intro w' hw'; go_simp; (try with_reducible rfl)
                  simp only [Act.put, List.setIfInBounds_toArray, List.set_cons_zero, List.set_cons_succ]
                  refine reg_take (i := 21) (v := (.int .i64 ((m.raw e t)).ver)) rfl (by kernel_rfl) (by kernel_rfl) (by kernel_rfl) (fun _ _ _ h => h) (by rfl) ?hy21 ?_
                  case hy21 => intro w' hw'; have c := Mr.At.at_ver (Whole.below M7.out hw' M7.out.lt); go_simp; (try with_reducible rfl)
                  simp only [Act.put, List.setIfInBounds_toArray, List.set_cons_zero, List.set_cons_succ]
                  refine reg_call (i := 22) rfl (by kernel_rfl) (fun K' hK => ?_)
                  go_simp
                  refine ((C4 w7).out).mono ?_
                  rintro e8 w8 ⟨rfl, b8⟩
                  have M8 : Hid (Mr.At w8 gM (m.raw e t)) := Lib.hid (Whole.below M7.out b8 M7.out.lt)
                  have L8 : Hid (Lists w8 e1 t1 (bareM m)) := Lib.hid (L7.out.below b8)
                  have B8 := Lib.hid (B7.out.trans (b8.mono B7.out.size))
                  refine hK.out _ _ b8 ?_
                  clear hK K' b8 M7 L7 B7
                  refine reg_take (i := 23) (v := ?_) rfl (by kernel_rfl) (by kernel_rfl) (by kernel_rfl) (fun _ _ _ h => h) (by rfl) ?hy23 ?_
                  case hy23 => intro w' hw'; go_simp; (try with_reducible rfl)
                  simp only [Act.put, List.setIfInBounds_toArray, List.set_cons_zero, List.set_cons_succ]
                  refine reg_take (i := 24) (v := ?_) rfl (by kernel_rfl) (by kernel_rfl) (by kernel_rfl) (fun _ _ _ h => h) (by rfl) ?hy24 ?_
                  case hy24 => intro w' hw'; go_simp; (try with_reducible rfl)
                  simp only [Act.put, List.setIfInBounds_toArray, List.set_cons_zero, List.set_cons_succ]
                  refine reg_take (i := 25) (v := Mr.val ((m.raw e t))) rfl (by kernel_rfl) (by kernel_rfl) (by kernel_rfl) (fun _ _ _ h => h) (by rfl) ?hy25 ?_
                  case hy25 => intro w' hw'; exact exec_load_whole_st Mr.isRec _ rfl gM rfl _ _ (Mr.len _) w' (Whole.below M8.out hw' M8.out.lt)
                  simp only [Act.put, List.setIfInBounds_toArray, List.set_cons_zero, List.set_cons_succ]
                  refine reg_call (i := 26) rfl (by kernel_rfl) (fun K' hK => ?_)
                  go_simp
                  refine ((C5 w8).out).mono ?_
                  rintro e9 w9 ⟨rfl, b9⟩
                  have M9 : Hid (Mr.At w9 gM (m.raw e t)) := Lib.hid (Whole.below M8.out b9 M8.out.lt)
                  have L9 : Hid (Lists w9 e1 t1 (bareM m)) := Lib.hid (L8.out.below b9)
                  have B9 := Lib.hid (B8.out.trans (b9.mono B8.out.size))
                  refine hK.out _ _ b9 ?_
                  clear hK K' b9 M8 L8 B8
                  refine reg_take (i := 27) (v := ?_) rfl (by kernel_rfl) (by kernel_rfl) (by kernel_rfl) (fun _ _ _ h => h) (by rfl) ?hy27 ?_
                  case hy27 => intro w' hw'; go_simp; (try with_reducible rfl)
                  simp only [Act.put, List.setIfInBounds_toArray, List.set_cons_zero, List.set_cons_succ]
                  refine reg_take (i := 28) (v := ?_) rfl (by kernel_rfl) (by kernel_rfl) (by kernel_rfl) (fun _ _ _ h => h) (by rfl) ?hy28 ?_
                  case hy28 => intro w' hw'; go_simp; (try with_reducible rfl)
                  simp only [Act.put, List.setIfInBounds_toArray, List.set_cons_zero, List.set_cons_succ]
                  refine reg_take (i := 29) (v := ?_) rfl (by kernel_rfl) (by kernel_rfl) (by kernel_rfl) (fun _ _ _ h => h) (by rfl) ?hy29 ?_
                  case hy29 => intro w' hw'; go_simp; (try with_reducible rfl)
                  simp only [Act.put, List.setIfInBounds_toArray, List.set_cons_zero, List.set_cons_succ]
                  refine reg_take (i := 30) (v := (.string ⟨((m.raw e t)).text.toArray⟩)) rfl (by kernel_rfl) (by kernel_rfl) (by kernel_rfl) (fun _ _ _ h => h) (by rfl) ?hy30 ?_
                  case hy30 => intro w' hw'; have c := Mr.At.at_text (Whole.below M9.out hw' M9.out.lt); go_simp; (try with_reducible rfl)
                  simp only [Act.put, List.setIfInBounds_toArray, List.set_cons_zero, List.set_cons_succ]
                  refine reg_call (i := 31) rfl (by kernel_rfl) (fun K' hK => ?_)
                  go_simp
                  refine ((C6 w9).out).mono ?_
                  rintro e10 w10 ⟨rfl, b10⟩
                  have M10 : Hid (Mr.At w10 gM (m.raw e t)) := Lib.hid (Whole.below M9.out b10 M9.out.lt)
                  have L10 : Hid (Lists w10 e1 t1 (bareM m)) := Lib.hid (L9.out.below b10)
                  have B10 := Lib.hid (B9.out.trans (b10.mono B9.out.size))
                  refine hK.out _ _ b10 ?_
                  clear hK K' b10 M9 L9 B9
                  refine reg_take (i := 32) (v := ?_) rfl (by kernel_rfl) (by kernel_rfl) (by kernel_rfl) (fun _ _ _ h => h) (by rfl) ?hy32 ?_
                  case hy32 => intro w' hw'; go_simp; (try with_reducible rfl)
                  simp only [Act.put, List.setIfInBounds_toArray, List.set_cons_zero, List.set_cons_succ]
                  refine reg_take (i := 33) (v := ?_) rfl (by kernel_rfl) (by kernel_rfl) (by kernel_rfl) (fun _ _ _ h => h) (by rfl) ?hy33 ?_
                  case hy33 => intro w' hw'; go_simp; (try with_reducible rfl)
                  simp only [Act.put, List.setIfInBounds_toArray, List.set_cons_zero, List.set_cons_succ]
                  refine reg_take (i := 34) (v := Mr.val ((m.raw e t))) rfl (by kernel_rfl) (by kernel_rfl) (by kernel_rfl) (fun _ _ _ h => h) (by rfl) ?hy34 ?_
                  case hy34 => intro w' hw'; exact exec_load_whole_st Mr.isRec _ rfl gM rfl _ _ (Mr.len _) w' (Whole.below M10.out hw' M10.out.lt)
                  simp only [Act.put, List.setIfInBounds_toArray, List.set_cons_zero, List.set_cons_succ]
                  refine reg_call (i := 35) rfl (by kernel_rfl) (fun K' hK => ?_)
                  go_simp
                  refine ((C7 w10 B10.out).out).mono ?_
                  rintro e11 w11 ⟨rfl, b11⟩
                  have M11 : Hid (Mr.At w11 gM (m.raw e t)) := Lib.hid (Whole.below M10.out b11 M10.out.lt)
                  have L11 : Hid (Lists w11 e1 t1 (bareM m)) := Lib.hid (L10.out.below b11)
                  have B11 := Lib.hid (B10.out.trans (b11.mono B10.out.size))
                  refine hK.out _ _ b11 ?_
                  clear hK K' b11 M10 L10 B10
                  refine reg_take (i := 36) (v := ?_) rfl (by kernel_rfl) (by kernel_rfl) (by kernel_rfl) (fun _ _ _ h => h) (by rfl) ?hy36 ?_
                  case hy36 => intro w' hw'; go_simp; (try with_reducible rfl)
                  simp only [Act.put, List.setIfInBounds_toArray, List.set_cons_zero, List.set_cons_succ]
                  refine reg_take (i := 37) (v := ?_) rfl (by kernel_rfl) (by kernel_rfl) (by kernel_rfl) (fun _ _ _ h => h) (by rfl) ?hy37 ?_
                  case hy37 => intro w' hw'; go_simp; (try with_reducible rfl)
                  simp only [Act.put, List.setIfInBounds_toArray, List.set_cons_zero, List.set_cons_succ]
                  refine reg_take (i := 38) (v := ?_) rfl (by kernel_rfl) (by kernel_rfl) (by kernel_rfl) (fun _ _ _ h => h) (by rfl) ?hy38 ?_
                  case hy38 => intro w' hw'; go_simp; (try with_reducible rfl)
                  simp only [Act.put, List.setIfInBounds_toArray, List.set_cons_zero, List.set_cons_succ]
                  refine reg_take (i := 39) (v := (((m.raw e t)).its.v)) rfl (by kernel_rfl) (by kernel_rfl) (by kernel_rfl) (fun _ _ _ h => h) (by rfl) ?hy39 ?_
                  case hy39 => intro w' hw'; have c := Mr.At.at_its (Whole.below M11.out hw' M11.out.lt); go_simp; (try with_reducible rfl)
                  simp only [Act.put, List.setIfInBounds_toArray, List.set_cons_zero, List.set_cons_succ]
                  refine reg_call (i := 40) rfl (by kernel_rfl) (fun K' hK => ?_)
                  go_simp
                  refine ((C8 w11 B11.out).out).mono ?_
                  rintro e12 w12 ⟨rfl, b12⟩
                  have M12 : Hid (Mr.At w12 gM (m.raw e t)) := Lib.hid (Whole.below M11.out b12 M11.out.lt)
                  have L12 : Hid (Lists w12 e1 t1 (bareM m)) := Lib.hid (L11.out.below b12)
                  have B12 := Lib.hid (B11.out.trans (b12.mono B11.out.size))
                  refine hK.out _ _ b12 ?_
                  clear hK K' b12 M11 L11 B11
                  refine reg_take (i := 41) (v := ?_) rfl (by kernel_rfl) (by kernel_rfl) (by kernel_rfl) (fun _ _ _ h => h) (by rfl) ?hy41 ?_
                  case hy41 => intro w' hw'; go_simp; (try with_reducible rfl)
                  simp only [Act.put, List.setIfInBounds_toArray, List.set_cons_zero, List.set_cons_succ]
                  refine reg_take (i := 42) (v := ?_) rfl (by kernel_rfl) (by kernel_rfl) (by kernel_rfl) (fun _ _ _ h => h) (by rfl) ?hy42 ?_
                  case hy42 => intro w' hw'; go_simp; (try with_reducible rfl)
                  simp only [Act.put, List.setIfInBounds_toArray, List.set_cons_zero, List.set_cons_succ]
                  refine reg_end (by kernel_rfl) ?_
                  go_wp2
                  go_ret
                  exact ⟨rfl, B12.out⟩
end Go.Proofs.Ytnjeopgcpffkcaa
