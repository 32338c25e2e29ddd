/- EntryBack's core: over what package entry answers. -/
import Derived.Test.YtkhiejdceefgfaaEnK
import Derived.Test.YtkhiejdceefgfaaEnG
import Derived.Test.YtkhiejdceefgfaaEnWrites
import Derived.Test.YtkhiejdceefgfaaGenR
namespace Go.Proofs.Ytkhiejdceefgfaa
open Go.RowKit

theorem read_zero {b : List UInt8} (h : ¬ readX b = 0) : readE b = ent0 := by rw [readE, if_neg h]

set_option maxHeartbeats 8000000 in
set_option maxRecDepth 100000 in
theorem entBack_core (H : EntryIs) (a c : Ent) (A : Option Addr) (n cap : Nat) (b : List UInt8) (w : World) (hi : a.id < 18446744073709551616) (hj : c.id < 18446744073709551616) (h : BytesAt w (.slice A n cap) b) :
    Calls Try.prog 6 #[a.val, c.val, .slice A n cap] w fun e w' => e = .returned (.bool true) ∧ Below w.heap.size w w' := by
  have HH := Lib.hid H
  have HB := Lib.hid h
  have HI := Lib.hid hi
  have HJ := Lib.hid hj
  have HV := Lib.hid (And.intro (Ent.val_cells a) (Ent.val_cells c))
  obtain ⟨gn, hgn⟩ : ∃ q, q = decide (1000 < n) := ⟨_, rfl⟩
  obtain ⟨ga, hga⟩ : ∃ q, q = greatB a := ⟨_, rfl⟩
  obtain ⟨gc, hgc⟩ : ∃ q, q = greatB c := ⟨_, rfl⟩
  have GA := Lib.hid hga
  have GC := Lib.hid hgc
  have GN := Lib.hid hgn
  have CA := fun w => Lib.hid (great_any a w)
  have CC := fun w => Lib.hid (great_any c w)
  simp only [← hga] at CA
  simp only [← hgc] at CC
  have r0 : decide ((1000 : Int) < (n : Int)) = gn := by rw [hgn]; congr 1; apply propext; omega
  clear H h hi hj hga hgc hgn
  go_enter Try.func6, Try.ntmps6
  go_wp2_with (refine wpList_box_row rfl 24 (.tmp 0) rfl a.cells rfl ?_)
  intro w1 b1 x1 z1
  have X1 : Hid (EntAt w1 w.heap.size a) := Lib.hid x1
  have B1 := Lib.hid b1
  clear b1 x1 z1
  go_wp2_with (refine wpList_box_row rfl 24 _ rfl c.cells rfl ?_)
  intro w2 b2 x2 z2
  have X2 : Hid (EntAt w2 w.heap.size a) := Lib.hid (Whole.below X1.out b2 X1.out.lt)
  have Y2 : Hid (EntAt w2 w1.heap.size c) := Lib.hid x2
  have B2 := Lib.hid (B1.out.trans (b2.mono B1.out.size))
  obtain ⟨g, hg⟩ : ∃ g, g = w.heap.size := ⟨_, rfl⟩
  rw [← hg] at X2 ⊢
  obtain ⟨x, hx⟩ : ∃ x, x = w1.heap.size := ⟨_, rfl⟩
  rw [← hx] at Y2 ⊢
  clear b2 x2 z2 X1 B1 hg hx
  go_wp2_with fail
  refine (works11 HH.out w2).mono ?_
  rintro e w3 ⟨rfl, hb⟩
  have X3 : Hid (EntAt w3 g a) := Lib.hid (Whole.below X2.out hb X2.out.lt)
  have Y3 : Hid (EntAt w3 x c) := Lib.hid (Whole.below Y2.out hb Y2.out.lt)
  have B3 := Lib.hid (B2.out.trans (hb.mono B2.out.size))
  clear hb X2 Y2 B2
  cases gn with
  | true =>
    go_wp2
    go_ret
    exact ⟨rfl, B3.out⟩
  | false =>
    have hle : n ≤ 1000 := by have q := GN.out; simp at q; exact q
    clear GN
    obtain ⟨a0, a1, a2, a3, a4, a5⟩ := X3.out.six
    go_wp2_with fail
    refine (CA w3).out.mono ?_
    rintro e w4 ⟨rfl, hb⟩
    have X4 : Hid (EntAt w4 g a) := Lib.hid (Whole.below X3.out hb X3.out.lt)
    have Y4 : Hid (EntAt w4 x c) := Lib.hid (Whole.below Y3.out hb Y3.out.lt)
    have B4 := Lib.hid (B3.out.trans (hb.mono B3.out.size))
    clear hb X3 Y3 B3 a0 a1 a2 a3 a4 a5
    cases ga with
    | true =>
      go_wp2
      go_ret
      exact ⟨rfl, B4.out⟩
    | false =>
      obtain ⟨c0, c1, c2, c3, c4, c5⟩ := Y4.out.six
      go_wp2_with fail
      refine (CC w4).out.mono ?_
      rintro e w5 ⟨rfl, hb⟩
      have X5 : Hid (EntAt w5 g a) := Lib.hid (Whole.below X4.out hb X4.out.lt)
      have Y5 : Hid (EntAt w5 x c) := Lib.hid (Whole.below Y4.out hb Y4.out.lt)
      have B5 := Lib.hid (B4.out.trans (hb.mono B4.out.size))
      clear hb X4 Y4 B4 c0 c1 c2 c3 c4 c5
      cases gc with
      | true =>
        go_wp2
        go_ret
        exact ⟨rfl, B5.out⟩
      | false =>
        have LA := Lib.hid (cut_great GA.out.symm)
        have LC := Lib.hid (cut_great GC.out.symm)
        clear GA GC CA CC
        obtain ⟨ra, hra⟩ : ∃ q, q = entR a := ⟨_, rfl⟩
        have RA := Lib.hid hra
        have CR := Lib.hid (HH.out.right a w5)
        rw [← hra] at CR
        clear hra
        obtain ⟨a0, a1, a2, a3, a4, a5⟩ := X5.out.six
        go_wp2_with fail
        refine CR.out.mono ?_
        rintro e w6 ⟨rfl, hb⟩
        have X6 : Hid (EntAt w6 g a) := Lib.hid (Whole.below X5.out hb X5.out.lt)
        have Y6 : Hid (EntAt w6 x c) := Lib.hid (Whole.below Y5.out hb Y5.out.lt)
        have B6 := Lib.hid (B5.out.trans (hb.mono B5.out.size))
        clear hb X5 Y5 B5 CR a0 a1 a2 a3 a4 a5
        cases ra with
        | false =>
          clear X6 Y6 RA LA LC
          have CR := Lib.hid (HH.out.read A n cap b w6 (by omega) (HB.out.below B6.out))
          go_wp2_with fail
          refine CR.out.mono ?_
          rintro e t1 ⟨rfl, hb⟩
          have T1 := Lib.hid (B6.out.trans (hb.mono B6.out.size))
          clear hb CR B6
          go_wp2_with (refine wpList_alloc_row rfl 24 rfl ent0.cells ent_zero ?_)
          intro t2 tb2 tx2 tz2
          have U2 : Hid (Whole t2 t1.heap.size 24 ent0.cells) := Lib.hid tx2
          have T2 := Lib.hid (T1.out.trans (tb2.mono T1.out.size))
          have V2 := Lib.hid T1.out.size
          obtain ⟨y, hy⟩ : ∃ y, y = t1.heap.size := ⟨_, rfl⟩
          rw [← hy] at U2 V2 ⊢
          clear tb2 tx2 tz2 T1 hy
          by_cases hX : readX b = 0
          · have hE : readE b = entP b := by rw [readE, if_pos hX]
            obtain ⟨q1, q2, q3⟩ := read_was b hX
            rw [hX, hE]
            have Q := Lib.hid (And.intro q1 (And.intro q2 q3))
            obtain ⟨E, hE2⟩ : ∃ E, E = entP b := ⟨_, rfl⟩
            rw [← hE2] at Q ⊢
            clear hX hE q1 q2 q3 hE2
            go_wp2_with (with_reducible refine wpList_store_whole rfl 24 _ _ rfl y E.cells (by with_unfolding_all exact rfl) (by with_unfolding_all exact rfl) _ _ U2.out (ent_size' _) rfl (Ent.cells_one _) ?_)
            intro t3 tg3 tx3 tz3
            have U3 : Hid (EntAt t3 y E) := Lib.hid tx3
            have T3 := Lib.hid (T2.out.grown tg3 T2.out.size (fun k hk => by injection hk with hk; have := V2.out; omega))
            clear tg3 tx3 tz3 U2 T2 V2
            go_wp2_with fail
            refine reg_begin (by kernel_rfl) fun t4 hb hz => ?_
            have U4 : Hid (EntAt t4 y E) := Lib.hid (Whole.below U3.out hb U3.out.lt)
            have T4 := Lib.hid (T3.out.trans (hb.mono T3.out.size))
            clear hb hz U3 T3
            refine reg_take (i := 0) (v := E.val) rfl (by kernel_rfl) (by kernel_rfl) (by kernel_rfl) (fun _ _ _ h => h) (by rfl) ?hy0 ?_
            case hy0 => intro w' hw'; exact exec_load_ent _ rfl y rfl E w' (Whole.below U4.out hw' U4.out.lt)
            simp only [Act.put, List.setIfInBounds_toArray, List.set_cons_zero, List.set_cons_succ]
            refine reg_call (i := 1) rfl (by kernel_rfl) (fun K' hK => ?_)
            go_simp
            refine (HH.out.right E t4).mono ?_
            rw [Q.out.1]
            rintro e t5 ⟨rfl, hb⟩
            have U5 : Hid (EntAt t5 y E) := Lib.hid (Whole.below U4.out hb U4.out.lt)
            have T5 := Lib.hid (T4.out.trans (hb.mono T4.out.size))
            refine hK.out _ _ hb ?_
            clear hK K' hb U4 T4
            have rb : ∀ w', Below t5.heap.size t5 w' → (convert 27 9 (.slice A n cap)).run Try.prog w' = .ok (.string ⟨b.toArray⟩) w' := fun w' h => conv_bytes ((HB.out.below T5.out).below h)
            refine reg_take (i := 2) (v := ?_) rfl (by kernel_rfl) (by kernel_rfl) (by kernel_rfl) (fun _ _ _ h => h) (by rfl) ?hy2 ?_
            case hy2 => intro w' hw'; go_simp; (try with_reducible rfl)
            simp only [Act.put, List.setIfInBounds_toArray, List.set_cons_zero, List.set_cons_succ]
            refine reg_take (i := 6) (v := ?_) rfl (by kernel_rfl) (by kernel_rfl) (by kernel_rfl) (fun _ _ _ h => h) (by rfl) ?hy6 ?_
            case hy6 => intro w' hw'; go_simp; (try with_reducible rfl)
            simp only [Act.put, List.setIfInBounds_toArray, List.set_cons_zero, List.set_cons_succ]
            refine reg_take (i := 7) (v := ?_) rfl (by kernel_rfl) (by kernel_rfl) (by kernel_rfl) (fun _ _ _ h => h) (by rfl) ?hy7 ?_
            case hy7 => intro w' hw'; go_simp; (try with_reducible rfl)
            simp only [Act.put, List.setIfInBounds_toArray, List.set_cons_zero, List.set_cons_succ]
            refine reg_take (i := 3) (v := E.val) rfl (by kernel_rfl) (by kernel_rfl) (by kernel_rfl) (fun _ _ _ h => h) (by rfl) ?hy3 ?_
            case hy3 => intro w' hw'; exact exec_load_ent _ rfl y rfl E w' (Whole.below U5.out hw' U5.out.lt)
            simp only [Act.put, List.setIfInBounds_toArray, List.set_cons_zero, List.set_cons_succ]
            refine reg_call (i := 4) rfl (by kernel_rfl) (fun K' hK => ?_)
            go_simp
            refine (HH.out.bytes E t5 (by have := name_short (entR_parts Q.out.1).1; omega) (by have := (entR_parts Q.out.1).2.1; omega) Q.out.2.2).mono ?_
            rw [Q.out.2.1]
            rintro e t6 ⟨v6, rfl, y6, hb⟩
            have T6 := Lib.hid (T5.out.trans (hb.mono T5.out.size))
            have Y6 := Lib.hid y6
            refine hK.out _ _ hb ?_
            clear hK K' hb U5 T5 y6 rb
            have r6 : ∀ w', Below t6.heap.size t6 w' → (convert 27 9 v6).run Try.prog w' = .ok (.string ⟨b.toArray⟩) w' := fun w' h => conv_bytes (Y6.out.below h)
            refine reg_take (i := 5) (v := ?_) rfl (by kernel_rfl) (by kernel_rfl) (by kernel_rfl) (fun _ _ _ h => h) (by rfl) ?hy5 ?_
            case hy5 => intro w' hw'; go_simp; (try with_reducible rfl)
            simp only [Act.put, List.setIfInBounds_toArray, List.set_cons_zero, List.set_cons_succ]
            refine reg_take (i := 8) (v := ?_) rfl (by kernel_rfl) (by kernel_rfl) (by kernel_rfl) (fun _ _ _ h => h) (by rfl) ?hy8 ?_
            case hy8 => intro w' hw'; go_simp; (try with_reducible rfl)
            simp only [Act.put, List.setIfInBounds_toArray, List.set_cons_zero, List.set_cons_succ]
            refine reg_take (i := 9) (v := ?_) rfl (by kernel_rfl) (by kernel_rfl) (by kernel_rfl) (fun _ _ _ h => h) (by rfl) ?hy9 ?_
            case hy9 => intro w' hw'; go_simp; (try with_reducible rfl)
            simp only [Act.put, List.setIfInBounds_toArray, List.set_cons_zero, List.set_cons_succ]
            refine reg_take (i := 10) (v := ?_) rfl (by kernel_rfl) (by kernel_rfl) (by kernel_rfl) (fun _ _ _ h => h) (by rfl) ?hy10 ?_
            case hy10 => intro w' hw'; go_simp; (try with_reducible rfl)
            simp only [Act.put, List.setIfInBounds_toArray, List.set_cons_zero, List.set_cons_succ]
            refine reg_end (by kernel_rfl) ?_
            go_wp2
            go_ret
            exact ⟨rfl, T6.out⟩
          · have hE := read_zero hX
            rw [hE]
            obtain ⟨X, hX2⟩ : ∃ X, X = readX b := ⟨_, rfl⟩
            rw [← hX2] at hX ⊢
            have dX : (X != 0) = true := by simpa using hX
            clear hE hX2 hX
            go_wp2_with (with_reducible refine wpList_store_whole rfl 24 _ _ rfl y ent0.cells (by with_unfolding_all exact rfl) (by with_unfolding_all exact rfl) _ _ U2.out (ent_size' _) rfl (Ent.cells_one _) ?_)
            intro t3 tg3 tx3 tz3
            have U3 : Hid (EntAt t3 y ent0) := Lib.hid tx3
            have T3 := Lib.hid (T2.out.grown tg3 T2.out.size (fun k hk => by injection hk with hk; have := V2.out; omega))
            clear tg3 tx3 tz3 U2 T2 V2
            obtain ⟨a0, a1, a2, a3, a4, a5⟩ := U3.out.six
            go_wp2
            go_ret
            exact ⟨rfl, T3.out⟩
        | true =>
          have RB := Lib.hid (read_back a RA.out.symm HI.out)
          have RE := Lib.hid (readE_back a RA.out.symm HI.out)
          obtain ⟨a0, a1, a2, a3, a4, a5⟩ := X6.out.six
          go_wp2_with fail
          refine (HH.out.bytes a w6 LA.out.1 LA.out.2 HI.out).mono ?_
          rintro e w7 ⟨v7, rfl, y7, hb⟩
          have X7 : Hid (EntAt w7 g a) := Lib.hid (Whole.below X6.out hb X6.out.lt)
          have Y7 : Hid (EntAt w7 x c) := Lib.hid (Whole.below Y6.out hb Y6.out.lt)
          have B7 := Lib.hid (B6.out.trans (hb.mono B6.out.size))
          obtain ⟨A7, c7, rfl, -, -⟩ := id y7
          have CR := Lib.hid (HH.out.read _ _ _ (bytesE a) w7 (by rw [bytesE, List.length_append, bodyL_length]; have := LA.out; omega) y7)
          rw [RB.out.1, RE.out] at CR
          clear hb y7 X6 Y6 B6 a0 a1 a2 a3 a4 a5
          go_wp2_with fail
          refine CR.out.mono ?_
          rintro e w8 ⟨rfl, hb⟩
          have X8 : Hid (EntAt w8 g a) := Lib.hid (Whole.below X7.out hb X7.out.lt)
          have Y8 : Hid (EntAt w8 x c) := Lib.hid (Whole.below Y7.out hb Y7.out.lt)
          have B8 := Lib.hid (B7.out.trans (hb.mono B7.out.size))
          clear hb CR X7 Y7 B7
          go_wp2_with (refine wpList_alloc_row rfl 24 rfl ent0.cells ent_zero ?_)
          intro w9 b9 x9 z9
          have U9 : Hid (Whole w9 w8.heap.size 24 ent0.cells) := Lib.hid x9
          have X9 : Hid (EntAt w9 g a) := Lib.hid (Whole.below X8.out b9 X8.out.lt)
          have Y9 : Hid (EntAt w9 x c) := Lib.hid (Whole.below Y8.out b9 Y8.out.lt)
          have B9 := Lib.hid (B8.out.trans (b9.mono B8.out.size))
          have Z9 := Lib.hid (And.intro B8.out.size (And.intro X8.out.lt Y8.out.lt))
          obtain ⟨z, hz⟩ : ∃ z, z = w8.heap.size := ⟨_, rfl⟩
          rw [← hz] at U9 Z9 ⊢
          clear b9 x9 z9 X8 Y8 B8 hz
          go_wp2_with (with_reducible refine wpList_store_whole rfl 24 _ _ rfl z a.cells (by with_unfolding_all exact rfl) (by with_unfolding_all exact rfl) _ _ U9.out (ent_size' _) rfl (Ent.cells_one _) ?_)
          intro w10 g10 x10 z10
          have U10 : Hid (EntAt w10 z a) := Lib.hid x10
          have X10 : Hid (EntAt w10 g a) := Lib.hid (Whole.grown X9.out g10 (fun k => by injection k with k; have := Z9.out; omega))
          have Y10 : Hid (EntAt w10 x c) := Lib.hid (Whole.grown Y9.out g10 (fun k => by injection k with k; have := Z9.out; omega))
          have B10 := Lib.hid (B9.out.grown g10 B9.out.size (fun k hk => by injection hk with hk; have := Z9.out; omega))
          clear g10 x10 z10 U9 X9 Y9 B9 Z9
          obtain ⟨rc, hrc⟩ : ∃ q, q = entR c := ⟨_, rfl⟩
          have RC := Lib.hid hrc
          have CR := fun w => Lib.hid (HH.out.right c w)
          simp only [← hrc] at CR
          clear hrc
          go_wp2_with fail
          refine reg_begin (by kernel_rfl) fun w11 hb hz => ?_
          have U11 : Hid (EntAt w11 z a) := Lib.hid (Whole.below U10.out hb U10.out.lt)
          have X11 : Hid (EntAt w11 g a) := Lib.hid (Whole.below X10.out hb X10.out.lt)
          have Y11 : Hid (EntAt w11 x c) := Lib.hid (Whole.below Y10.out hb Y10.out.lt)
          have B11 := Lib.hid (B10.out.trans (hb.mono B10.out.size))
          clear hb hz U10 X10 Y10 B10
          refine reg_take (i := 0) (v := ?_) rfl (by kernel_rfl) (by kernel_rfl) (by kernel_rfl) (fun _ _ _ h => h) (by rfl) ?hy0 ?_
          case hy0 => intro w' hw'; go_simp; (try with_reducible rfl)
          simp only [Act.put, List.setIfInBounds_toArray, List.set_cons_zero, List.set_cons_succ]
          refine reg_take (i := 1) (v := ?_) rfl (by kernel_rfl) (by kernel_rfl) (by kernel_rfl) (fun _ _ _ h => h) (by rfl) ?hy1 ?_
          case hy1 => intro w' hw'; go_simp; (try with_reducible rfl)
          simp only [Act.put, List.setIfInBounds_toArray, List.set_cons_zero, List.set_cons_succ]
          refine reg_take (i := 2) (v := ?_) rfl (by kernel_rfl) (by kernel_rfl) (by kernel_rfl) (fun _ _ _ h => h) (by rfl) ?hy2 ?_
          case hy2 => intro w' hw'; go_simp; (try with_reducible rfl)
          simp only [Act.put, List.setIfInBounds_toArray, List.set_cons_zero, List.set_cons_succ]
          refine reg_take (i := 3) (v := a.val) rfl (by kernel_rfl) (by kernel_rfl) (by kernel_rfl) (fun _ _ _ h => h) (by rfl) ?hy3 ?_
          case hy3 => intro w' hw'; exact exec_load_ent _ rfl z rfl a w' (Whole.below U11.out hw' U11.out.lt)
          simp only [Act.put, List.setIfInBounds_toArray, List.set_cons_zero, List.set_cons_succ]
          refine reg_take (i := 4) (v := a.val) rfl (by kernel_rfl) (by kernel_rfl) (by kernel_rfl) (fun _ _ _ h => h) (by rfl) ?hy4 ?_
          case hy4 => intro w' hw'; exact exec_load_ent _ rfl g rfl a w' (Whole.below X11.out hw' X11.out.lt)
          simp only [Act.put, List.setIfInBounds_toArray, List.set_cons_zero, List.set_cons_succ]
          refine reg_take (i := 5) (v := .bool false) rfl (by kernel_rfl) (by kernel_rfl) (by kernel_rfl) (fun _ _ _ h => h) (by rfl) ?hy5 ?_
          case hy5 => intro w' hw'; exact exec_neq_ent _ _ _ rfl a a rfl rfl false (by simp) w'
          simp only [Act.put, List.setIfInBounds_toArray, List.set_cons_zero, List.set_cons_succ]
          refine reg_take (i := 6) (v := ?_) rfl (by kernel_rfl) (by kernel_rfl) (by kernel_rfl) (fun _ _ _ h => h) (by rfl) ?hy6 ?_
          case hy6 => intro w' hw'; go_simp; (try with_reducible rfl)
          simp only [Act.put, List.setIfInBounds_toArray, List.set_cons_zero, List.set_cons_succ]
          refine reg_take (i := 7) (v := ?_) rfl (by kernel_rfl) (by kernel_rfl) (by kernel_rfl) (fun _ _ _ h => h) (by rfl) ?hy7 ?_
          case hy7 => intro w' hw'; go_simp; (try with_reducible rfl)
          simp only [Act.put, List.setIfInBounds_toArray, List.set_cons_zero, List.set_cons_succ]
          refine reg_take (i := 8) (v := c.val) rfl (by kernel_rfl) (by kernel_rfl) (by kernel_rfl) (fun _ _ _ h => h) (by rfl) ?hy8 ?_
          case hy8 => intro w' hw'; exact exec_load_ent _ rfl x rfl c w' (Whole.below Y11.out hw' Y11.out.lt)
          simp only [Act.put, List.setIfInBounds_toArray, List.set_cons_zero, List.set_cons_succ]
          refine reg_call (i := 9) rfl (by kernel_rfl) (fun K' hK => ?_)
          go_simp
          refine (CR w11).out.mono ?_
          rintro e w12 ⟨rfl, hb⟩
          have X12 : Hid (EntAt w12 g a) := Lib.hid (Whole.below X11.out hb X11.out.lt)
          have Y12 : Hid (EntAt w12 x c) := Lib.hid (Whole.below Y11.out hb Y11.out.lt)
          have B12 := Lib.hid (B11.out.trans (hb.mono B11.out.size))
          refine hK.out _ _ hb ?_
          clear hK K' hb U11 X11 Y11 B11 CR
          refine reg_take (i := 10) (v := ?_) rfl (by kernel_rfl) (by kernel_rfl) (by kernel_rfl) (fun _ _ _ h => h) (by rfl) ?hy10 ?_
          case hy10 => intro w' hw'; go_simp; (try with_reducible rfl)
          simp only [Act.put, List.setIfInBounds_toArray, List.set_cons_zero, List.set_cons_succ]
          cases rc with
          | false =>
            refine reg_skip (i := 11) rfl (by kernel_rfl) (by kernel_rfl) (by kernel_rfl) (fun _ _ _ h => h) (by rfl) ?_
            simp only [Act.put, List.setIfInBounds_toArray, List.set_cons_zero, List.set_cons_succ]
            refine reg_skip (i := 12) rfl (by kernel_rfl) (by kernel_rfl) (by kernel_rfl) (fun _ _ _ h => h) (by rfl) ?_
            simp only [Act.put, List.setIfInBounds_toArray, List.set_cons_zero, List.set_cons_succ]
            refine reg_skip (i := 13) rfl (by kernel_rfl) (by kernel_rfl) (by kernel_rfl) (fun _ _ _ h => h) (by rfl) ?_
            simp only [Act.put, List.setIfInBounds_toArray, List.set_cons_zero, List.set_cons_succ]
            refine reg_skip (i := 14) rfl (by kernel_rfl) (by kernel_rfl) (by kernel_rfl) (fun _ _ _ h => h) (by rfl) ?_
            simp only [Act.put, List.setIfInBounds_toArray, List.set_cons_zero, List.set_cons_succ]
            refine reg_skip (i := 15) rfl (by kernel_rfl) (by kernel_rfl) (by kernel_rfl) (fun _ _ _ h => h) (by rfl) ?_
            simp only [Act.put, List.setIfInBounds_toArray, List.set_cons_zero, List.set_cons_succ]
            refine reg_skip (i := 16) rfl (by kernel_rfl) (by kernel_rfl) (by kernel_rfl) (fun _ _ _ h => h) (by rfl) ?_
            simp only [Act.put, List.setIfInBounds_toArray, List.set_cons_zero, List.set_cons_succ]
            refine reg_skip (i := 17) rfl (by kernel_rfl) (by kernel_rfl) (by kernel_rfl) (fun _ _ _ h => h) (by rfl) ?_
            simp only [Act.put, List.setIfInBounds_toArray, List.set_cons_zero, List.set_cons_succ]
            refine reg_skip (i := 18) rfl (by kernel_rfl) (by kernel_rfl) (by kernel_rfl) (fun _ _ _ h => h) (by rfl) ?_
            simp only [Act.put, List.setIfInBounds_toArray, List.set_cons_zero, List.set_cons_succ]
            refine reg_skip (i := 19) rfl (by kernel_rfl) (by kernel_rfl) (by kernel_rfl) (fun _ _ _ h => h) (by rfl) ?_
            simp only [Act.put, List.setIfInBounds_toArray, List.set_cons_zero, List.set_cons_succ]
            refine reg_skip (i := 20) rfl (by kernel_rfl) (by kernel_rfl) (by kernel_rfl) (fun _ _ _ h => h) (by rfl) ?_
            simp only [Act.put, List.setIfInBounds_toArray, List.set_cons_zero, List.set_cons_succ]
            refine reg_skip (i := 21) rfl (by kernel_rfl) (by kernel_rfl) (by kernel_rfl) (fun _ _ _ h => h) (by rfl) ?_
            simp only [Act.put, List.setIfInBounds_toArray, List.set_cons_zero, List.set_cons_succ]
            refine reg_take (i := 22) (v := ?_) rfl (by kernel_rfl) (by kernel_rfl) (by kernel_rfl) (fun _ _ _ h => h) (by rfl) ?hy22 ?_
            case hy22 => intro w' hw'; go_simp; (try with_reducible rfl)
            simp only [Act.put, List.setIfInBounds_toArray, List.set_cons_zero, List.set_cons_succ]
            refine reg_take (i := 23) (v := ?_) rfl (by kernel_rfl) (by kernel_rfl) (by kernel_rfl) (fun _ _ _ h => h) (by rfl) ?hy23 ?_
            case hy23 => intro w' hw'; go_simp; (try with_reducible rfl)
            simp only [Act.put, List.setIfInBounds_toArray, List.set_cons_zero, List.set_cons_succ]
            refine reg_end (by kernel_rfl) ?_
            clear X12 Y12 RA RC RB RE LA LC
            go_wp2_with fail
            have CR := Lib.hid (HH.out.read A n cap b w12 (by omega) (HB.out.below B12.out))
            go_wp2_with fail
            refine CR.out.mono ?_
            rintro e t1 ⟨rfl, hb⟩
            have T1 := Lib.hid (B12.out.trans (hb.mono B12.out.size))
            clear hb CR B12
            go_wp2_with (refine wpList_alloc_row rfl 24 rfl ent0.cells ent_zero ?_)
            intro t2 tb2 tx2 tz2
            have U2 : Hid (Whole t2 t1.heap.size 24 ent0.cells) := Lib.hid tx2
            have T2 := Lib.hid (T1.out.trans (tb2.mono T1.out.size))
            have V2 := Lib.hid T1.out.size
            obtain ⟨y, hy⟩ : ∃ y, y = t1.heap.size := ⟨_, rfl⟩
            rw [← hy] at U2 V2 ⊢
            clear tb2 tx2 tz2 T1 hy
            by_cases hX : readX b = 0
            · have hE : readE b = entP b := by rw [readE, if_pos hX]
              obtain ⟨q1, q2, q3⟩ := read_was b hX
              rw [hX, hE]
              have Q := Lib.hid (And.intro q1 (And.intro q2 q3))
              obtain ⟨E, hE2⟩ : ∃ E, E = entP b := ⟨_, rfl⟩
              rw [← hE2] at Q ⊢
              clear hX hE q1 q2 q3 hE2
              go_wp2_with (with_reducible refine wpList_store_whole rfl 24 _ _ rfl y E.cells (by with_unfolding_all exact rfl) (by with_unfolding_all exact rfl) _ _ U2.out (ent_size' _) rfl (Ent.cells_one _) ?_)
              intro t3 tg3 tx3 tz3
              have U3 : Hid (EntAt t3 y E) := Lib.hid tx3
              have T3 := Lib.hid (T2.out.grown tg3 T2.out.size (fun k hk => by injection hk with hk; have := V2.out; omega))
              clear tg3 tx3 tz3 U2 T2 V2
              go_wp2_with fail
              refine reg_begin (by kernel_rfl) fun t4 hb hz => ?_
              have U4 : Hid (EntAt t4 y E) := Lib.hid (Whole.below U3.out hb U3.out.lt)
              have T4 := Lib.hid (T3.out.trans (hb.mono T3.out.size))
              clear hb hz U3 T3
              refine reg_take (i := 0) (v := E.val) rfl (by kernel_rfl) (by kernel_rfl) (by kernel_rfl) (fun _ _ _ h => h) (by rfl) ?hy0 ?_
              case hy0 => intro w' hw'; exact exec_load_ent _ rfl y rfl E w' (Whole.below U4.out hw' U4.out.lt)
              simp only [Act.put, List.setIfInBounds_toArray, List.set_cons_zero, List.set_cons_succ]
              refine reg_call (i := 1) rfl (by kernel_rfl) (fun K' hK => ?_)
              go_simp
              refine (HH.out.right E t4).mono ?_
              rw [Q.out.1]
              rintro e t5 ⟨rfl, hb⟩
              have U5 : Hid (EntAt t5 y E) := Lib.hid (Whole.below U4.out hb U4.out.lt)
              have T5 := Lib.hid (T4.out.trans (hb.mono T4.out.size))
              refine hK.out _ _ hb ?_
              clear hK K' hb U4 T4
              have rb : ∀ w', Below t5.heap.size t5 w' → (convert 27 9 (.slice A n cap)).run Try.prog w' = .ok (.string ⟨b.toArray⟩) w' := fun w' h => conv_bytes ((HB.out.below T5.out).below h)
              refine reg_take (i := 2) (v := ?_) rfl (by kernel_rfl) (by kernel_rfl) (by kernel_rfl) (fun _ _ _ h => h) (by rfl) ?hy2 ?_
              case hy2 => intro w' hw'; go_simp; (try with_reducible rfl)
              simp only [Act.put, List.setIfInBounds_toArray, List.set_cons_zero, List.set_cons_succ]
              refine reg_take (i := 6) (v := ?_) rfl (by kernel_rfl) (by kernel_rfl) (by kernel_rfl) (fun _ _ _ h => h) (by rfl) ?hy6 ?_
              case hy6 => intro w' hw'; go_simp; (try with_reducible rfl)
              simp only [Act.put, List.setIfInBounds_toArray, List.set_cons_zero, List.set_cons_succ]
              refine reg_take (i := 7) (v := ?_) rfl (by kernel_rfl) (by kernel_rfl) (by kernel_rfl) (fun _ _ _ h => h) (by rfl) ?hy7 ?_
              case hy7 => intro w' hw'; go_simp; (try with_reducible rfl)
              simp only [Act.put, List.setIfInBounds_toArray, List.set_cons_zero, List.set_cons_succ]
              refine reg_take (i := 3) (v := E.val) rfl (by kernel_rfl) (by kernel_rfl) (by kernel_rfl) (fun _ _ _ h => h) (by rfl) ?hy3 ?_
              case hy3 => intro w' hw'; exact exec_load_ent _ rfl y rfl E w' (Whole.below U5.out hw' U5.out.lt)
              simp only [Act.put, List.setIfInBounds_toArray, List.set_cons_zero, List.set_cons_succ]
              refine reg_call (i := 4) rfl (by kernel_rfl) (fun K' hK => ?_)
              go_simp
              refine (HH.out.bytes E t5 (by have := name_short (entR_parts Q.out.1).1; omega) (by have := (entR_parts Q.out.1).2.1; omega) Q.out.2.2).mono ?_
              rw [Q.out.2.1]
              rintro e t6 ⟨v6, rfl, y6, hb⟩
              have T6 := Lib.hid (T5.out.trans (hb.mono T5.out.size))
              have Y6 := Lib.hid y6
              refine hK.out _ _ hb ?_
              clear hK K' hb U5 T5 y6 rb
              have r6 : ∀ w', Below t6.heap.size t6 w' → (convert 27 9 v6).run Try.prog w' = .ok (.string ⟨b.toArray⟩) w' := fun w' h => conv_bytes (Y6.out.below h)
              refine reg_take (i := 5) (v := ?_) rfl (by kernel_rfl) (by kernel_rfl) (by kernel_rfl) (fun _ _ _ h => h) (by rfl) ?hy5 ?_
              case hy5 => intro w' hw'; go_simp; (try with_reducible rfl)
              simp only [Act.put, List.setIfInBounds_toArray, List.set_cons_zero, List.set_cons_succ]
              refine reg_take (i := 8) (v := ?_) rfl (by kernel_rfl) (by kernel_rfl) (by kernel_rfl) (fun _ _ _ h => h) (by rfl) ?hy8 ?_
              case hy8 => intro w' hw'; go_simp; (try with_reducible rfl)
              simp only [Act.put, List.setIfInBounds_toArray, List.set_cons_zero, List.set_cons_succ]
              refine reg_take (i := 9) (v := ?_) rfl (by kernel_rfl) (by kernel_rfl) (by kernel_rfl) (fun _ _ _ h => h) (by rfl) ?hy9 ?_
              case hy9 => intro w' hw'; go_simp; (try with_reducible rfl)
              simp only [Act.put, List.setIfInBounds_toArray, List.set_cons_zero, List.set_cons_succ]
              refine reg_take (i := 10) (v := ?_) rfl (by kernel_rfl) (by kernel_rfl) (by kernel_rfl) (fun _ _ _ h => h) (by rfl) ?hy10 ?_
              case hy10 => intro w' hw'; go_simp; (try with_reducible rfl)
              simp only [Act.put, List.setIfInBounds_toArray, List.set_cons_zero, List.set_cons_succ]
              refine reg_end (by kernel_rfl) ?_
              go_wp2
              go_ret
              exact ⟨rfl, T6.out⟩
            · have hE := read_zero hX
              rw [hE]
              obtain ⟨X, hX2⟩ : ∃ X, X = readX b := ⟨_, rfl⟩
              rw [← hX2] at hX ⊢
              have dX : (X != 0) = true := by simpa using hX
              clear hE hX2 hX
              go_wp2_with (with_reducible refine wpList_store_whole rfl 24 _ _ rfl y ent0.cells (by with_unfolding_all exact rfl) (by with_unfolding_all exact rfl) _ _ U2.out (ent_size' _) rfl (Ent.cells_one _) ?_)
              intro t3 tg3 tx3 tz3
              have U3 : Hid (EntAt t3 y ent0) := Lib.hid tx3
              have T3 := Lib.hid (T2.out.grown tg3 T2.out.size (fun k hk => by injection hk with hk; have := V2.out; omega))
              clear tg3 tx3 tz3 U2 T2 V2
              obtain ⟨a0, a1, a2, a3, a4, a5⟩ := U3.out.six
              go_wp2
              go_ret
              exact ⟨rfl, T3.out⟩
          | true =>
            obtain ⟨q, hq⟩ : ∃ q : Bool, q = decide (a = c) := ⟨_, rfl⟩
            have hs : (bytesE a == bytesE c) = q := by
              rw [hq]
              by_cases hac : a = c
              · subst hac
                simp
              · have : bytesE a ≠ bytesE c := fun k => hac (bytes_inj RA.out.symm RC.out.symm HI.out HJ.out k)
                rw [decide_eq_false hac, beq_eq_false_iff_ne]
                exact this
            have hs2 : decide (bytesE a = bytesE c) = q := by
              rw [← hs]
              by_cases k : bytesE a = bytesE c
              · rw [k]; simp
              · rw [decide_eq_false k]; exact (beq_eq_false_iff_ne.2 k).symm
            refine reg_take (i := 11) (v := a.val) rfl (by kernel_rfl) (by kernel_rfl) (by kernel_rfl) (fun _ _ _ h => h) (by rfl) ?hy11 ?_
            case hy11 => intro w' hw'; exact exec_load_ent _ rfl g rfl a w' (Whole.below X12.out hw' X12.out.lt)
            simp only [Act.put, List.setIfInBounds_toArray, List.set_cons_zero, List.set_cons_succ]
            refine reg_take (i := 18) (v := a.val) rfl (by kernel_rfl) (by kernel_rfl) (by kernel_rfl) (fun _ _ _ h => h) (by rfl) ?hy18 ?_
            case hy18 => intro w' hw'; exact exec_load_ent _ rfl g rfl a w' (Whole.below X12.out hw' X12.out.lt)
            simp only [Act.put, List.setIfInBounds_toArray, List.set_cons_zero, List.set_cons_succ]
            refine reg_take (i := 14) (v := c.val) rfl (by kernel_rfl) (by kernel_rfl) (by kernel_rfl) (fun _ _ _ h => h) (by rfl) ?hy14 ?_
            case hy14 => intro w' hw'; exact exec_load_ent _ rfl x rfl c w' (Whole.below Y12.out hw' Y12.out.lt)
            simp only [Act.put, List.setIfInBounds_toArray, List.set_cons_zero, List.set_cons_succ]
            refine reg_take (i := 19) (v := c.val) rfl (by kernel_rfl) (by kernel_rfl) (by kernel_rfl) (fun _ _ _ h => h) (by rfl) ?hy19 ?_
            case hy19 => intro w' hw'; exact exec_load_ent _ rfl x rfl c w' (Whole.below Y12.out hw' Y12.out.lt)
            simp only [Act.put, List.setIfInBounds_toArray, List.set_cons_zero, List.set_cons_succ]
            refine reg_take (i := 20) (v := .bool q) rfl (by kernel_rfl) (by kernel_rfl) (by kernel_rfl) (fun _ _ _ h => h) (by rfl) ?hy20 ?_
            case hy20 => intro w' hw'; exact exec_eq_ent _ _ _ rfl a c rfl rfl q hq w'
            simp only [Act.put, List.setIfInBounds_toArray, List.set_cons_zero, List.set_cons_succ]
            refine reg_call (i := 12) rfl (by kernel_rfl) (fun K' hK => ?_)
            go_simp
            refine (HH.out.bytes a w12 LA.out.1 LA.out.2 HI.out).mono ?_
            rintro e w13 ⟨v13, rfl, y13, hb⟩
            have B13 := Lib.hid (B12.out.trans (hb.mono B12.out.size))
            have Y13 := Lib.hid y13
            refine hK.out _ _ hb ?_
            clear hK K' hb X12 Y12 B12 y13
            have r13 : ∀ w', Below w13.heap.size w13 w' → (convert 27 9 v13).run Try.prog w' = .ok (.string ⟨(bytesE a).toArray⟩) w' := fun w' h => conv_bytes (Y13.out.below h)
            refine reg_take (i := 13) (v := ?_) rfl (by kernel_rfl) (by kernel_rfl) (by kernel_rfl) (fun _ _ _ h => h) (by rfl) ?hy13 ?_
            case hy13 => intro w' hw'; go_simp; (try with_reducible rfl)
            simp only [Act.put, List.setIfInBounds_toArray, List.set_cons_zero, List.set_cons_succ]
            refine reg_call (i := 15) rfl (by kernel_rfl) (fun K' hK => ?_)
            go_simp
            refine (HH.out.bytes c w13 LC.out.1 LC.out.2 HJ.out).mono ?_
            rintro e w14 ⟨v14, rfl, y14, hb⟩
            have B14 := Lib.hid (B13.out.trans (hb.mono B13.out.size))
            have Y14 := Lib.hid y14
            refine hK.out _ _ hb ?_
            clear hK K' hb B13 y14 r13 Y13
            have r14 : ∀ w', Below w14.heap.size w14 w' → (convert 27 9 v14).run Try.prog w' = .ok (.string ⟨(bytesE c).toArray⟩) w' := fun w' h => conv_bytes (Y14.out.below h)
            refine reg_take (i := 16) (v := ?_) rfl (by kernel_rfl) (by kernel_rfl) (by kernel_rfl) (fun _ _ _ h => h) (by rfl) ?hy16 ?_
            case hy16 => intro w' hw'; go_simp; (try with_reducible rfl)
            simp only [Act.put, List.setIfInBounds_toArray, List.set_cons_zero, List.set_cons_succ]
            refine reg_take (i := 17) (v := ?_) rfl (by kernel_rfl) (by kernel_rfl) (by kernel_rfl) (fun _ _ _ h => h) (by rfl) ?hy17 ?_
            case hy17 => intro w' hw'; go_simp; (try with_reducible rfl)
            simp only [Act.put, List.setIfInBounds_toArray, List.set_cons_zero, List.set_cons_succ]
            refine reg_take (i := 21) (v := ?_) rfl (by kernel_rfl) (by kernel_rfl) (by kernel_rfl) (fun _ _ _ h => h) (by rfl) ?hy21 ?_
            case hy21 => intro w' hw'; go_simp; (try with_reducible rfl)
            simp only [Act.put, List.setIfInBounds_toArray, List.set_cons_zero, List.set_cons_succ]
            refine reg_take (i := 22) (v := ?_) rfl (by kernel_rfl) (by kernel_rfl) (by kernel_rfl) (fun _ _ _ h => h) (by rfl) ?hy22 ?_
            case hy22 => intro w' hw'; go_simp; (try with_reducible rfl)
            simp only [Act.put, List.setIfInBounds_toArray, List.set_cons_zero, List.set_cons_succ]
            refine reg_take (i := 23) (v := ?_) rfl (by kernel_rfl) (by kernel_rfl) (by kernel_rfl) (fun _ _ _ h => h) (by rfl) ?hy23 ?_
            case hy23 => intro w' hw'; go_simp; (try with_reducible rfl)
            simp only [Act.put, List.setIfInBounds_toArray, List.set_cons_zero, List.set_cons_succ]
            refine reg_end (by kernel_rfl) ?_
            clear r14 Y14 RA RC RB RE LA LC hs hs2 hq
            go_wp2_with fail
            have CR := Lib.hid (HH.out.read A n cap b w14 (by omega) (HB.out.below B14.out))
            go_wp2_with fail
            refine CR.out.mono ?_
            rintro e t1 ⟨rfl, hb⟩
            have T1 := Lib.hid (B14.out.trans (hb.mono B14.out.size))
            clear hb CR B14
            go_wp2_with (refine wpList_alloc_row rfl 24 rfl ent0.cells ent_zero ?_)
            intro t2 tb2 tx2 tz2
            have U2 : Hid (Whole t2 t1.heap.size 24 ent0.cells) := Lib.hid tx2
            have T2 := Lib.hid (T1.out.trans (tb2.mono T1.out.size))
            have V2 := Lib.hid T1.out.size
            obtain ⟨y, hy⟩ : ∃ y, y = t1.heap.size := ⟨_, rfl⟩
            rw [← hy] at U2 V2 ⊢
            clear tb2 tx2 tz2 T1 hy
            by_cases hX : readX b = 0
            · have hE : readE b = entP b := by rw [readE, if_pos hX]
              obtain ⟨q1, q2, q3⟩ := read_was b hX
              rw [hX, hE]
              have Q := Lib.hid (And.intro q1 (And.intro q2 q3))
              obtain ⟨E, hE2⟩ : ∃ E, E = entP b := ⟨_, rfl⟩
              rw [← hE2] at Q ⊢
              clear hX hE q1 q2 q3 hE2
              go_wp2_with (with_reducible refine wpList_store_whole rfl 24 _ _ rfl y E.cells (by with_unfolding_all exact rfl) (by with_unfolding_all exact rfl) _ _ U2.out (ent_size' _) rfl (Ent.cells_one _) ?_)
              intro t3 tg3 tx3 tz3
              have U3 : Hid (EntAt t3 y E) := Lib.hid tx3
              have T3 := Lib.hid (T2.out.grown tg3 T2.out.size (fun k hk => by injection hk with hk; have := V2.out; omega))
              clear tg3 tx3 tz3 U2 T2 V2
              go_wp2_with fail
              refine reg_begin (by kernel_rfl) fun t4 hb hz => ?_
              have U4 : Hid (EntAt t4 y E) := Lib.hid (Whole.below U3.out hb U3.out.lt)
              have T4 := Lib.hid (T3.out.trans (hb.mono T3.out.size))
              clear hb hz U3 T3
              refine reg_take (i := 0) (v := E.val) rfl (by kernel_rfl) (by kernel_rfl) (by kernel_rfl) (fun _ _ _ h => h) (by rfl) ?hy0 ?_
              case hy0 => intro w' hw'; exact exec_load_ent _ rfl y rfl E w' (Whole.below U4.out hw' U4.out.lt)
              simp only [Act.put, List.setIfInBounds_toArray, List.set_cons_zero, List.set_cons_succ]
              refine reg_call (i := 1) rfl (by kernel_rfl) (fun K' hK => ?_)
              go_simp
              refine (HH.out.right E t4).mono ?_
              rw [Q.out.1]
              rintro e t5 ⟨rfl, hb⟩
              have U5 : Hid (EntAt t5 y E) := Lib.hid (Whole.below U4.out hb U4.out.lt)
              have T5 := Lib.hid (T4.out.trans (hb.mono T4.out.size))
              refine hK.out _ _ hb ?_
              clear hK K' hb U4 T4
              have rb : ∀ w', Below t5.heap.size t5 w' → (convert 27 9 (.slice A n cap)).run Try.prog w' = .ok (.string ⟨b.toArray⟩) w' := fun w' h => conv_bytes ((HB.out.below T5.out).below h)
              refine reg_take (i := 2) (v := ?_) rfl (by kernel_rfl) (by kernel_rfl) (by kernel_rfl) (fun _ _ _ h => h) (by rfl) ?hy2 ?_
              case hy2 => intro w' hw'; go_simp; (try with_reducible rfl)
              simp only [Act.put, List.setIfInBounds_toArray, List.set_cons_zero, List.set_cons_succ]
              refine reg_take (i := 6) (v := ?_) rfl (by kernel_rfl) (by kernel_rfl) (by kernel_rfl) (fun _ _ _ h => h) (by rfl) ?hy6 ?_
              case hy6 => intro w' hw'; go_simp; (try with_reducible rfl)
              simp only [Act.put, List.setIfInBounds_toArray, List.set_cons_zero, List.set_cons_succ]
              refine reg_take (i := 7) (v := ?_) rfl (by kernel_rfl) (by kernel_rfl) (by kernel_rfl) (fun _ _ _ h => h) (by rfl) ?hy7 ?_
              case hy7 => intro w' hw'; go_simp; (try with_reducible rfl)
              simp only [Act.put, List.setIfInBounds_toArray, List.set_cons_zero, List.set_cons_succ]
              refine reg_take (i := 3) (v := E.val) rfl (by kernel_rfl) (by kernel_rfl) (by kernel_rfl) (fun _ _ _ h => h) (by rfl) ?hy3 ?_
              case hy3 => intro w' hw'; exact exec_load_ent _ rfl y rfl E w' (Whole.below U5.out hw' U5.out.lt)
              simp only [Act.put, List.setIfInBounds_toArray, List.set_cons_zero, List.set_cons_succ]
              refine reg_call (i := 4) rfl (by kernel_rfl) (fun K' hK => ?_)
              go_simp
              refine (HH.out.bytes E t5 (by have := name_short (entR_parts Q.out.1).1; omega) (by have := (entR_parts Q.out.1).2.1; omega) Q.out.2.2).mono ?_
              rw [Q.out.2.1]
              rintro e t6 ⟨v6, rfl, y6, hb⟩
              have T6 := Lib.hid (T5.out.trans (hb.mono T5.out.size))
              have Y6 := Lib.hid y6
              refine hK.out _ _ hb ?_
              clear hK K' hb U5 T5 y6 rb
              have r6 : ∀ w', Below t6.heap.size t6 w' → (convert 27 9 v6).run Try.prog w' = .ok (.string ⟨b.toArray⟩) w' := fun w' h => conv_bytes (Y6.out.below h)
              refine reg_take (i := 5) (v := ?_) rfl (by kernel_rfl) (by kernel_rfl) (by kernel_rfl) (fun _ _ _ h => h) (by rfl) ?hy5 ?_
              case hy5 => intro w' hw'; go_simp; (try with_reducible rfl)
              simp only [Act.put, List.setIfInBounds_toArray, List.set_cons_zero, List.set_cons_succ]
              refine reg_take (i := 8) (v := ?_) rfl (by kernel_rfl) (by kernel_rfl) (by kernel_rfl) (fun _ _ _ h => h) (by rfl) ?hy8 ?_
              case hy8 => intro w' hw'; go_simp; (try with_reducible rfl)
              simp only [Act.put, List.setIfInBounds_toArray, List.set_cons_zero, List.set_cons_succ]
              refine reg_take (i := 9) (v := ?_) rfl (by kernel_rfl) (by kernel_rfl) (by kernel_rfl) (fun _ _ _ h => h) (by rfl) ?hy9 ?_
              case hy9 => intro w' hw'; go_simp; (try with_reducible rfl)
              simp only [Act.put, List.setIfInBounds_toArray, List.set_cons_zero, List.set_cons_succ]
              refine reg_take (i := 10) (v := ?_) rfl (by kernel_rfl) (by kernel_rfl) (by kernel_rfl) (fun _ _ _ h => h) (by rfl) ?hy10 ?_
              case hy10 => intro w' hw'; go_simp; (try with_reducible rfl)
              simp only [Act.put, List.setIfInBounds_toArray, List.set_cons_zero, List.set_cons_succ]
              refine reg_end (by kernel_rfl) ?_
              go_wp2
              go_ret
              exact ⟨rfl, T6.out⟩
            · have hE := read_zero hX
              rw [hE]
              obtain ⟨X, hX2⟩ : ∃ X, X = readX b := ⟨_, rfl⟩
              rw [← hX2] at hX ⊢
              have dX : (X != 0) = true := by simpa using hX
              clear hE hX2 hX
              go_wp2_with (with_reducible refine wpList_store_whole rfl 24 _ _ rfl y ent0.cells (by with_unfolding_all exact rfl) (by with_unfolding_all exact rfl) _ _ U2.out (ent_size' _) rfl (Ent.cells_one _) ?_)
              intro t3 tg3 tx3 tz3
              have U3 : Hid (EntAt t3 y ent0) := Lib.hid tx3
              have T3 := Lib.hid (T2.out.grown tg3 T2.out.size (fun k hk => by injection hk with hk; have := V2.out; omega))
              clear tg3 tx3 tz3 U2 T2 V2
              obtain ⟨a0, a1, a2, a3, a4, a5⟩ := U3.out.six
              go_wp2
              go_ret
              exact ⟨rfl, T3.out⟩
end Go.Proofs.Ytkhiejdceefgfaa
