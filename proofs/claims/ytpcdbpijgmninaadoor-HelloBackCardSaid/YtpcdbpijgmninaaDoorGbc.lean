/- Package hello, as landed: what may be, and how it is written. An entry that is read into memory, a reader beside it: what each step leaves. -/
import Derived.Test.YtpcdbpijgmninaaDoorGr
import Derived.Test.YtpcdbpijgmninaaDoorGbb
import Derived.Test.YtpcdbpijgmninaaDoorGx
import Derived.Test.YtpcdbpijgmninaaDoorGl
namespace Go.Proofs.YtpcdbpijgmninaaDoor
set_option maxRecDepth 100000
open Go.RowKit

set_option maxRecDepth 100000 in
set_option maxHeartbeats 1000000 in
theorem heRightHello_any (x : Hel) (w : World) :
    Calls Tryd.prog 41 #[x.val] w fun e w' => e = .returned (.bool (rightH x)) ∧ Below w.heap.size w w' := by
  have CN := fun w => Lib.hid (labelName_any x.dest w)
  have CR := fun w => Lib.hid (right_any x.entry w)
  have HE : Hid (rightH x = (nameB x.dest && decide (x.nonce ≠ 0) && entR x.entry && decide (x.tag.length = 32))) := Lib.hid rfl
  obtain ⟨b0, h0⟩ : ∃ b, b = nameB x.dest := ⟨_, rfl⟩
  obtain ⟨b1, h1⟩ : ∃ b, b = decide (x.nonce ≠ 0) := ⟨_, rfl⟩
  obtain ⟨b2, h2⟩ : ∃ b, b = entR x.entry := ⟨_, rfl⟩
  obtain ⟨b3, h3⟩ : ∃ b, b = decide (x.tag.length = 32) := ⟨_, rfl⟩
  simp only [← h0] at CN
  simp only [← h2] at CR
  rw [← h0, ← h1, ← h2, ← h3] at HE
  have p1 : ((x.nonce : Int) != 0) = b1 := by rw [h1, Bool.eq_iff_iff, bne_iff_ne, decide_eq_true_eq]; omega
  have p2 : (x.nonce != 0) = b1 := by rw [h1, Bool.eq_iff_iff, bne_iff_ne, decide_eq_true_eq]
  have p3 : (!decide (x.nonce = 0)) = b1 := by rw [h1]; simp
  have q1 : ((x.tag.length : Int) == 32) = b3 := by rw [h3, Bool.eq_iff_iff, beq_iff_eq, decide_eq_true_eq]; omega
  have q2 : (x.tag.length == 32) = b3 := by rw [h3, Bool.eq_iff_iff, beq_iff_eq, decide_eq_true_eq]
  have q3 : decide ((x.tag.length : Int) = 32) = b3 := by rw [h3, Bool.eq_iff_iff, decide_eq_true_eq, decide_eq_true_eq]; omega
  clear h0 h1 h2 h3
  go_enter Tryd.func41, Tryd.ntmps41
  go_wp2_with (refine wpList_box_row rfl 26 _ rfl x.enc.toArray (by with_unfolding_all exact rfl) ?_)
  intro w1 b1 x1 z1
  obtain ⟨gX, hgX⟩ : ∃ g, g = w.heap.size := ⟨_, rfl⟩
  have M_X := Lib.hid (show w.heap.size ≤ gX from by rw [hgX]; exact Nat.le_refl _)
  have B1 := Lib.hid b1
  rw [← hgX] at x1 ⊢
  have X1 : Hid (Hel.At w1 gX x) := Lib.hid x1
  clear b1 x1 z1 hgX 
  have c0 := Hel.At.at_dest X1.out
  go_wp2_with (first | (with_reducible refine wpList_load_whole Hel.isRec rfl _ rfl gX (by with_unfolding_all exact rfl) _ _ (Hel.len _) X1.out ?_) | (with_reducible refine wpList_load_rec Ent.isRec rfl _ rfl gX 2 (by with_unfolding_all exact rfl) _ (Ent.len _) (Hel.At.part_entry X1.out) ?_))
  refine ((CN w1).out).mono ?_
  rintro e2 w2 ⟨rfl, b2⟩
  have X2 : Hid (Hel.At w2 gX x) := Lib.hid (Whole.below X1.out b2 X1.out.lt)
  have B2 := Lib.hid (B1.out.trans (b2.mono B1.out.size))
  clear b2 X1 B1
  clear c0 CN
  cases b0 with
  | false =>
    go_wp2
    go_ret
    exact ⟨by rw [HE.out]; rfl, B2.out⟩
  | true =>
    have c1 := Hel.At.at_nonce X2.out
    cases b1 with
    | false =>
      go_wp2
      go_ret
      exact ⟨by rw [HE.out]; rfl, B2.out⟩
    | true =>
      go_wp2_with (first | (with_reducible refine wpList_load_whole Hel.isRec rfl _ rfl gX (by with_unfolding_all exact rfl) _ _ (Hel.len _) X2.out ?_) | (with_reducible refine wpList_load_rec Ent.isRec rfl _ rfl gX 2 (by with_unfolding_all exact rfl) _ (Ent.len _) (Hel.At.part_entry X2.out) ?_) | (with_reducible refine wpList_load_rec_w Ent.isRec (by kernel_rfl) _ rfl gX 2 (by with_unfolding_all exact rfl) _ (Ent.len _) (Hel.At.part_entry X2.out) ?_))
      refine ((CR w2).out).mono ?_
      rintro e3 w3 ⟨rfl, b3⟩
      have X3 : Hid (Hel.At w3 gX x) := Lib.hid (Whole.below X2.out b3 X2.out.lt)
      have B3 := Lib.hid (B2.out.trans (b3.mono B2.out.size))
      clear b3 X2 B2
      clear c1 CR p1 p2 p3
      cases b2 with
      | false =>
        go_wp2
        go_ret
        exact ⟨by rw [HE.out]; rfl, B3.out⟩
      | true =>
        have c2 := Hel.At.at_tag X3.out
        cases b3
        all_goals
          go_wp2
          go_ret
          exact ⟨by rw [HE.out]; rfl, B3.out⟩

set_option maxRecDepth 100000 in
set_option maxHeartbeats 1000000 in
theorem heRightWelcome_any (x : Wel) (w : World) :
    Calls Tryd.prog 45 #[x.val] w fun e w' => e = .returned (.bool (rightW x)) ∧ Below w.heap.size w w' := by
  have CR := fun w => Lib.hid (right_any x.entry w)
  have HE : Hid (rightW x = (decide (x.fst ≠ 0) && decide (x.snd ≠ 0) && entR x.entry && decide (x.tag.length = 32))) := Lib.hid rfl
  obtain ⟨b0, h0⟩ : ∃ b, b = decide (x.fst ≠ 0) := ⟨_, rfl⟩
  obtain ⟨b1, h1⟩ : ∃ b, b = decide (x.snd ≠ 0) := ⟨_, rfl⟩
  obtain ⟨b2, h2⟩ : ∃ b, b = entR x.entry := ⟨_, rfl⟩
  obtain ⟨b3, h3⟩ : ∃ b, b = decide (x.tag.length = 32) := ⟨_, rfl⟩
  simp only [← h2] at CR
  rw [← h0, ← h1, ← h2, ← h3] at HE
  have o1 : ((x.fst : Int) != 0) = b0 := by rw [h0, Bool.eq_iff_iff, bne_iff_ne, decide_eq_true_eq]; omega
  have o2 : (x.fst != 0) = b0 := by rw [h0, Bool.eq_iff_iff, bne_iff_ne, decide_eq_true_eq]
  have o3 : (!decide (x.fst = 0)) = b0 := by rw [h0]; simp
  have p1 : ((x.snd : Int) != 0) = b1 := by rw [h1, Bool.eq_iff_iff, bne_iff_ne, decide_eq_true_eq]; omega
  have p2 : (x.snd != 0) = b1 := by rw [h1, Bool.eq_iff_iff, bne_iff_ne, decide_eq_true_eq]
  have p3 : (!decide (x.snd = 0)) = b1 := by rw [h1]; simp
  have q1 : ((x.tag.length : Int) == 32) = b3 := by rw [h3, Bool.eq_iff_iff, beq_iff_eq, decide_eq_true_eq]; omega
  have q2 : (x.tag.length == 32) = b3 := by rw [h3, Bool.eq_iff_iff, beq_iff_eq, decide_eq_true_eq]
  have q3 : decide ((x.tag.length : Int) = 32) = b3 := by rw [h3, Bool.eq_iff_iff, decide_eq_true_eq, decide_eq_true_eq]; omega
  clear h0 h1 h2 h3
  go_enter Tryd.func45, Tryd.ntmps45
  go_wp2_with (refine wpList_box_row rfl 28 _ rfl x.enc.toArray (by with_unfolding_all exact rfl) ?_)
  intro w1 b1 x1 z1
  obtain ⟨gX, hgX⟩ : ∃ g, g = w.heap.size := ⟨_, rfl⟩
  have M_X := Lib.hid (show w.heap.size ≤ gX from by rw [hgX]; exact Nat.le_refl _)
  have B1 := Lib.hid b1
  rw [← hgX] at x1 ⊢
  have X1 : Hid (Wel.At w1 gX x) := Lib.hid x1
  clear b1 x1 z1 hgX 
  have c0 := Wel.At.at_fst X1.out
  have c1 := Wel.At.at_snd X1.out
  cases b0 with
  | false =>
    go_wp2
    go_ret
    exact ⟨by rw [HE.out]; rfl, B1.out⟩
  | true =>
    cases b1 with
    | false =>
      go_wp2
      go_ret
      exact ⟨by rw [HE.out]; rfl, B1.out⟩
    | true =>
      go_wp2_with (first | (with_reducible refine wpList_load_whole Wel.isRec rfl _ rfl gX (by with_unfolding_all exact rfl) _ _ (Wel.len _) X1.out ?_) | (with_reducible refine wpList_load_rec Ent.isRec rfl _ rfl gX 2 (by with_unfolding_all exact rfl) _ (Ent.len _) (Wel.At.part_entry X1.out) ?_) | (with_reducible refine wpList_load_rec_w Ent.isRec (by kernel_rfl) _ rfl gX 2 (by with_unfolding_all exact rfl) _ (Ent.len _) (Wel.At.part_entry X1.out) ?_))
      refine ((CR w1).out).mono ?_
      rintro e2 w2 ⟨rfl, b2⟩
      have X2 : Hid (Wel.At w2 gX x) := Lib.hid (Whole.below X1.out b2 X1.out.lt)
      have B2 := Lib.hid (B1.out.trans (b2.mono B1.out.size))
      clear b2 X1 B1
      clear c0 c1 CR o1 o2 o3 p1 p2 p3
      cases b2 with
      | false =>
        go_wp2
        go_ret
        exact ⟨by rw [HE.out]; rfl, B2.out⟩
      | true =>
        have c2 := Wel.At.at_tag X2.out
        cases b3
        all_goals
          go_wp2
          go_ret
          exact ⟨by rw [HE.out]; rfl, B2.out⟩

set_option maxRecDepth 100000 in
set_option maxHeartbeats 2000000 in
theorem hePutHello_any (x : Hel) (w : World) :
    Calls Tryd.prog 18 #[x.val] w fun e w' => ∃ v', e = .returned (.tuple #[v', .int .i64 (if rightH x then 0 else 2)]) ∧ BytesAt w' v' (if rightH x then helloB x else []) ∧ Below w.heap.size w w' := by
  have CR := fun w => Lib.hid (heRightHello_any x w)
  cases hr : rightH x with
  | false =>
    rw [hr] at CR
    clear hr
    go_enter Tryd.func18, Tryd.ntmps18
    go_wp2_with (refine wpList_box_row rfl 26 _ rfl x.enc.toArray (by with_unfolding_all exact rfl) ?_)
    intro w1 b1 x1 z1
    obtain ⟨gX, hgX⟩ : ∃ g, g = w.heap.size := ⟨_, rfl⟩
    have M_X := Lib.hid (show w.heap.size ≤ gX from by rw [hgX]; exact Nat.le_refl _)
    have B1 := Lib.hid b1
    rw [← hgX] at x1 ⊢
    have X1 : Hid (Hel.At w1 gX x) := Lib.hid x1
    clear b1 x1 z1 hgX 
    go_wp2_with (first | (with_reducible refine wpList_load_whole Hel.isRec rfl _ rfl gX (by with_unfolding_all exact rfl) _ _ (Hel.len _) X1.out ?_) | (with_reducible refine wpList_load_rec Ent.isRec rfl _ rfl gX 2 (by with_unfolding_all exact rfl) _ (Ent.len _) (Hel.At.part_entry X1.out) ?_))
    refine ((CR w1).out).mono ?_
    rintro e2 w2 ⟨rfl, b2⟩
    have X2 : Hid (Hel.At w2 gX x) := Lib.hid (Whole.below X1.out b2 X1.out.lt)
    have B2 := Lib.hid (B1.out.trans (b2.mono B1.out.size))
    clear b2 X1 B1
    go_wp2
    go_ret2
    exact ⟨_, rfl, BytesAt.nil _, B2.out⟩
  | true =>
    rw [hr] at CR
    obtain ⟨q1, -, q3, q4⟩ := rightH_parts hr
    obtain ⟨p1, p2, -⟩ := entR_parts q3
    have e1 := name_short q1
    have e2 := name_short p1
    have LP := Lib.hid (greetP_less x.dest x.nonce x.entry (by omega) (by omega) (by omega))
    have HD := Lib.hid (show x.dest.length ≤ 140737488355328 by omega)
    have HN := Lib.hid (show x.entry.name.length ≤ 140737488355328 by omega)
    have HT := Lib.hid (show x.entry.tag.length ≤ 140737488355328 by omega)
    have HL := Lib.hid q4
    have HG : Hid (helloB x = [1] ++ greetP x.dest x.nonce x.entry ++ x.tag) := Lib.hid rfl
    have CG := fun B v w h hB => Lib.hid (heGreeting_any B v [1] x w (.inl h) hB (by decide) HD.out HN.out HT.out)
    have CK := fun w => Lib.hid (heKind_any 1 (by decide) w)
    generalize greetP x.dest x.nonce x.entry = G at *
    generalize helloB x = R at *
    clear hr q1 q3 q4 p1 p2 e1 e2
    go_enter Tryd.func18, Tryd.ntmps18
    go_wp2_with (refine wpList_box_row rfl 26 _ rfl x.enc.toArray (by with_unfolding_all exact rfl) ?_)
    intro w1 b1 x1 z1
    obtain ⟨gX, hgX⟩ : ∃ g, g = w.heap.size := ⟨_, rfl⟩
    have M_X := Lib.hid (show w.heap.size ≤ gX from by rw [hgX]; exact Nat.le_refl _)
    have B1 := Lib.hid b1
    rw [← hgX] at x1 ⊢
    have X1 : Hid (Hel.At w1 gX x) := Lib.hid x1
    clear b1 x1 z1 hgX 
    go_wp2_with (first | (with_reducible refine wpList_load_whole Hel.isRec rfl _ rfl gX (by with_unfolding_all exact rfl) _ _ (Hel.len _) X1.out ?_) | (with_reducible refine wpList_load_rec Ent.isRec rfl _ rfl gX 2 (by with_unfolding_all exact rfl) _ (Ent.len _) (Hel.At.part_entry X1.out) ?_))
    refine ((CR w1).out).mono ?_
    rintro e2 w2 ⟨rfl, b2⟩
    have X2 : Hid (Hel.At w2 gX x) := Lib.hid (Whole.below X1.out b2 X1.out.lt)
    have B2 := Lib.hid (B1.out.trans (b2.mono B1.out.size))
    clear b2 X1 B1
    go_wp2_with fail
    obtain ⟨W0, hW0⟩ : ∃ W0, W0 = w2.drew := ⟨_, rfl⟩
    have X0 : Hid (Hel.At W0 gX x) := Lib.hid (by rw [hW0]; exact X2.out)
    have B0 : Hid (Below w.heap.size w W0) := Lib.hid (by rw [hW0]; exact B2.out.drew)
    have Z0 := Lib.hid X0.out.lt
    refine regS_begin (fun w' => Below W0.heap.size W0 w') (by kernel_rfl) (by rw [← hW0]; exact Below.refl _ _) ?_
    have hS : Below W0.heap.size W0 W0 := Below.refl _ _
    rw [← hW0]
    clear hW0
    refine regS_take (i := 1) (v := x.val) rfl (by kernel_rfl) (by kernel_rfl) (by kernel_rfl) (fun _ _ _ h => h) (by rfl) hS ?hy1 ?_
    case hy1 => intro w' hw'; exact exec_load_whole Hel.isRec _ rfl gX rfl _ _ (Hel.len _) w' (Whole.below X0.out hw' Z0.out)
    simp only [Act.put, List.setIfInBounds_toArray, List.set_cons_zero, List.set_cons_succ]
    refine regS_take (i := 3) (v := ?_) rfl (by kernel_rfl) (by kernel_rfl) (by kernel_rfl) (fun _ _ _ h => h) (by rfl) hS ?hy3 ?_
    case hy3 => intro w' hw'; go_simp; (try with_reducible rfl)
    simp only [Act.put, List.setIfInBounds_toArray, List.set_cons_zero, List.set_cons_succ]
    refine regS_take (i := 4) (v := .string ⟨x.tag.toArray⟩) rfl (by kernel_rfl) (by kernel_rfl) (by kernel_rfl) (fun _ _ _ h => h) (by rfl) hS ?hy4 ?_
    case hy4 => intro w' hw'; have c := Hel.At.at_tag (Whole.below X0.out hw' Z0.out); go_simp; (try with_reducible rfl)
    simp only [Act.put, List.setIfInBounds_toArray, List.set_cons_zero, List.set_cons_succ]
    refine regS_do (i := 0) rfl (by kernel_rfl) (fun K' hK => ?_)
    go_simp
    refine (CK W0).out.mono ?_
    rintro e wa ⟨va, rfl, oa, ba⟩
    refine hK.out _ _ ba ?_
    clear hK K'
    have ca := CG W0.heap.size va wa oa ba.size
    refine regS_do (i := 2) rfl (by kernel_rfl) (fun K' hK => ?_)
    go_simp
    refine ca.out.mono ?_
    rintro e wb ⟨vb, rfl, ob, mb⟩
    have bb : Below W0.heap.size W0 wb := ba.trans (mb.keeps.below (fun i hi => (oa.lt i hi).1) ba.size)
    refine hK.out _ _ bb ?_
    clear hK K' ca mb
    refine regS_do (i := 5) rfl (by kernel_rfl) (fun K' hK => ?_)
    try rw [if_pos (by rfl)]
    refine wp_append_text _ _ rfl W0.heap.size _ _ _ rfl ob x.tag rfl (by have := HL.out; have := LP.out; rw [List.length_append]; have : ([UInt8.ofNat 1] : List UInt8).length = 1 := rfl; simp only [List.length_cons, List.length_nil]; omega) bb.size ?_
    intro vc wc oc gc
    have bc : Below W0.heap.size W0 wc := bb.grown gc bb.size (fun k hk => (ob.lt k hk).1)
    have yc : BytesAt wc vc R := BytesAt.of_own (base := W0.heap.size) (by rw [HG.out, List.length_append, bv_append]; exact oc)
    refine hK.out _ _ bc ?_
    clear hK K' oc gc ob bb oa ba
    have hS := bc
    refine regS_take (i := 6) (v := ?_) rfl (by kernel_rfl) (by kernel_rfl) (by kernel_rfl) (fun _ _ _ h => h) (by rfl) hS ?hy6 ?_
    case hy6 => intro w' hw'; go_simp; (try with_reducible rfl)
    simp only [Act.put, List.setIfInBounds_toArray, List.set_cons_zero, List.set_cons_succ]
    refine regS_take (i := 7) (v := ?_) rfl (by kernel_rfl) (by kernel_rfl) (by kernel_rfl) (fun _ _ _ h => h) (by rfl) hS ?hy7 ?_
    case hy7 => intro w' hw'; go_simp; (try with_reducible rfl)
    simp only [Act.put, List.setIfInBounds_toArray, List.set_cons_zero, List.set_cons_succ]
    refine regS_end (by kernel_rfl) ?_
    have YC := Lib.hid yc
    have BC := Lib.hid (B0.out.trans (bc.mono B0.out.size))
    clear hS bc yc
    go_wp2
    go_ret2
    exact ⟨_, rfl, YC.out, BC.out⟩

set_option maxRecDepth 100000 in
set_option maxHeartbeats 2000000 in
theorem hePutWelcome_any (x : Wel) (w : World) :
    Calls Tryd.prog 20 #[x.val] w fun e w' => ∃ v', e = .returned (.tuple #[v', .int .i64 (if rightW x then 0 else 2)]) ∧ BytesAt w' v' (if rightW x then welcB x else []) ∧ Below w.heap.size w w' := by
  have CR := fun w => Lib.hid (heRightWelcome_any x w)
  cases hr : rightW x with
  | false =>
    rw [hr] at CR
    clear hr
    go_enter Tryd.func20, Tryd.ntmps20
    go_wp2_with (refine wpList_box_row rfl 28 _ rfl x.enc.toArray (by with_unfolding_all exact rfl) ?_)
    intro w1 b1 x1 z1
    obtain ⟨gX, hgX⟩ : ∃ g, g = w.heap.size := ⟨_, rfl⟩
    have M_X := Lib.hid (show w.heap.size ≤ gX from by rw [hgX]; exact Nat.le_refl _)
    have B1 := Lib.hid b1
    rw [← hgX] at x1 ⊢
    have X1 : Hid (Wel.At w1 gX x) := Lib.hid x1
    clear b1 x1 z1 hgX 
    go_wp2_with (first | (with_reducible refine wpList_load_whole Wel.isRec rfl _ rfl gX (by with_unfolding_all exact rfl) _ _ (Wel.len _) X1.out ?_) | (with_reducible refine wpList_load_rec Ent.isRec rfl _ rfl gX 2 (by with_unfolding_all exact rfl) _ (Ent.len _) (Wel.At.part_entry X1.out) ?_))
    refine ((CR w1).out).mono ?_
    rintro e2 w2 ⟨rfl, b2⟩
    have X2 : Hid (Wel.At w2 gX x) := Lib.hid (Whole.below X1.out b2 X1.out.lt)
    have B2 := Lib.hid (B1.out.trans (b2.mono B1.out.size))
    clear b2 X1 B1
    go_wp2
    go_ret2
    exact ⟨_, rfl, BytesAt.nil _, B2.out⟩
  | true =>
    rw [hr] at CR
    obtain ⟨-, -, q3, q4⟩ := rightW_parts hr
    obtain ⟨p1, p2, -⟩ := entR_parts q3
    have e2 := name_short p1
    have LP := Lib.hid (textE_most x.entry)
    have HN := Lib.hid (show x.entry.name.length ≤ 140737488355328 by omega)
    have HT := Lib.hid (show x.entry.tag.length ≤ 140737488355328 by omega)
    have HL := Lib.hid q4
    have HG : Hid (welcB x = [2] ++ be 8 x.fst ++ be 8 x.snd ++ textE x.entry ++ x.tag) := Lib.hid rfl
    have CG := fun B v w h hB => Lib.hid (heNonces_any B v [2] x w (.inl h) hB (by decide))
    have CE := fun B v w h hB => Lib.hid (heEntry_any B v ([2] ++ be 8 x.fst ++ be 8 x.snd) x.entry w h hB (by simp [be_length]) HN.out HT.out)
    have CK := fun w => Lib.hid (heKind_any 2 (by decide) w)
    generalize textE x.entry = G at *
    generalize welcB x = R at *
    clear hr q3 q4 p1 p2 e2
    go_enter Tryd.func20, Tryd.ntmps20
    go_wp2_with (refine wpList_box_row rfl 28 _ rfl x.enc.toArray (by with_unfolding_all exact rfl) ?_)
    intro w1 b1 x1 z1
    obtain ⟨gX, hgX⟩ : ∃ g, g = w.heap.size := ⟨_, rfl⟩
    have M_X := Lib.hid (show w.heap.size ≤ gX from by rw [hgX]; exact Nat.le_refl _)
    have B1 := Lib.hid b1
    rw [← hgX] at x1 ⊢
    have X1 : Hid (Wel.At w1 gX x) := Lib.hid x1
    clear b1 x1 z1 hgX 
    go_wp2_with (first | (with_reducible refine wpList_load_whole Wel.isRec rfl _ rfl gX (by with_unfolding_all exact rfl) _ _ (Wel.len _) X1.out ?_) | (with_reducible refine wpList_load_rec Ent.isRec rfl _ rfl gX 2 (by with_unfolding_all exact rfl) _ (Ent.len _) (Wel.At.part_entry X1.out) ?_))
    refine ((CR w1).out).mono ?_
    rintro e2 w2 ⟨rfl, b2⟩
    have X2 : Hid (Wel.At w2 gX x) := Lib.hid (Whole.below X1.out b2 X1.out.lt)
    have B2 := Lib.hid (B1.out.trans (b2.mono B1.out.size))
    clear b2 X1 B1
    go_wp2_with fail
    obtain ⟨W0, hW0⟩ : ∃ W0, W0 = w2.drew := ⟨_, rfl⟩
    have X0 : Hid (Wel.At W0 gX x) := Lib.hid (by rw [hW0]; exact X2.out)
    have B0 : Hid (Below w.heap.size w W0) := Lib.hid (by rw [hW0]; exact B2.out.drew)
    have Z0 := Lib.hid X0.out.lt
    refine regS_begin (fun w' => Below W0.heap.size W0 w') (by kernel_rfl) (by rw [← hW0]; exact Below.refl _ _) ?_
    have hS : Below W0.heap.size W0 W0 := Below.refl _ _
    rw [← hW0]
    clear hW0
    refine regS_take (i := 1) (v := x.val) rfl (by kernel_rfl) (by kernel_rfl) (by kernel_rfl) (fun _ _ _ h => h) (by rfl) hS ?hy1 ?_
    case hy1 => intro w' hw'; exact exec_load_whole Wel.isRec _ rfl gX rfl _ _ (Wel.len _) w' (Whole.below X0.out hw' Z0.out)
    simp only [Act.put, List.setIfInBounds_toArray, List.set_cons_zero, List.set_cons_succ]
    refine regS_take (i := 3) (v := ?_) rfl (by kernel_rfl) (by kernel_rfl) (by kernel_rfl) (fun _ _ _ h => h) (by rfl) hS ?hy3 ?_
    case hy3 => intro w' hw'; go_simp; (try with_reducible rfl)
    simp only [Act.put, List.setIfInBounds_toArray, List.set_cons_zero, List.set_cons_succ]
    refine regS_take (i := 4) (v := x.entry.val) rfl (by kernel_rfl) (by kernel_rfl) (by kernel_rfl) (fun _ _ _ h => h) (by rfl) hS ?hy4 ?_
    case hy4 => intro w' hw'; exact exec_load_rec Ent.isRec _ rfl gX 2 rfl _ (Ent.len _) w' (Wel.At.part_entry (Whole.below X0.out hw' Z0.out))
    simp only [Act.put, List.setIfInBounds_toArray, List.set_cons_zero, List.set_cons_succ]
    refine regS_do (i := 0) rfl (by kernel_rfl) (fun K' hK => ?_)
    go_simp
    refine (CK W0).out.mono ?_
    rintro e wa ⟨va, rfl, oa, ba⟩
    refine hK.out _ _ ba ?_
    clear hK K'
    have ca := CG W0.heap.size va wa oa ba.size
    refine regS_do (i := 2) rfl (by kernel_rfl) (fun K' hK => ?_)
    go_simp
    refine ca.out.mono ?_
    rintro e wb ⟨vb, rfl, ob, mb⟩
    have bb : Below W0.heap.size W0 wb := ba.trans (mb.keeps.below (fun i hi => (oa.lt i hi).1) ba.size)
    refine hK.out _ _ bb ?_
    clear hK K' ca mb
    have cb := CE W0.heap.size vb wb ob bb.size
    refine regS_do (i := 5) rfl (by kernel_rfl) (fun K' hK => ?_)
    go_simp
    refine cb.out.mono ?_
    rintro e wc ⟨vc, rfl, oc, mc⟩
    have bc : Below W0.heap.size W0 wc := bb.trans (mc.keeps.below (fun i hi => (ob.lt i hi).1) bb.size)
    refine hK.out _ _ bc ?_
    clear hK K' cb mc oa ob ba bb
    have hS := bc
    refine regS_take (i := 6) (v := ?_) rfl (by kernel_rfl) (by kernel_rfl) (by kernel_rfl) (fun _ _ _ h => h) (by rfl) hS ?hy6 ?_
    case hy6 => intro w' hw'; go_simp; (try with_reducible rfl)
    simp only [Act.put, List.setIfInBounds_toArray, List.set_cons_zero, List.set_cons_succ]
    refine regS_end (by kernel_rfl) ?_
    have X1 : Hid (Wel.At wc gX x) := Lib.hid (Whole.below X0.out bc Z0.out)
    have OC := Lib.hid oc
    have BC := Lib.hid bc
    have ct := Wel.At.at_tag X1.out
    clear hS bc oc
    go_wp2_with (at_builtin; refine wpList_append_str_at rfl (.tmp 14) (.tmp 16) rfl W0.heap.size vc _ _ rfl OC.out ⟨x.tag.toArray⟩ rfl ?c1 BC.out.size ?_)
    case c1 =>
      have := HL.out
      have := LP.out
      show _ + x.tag.length ≤ _
      simp only [List.length_append, be_length, List.length_cons, List.length_nil]
      omega
    intro v4 w4 o4 g4 _
    have B4 := Lib.hid (B0.out.trans ((BC.out.grown g4 BC.out.size (fun k hk => (OC.out.lt k hk).1)).mono B0.out.size))
    have Y4 : Hid (BytesAt w4 v4 R) := Lib.hid (BytesAt.of_own (base := W0.heap.size) (by
      rw [HG.out, List.length_append, bv_append]
      simpa using o4))
    clear o4 g4 X0 X1 ct OC BC
    go_wp2
    go_ret2
    exact ⟨_, rfl, Y4.out, B4.out⟩

set_option maxRecDepth 100000 in
theorem hePutReset_any (n : Nat) (w : World) :
    Calls Tryd.prog 22 #[.int .u64 (n : Int)] w fun e w' => ∃ v', e = .returned v' ∧ BytesAt w' v' (resetB n) ∧ Below w.heap.size w w' := by
  have CK := fun w => Lib.hid (heKind_any 4 (by decide) w)
  have HG : Hid (resetB n = [4] ++ be 8 n) := Lib.hid rfl
  go_enter Tryd.func22, Tryd.ntmps22
  go_wp2_with fail
  refine (CK w).out.mono ?_
  rintro e w1 ⟨v1, rfl, o1, b1⟩
  have O1 := Lib.hid o1
  have B1 := Lib.hid b1
  have C := Lib.hid (num_big v1 [4] n 8 w.heap.size w1 O1.out (by decide) (by decide) (by decide) B1.out.size)
  rw [← HG.out] at C
  clear o1 b1
  go_wp2_with fail
  refine C.out.mono ?_
  rintro e w2 ⟨v2, rfl, o2, b2⟩
  have B2 := Lib.hid (B1.out.trans b2)
  have Y2 := Lib.hid (BytesAt.of_own o2)
  clear o2 b2 C
  go_wp2
  go_ret
  exact ⟨_, rfl, Y2.out, B2.out⟩
end Go.Proofs.YtpcdbpijgmninaaDoor

namespace Go.Proofs.YtpcdbpijgmninaaDoor
set_option maxRecDepth 100000
open Go.RowKit

theorem RfS.apart {w w' : World} {g h : Nat} {A : Option Addr} {cap : Nat} {b : List UInt8} {s : RS} (H : RfS w g A cap b s) (hg : w.grownBy w' (some h)) (hn : g ≠ h) (hA : b ≠ [] → ∀ ad, A = some ad → ad.block ≠ h) : RfS w' g A cap b s := by
  obtain ⟨p, hr, hp, hl, ho, hB, hA'⟩ := H
  exact ⟨p, Whole.grown hr hg (fun e => hn (by injection e)), hp, hl, ho, RfS.kept hB hA hg, hA'⟩
theorem RfS.belowR {w w' : World} {g : Nat} {A : Option Addr} {cap : Nat} {b : List UInt8} {s : RS} (H : RfS w g A cap b s) (hb : Below w.heap.size w w') : RfS w' g A cap b s := by
  obtain ⟨p, hr, hp, hl, ho, hB, hA⟩ := H
  exact ⟨p, Whole.below hr hb (Whole.lt hr), hp, hl, ho, hB.below hb, hA⟩
theorem RdS.belowR {w w' : World} {g : Nat} {s : RS} (H : RdS w g s) (hb : Below w.heap.size w w') : RdS w' g s := ⟨Whole.below H.1 hb (Whole.lt H.1), H.2⟩
theorem RdS.apart {w w' : World} {g h : Nat} {s : RS} (H : RdS w g s) (hg : w.grownBy w' (some h)) (hn : g ≠ h) : RdS w' g s := ⟨Whole.grown H.1 hg (fun e => hn (by injection e)), H.2⟩

/-- While the document reads: r is the result, g the reader, x the entry. -/
structure Rf6 (w0 : World) (r g x : Nat) (A : Option Addr) (cap : Nat) (b : List UInt8) (w : World) (e : Ent) (s : RS) : Prop where
  ent : EntAt w x e
  res : EntAt w r ent0
  rd : RfS w g A cap b s
  low : Below w0.heap.size w0 w
  rg : r < g
  gx : g < x
  r0 : w0.heap.size ≤ r
  xz : x < w.heap.size
  far : b ≠ [] → ∀ ad, A = some ad → ad.block < w0.heap.size
section
variable {w0 : World} {r g x : Nat} {A : Option Addr} {cap : Nat} {b : List UInt8} {w w' : World} {e e' : Ent} {s s' : RS}
theorem Rf6.call (H : Rf6 w0 r g x A cap b w e s) (hr : RfS w' g A cap b s') (hg : w.grownBy w' (some g)) : Rf6 w0 r g x A cap b w' e s' where
  ent := Whole.grown H.ent hg (fun k => by injection k with k; have := H.gx; omega)
  res := Whole.grown H.res hg (fun k => by injection k with k; have := H.rg; omega)
  rd := hr
  low := H.low.grown hg H.low.size (fun k hk => by injection hk with hk; have := H.rg; have := H.r0; omega)
  rg := H.rg
  gx := H.gx
  r0 := H.r0
  xz := Nat.lt_of_lt_of_le H.xz hg.size
  far := H.far
theorem Rf6.put (H : Rf6 w0 r g x A cap b w e s) {i : Nat} {u : Value} (h : EntAt (w.setCell ⟨x, i, none⟩ u) x e') : Rf6 w0 r g x A cap b (w.setCell ⟨x, i, none⟩ u) e' s where
  ent := h
  res := Whole.grown H.res (grown_store w x i u) (fun k => by injection k with k; have := H.rg; have := H.gx; omega)
  rd := H.rd.apart (grown_store w x i u) (by have := H.gx; omega) (fun hb ad k => by have := H.far hb ad k; have := H.r0; have := H.rg; have := H.gx; omega)
  low := H.low.grown (grown_store w x i u) H.low.size (fun k hk => by injection hk with hk; have := H.rg; have := H.r0; have := H.gx; omega)
  rg := H.rg
  gx := H.gx
  r0 := H.r0
  xz := by have := H.xz; simpa using this
  far := H.far
theorem Rf6.whole (H : Rf6 w0 r g x A cap b w e s) (hg : w.grownBy w' (some x)) (h : EntAt w' x e') : Rf6 w0 r g x A cap b w' e' s where
  ent := h
  res := Whole.grown H.res hg (fun k => by injection k with k; have := H.rg; have := H.gx; omega)
  rd := H.rd.apart hg (by have := H.gx; omega) (fun hb ad k => by have := H.far hb ad k; have := H.r0; have := H.rg; have := H.gx; omega)
  low := H.low.grown hg H.low.size (fun k hk => by injection hk with hk; have := H.rg; have := H.r0; have := H.gx; omega)
  rg := H.rg
  gx := H.gx
  r0 := H.r0
  xz := Nat.lt_of_lt_of_le H.xz hg.size
  far := H.far
end
end Go.Proofs.YtpcdbpijgmninaaDoor
