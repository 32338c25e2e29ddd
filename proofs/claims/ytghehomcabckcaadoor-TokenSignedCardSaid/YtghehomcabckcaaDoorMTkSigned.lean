/- TokenSigned's core: over what package token answers. -/
import Derived.Test.YtghehomcabckcaaDoorGx
import Derived.Test.YtghehomcabckcaaDoorGb
import Derived.Test.YtghehomcabckcaaDoorMStrB
import Derived.Test.YtghehomcabckcaaDoorGp
namespace Go.Proofs.YtghehomcabckcaaDoor
open Go.RowKit

theorem cut_great {e : Ent} (h : greatB e = false) : e.name.length ≤ 1000 ∧ e.tag.length ≤ 1000 := by
  simp only [greatB, Bool.or_eq_false_iff, decide_eq_false_iff_not] at h
  omega

set_option maxRecDepth 100000 in
set_option maxHeartbeats 8000000 in
theorem tokSigned_core (H : TokenIs) (key : List UInt8) (a : Ent) (at_ : Nat) (by_ : UInt8) (hat : at_ < 256) (hi : a.id < 18446744073709551616) (w : World) (T : Tab w) :
    Calls Tryd.prog 4 #[.string ⟨key.toArray⟩, a.val, .int .u8 (at_ : Int), .int .u8 (by_.toNat : Int)] w fun e w' => e = .returned (.bool true) ∧ Below w.heap.size w w' := by
  have HH := Lib.hid H
  have T0 := Lib.hid T
  have HI := Lib.hid hi
  obtain ⟨gn, hgn⟩ : ∃ q, q = decide (1000 < key.length) := ⟨_, rfl⟩
  obtain ⟨ga, hga⟩ : ∃ q, q = greatB a := ⟨_, rfl⟩
  have CA := fun w => Lib.hid (great_any a w)
  simp only [← hga] at CA
  have r0 : decide ((1000 : Int) < (key.length : Int)) = gn := by rw [hgn]; congr 1; apply propext; omega
  have r0n := hgn.symm
  have HG := Lib.hid (And.intro hgn hga)
  have hv : a.val = .agg a.cells := rfl
  obtain ⟨j, hj⟩ : ∃ j, j = at_ % 32 := ⟨_, rfl⟩
  have hjl : j < 32 := by omega
  have hmod : (at_ : Int).tmod 32 = (j : Int) := by
    rw [hj, Int.tmod_eq_emod_of_nonneg (by omega)]
    simp
  have HJ := Lib.hid hjl
  rw [hv]
  clear hgn hga hv H T hi hj hat
  go_enter Tryd.func4, Tryd.ntmps4
  go_wp2_with (refine wpList_box_row rfl 26 (.tmp 1) rfl a.cells rfl ?_)
  intro w1 b1 x1 z1
  have Y1 : Hid (EntAt w1 w.heap.size a) := Lib.hid x1
  have B1 := Lib.hid b1
  obtain ⟨x, hx⟩ : ∃ x, x = w.heap.size := ⟨_, rfl⟩
  have XX := Lib.hid hx
  rw [← hx] at Y1 ⊢
  clear b1 x1 z1 hx
  go_wp2_with fail
  refine (works13 HH.out w1 (T0.out.below B1.out T0.out.pos)).mono ?_
  rintro e w2 ⟨rfl, hb⟩
  have Y2 : Hid (EntAt w2 x a) := Lib.hid (Whole.below Y1.out hb Y1.out.lt)
  have B2 := Lib.hid (B1.out.trans (hb.mono B1.out.size))
  clear hb Y1 B1
  cases gn with
  | true =>
    go_wp2
    go_ret
    exact ⟨rfl, B2.out⟩
  | false =>
    obtain ⟨a0, a1, a2, a3, a4, a5⟩ := Y2.out.six
    go_wp2_with fail
    refine (CA w2).out.mono ?_
    rintro e w3 ⟨rfl, hb⟩
    have Y3 : Hid (EntAt w3 x a) := Lib.hid (Whole.below Y2.out hb Y2.out.lt)
    have B3 := Lib.hid (B2.out.trans (hb.mono B2.out.size))
    clear hb Y2 B2 CA a0 a1 a2 a3 a4 a5
    cases ga with
    | true =>
      go_wp2
      go_ret
      exact ⟨rfl, B3.out⟩
    | false =>
      have LA := Lib.hid (cut_great HG.out.2.symm)
      have LK := Lib.hid (show key.length ≤ 4000 by have q := HG.out.1; simp at q; omega)
      have SL := Lib.hid (sign_tag key a)
      have SC := Lib.hid (sign_checks key a)
      have SA := Lib.hid (sign_again key a)
      have SX := Lib.hid (fun x => sign_changed key a j x HJ.out)
      have SF : Hid ((signE key a).name = a.name ∧ (signE key a).id = a.id ∧ (signE key a).since = a.since ∧ (signE key a).till = a.till ∧ (signE key a).index = a.index) := Lib.hid ⟨rfl, rfl, rfl, rfl, rfl⟩
      have CS := Lib.hid (HH.out.sign key a w3 LK.out LA.out.1 HI.out (T0.out.below B3.out T0.out.pos))
      obtain ⟨S, hS⟩ : ∃ S, S = signE key a := ⟨_, rfl⟩
      rw [← hS] at SL SC SA SF CS
      simp only [← hS] at SX
      clear r0 r0n hS
      obtain ⟨a0, a1, a2, a3, a4, a5⟩ := Y3.out.six
      go_wp2_with fail
      refine CS.out.mono ?_
      rintro e w4 ⟨rfl, hb⟩
      have Y4 : Hid (EntAt w4 x a) := Lib.hid (Whole.below Y3.out hb Y3.out.lt)
      have B4 := Lib.hid (B3.out.trans (hb.mono B3.out.size))
      clear hb Y3 B3 CS a0 a1 a2 a3 a4 a5
      go_wp2_with (refine wpList_alloc_row rfl 26 rfl ent0.cells ent_zero ?_)
      intro w5 b5 x5 z5
      have U5 : Hid (Whole w5 w4.heap.size 26 ent0.cells) := Lib.hid x5
      have Y5 : Hid (EntAt w5 x a) := Lib.hid (Whole.below Y4.out b5 Y4.out.lt)
      have B5 := Lib.hid (B4.out.trans (b5.mono B4.out.size))
      have Z5 := Lib.hid (And.intro B4.out.size Y4.out.lt)
      obtain ⟨z, hz⟩ : ∃ z, z = w4.heap.size := ⟨_, rfl⟩
      rw [← hz] at U5 Z5 ⊢
      clear b5 x5 z5 Y4 B4 hz
      go_wp2_with (with_reducible refine wpList_store_whole rfl 26 _ _ rfl z S.cells (by with_unfolding_all exact rfl) (by with_unfolding_all exact rfl) _ _ U5.out (ent_size' _) rfl (Ent.cells_one _) ?_)
      intro w6 g6 x6 z6
      have U6 : Hid (EntAt w6 z S) := Lib.hid x6
      have Y6 : Hid (EntAt w6 x a) := Lib.hid (Whole.grown Y5.out g6 (fun k => by injection k with k; have := Z5.out; omega))
      have B6 := Lib.hid (B5.out.grown g6 B5.out.size (fun k hk => by injection hk with hk; have := Z5.out; omega))
      clear g6 x6 z6 U5 Y5 B5
      go_wp2_with fail
      refine reg_begin (by kernel_rfl) fun w7 hb hz => ?_
      have U7 : Hid (EntAt w7 z S) := Lib.hid (Whole.below U6.out hb U6.out.lt)
      have Y7 : Hid (EntAt w7 x a) := Lib.hid (Whole.below Y6.out hb Y6.out.lt)
      have B7 := Lib.hid (B6.out.trans (hb.mono B6.out.size))
      clear hb hz U6 Y6 B6
      have L1 := Lib.hid (show S.name.length ≤ 1000 ∧ S.tag.length ≤ 1000 ∧ S.id < 18446744073709551616 by rw [SF.out.1, SF.out.2.1, SL.out]; exact ⟨LA.out.1, by decide, HI.out⟩)
      refine reg_take (i := 0) (v := ?_) rfl (by kernel_rfl) (by kernel_rfl) (by kernel_rfl) (fun _ _ _ h => h) (by rfl) ?hy0 ?_
      case hy0 => intro w' hw'; go_simp; (try with_reducible rfl)
      simp only [Act.put, List.setIfInBounds_toArray, List.set_cons_zero, List.set_cons_succ]
      refine reg_take (i := 1) (v := S.val) rfl (by kernel_rfl) (by kernel_rfl) (by kernel_rfl) (fun _ _ _ h => h) (by rfl) ?hy1 ?_
      case hy1 => intro w' hw'; exact exec_load_ent _ rfl z rfl S w' (Whole.below U7.out hw' U7.out.lt)
      simp only [Act.put, List.setIfInBounds_toArray, List.set_cons_zero, List.set_cons_succ]
      have CC := Lib.hid (HH.out.check key S w7 LK.out L1.out.1 L1.out.2.1 L1.out.2.2 (T0.out.below B7.out T0.out.pos))
      rw [SC.out] at CC
      refine reg_call (i := 2) rfl (by kernel_rfl) (fun K' hK => ?_)
      go_simp
      refine CC.out.mono ?_
      rintro e w8 ⟨rfl, hb⟩
      have U8 : Hid (EntAt w8 z S) := Lib.hid (Whole.below U7.out hb U7.out.lt)
      have Y8 : Hid (EntAt w8 x a) := Lib.hid (Whole.below Y7.out hb Y7.out.lt)
      have B8 := Lib.hid (B7.out.trans (hb.mono B7.out.size))
      refine hK.out _ _ hb ?_
      clear hK K' hb U7 Y7 B7 CC
      refine reg_take (i := 3) (v := ?_) rfl (by kernel_rfl) (by kernel_rfl) (by kernel_rfl) (fun _ _ _ h => h) (by rfl) ?hy3 ?_
      case hy3 => intro w' hw'; go_simp; (try with_reducible rfl)
      simp only [Act.put, List.setIfInBounds_toArray, List.set_cons_zero, List.set_cons_succ]
      refine reg_take (i := 4) (v := ?_) rfl (by kernel_rfl) (by kernel_rfl) (by kernel_rfl) (fun _ _ _ h => h) (by rfl) ?hy4 ?_
      case hy4 => intro w' hw'; go_simp; (try with_reducible rfl)
      simp only [Act.put, List.setIfInBounds_toArray, List.set_cons_zero, List.set_cons_succ]
      refine reg_take (i := 5) (v := ?_) rfl (by kernel_rfl) (by kernel_rfl) (by kernel_rfl) (fun _ _ _ h => h) (by rfl) ?hy5 ?_
      case hy5 => intro w' hw'; go_simp; (try with_reducible rfl)
      simp only [Act.put, List.setIfInBounds_toArray, List.set_cons_zero, List.set_cons_succ]
      refine reg_take (i := 6) (v := S.val) rfl (by kernel_rfl) (by kernel_rfl) (by kernel_rfl) (fun _ _ _ h => h) (by rfl) ?hy6 ?_
      case hy6 => intro w' hw'; exact exec_load_ent _ rfl z rfl S w' (Whole.below U8.out hw' U8.out.lt)
      simp only [Act.put, List.setIfInBounds_toArray, List.set_cons_zero, List.set_cons_succ]
      refine reg_take (i := 8) (v := S.val) rfl (by kernel_rfl) (by kernel_rfl) (by kernel_rfl) (fun _ _ _ h => h) (by rfl) ?hy8 ?_
      case hy8 => intro w' hw'; exact exec_load_ent _ rfl z rfl S w' (Whole.below U8.out hw' U8.out.lt)
      simp only [Act.put, List.setIfInBounds_toArray, List.set_cons_zero, List.set_cons_succ]
      have CC := Lib.hid (HH.out.sign key S w8 LK.out L1.out.1 L1.out.2.2 (T0.out.below B8.out T0.out.pos))
      rw [SA.out] at CC
      refine reg_call (i := 7) rfl (by kernel_rfl) (fun K' hK => ?_)
      go_simp
      refine CC.out.mono ?_
      rintro e w9 ⟨rfl, hb⟩
      have U9 : Hid (EntAt w9 z S) := Lib.hid (Whole.below U8.out hb U8.out.lt)
      have Y9 : Hid (EntAt w9 x a) := Lib.hid (Whole.below Y8.out hb Y8.out.lt)
      have B9 := Lib.hid (B8.out.trans (hb.mono B8.out.size))
      refine hK.out _ _ hb ?_
      clear hK K' hb U8 Y8 B8 CC
      refine reg_take (i := 9) (v := .bool false) rfl (by kernel_rfl) (by kernel_rfl) (by kernel_rfl) (fun _ _ _ h => h) (by rfl) ?hy9 ?_
      case hy9 => intro w' hw'; exact exec_neq_ent _ _ _ rfl S S rfl rfl false (by simp) w'
      simp only [Act.put, List.setIfInBounds_toArray, List.set_cons_zero, List.set_cons_succ]
      have dl : ((S.tag.length : Int) != 32) = false := by rw [SL.out]; rfl
      have dln : (S.tag.length != 32) = false := by rw [SL.out]; rfl
      have UC : Hid (∀ w', Below w9.heap.size w9 w' → w'.cell? ⟨z, 0, none⟩ = some (.string ⟨a.name.toArray⟩) ∧ w'.cell? ⟨z, 1, none⟩ = some (.int .u64 (a.id : Int)) ∧ w'.cell? ⟨z, 2, none⟩ = some (.int .i64 a.since) ∧ w'.cell? ⟨z, 3, none⟩ = some (.int .i64 a.till) ∧ w'.cell? ⟨z, 4, none⟩ = some (.int .i64 a.index) ∧ w'.cell? ⟨z, 5, none⟩ = some (.string ⟨S.tag.toArray⟩)) := Lib.hid (fun w' h => by
        have q := EntAt.six (Whole.below U9.out h U9.out.lt)
        rw [SF.out.1, SF.out.2.1, SF.out.2.2.1, SF.out.2.2.2.1, SF.out.2.2.2.2] at q
        exact q)
      have YC : Hid (∀ w', Below w9.heap.size w9 w' → _) := Lib.hid (fun w' h => EntAt.six (Whole.below Y9.out h Y9.out.lt))
      refine reg_take (i := 10) (v := ?_) rfl (by kernel_rfl) (by kernel_rfl) (by kernel_rfl) (fun _ _ _ h => h) (by rfl) ?hy10 ?_
      case hy10 => intro w' hw'; go_simp; (try with_reducible rfl)
      simp only [Act.put, List.setIfInBounds_toArray, List.set_cons_zero, List.set_cons_succ]
      refine reg_take (i := 11) (v := ?_) rfl (by kernel_rfl) (by kernel_rfl) (by kernel_rfl) (fun _ _ _ h => h) (by rfl) ?hy11 ?_
      case hy11 => intro w' hw'; go_simp; (try with_reducible rfl)
      simp only [Act.put, List.setIfInBounds_toArray, List.set_cons_zero, List.set_cons_succ]
      refine reg_take (i := 12) (v := ?_) rfl (by kernel_rfl) (by kernel_rfl) (by kernel_rfl) (fun _ _ _ h => h) (by rfl) ?hy12 ?_
      case hy12 => intro w' hw'; go_simp; (try with_reducible rfl)
      simp only [Act.put, List.setIfInBounds_toArray, List.set_cons_zero, List.set_cons_succ]
      refine reg_take (i := 13) (v := .string ⟨S.tag.toArray⟩) rfl (by kernel_rfl) (by kernel_rfl) (by kernel_rfl) (fun _ _ _ h => h) (by rfl) ?hy13 ?_
      case hy13 => intro w' hw'; have c := (UC.out w' hw').2.2.2.2.2; go_simp; (try with_reducible rfl)
      simp only [Act.put, List.setIfInBounds_toArray, List.set_cons_zero, List.set_cons_succ]
      refine reg_take (i := 14) (v := ?_) rfl (by kernel_rfl) (by kernel_rfl) (by kernel_rfl) (fun _ _ _ h => h) (by rfl) ?hy14 ?_
      case hy14 => intro w' hw'; go_simp; (try with_reducible rfl)
      simp only [Act.put, List.setIfInBounds_toArray, List.set_cons_zero, List.set_cons_succ]
      refine reg_take (i := 15) (v := ?_) rfl (by kernel_rfl) (by kernel_rfl) (by kernel_rfl) (fun _ _ _ h => h) (by rfl) ?hy15 ?_
      case hy15 => intro w' hw'; go_simp; (try with_reducible rfl)
      simp only [Act.put, List.setIfInBounds_toArray, List.set_cons_zero, List.set_cons_succ]
      refine reg_take (i := 16) (v := ?_) rfl (by kernel_rfl) (by kernel_rfl) (by kernel_rfl) (fun _ _ _ h => h) (by rfl) ?hy16 ?_
      case hy16 => intro w' hw'; go_simp; (try with_reducible rfl)
      simp only [Act.put, List.setIfInBounds_toArray, List.set_cons_zero, List.set_cons_succ]
      refine reg_take (i := 17) (v := ?_) rfl (by kernel_rfl) (by kernel_rfl) (by kernel_rfl) (fun _ _ _ h => h) (by rfl) ?hy17 ?_
      case hy17 => intro w' hw'; go_simp; (try with_reducible rfl)
      simp only [Act.put, List.setIfInBounds_toArray, List.set_cons_zero, List.set_cons_succ]
      refine reg_take (i := 18) (v := ?_) rfl (by kernel_rfl) (by kernel_rfl) (by kernel_rfl) (fun _ _ _ h => h) (by rfl) ?hy18 ?_
      case hy18 => intro w' hw'; go_simp; (try with_reducible rfl)
      simp only [Act.put, List.setIfInBounds_toArray, List.set_cons_zero, List.set_cons_succ]
      refine reg_take (i := 20) (v := ?_) rfl (by kernel_rfl) (by kernel_rfl) (by kernel_rfl) (fun _ _ _ h => h) (by rfl) ?hy20 ?_
      case hy20 => intro w' hw'; go_simp; (try with_reducible rfl)
      simp only [Act.put, List.setIfInBounds_toArray, List.set_cons_zero, List.set_cons_succ]
      refine reg_take (i := 19) (v := .string ⟨a.name.toArray⟩) rfl (by kernel_rfl) (by kernel_rfl) (by kernel_rfl) (fun _ _ _ h => h) (by rfl) ?hy19 ?_
      case hy19 => intro w' hw'; have c := (UC.out w' hw').1; go_simp; (try with_reducible rfl)
      simp only [Act.put, List.setIfInBounds_toArray, List.set_cons_zero, List.set_cons_succ]
      refine reg_take (i := 21) (v := .string ⟨a.name.toArray⟩) rfl (by kernel_rfl) (by kernel_rfl) (by kernel_rfl) (fun _ _ _ h => h) (by rfl) ?hy21 ?_
      case hy21 => intro w' hw'; have c := (YC.out w' hw').1; go_simp; (try with_reducible rfl)
      simp only [Act.put, List.setIfInBounds_toArray, List.set_cons_zero, List.set_cons_succ]
      refine reg_take (i := 22) (v := ?_) rfl (by kernel_rfl) (by kernel_rfl) (by kernel_rfl) (fun _ _ _ h => h) (by rfl) ?hy22 ?_
      case hy22 => intro w' hw'; go_simp; (try with_reducible rfl)
      simp only [Act.put, List.setIfInBounds_toArray, List.set_cons_zero, List.set_cons_succ]
      refine reg_take (i := 23) (v := ?_) rfl (by kernel_rfl) (by kernel_rfl) (by kernel_rfl) (fun _ _ _ h => h) (by rfl) ?hy23 ?_
      case hy23 => intro w' hw'; go_simp; (try with_reducible rfl)
      simp only [Act.put, List.setIfInBounds_toArray, List.set_cons_zero, List.set_cons_succ]
      refine reg_take (i := 24) (v := ?_) rfl (by kernel_rfl) (by kernel_rfl) (by kernel_rfl) (fun _ _ _ h => h) (by rfl) ?hy24 ?_
      case hy24 => intro w' hw'; go_simp; (try with_reducible rfl)
      simp only [Act.put, List.setIfInBounds_toArray, List.set_cons_zero, List.set_cons_succ]
      refine reg_take (i := 25) (v := ?_) rfl (by kernel_rfl) (by kernel_rfl) (by kernel_rfl) (fun _ _ _ h => h) (by rfl) ?hy25 ?_
      case hy25 => intro w' hw'; go_simp; (try with_reducible rfl)
      simp only [Act.put, List.setIfInBounds_toArray, List.set_cons_zero, List.set_cons_succ]
      refine reg_take (i := 27) (v := ?_) rfl (by kernel_rfl) (by kernel_rfl) (by kernel_rfl) (fun _ _ _ h => h) (by rfl) ?hy27 ?_
      case hy27 => intro w' hw'; go_simp; (try with_reducible rfl)
      simp only [Act.put, List.setIfInBounds_toArray, List.set_cons_zero, List.set_cons_succ]
      refine reg_take (i := 26) (v := .int .u64 (a.id : Int)) rfl (by kernel_rfl) (by kernel_rfl) (by kernel_rfl) (fun _ _ _ h => h) (by rfl) ?hy26 ?_
      case hy26 => intro w' hw'; have c := (UC.out w' hw').2.1; go_simp; (try with_reducible rfl)
      simp only [Act.put, List.setIfInBounds_toArray, List.set_cons_zero, List.set_cons_succ]
      refine reg_take (i := 28) (v := .int .u64 (a.id : Int)) rfl (by kernel_rfl) (by kernel_rfl) (by kernel_rfl) (fun _ _ _ h => h) (by rfl) ?hy28 ?_
      case hy28 => intro w' hw'; have c := (YC.out w' hw').2.1; go_simp; (try with_reducible rfl)
      simp only [Act.put, List.setIfInBounds_toArray, List.set_cons_zero, List.set_cons_succ]
      refine reg_take (i := 29) (v := ?_) rfl (by kernel_rfl) (by kernel_rfl) (by kernel_rfl) (fun _ _ _ h => h) (by rfl) ?hy29 ?_
      case hy29 => intro w' hw'; go_simp; (try with_reducible rfl)
      simp only [Act.put, List.setIfInBounds_toArray, List.set_cons_zero, List.set_cons_succ]
      refine reg_take (i := 30) (v := ?_) rfl (by kernel_rfl) (by kernel_rfl) (by kernel_rfl) (fun _ _ _ h => h) (by rfl) ?hy30 ?_
      case hy30 => intro w' hw'; go_simp; (try with_reducible rfl)
      simp only [Act.put, List.setIfInBounds_toArray, List.set_cons_zero, List.set_cons_succ]
      refine reg_take (i := 31) (v := ?_) rfl (by kernel_rfl) (by kernel_rfl) (by kernel_rfl) (fun _ _ _ h => h) (by rfl) ?hy31 ?_
      case hy31 => intro w' hw'; go_simp; (try with_reducible rfl)
      simp only [Act.put, List.setIfInBounds_toArray, List.set_cons_zero, List.set_cons_succ]
      refine reg_take (i := 32) (v := ?_) rfl (by kernel_rfl) (by kernel_rfl) (by kernel_rfl) (fun _ _ _ h => h) (by rfl) ?hy32 ?_
      case hy32 => intro w' hw'; go_simp; (try with_reducible rfl)
      simp only [Act.put, List.setIfInBounds_toArray, List.set_cons_zero, List.set_cons_succ]
      refine reg_take (i := 34) (v := ?_) rfl (by kernel_rfl) (by kernel_rfl) (by kernel_rfl) (fun _ _ _ h => h) (by rfl) ?hy34 ?_
      case hy34 => intro w' hw'; go_simp; (try with_reducible rfl)
      simp only [Act.put, List.setIfInBounds_toArray, List.set_cons_zero, List.set_cons_succ]
      refine reg_take (i := 33) (v := .int .i64 a.since) rfl (by kernel_rfl) (by kernel_rfl) (by kernel_rfl) (fun _ _ _ h => h) (by rfl) ?hy33 ?_
      case hy33 => intro w' hw'; have c := (UC.out w' hw').2.2.1; go_simp; (try with_reducible rfl)
      simp only [Act.put, List.setIfInBounds_toArray, List.set_cons_zero, List.set_cons_succ]
      refine reg_take (i := 35) (v := .int .i64 a.since) rfl (by kernel_rfl) (by kernel_rfl) (by kernel_rfl) (fun _ _ _ h => h) (by rfl) ?hy35 ?_
      case hy35 => intro w' hw'; have c := (YC.out w' hw').2.2.1; go_simp; (try with_reducible rfl)
      simp only [Act.put, List.setIfInBounds_toArray, List.set_cons_zero, List.set_cons_succ]
      refine reg_take (i := 36) (v := ?_) rfl (by kernel_rfl) (by kernel_rfl) (by kernel_rfl) (fun _ _ _ h => h) (by rfl) ?hy36 ?_
      case hy36 => intro w' hw'; go_simp; (try with_reducible rfl)
      simp only [Act.put, List.setIfInBounds_toArray, List.set_cons_zero, List.set_cons_succ]
      refine reg_take (i := 37) (v := ?_) rfl (by kernel_rfl) (by kernel_rfl) (by kernel_rfl) (fun _ _ _ h => h) (by rfl) ?hy37 ?_
      case hy37 => intro w' hw'; go_simp; (try with_reducible rfl)
      simp only [Act.put, List.setIfInBounds_toArray, List.set_cons_zero, List.set_cons_succ]
      refine reg_take (i := 38) (v := ?_) rfl (by kernel_rfl) (by kernel_rfl) (by kernel_rfl) (fun _ _ _ h => h) (by rfl) ?hy38 ?_
      case hy38 => intro w' hw'; go_simp; (try with_reducible rfl)
      simp only [Act.put, List.setIfInBounds_toArray, List.set_cons_zero, List.set_cons_succ]
      refine reg_take (i := 39) (v := ?_) rfl (by kernel_rfl) (by kernel_rfl) (by kernel_rfl) (fun _ _ _ h => h) (by rfl) ?hy39 ?_
      case hy39 => intro w' hw'; go_simp; (try with_reducible rfl)
      simp only [Act.put, List.setIfInBounds_toArray, List.set_cons_zero, List.set_cons_succ]
      refine reg_take (i := 41) (v := ?_) rfl (by kernel_rfl) (by kernel_rfl) (by kernel_rfl) (fun _ _ _ h => h) (by rfl) ?hy41 ?_
      case hy41 => intro w' hw'; go_simp; (try with_reducible rfl)
      simp only [Act.put, List.setIfInBounds_toArray, List.set_cons_zero, List.set_cons_succ]
      refine reg_take (i := 40) (v := .int .i64 a.till) rfl (by kernel_rfl) (by kernel_rfl) (by kernel_rfl) (fun _ _ _ h => h) (by rfl) ?hy40 ?_
      case hy40 => intro w' hw'; have c := (UC.out w' hw').2.2.2.1; go_simp; (try with_reducible rfl)
      simp only [Act.put, List.setIfInBounds_toArray, List.set_cons_zero, List.set_cons_succ]
      refine reg_take (i := 42) (v := .int .i64 a.till) rfl (by kernel_rfl) (by kernel_rfl) (by kernel_rfl) (fun _ _ _ h => h) (by rfl) ?hy42 ?_
      case hy42 => intro w' hw'; have c := (YC.out w' hw').2.2.2.1; go_simp; (try with_reducible rfl)
      simp only [Act.put, List.setIfInBounds_toArray, List.set_cons_zero, List.set_cons_succ]
      refine reg_take (i := 43) (v := ?_) rfl (by kernel_rfl) (by kernel_rfl) (by kernel_rfl) (fun _ _ _ h => h) (by rfl) ?hy43 ?_
      case hy43 => intro w' hw'; go_simp; (try with_reducible rfl)
      simp only [Act.put, List.setIfInBounds_toArray, List.set_cons_zero, List.set_cons_succ]
      refine reg_take (i := 44) (v := ?_) rfl (by kernel_rfl) (by kernel_rfl) (by kernel_rfl) (fun _ _ _ h => h) (by rfl) ?hy44 ?_
      case hy44 => intro w' hw'; go_simp; (try with_reducible rfl)
      simp only [Act.put, List.setIfInBounds_toArray, List.set_cons_zero, List.set_cons_succ]
      refine reg_take (i := 45) (v := ?_) rfl (by kernel_rfl) (by kernel_rfl) (by kernel_rfl) (fun _ _ _ h => h) (by rfl) ?hy45 ?_
      case hy45 => intro w' hw'; go_simp; (try with_reducible rfl)
      simp only [Act.put, List.setIfInBounds_toArray, List.set_cons_zero, List.set_cons_succ]
      refine reg_take (i := 46) (v := ?_) rfl (by kernel_rfl) (by kernel_rfl) (by kernel_rfl) (fun _ _ _ h => h) (by rfl) ?hy46 ?_
      case hy46 => intro w' hw'; go_simp; (try with_reducible rfl)
      simp only [Act.put, List.setIfInBounds_toArray, List.set_cons_zero, List.set_cons_succ]
      refine reg_take (i := 48) (v := ?_) rfl (by kernel_rfl) (by kernel_rfl) (by kernel_rfl) (fun _ _ _ h => h) (by rfl) ?hy48 ?_
      case hy48 => intro w' hw'; go_simp; (try with_reducible rfl)
      simp only [Act.put, List.setIfInBounds_toArray, List.set_cons_zero, List.set_cons_succ]
      refine reg_take (i := 47) (v := .int .i64 a.index) rfl (by kernel_rfl) (by kernel_rfl) (by kernel_rfl) (fun _ _ _ h => h) (by rfl) ?hy47 ?_
      case hy47 => intro w' hw'; have c := (UC.out w' hw').2.2.2.2.1; go_simp; (try with_reducible rfl)
      simp only [Act.put, List.setIfInBounds_toArray, List.set_cons_zero, List.set_cons_succ]
      refine reg_take (i := 49) (v := .int .i64 a.index) rfl (by kernel_rfl) (by kernel_rfl) (by kernel_rfl) (fun _ _ _ h => h) (by rfl) ?hy49 ?_
      case hy49 => intro w' hw'; have c := (YC.out w' hw').2.2.2.2.1; go_simp; (try with_reducible rfl)
      simp only [Act.put, List.setIfInBounds_toArray, List.set_cons_zero, List.set_cons_succ]
      refine reg_take (i := 50) (v := ?_) rfl (by kernel_rfl) (by kernel_rfl) (by kernel_rfl) (fun _ _ _ h => h) (by rfl) ?hy50 ?_
      case hy50 => intro w' hw'; go_simp; (try with_reducible rfl)
      simp only [Act.put, List.setIfInBounds_toArray, List.set_cons_zero, List.set_cons_succ]
      refine reg_take (i := 51) (v := ?_) rfl (by kernel_rfl) (by kernel_rfl) (by kernel_rfl) (fun _ _ _ h => h) (by rfl) ?hy51 ?_
      case hy51 => intro w' hw'; go_simp; (try with_reducible rfl)
      simp only [Act.put, List.setIfInBounds_toArray, List.set_cons_zero, List.set_cons_succ]
      refine reg_end (by kernel_rfl) ?_
      obtain ⟨c, hc⟩ : ∃ c, S.tag[j]? = some c := ⟨_, List.getElem?_eq_getElem (by rw [SL.out]; exact HJ.out)⟩
      have SXc := Lib.hid (SX.out (c ^^^ by_))
      rw [hc] at SXc
      obtain ⟨capn, w10, r10, hcap, y10, b10, hlt, hat⟩ := conv_str_set w9 S.tag
      obtain ⟨q1, q2, q3⟩ := hat j c hc
      have YT := Lib.hid (q3 (c ^^^ by_))
      have HX := Lib.hid (xor_cell c by_)
      have U10 : Hid (EntAt w10 z S) := Lib.hid (Whole.below U9.out b10 U9.out.lt)
      have B10 := Lib.hid (B9.out.trans (b10.mono B9.out.size))
      have Z10 := Lib.hid (And.intro U9.out.lt hlt)
      have u5 := (EntAt.six U9.out).2.2.2.2.2
      obtain ⟨g, hg⟩ : ∃ g, g = w9.heap.size := ⟨_, rfl⟩
      rw [← hg] at r10 q1 q2 YT Z10
      have hs32 : S.tag.length = 32 := SL.out
      have ji : (j : Int) < 32 := by omega
      have BG := Lib.hid (show w.heap.size ≤ g by rw [hg]; exact B9.out.size)
      clear y10 b10 hlt hat q3 hc hg dl dln UC YC U9 Y9 B9
      obtain ⟨d, hd⟩ : ∃ d, d = c ^^^ by_ := ⟨_, rfl⟩
      have DQ : Hid (decide (some c = some d) = ((by_.toNat : Int) == 0)) := Lib.hid (by
        rw [hd]
        by_cases hb0 : by_ = 0
        · subst hb0; simp
        · have h1 : ((by_.toNat : Int) == 0) = false := by
            rw [beq_eq_false_iff_ne]
            intro e
            apply hb0
            apply UInt8.toNat_inj.1
            show by_.toNat = 0
            omega
          rw [h1, decide_eq_false_iff_not]
          intro e
          injection e with e
          apply hb0
          have e2 : c ^^^ (c ^^^ by_) = c ^^^ c := by rw [← e]
          rw [← UInt8.xor_assoc, UInt8.xor_self, UInt8.zero_xor] at e2
          exact e2)
      rw [← hd] at YT SXc HX
      have xc := HX.out
      have yt : BytesAt (w10.setCell ⟨g, j, none⟩ (.int .u8 (d.toNat : Int))) (.slice (some ⟨g, 0, none⟩) 32 capn) (S.tag.set j d) := by have q := YT.out; rw [hs32] at q; exact q
      have u11 : EntAt (w10.setCell ⟨g, j, none⟩ (.int .u8 (d.toNat : Int))) z S := Whole.far U10.out (by have := Z10.out; show z ≠ g; omega) _
      have b11 : Below w.heap.size w (w10.setCell ⟨g, j, none⟩ (.int .u8 (d.toNat : Int))) := B10.out.grown (grown_store w10 g j _) B10.out.size (fun k hk => by injection hk with hk; have := BG.out; omega)
      obtain ⟨w11, hw11⟩ : ∃ w11, w11 = w10.setCell ⟨g, j, none⟩ (.int .u8 (d.toNat : Int)) := ⟨_, rfl⟩
      rw [← hw11] at yt u11 b11
      have r11 := conv_bytes yt
      have f5 := u11.free 5
      have u5 := (EntAt.six u11).2.2.2.2.2
      have E12 := Lib.hid (u11.tag (S.tag.set j d))
      have B12 : Hid (Below w.heap.size w (w11.setCell ⟨z, 5, none⟩ (.string ⟨(S.tag.set j d).toArray⟩))) := Lib.hid (b11.grown (grown_store w11 z 5 _) b11.size (fun k hk => by injection hk with hk; have := Z5.out; omega))
      have LT := Lib.hid (show (S.tag.set j d).length ≤ 1000 by rw [List.length_set, hs32]; decide)
      obtain ⟨TG, hTG⟩ : ∃ TG, TG = S.tag.set j d := ⟨_, rfl⟩
      rw [← hTG] at r11 E12 B12 LT SXc
      obtain ⟨S2, hS2⟩ : ∃ S2 : Ent, S2 = { S with tag := TG } := ⟨_, rfl⟩
      have L2 := Lib.hid (show S2.name.length ≤ 1000 ∧ S2.tag.length ≤ 1000 ∧ S2.id < 18446744073709551616 by rw [hS2]; exact ⟨L1.out.1, LT.out, L1.out.2.2⟩)
      rw [← hS2] at E12 SXc
      have C := Lib.hid (HH.out.check key S2 _ LK.out L2.out.1 L2.out.2.1 L2.out.2.2 (T0.out.below B12.out T0.out.pos))
      rw [SXc.out, DQ.out] at C
      obtain ⟨q, hq⟩ : ∃ q, q = ((by_.toNat : Int) == 0) := ⟨_, rfl⟩
      have rq := hq.symm
      rw [← hq] at C
      obtain ⟨e0, e1, e2, e3, e4, e5⟩ := E12.out.six
      rw [hw11] at r11 f5 u5 e0 e1 e2 e3 e4 e5 C B12
      clear hw11
      have u5' := (EntAt.six U10.out).2.2.2.2.2
      clear yt u11 b11 hTG hS2 hd U10 B10 SXc SX DQ hq E12
      go_wp2_with fail
      refine C.out.mono ?_
      rintro e w13 ⟨rfl, hb⟩
      have B13 := Lib.hid (B12.out.trans (hb.mono B12.out.size))
      clear hb C e0 e1 e2 e3 e4 e5 B12
      cases q
      all_goals
        go_wp2
        go_ret
        exact ⟨rfl, B13.out⟩
end Go.Proofs.YtghehomcabckcaaDoor
