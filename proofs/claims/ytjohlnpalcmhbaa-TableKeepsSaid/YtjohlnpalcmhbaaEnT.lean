/- Package entry, as landed: node, Who, Find. -/
import Derived.Test.YtjohlnpalcmhbaaEnC
import Derived.Test.YtjohlnpalcmhbaaEnN
namespace Go.Proofs.Ytjohlnpalcmhbaa
set_option maxRecDepth 100000
open Go.RowKit

/-- What an entry tells of its node. -/
def nodeE (a : Ent) : Ent := ⟨a.name, a.id, 0, 0, 0, []⟩
theorem node_same (a b : Ent) : entW a b = decide (nodeE a = nodeE b) := by
  rw [entW, Bool.eq_iff_iff]
  simp [nodeE]

set_option maxHeartbeats 1000000 in
theorem node_any (a : Ent) (w : World) :
    Calls Try.prog 47 #[a.val] w fun e w' => e = .returned (nodeE a).val ∧ Below w.heap.size w w' := by
  go_enter Try.func47, Try.ntmps47
  go_wp2_with (refine wpList_box_row rfl 25 _ rfl a.cells rfl ?_)
  intro w1 b1 x1 z1
  have X1 : Hid (EntAt w1 w.heap.size a) := x1
  have B1 := Lib.hid b1
  have Z1 := Lib.hid z1
  clear b1 x1 z1
  go_wp2_with (refine wpList_alloc_row rfl 25 rfl ent0.cells ent_zero ?_)
  intro w2 b2 x2 z2
  have X2 : Hid (EntAt w2 w.heap.size a) := Lib.hid (X1.out.below b2 (by have := Z1.out; omega))
  have Y2 : Hid (Whole w2 w1.heap.size 25 ent0.cells) := x2
  have B2 := Lib.hid (B1.out.trans (b2.mono B1.out.size))
  have S1 := Lib.hid B1.out.size
  have c0 := X2.out.at_ 0
  have c1 := X2.out.at_ 1
  simp [Ent.cells] at c0 c1
  clear b2 x2 z2 X1 B1 X2
  go_wp2_with (with_reducible refine wpList_store_whole rfl 25 _ _ rfl w1.heap.size (nodeE a).cells (by with_unfolding_all exact rfl) (by with_unfolding_all exact rfl) _ _ Y2.out (ent_size' _) rfl (Ent.cells_one _) ?_)
  intro w3 g3 x3 z3
  have X3 : Hid (EntAt w3 w1.heap.size (nodeE a)) := Lib.hid x3
  have B3 := Lib.hid (B2.out.grown g3 B2.out.size (fun k hk => by injection hk with hk; have := S1.out; omega))
  clear g3 x3 z3 Y2 B2 c0 c1
  go_wp2
  exact bodyPost_ret (results_ent rfl _ _ _ _ rfl X3.out) rfl ⟨rfl, B3.out⟩

set_option maxHeartbeats 1000000 in
theorem who_any (a b : Ent) (w : World) :
    Calls Try.prog 33 #[a.val, b.val] w fun e w' => e = .returned (.bool (entW a b)) ∧ Below w.heap.size w w' := by
  have CA := fun w => Lib.hid (node_any a w)
  have CB := fun w => Lib.hid (node_any b w)
  have HQ := Lib.hid (node_same a b)
  go_enter Try.func33, Try.ntmps33
  go_wp2_with (refine wpList_box_row rfl 25 _ rfl a.enc.toArray (by with_unfolding_all exact rfl) ?_)
  intro w1 b1 x1 z1
  obtain ⟨gP, hgP⟩ : ∃ g, g = w.heap.size := ⟨_, rfl⟩
  have M_P := Lib.hid (show w.heap.size ≤ gP from by rw [hgP]; exact Nat.le_refl _)
  have B1 := Lib.hid b1
  rw [← hgP] at x1 ⊢
  have P1 : Hid (Ent.At w1 gP a) := Lib.hid x1
  clear b1 x1 z1 hgP 
  go_wp2_with (first | (with_reducible refine wpList_load_whole Ent.isRec rfl _ rfl gP (by with_unfolding_all exact rfl) _ _ (Ent.len _) P1.out ?_) | (refine wpList_box_row rfl 25 _ rfl b.enc.toArray (by with_unfolding_all exact rfl) ?_))
  intro w2 b2 x2 z2
  obtain ⟨gQ, hgQ⟩ : ∃ g, g = w1.heap.size := ⟨_, rfl⟩
  have N_P_Q := Lib.hid (show gP < gQ from by rw [hgQ]; exact P1.out.lt)
  have M_Q := Lib.hid (show w.heap.size ≤ gQ from by rw [hgQ]; exact B1.out.size)
  have P2 : Hid (Ent.At w2 gP a) := Lib.hid (Whole.below P1.out b2 P1.out.lt)
  have B2 := Lib.hid (B1.out.trans (b2.mono B1.out.size))
  rw [← hgQ] at x2 ⊢
  have Q2 : Hid (Ent.At w2 gQ b) := Lib.hid x2
  clear b2 x2 z2 hgQ P1 B1
  go_wp2_with (first | (with_reducible refine wpList_load_whole Ent.isRec rfl _ rfl gP (by with_unfolding_all exact rfl) _ _ (Ent.len _) P2.out ?_) | (with_reducible refine wpList_load_whole Ent.isRec rfl _ rfl gQ (by with_unfolding_all exact rfl) _ _ (Ent.len _) Q2.out ?_))
  refine reg_begin (by kernel_rfl) fun w3 b3 z3 => ?_
  have P3 : Hid (Ent.At w3 gP a) := Lib.hid (Whole.below P2.out b3 P2.out.lt)
  have Q3 : Hid (Ent.At w3 gQ b) := Lib.hid (Whole.below Q2.out b3 Q2.out.lt)
  have B3 := Lib.hid (B2.out.trans (b3.mono B2.out.size))
  clear b3 z3 P2 Q2 B2
  refine reg_take (i := 0) (v := Ent.val (a)) rfl (by kernel_rfl) (by kernel_rfl) (by kernel_rfl) (fun _ _ _ h => h) (by rfl) ?hy0 ?_
  case hy0 => intro w' hw'; exact exec_load_whole Ent.isRec _ rfl gP rfl _ _ (Ent.len _) w' (Whole.below P3.out hw' P3.out.lt)
  simp only [Act.put, List.setIfInBounds_toArray, List.set_cons_zero, List.set_cons_succ]
  refine reg_take (i := 2) (v := Ent.val (b)) rfl (by kernel_rfl) (by kernel_rfl) (by kernel_rfl) (fun _ _ _ h => h) (by rfl) ?hy2 ?_
  case hy2 => intro w' hw'; exact exec_load_whole Ent.isRec _ rfl gQ rfl _ _ (Ent.len _) w' (Whole.below Q3.out hw' Q3.out.lt)
  simp only [Act.put, List.setIfInBounds_toArray, List.set_cons_zero, List.set_cons_succ]
  refine reg_call (i := 1) rfl (by kernel_rfl) (fun K' hK => ?_)
  go_simp
  refine ((CA w3).out).mono ?_
  rintro e4 w4 ⟨rfl, b4⟩
  have P4 : Hid (Ent.At w4 gP a) := Lib.hid (Whole.below P3.out b4 P3.out.lt)
  have Q4 : Hid (Ent.At w4 gQ b) := Lib.hid (Whole.below Q3.out b4 Q3.out.lt)
  have B4 := Lib.hid (B3.out.trans (b4.mono B3.out.size))
  refine hK.out _ _ b4 ?_
  clear hK K' b4 P3 Q3 B3
  refine reg_call (i := 3) rfl (by kernel_rfl) (fun K' hK => ?_)
  go_simp
  refine ((CB w4).out).mono ?_
  rintro e5 w5 ⟨rfl, b5⟩
  have P5 : Hid (Ent.At w5 gP a) := Lib.hid (Whole.below P4.out b5 P4.out.lt)
  have Q5 : Hid (Ent.At w5 gQ b) := Lib.hid (Whole.below Q4.out b5 Q4.out.lt)
  have B5 := Lib.hid (B4.out.trans (b5.mono B4.out.size))
  refine hK.out _ _ b5 ?_
  clear hK K' b5 P4 Q4 B4
  refine reg_take (i := 4) (v := .bool (entW a b)) rfl (by kernel_rfl) (by kernel_rfl) (by kernel_rfl) (fun _ _ _ h => h) (by rfl) ?hy4 ?_
  case hy4 => intro w' hw'; exact exec_eq_ent _ _ _ rfl (nodeE a) (nodeE b) rfl rfl _ HQ.out w'
  simp only [Act.put, List.setIfInBounds_toArray, List.set_cons_zero, List.set_cons_succ]
  refine reg_take (i := 5) (v := ?_) rfl (by kernel_rfl) (by kernel_rfl) (by kernel_rfl) (fun _ _ _ h => h) (by rfl) ?hy5 ?_
  case hy5 => intro w' hw'; go_simp; (try with_reducible rfl)
  simp only [Act.put, List.setIfInBounds_toArray, List.set_cons_zero, List.set_cons_succ]
  refine reg_end (by kernel_rfl) ?_
  go_wp2
  go_ret
  exact ⟨rfl, B5.out⟩

end Go.Proofs.Ytjohlnpalcmhbaa
