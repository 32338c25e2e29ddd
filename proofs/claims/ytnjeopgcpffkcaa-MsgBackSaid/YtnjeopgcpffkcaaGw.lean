/- Package msg: one field is kept (keep), field by field. (Written by tools/mkmskeep.py.) -/
import Derived.Test.YtnjeopgcpffkcaaGm
namespace Go.Proofs.Ytnjeopgcpffkcaa
set_option maxRecDepth 100000
open Go.RowKit

/-- Behind keep: the message g has one field more, nothing else has turned but new blocks. -/
def Kept (gT f : Nat) (o m : Mg) (e1 t1 e t : Row) (w w' : World) : Prop :=
  Mr.At w' gT ((keepM o m f).raw (if f = 7 then e else e1) (if f = 8 then t else t1)) ∧ Keeps (fun i => i = gT) w w'

set_option maxHeartbeats 1000000 in
theorem keep_0 (gT : Nat) (o m : Mg) (e1 t1 e t : Row) (w : World) (hg : Mr.At w gT (o.raw e1 t1)) :
    Calls Try.prog 65 #[.pointer (some ⟨gT, 0, none⟩), (m.raw e t).val, .int .i64 0] w fun x w' => x = .returned (.tuple #[]) ∧ Kept gT 0 o m e1 t1 e t w w' := by
  have G0 := Lib.hid hg
  clear hg
  go_enter Try.func65, Try.ntmps65
  go_wp2_with (refine wpList_box_row rfl 27 _ rfl (m.raw e t).enc.toArray (by with_unfolding_all exact rfl) ?_)
  intro w1 b1 x1 z1
  obtain ⟨gM, hgM⟩ : ∃ g, g = w.heap.size := ⟨_, rfl⟩
  have M_M := Lib.hid (show w.heap.size ≤ gM from by rw [hgM]; exact Nat.le_refl _)
  have B1 := Lib.hid b1
  rw [← hgM] at x1 ⊢
  have M1 : Hid (Mr.At w1 gM (m.raw e t)) := Lib.hid x1
  clear b1 x1 z1 hgM 
  have GM : Hid (Mr.At w1 gT (o.raw e1 t1)) := Lib.hid (Whole.below G0.out B1.out G0.out.lt)
  have c : w1.cell? ⟨gM, 3, none⟩ = some (.int .i64 m.error) := M1.out.at_ 3
  go_wp2_with (with_reducible refine wpList_put_cell 22 ⟨by kernel_rfl, by kernel_rfl⟩ rfl _ _ rfl gT 3 (by with_unfolding_all exact rfl) (.int .i64 m.error) (by with_unfolding_all exact rfl) (by with_unfolding_all exact rfl) (by with_unfolding_all exact rfl) _ _ GM.out _ (by with_unfolding_all exact rfl) ?_)
  intro u q x z
  have HF : Hid (Kept gT 0 o m e1 t1 e t w u) := Lib.hid ⟨x, (Keeps.of_below B1.out).trans (Keeps.of_grown q (fun k e => .inl (by injection e with e; exact e.symm)))⟩
  clear q x z c GM
  go_wp2
  go_end0
  exact ⟨rfl, HF.out⟩

set_option maxHeartbeats 1000000 in
theorem keep_1 (gT : Nat) (o m : Mg) (e1 t1 e t : Row) (w : World) (hg : Mr.At w gT (o.raw e1 t1)) :
    Calls Try.prog 65 #[.pointer (some ⟨gT, 0, none⟩), (m.raw e t).val, .int .i64 1] w fun x w' => x = .returned (.tuple #[]) ∧ Kept gT 1 o m e1 t1 e t w w' := by
  have G0 := Lib.hid hg
  clear hg
  go_enter Try.func65, Try.ntmps65
  go_wp2_with (refine wpList_box_row rfl 27 _ rfl (m.raw e t).enc.toArray (by with_unfolding_all exact rfl) ?_)
  intro w1 b1 x1 z1
  obtain ⟨gM, hgM⟩ : ∃ g, g = w.heap.size := ⟨_, rfl⟩
  have M_M := Lib.hid (show w.heap.size ≤ gM from by rw [hgM]; exact Nat.le_refl _)
  have B1 := Lib.hid b1
  rw [← hgM] at x1 ⊢
  have M1 : Hid (Mr.At w1 gM (m.raw e t)) := Lib.hid x1
  clear b1 x1 z1 hgM 
  have GM : Hid (Mr.At w1 gT (o.raw e1 t1)) := Lib.hid (Whole.below G0.out B1.out G0.out.lt)
  have c : w1.cell? ⟨gM, 5, none⟩ = some (.bool m.has) := M1.out.at_ 5
  go_wp2_with (with_reducible refine wpList_put_cell 4 ⟨by kernel_rfl, by kernel_rfl⟩ rfl _ _ rfl gT 5 (by with_unfolding_all exact rfl) (.bool m.has) (by with_unfolding_all exact rfl) (by with_unfolding_all exact rfl) (by with_unfolding_all exact rfl) _ _ GM.out _ (by with_unfolding_all exact rfl) ?_)
  intro u q x z
  have HF : Hid (Kept gT 1 o m e1 t1 e t w u) := Lib.hid ⟨x, (Keeps.of_below B1.out).trans (Keeps.of_grown q (fun k e => .inl (by injection e with e; exact e.symm)))⟩
  clear q x z c GM
  go_wp2
  go_end0
  exact ⟨rfl, HF.out⟩

set_option maxHeartbeats 1000000 in
theorem keep_2 (gT : Nat) (o m : Mg) (e1 t1 e t : Row) (w : World) (hg : Mr.At w gT (o.raw e1 t1)) :
    Calls Try.prog 65 #[.pointer (some ⟨gT, 0, none⟩), (m.raw e t).val, .int .i64 2] w fun x w' => x = .returned (.tuple #[]) ∧ Kept gT 2 o m e1 t1 e t w w' := by
  have G0 := Lib.hid hg
  clear hg
  go_enter Try.func65, Try.ntmps65
  go_wp2_with (refine wpList_box_row rfl 27 _ rfl (m.raw e t).enc.toArray (by with_unfolding_all exact rfl) ?_)
  intro w1 b1 x1 z1
  obtain ⟨gM, hgM⟩ : ∃ g, g = w.heap.size := ⟨_, rfl⟩
  have M_M := Lib.hid (show w.heap.size ≤ gM from by rw [hgM]; exact Nat.le_refl _)
  have B1 := Lib.hid b1
  rw [← hgM] at x1 ⊢
  have M1 : Hid (Mr.At w1 gM (m.raw e t)) := Lib.hid x1
  clear b1 x1 z1 hgM 
  have GM : Hid (Mr.At w1 gT (o.raw e1 t1)) := Lib.hid (Whole.below G0.out B1.out G0.out.lt)
  have c : w1.cell? ⟨gM, 6, none⟩ = some (.bool m.gone) := M1.out.at_ 6
  go_wp2_with (with_reducible refine wpList_put_cell 4 ⟨by kernel_rfl, by kernel_rfl⟩ rfl _ _ rfl gT 6 (by with_unfolding_all exact rfl) (.bool m.gone) (by with_unfolding_all exact rfl) (by with_unfolding_all exact rfl) (by with_unfolding_all exact rfl) _ _ GM.out _ (by with_unfolding_all exact rfl) ?_)
  intro u q x z
  have HF : Hid (Kept gT 2 o m e1 t1 e t w u) := Lib.hid ⟨x, (Keeps.of_below B1.out).trans (Keeps.of_grown q (fun k e => .inl (by injection e with e; exact e.symm)))⟩
  clear q x z c GM
  go_wp2
  go_end0
  exact ⟨rfl, HF.out⟩

set_option maxHeartbeats 1000000 in
theorem keep_3 (gT : Nat) (o m : Mg) (e1 t1 e t : Row) (w : World) (hg : Mr.At w gT (o.raw e1 t1)) :
    Calls Try.prog 65 #[.pointer (some ⟨gT, 0, none⟩), (m.raw e t).val, .int .i64 3] w fun x w' => x = .returned (.tuple #[]) ∧ Kept gT 3 o m e1 t1 e t w w' := by
  have G0 := Lib.hid hg
  clear hg
  go_enter Try.func65, Try.ntmps65
  go_wp2_with (refine wpList_box_row rfl 27 _ rfl (m.raw e t).enc.toArray (by with_unfolding_all exact rfl) ?_)
  intro w1 b1 x1 z1
  obtain ⟨gM, hgM⟩ : ∃ g, g = w.heap.size := ⟨_, rfl⟩
  have M_M := Lib.hid (show w.heap.size ≤ gM from by rw [hgM]; exact Nat.le_refl _)
  have B1 := Lib.hid b1
  rw [← hgM] at x1 ⊢
  have M1 : Hid (Mr.At w1 gM (m.raw e t)) := Lib.hid x1
  clear b1 x1 z1 hgM 
  have GM : Hid (Mr.At w1 gT (o.raw e1 t1)) := Lib.hid (Whole.below G0.out B1.out G0.out.lt)
  have c : w1.cell? ⟨gM, 4, none⟩ = some (.int .u64 (m.id : Int)) := M1.out.at_ 4
  go_wp2_with (with_reducible refine wpList_put_cell 23 ⟨by kernel_rfl, by kernel_rfl⟩ rfl _ _ rfl gT 4 (by with_unfolding_all exact rfl) (.int .u64 (m.id : Int)) (by with_unfolding_all exact rfl) (by with_unfolding_all exact rfl) (by with_unfolding_all exact rfl) _ _ GM.out _ (by with_unfolding_all exact rfl) ?_)
  intro u q x z
  have HF : Hid (Kept gT 3 o m e1 t1 e t w u) := Lib.hid ⟨x, (Keeps.of_below B1.out).trans (Keeps.of_grown q (fun k e => .inl (by injection e with e; exact e.symm)))⟩
  clear q x z c GM
  go_wp2
  go_end0
  exact ⟨rfl, HF.out⟩

set_option maxHeartbeats 1000000 in
theorem keep_4 (gT : Nat) (o m : Mg) (e1 t1 e t : Row) (w : World) (hg : Mr.At w gT (o.raw e1 t1)) :
    Calls Try.prog 65 #[.pointer (some ⟨gT, 0, none⟩), (m.raw e t).val, .int .i64 4] w fun x w' => x = .returned (.tuple #[]) ∧ Kept gT 4 o m e1 t1 e t w w' := by
  have G0 := Lib.hid hg
  clear hg
  go_enter Try.func65, Try.ntmps65
  go_wp2_with (refine wpList_box_row rfl 27 _ rfl (m.raw e t).enc.toArray (by with_unfolding_all exact rfl) ?_)
  intro w1 b1 x1 z1
  obtain ⟨gM, hgM⟩ : ∃ g, g = w.heap.size := ⟨_, rfl⟩
  have M_M := Lib.hid (show w.heap.size ≤ gM from by rw [hgM]; exact Nat.le_refl _)
  have B1 := Lib.hid b1
  rw [← hgM] at x1 ⊢
  have M1 : Hid (Mr.At w1 gM (m.raw e t)) := Lib.hid x1
  clear b1 x1 z1 hgM 
  have GM : Hid (Mr.At w1 gT (o.raw e1 t1)) := Lib.hid (Whole.below G0.out B1.out G0.out.lt)
  have c : w1.cell? ⟨gM, 2, none⟩ = some (.int .i64 m.ver) := M1.out.at_ 2
  go_wp2_with (with_reducible refine wpList_put_cell 3 ⟨by kernel_rfl, by kernel_rfl⟩ rfl _ _ rfl gT 2 (by with_unfolding_all exact rfl) (.int .i64 m.ver) (by with_unfolding_all exact rfl) (by with_unfolding_all exact rfl) (by with_unfolding_all exact rfl) _ _ GM.out _ (by with_unfolding_all exact rfl) ?_)
  intro u q x z
  have HF : Hid (Kept gT 4 o m e1 t1 e t w u) := Lib.hid ⟨x, (Keeps.of_below B1.out).trans (Keeps.of_grown q (fun k e => .inl (by injection e with e; exact e.symm)))⟩
  clear q x z c GM
  go_wp2
  go_end0
  exact ⟨rfl, HF.out⟩

set_option maxHeartbeats 1000000 in
theorem keep_5 (gT : Nat) (o m : Mg) (e1 t1 e t : Row) (w : World) (hg : Mr.At w gT (o.raw e1 t1)) :
    Calls Try.prog 65 #[.pointer (some ⟨gT, 0, none⟩), (m.raw e t).val, .int .i64 5] w fun x w' => x = .returned (.tuple #[]) ∧ Kept gT 5 o m e1 t1 e t w w' := by
  have G0 := Lib.hid hg
  clear hg
  go_enter Try.func65, Try.ntmps65
  go_wp2_with (refine wpList_box_row rfl 27 _ rfl (m.raw e t).enc.toArray (by with_unfolding_all exact rfl) ?_)
  intro w1 b1 x1 z1
  obtain ⟨gM, hgM⟩ : ∃ g, g = w.heap.size := ⟨_, rfl⟩
  have M_M := Lib.hid (show w.heap.size ≤ gM from by rw [hgM]; exact Nat.le_refl _)
  have B1 := Lib.hid b1
  rw [← hgM] at x1 ⊢
  have M1 : Hid (Mr.At w1 gM (m.raw e t)) := Lib.hid x1
  clear b1 x1 z1 hgM 
  have GM : Hid (Mr.At w1 gT (o.raw e1 t1)) := Lib.hid (Whole.below G0.out B1.out G0.out.lt)
  have c : w1.cell? ⟨gM, 7, none⟩ = some (.string ⟨m.key.toArray⟩) := M1.out.at_ 7
  go_wp2_with (with_reducible refine wpList_put_cell 9 ⟨by kernel_rfl, by kernel_rfl⟩ rfl _ _ rfl gT 7 (by with_unfolding_all exact rfl) (.string ⟨m.key.toArray⟩) (by with_unfolding_all exact rfl) (by with_unfolding_all exact rfl) (by with_unfolding_all exact rfl) _ _ GM.out _ (by with_unfolding_all exact rfl) ?_)
  intro u q x z
  have HF : Hid (Kept gT 5 o m e1 t1 e t w u) := Lib.hid ⟨x, (Keeps.of_below B1.out).trans (Keeps.of_grown q (fun k e => .inl (by injection e with e; exact e.symm)))⟩
  clear q x z c GM
  go_wp2
  go_end0
  exact ⟨rfl, HF.out⟩

set_option maxHeartbeats 1000000 in
theorem keep_6 (gT : Nat) (o m : Mg) (e1 t1 e t : Row) (w : World) (hg : Mr.At w gT (o.raw e1 t1)) :
    Calls Try.prog 65 #[.pointer (some ⟨gT, 0, none⟩), (m.raw e t).val, .int .i64 6] w fun x w' => x = .returned (.tuple #[]) ∧ Kept gT 6 o m e1 t1 e t w w' := by
  have G0 := Lib.hid hg
  clear hg
  go_enter Try.func65, Try.ntmps65
  go_wp2_with (refine wpList_box_row rfl 27 _ rfl (m.raw e t).enc.toArray (by with_unfolding_all exact rfl) ?_)
  intro w1 b1 x1 z1
  obtain ⟨gM, hgM⟩ : ∃ g, g = w.heap.size := ⟨_, rfl⟩
  have M_M := Lib.hid (show w.heap.size ≤ gM from by rw [hgM]; exact Nat.le_refl _)
  have B1 := Lib.hid b1
  rw [← hgM] at x1 ⊢
  have M1 : Hid (Mr.At w1 gM (m.raw e t)) := Lib.hid x1
  clear b1 x1 z1 hgM 
  have GM : Hid (Mr.At w1 gT (o.raw e1 t1)) := Lib.hid (Whole.below G0.out B1.out G0.out.lt)
  have c : w1.cell? ⟨gM, 8, none⟩ = some (.string ⟨m.val.toArray⟩) := M1.out.at_ 8
  go_wp2_with (with_reducible refine wpList_put_cell 9 ⟨by kernel_rfl, by kernel_rfl⟩ rfl _ _ rfl gT 8 (by with_unfolding_all exact rfl) (.string ⟨m.val.toArray⟩) (by with_unfolding_all exact rfl) (by with_unfolding_all exact rfl) (by with_unfolding_all exact rfl) _ _ GM.out _ (by with_unfolding_all exact rfl) ?_)
  intro u q x z
  have HF : Hid (Kept gT 6 o m e1 t1 e t w u) := Lib.hid ⟨x, (Keeps.of_below B1.out).trans (Keeps.of_grown q (fun k e => .inl (by injection e with e; exact e.symm)))⟩
  clear q x z c GM
  go_wp2
  go_end0
  exact ⟨rfl, HF.out⟩

set_option maxHeartbeats 1000000 in
theorem keep_7 (gT : Nat) (o m : Mg) (e1 t1 e t : Row) (w : World) (hg : Mr.At w gT (o.raw e1 t1)) :
    Calls Try.prog 65 #[.pointer (some ⟨gT, 0, none⟩), (m.raw e t).val, .int .i64 7] w fun x w' => x = .returned (.tuple #[]) ∧ Kept gT 7 o m e1 t1 e t w w' := by
  have G0 := Lib.hid hg
  clear hg
  go_enter Try.func65, Try.ntmps65
  go_wp2_with (refine wpList_box_row rfl 27 _ rfl (m.raw e t).enc.toArray (by with_unfolding_all exact rfl) ?_)
  intro w1 b1 x1 z1
  obtain ⟨gM, hgM⟩ : ∃ g, g = w.heap.size := ⟨_, rfl⟩
  have M_M := Lib.hid (show w.heap.size ≤ gM from by rw [hgM]; exact Nat.le_refl _)
  have B1 := Lib.hid b1
  rw [← hgM] at x1 ⊢
  have M1 : Hid (Mr.At w1 gM (m.raw e t)) := Lib.hid x1
  clear b1 x1 z1 hgM 
  have GM : Hid (Mr.At w1 gT (o.raw e1 t1)) := Lib.hid (Whole.below G0.out B1.out G0.out.lt)
  have c : w1.cell? ⟨gM, 9, none⟩ = some e.v := M1.out.at_ 9
  go_wp2_with (with_reducible refine wpList_put_cell 24 ⟨by kernel_rfl, by kernel_rfl⟩ rfl _ _ rfl gT 9 (by with_unfolding_all exact rfl) e.v (by with_unfolding_all exact rfl) (by with_unfolding_all exact rfl) (by with_unfolding_all exact rfl) _ _ GM.out _ (by with_unfolding_all exact rfl) ?_)
  intro u q x z
  have HF : Hid (Kept gT 7 o m e1 t1 e t w u) := Lib.hid ⟨x, (Keeps.of_below B1.out).trans (Keeps.of_grown q (fun k e => .inl (by injection e with e; exact e.symm)))⟩
  clear q x z c GM
  go_wp2
  go_end0
  exact ⟨rfl, HF.out⟩

set_option maxHeartbeats 1000000 in
theorem keep_8 (gT : Nat) (o m : Mg) (e1 t1 e t : Row) (w : World) (hg : Mr.At w gT (o.raw e1 t1)) :
    Calls Try.prog 65 #[.pointer (some ⟨gT, 0, none⟩), (m.raw e t).val, .int .i64 8] w fun x w' => x = .returned (.tuple #[]) ∧ Kept gT 8 o m e1 t1 e t w w' := by
  have G0 := Lib.hid hg
  clear hg
  go_enter Try.func65, Try.ntmps65
  go_wp2_with (refine wpList_box_row rfl 27 _ rfl (m.raw e t).enc.toArray (by with_unfolding_all exact rfl) ?_)
  intro w1 b1 x1 z1
  obtain ⟨gM, hgM⟩ : ∃ g, g = w.heap.size := ⟨_, rfl⟩
  have M_M := Lib.hid (show w.heap.size ≤ gM from by rw [hgM]; exact Nat.le_refl _)
  have B1 := Lib.hid b1
  rw [← hgM] at x1 ⊢
  have M1 : Hid (Mr.At w1 gM (m.raw e t)) := Lib.hid x1
  clear b1 x1 z1 hgM 
  have GM : Hid (Mr.At w1 gT (o.raw e1 t1)) := Lib.hid (Whole.below G0.out B1.out G0.out.lt)
  have c : w1.cell? ⟨gM, 10, none⟩ = some t.v := M1.out.at_ 10
  go_wp2_with (with_reducible refine wpList_put_cell 25 ⟨by kernel_rfl, by kernel_rfl⟩ rfl _ _ rfl gT 10 (by with_unfolding_all exact rfl) t.v (by with_unfolding_all exact rfl) (by with_unfolding_all exact rfl) (by with_unfolding_all exact rfl) _ _ GM.out _ (by with_unfolding_all exact rfl) ?_)
  intro u q x z
  have HF : Hid (Kept gT 8 o m e1 t1 e t w u) := Lib.hid ⟨x, (Keeps.of_below B1.out).trans (Keeps.of_grown q (fun k e => .inl (by injection e with e; exact e.symm)))⟩
  clear q x z c GM
  go_wp2
  go_end0
  exact ⟨rfl, HF.out⟩

theorem keep_any (f : Nat) (hf : f < 9) (gT : Nat) (o m : Mg) (e1 t1 e t : Row) (w : World) (hg : Mr.At w gT (o.raw e1 t1)) :
    Calls Try.prog 65 #[.pointer (some ⟨gT, 0, none⟩), (m.raw e t).val, .int .i64 (f : Int)] w fun x w' => x = .returned (.tuple #[]) ∧ Kept gT f o m e1 t1 e t w w' :=
  match f, hf with
  | 0, _ => keep_0 gT o m e1 t1 e t w hg
  | 1, _ => keep_1 gT o m e1 t1 e t w hg
  | 2, _ => keep_2 gT o m e1 t1 e t w hg
  | 3, _ => keep_3 gT o m e1 t1 e t w hg
  | 4, _ => keep_4 gT o m e1 t1 e t w hg
  | 5, _ => keep_5 gT o m e1 t1 e t w hg
  | 6, _ => keep_6 gT o m e1 t1 e t w hg
  | 7, _ => keep_7 gT o m e1 t1 e t w hg
  | 8, _ => keep_8 gT o m e1 t1 e t w hg
  | n + 9, h => absurd h (by omega)
end Go.Proofs.Ytnjeopgcpffkcaa
