/- What the texts of layer 20's statements lean on of package window, as one thing to prove; the chapter's example (works). -/
import Derived.Test.YtemogdcjmehdcaaWiK
namespace Go.Proofs.Ytemogdcjmehdcaa
set_option maxRecDepth 100000
open Go.RowKit

/-- A number of type int. -/
abbrev IsInt (n : Int) : Prop := (Lit.int .i64 n).wf = true
structure WindowIs : Prop where
  fresh : ∀ (W : Win) (n : Int) (w : World) (_ : W.ok) (_ : IsInt W.top) (_ : IsInt n),
    Calls Try.prog 6 #[W.val, .int .i64 n] w fun e w' => e = .returned (.int .i64 (freshX W n)) ∧ Below w.heap.size w w'
  mark : ∀ (W : Win) (n : Int) (w : World) (_ : W.ok) (_ : IsInt W.top) (_ : IsInt n),
    Calls Try.prog 8 #[W.val, .int .i64 n] w fun e w' => e = .returned (markW W n).val ∧ Below w.heap.size w w'
  seen : ∀ (W : Win) (n : Int) (w : World) (_ : W.ok) (_ : IsInt W.top) (_ : IsInt n),
    Calls Try.prog 10 #[W.val, .int .i64 n] w fun e w' => e = .returned (.bool (seenB W n)) ∧ Below w.heap.size w w'

theorem eq_win (a b : Win) (w : World) : (binOp .eql 24 a.val b.val).run Try.prog w = .ok (.bool (decide (a = b))) w := by
  obtain ⟨t1, l1, h1⟩ := a
  obtain ⟨t2, l2, h2⟩ := b
  simp only [Win.val, Win.enc]
  go_simp
  by_cases e1 : t1 = t2
  · by_cases e2 : l1 = l2
    · by_cases e3 : h1 = h2
      · simp [e1, e2, e3]
      · have e3' : ¬ (h1 : Int) = (h2 : Int) := by omega
        simp [e1, e2, e3, e3']
    · have e2' : ¬ (l1 : Int) = (l2 : Int) := by omega
      simp [e1, e2, e2']
  · simp [e1]
theorem exec_eq_win {ev : Operand → Value} {o : Oper} (x y : Operand) (t : TypeId) (ho : o.op = .binOp .eql 24 x y t) (a b : Win) (hx : ev x = a.val) (hy : ev y = b.val) (q : Bool) (hq : q = decide (a = b)) (w : World) : (execOp ev o).run Try.prog w = .ok (.value (.bool q)) w := by
  have h := eq_win a b w
  have hg : (eqGuard .eql 24 x y a.val b.val).run Try.prog w = .ok () w := by
    simp only [Win.val, Win.enc]
    go_simp
  unfold execOp
  simp [ho, hx, hy, h, hq, hg]

theorem ex_mark1 : markW win0 1 = ⟨1, 1, 0⟩ := by decide +kernel
theorem ex_mark3 : markW ⟨1, 1, 0⟩ 3 = ⟨3, 5, 0⟩ := by decide +kernel
theorem ex_fresh : freshX ⟨3, 5, 0⟩ 3 = 22 ∧ freshX ⟨3, 5, 0⟩ 2 = 0 ∧ freshX ⟨3, 5, 0⟩ 0 = 2 := by decide +kernel
theorem ex_seen : seenB ⟨3, 5, 0⟩ 1 = true ∧ seenB ⟨3, 5, 0⟩ 2 = false := by decide +kernel

set_option maxRecDepth 100000 in
set_option maxHeartbeats 1000000 in
theorem works20 (H : WindowIs) (w : World) :
    Calls Try.prog 12 #[] w fun e w' => e = .returned (.bool true) ∧ Below w.heap.size w w' := by
  have C1 : ∀ w, Hid (Calls Try.prog 8 #[.agg #[.int .i64 0, .int .u64 0, .int .u64 0], .int .i64 1] w fun e w' => e = .returned (.agg #[.int .i64 1, .int .u64 1, .int .u64 0]) ∧ Below w.heap.size w w') := fun w => Lib.hid (by have h := H.mark win0 1 w ⟨by decide, by decide⟩ (by decide) (by decide); rw [ex_mark1] at h; exact h)
  have C2 : ∀ w, Hid (Calls Try.prog 8 #[.agg #[.int .i64 1, .int .u64 1, .int .u64 0], .int .i64 3] w fun e w' => e = .returned (.agg #[.int .i64 3, .int .u64 5, .int .u64 0]) ∧ Below w.heap.size w w') := fun w => Lib.hid (by have h := H.mark ⟨1, 1, 0⟩ 3 w ⟨by decide, by decide⟩ (by decide) (by decide); rw [ex_mark3] at h; exact h)
  have F3 : ∀ w, Hid (Calls Try.prog 6 #[.agg #[.int .i64 3, .int .u64 5, .int .u64 0], .int .i64 3] w fun e w' => e = .returned (.int .i64 22) ∧ Below w.heap.size w w') := fun w => Lib.hid (by have h := H.fresh ⟨3, 5, 0⟩ 3 w ⟨by decide, by decide⟩ (by decide) (by decide); rw [ex_fresh.1] at h; exact h)
  have F2 : ∀ w, Hid (Calls Try.prog 6 #[.agg #[.int .i64 3, .int .u64 5, .int .u64 0], .int .i64 2] w fun e w' => e = .returned (.int .i64 0) ∧ Below w.heap.size w w') := fun w => Lib.hid (by have h := H.fresh ⟨3, 5, 0⟩ 2 w ⟨by decide, by decide⟩ (by decide) (by decide); rw [ex_fresh.2.1] at h; exact h)
  have F0 : ∀ w, Hid (Calls Try.prog 6 #[.agg #[.int .i64 3, .int .u64 5, .int .u64 0], .int .i64 0] w fun e w' => e = .returned (.int .i64 2) ∧ Below w.heap.size w w') := fun w => Lib.hid (by have h := H.fresh ⟨3, 5, 0⟩ 0 w ⟨by decide, by decide⟩ (by decide) (by decide); rw [ex_fresh.2.2] at h; exact h)
  have S1 : ∀ w, Hid (Calls Try.prog 10 #[.agg #[.int .i64 3, .int .u64 5, .int .u64 0], .int .i64 1] w fun e w' => e = .returned (.bool true) ∧ Below w.heap.size w w') := fun w => Lib.hid (by have h := H.seen ⟨3, 5, 0⟩ 1 w ⟨by decide, by decide⟩ (by decide) (by decide); rw [ex_seen.1] at h; exact h)
  have S2 : ∀ w, Hid (Calls Try.prog 10 #[.agg #[.int .i64 3, .int .u64 5, .int .u64 0], .int .i64 2] w fun e w' => e = .returned (.bool false) ∧ Below w.heap.size w w') := fun w => Lib.hid (by have h := H.seen ⟨3, 5, 0⟩ 2 w ⟨by decide, by decide⟩ (by decide) (by decide); rw [ex_seen.2] at h; exact h)
  clear H
  go_enter Try.func12, Try.ntmps12
  go_wp2_with fail
  refine (C1 _).out.mono ?_
  rintro e w1 ⟨rfl, b1⟩
  have B1 := Lib.hid b1
  clear b1 C1
  go_wp2_with fail
  refine (C2 _).out.mono ?_
  rintro e w2 ⟨rfl, b2⟩
  have B2 := Lib.hid (B1.out.trans (b2.mono B1.out.size))
  clear b2 C2 B1
  go_wp2_with (refine wpList_alloc_row rfl 24 rfl win0.cells win_zero ?_)
  intro w3 b3 x3 z3
  have X3 : Hid (Whole w3 w2.heap.size 24 win0.cells) := Lib.hid x3
  have B3 := Lib.hid (B2.out.trans (b3.mono B2.out.size))
  have Z3 := Lib.hid B2.out.size
  obtain ⟨g, hg⟩ : ∃ g, g = w2.heap.size := ⟨_, rfl⟩
  rw [← hg] at X3 Z3 ⊢
  clear b3 x3 z3 B2 hg
  go_wp2_with (with_reducible refine wpList_store_whole rfl 24 _ _ rfl g (Win.cells ⟨3, 5, 0⟩) (by with_unfolding_all exact rfl) (by with_unfolding_all exact rfl) _ _ X3.out (win_size _) rfl (win_one _) ?_)
  intro w4 g4 x4 z4
  have X4 : Hid (WinAt w4 g ⟨3, 5, 0⟩) := Lib.hid x4
  have B4 := Lib.hid (B3.out.grown g4 B3.out.size (fun k hk => by injection hk with hk; have := Z3.out; omega))
  clear g4 x4 z4 X3 B3
  obtain ⟨c0, c1, c2⟩ : w4.cell? ⟨g, 0, none⟩ = some (.int .i64 3) ∧ w4.cell? ⟨g, 1, none⟩ = some (.int .u64 5) ∧ w4.cell? ⟨g, 2, none⟩ = some (.int .u64 0) := WinAt.three X4.out
  go_wp2_with fail
  refine (F3 _).out.mono ?_
  rintro e w5 ⟨rfl, hb⟩
  have X5 : Hid (WinAt w5 g ⟨3, 5, 0⟩) := Lib.hid (Whole.below X4.out hb X4.out.lt)
  have B5 := Lib.hid (B4.out.trans (hb.mono B4.out.size))
  clear hb X4 B4 c0 c1 c2 F3
  obtain ⟨c0, c1, c2⟩ : w5.cell? ⟨g, 0, none⟩ = some (.int .i64 3) ∧ w5.cell? ⟨g, 1, none⟩ = some (.int .u64 5) ∧ w5.cell? ⟨g, 2, none⟩ = some (.int .u64 0) := WinAt.three X5.out
  go_wp2_with fail
  refine (F2 _).out.mono ?_
  rintro e w6 ⟨rfl, hb⟩
  have X6 : Hid (WinAt w6 g ⟨3, 5, 0⟩) := Lib.hid (Whole.below X5.out hb X5.out.lt)
  have B6 := Lib.hid (B5.out.trans (hb.mono B5.out.size))
  clear hb X5 B5 c0 c1 c2 F2
  obtain ⟨c0, c1, c2⟩ : w6.cell? ⟨g, 0, none⟩ = some (.int .i64 3) ∧ w6.cell? ⟨g, 1, none⟩ = some (.int .u64 5) ∧ w6.cell? ⟨g, 2, none⟩ = some (.int .u64 0) := WinAt.three X6.out
  go_wp2_with fail
  refine (S1 _).out.mono ?_
  rintro e w7 ⟨rfl, hb⟩
  have X7 : Hid (WinAt w7 g ⟨3, 5, 0⟩) := Lib.hid (Whole.below X6.out hb X6.out.lt)
  have B7 := Lib.hid (B6.out.trans (hb.mono B6.out.size))
  clear hb X6 B6 c0 c1 c2 S1
  obtain ⟨c0, c1, c2⟩ : w7.cell? ⟨g, 0, none⟩ = some (.int .i64 3) ∧ w7.cell? ⟨g, 1, none⟩ = some (.int .u64 5) ∧ w7.cell? ⟨g, 2, none⟩ = some (.int .u64 0) := WinAt.three X7.out
  go_wp2_with fail
  refine (S2 _).out.mono ?_
  rintro e w8 ⟨rfl, hb⟩
  have X8 : Hid (WinAt w8 g ⟨3, 5, 0⟩) := Lib.hid (Whole.below X7.out hb X7.out.lt)
  have B8 := Lib.hid (B7.out.trans (hb.mono B7.out.size))
  clear hb X7 B7 c0 c1 c2 S2
  obtain ⟨c0, c1, c2⟩ : w8.cell? ⟨g, 0, none⟩ = some (.int .i64 3) ∧ w8.cell? ⟨g, 1, none⟩ = some (.int .u64 5) ∧ w8.cell? ⟨g, 2, none⟩ = some (.int .u64 0) := WinAt.three X8.out
  go_wp2_with fail
  refine (F0 _).out.mono ?_
  rintro e w9 ⟨rfl, hb⟩
  have B9 := Lib.hid (B8.out.trans (hb.mono B8.out.size))
  clear hb X8 B8 c0 c1 c2 F0
  go_wp2
  go_ret
  exact ⟨rfl, B9.out⟩
end Go.Proofs.Ytemogdcjmehdcaa
