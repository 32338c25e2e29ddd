/- The document's office: Issue. -/
import Derived.Test.YtfcjemedheccgaaDoorMOfT
import Derived.BigQuiet
namespace Go.Proofs.YtfcjemedheccgaaDoor
set_option maxRecDepth 100000
open Go.RowKit

set_option maxHeartbeats 1000000 in
theorem rffIssue_name (g : Nat) (n : List UInt8) (id : Nat) (f t : Int) (hb : nameB n = false) (w : World) :
    Calls Tryd.prog 25 #[.pointer (some ⟨g, 0, none⟩), .string ⟨n.toArray⟩, .int .u64 (id : Int), .int .i64 f, .int .i64 t] w fun e w' => e = .returned (.tuple #[ent0.val, .int .i64 30]) ∧ Below w.heap.size w w' := by
  have CN := fun w => Lib.hid (refName_any n w)
  rw [hb] at CN
  clear hb
  go_enter Tryd.func25, Tryd.ntmps25
  go_wp2_with (refine wpList_alloc_row rfl 48 rfl ent0.cells ent_zero ?_)
  intro w1 b1 x1 z1
  obtain ⟨gX, hgX⟩ : ∃ g, g = w.heap.size := ⟨_, rfl⟩
  have M_X := Lib.hid (show w.heap.size ≤ gX from by rw [hgX]; exact Nat.le_refl _)
  have B1 := Lib.hid b1
  rw [← hgX] at x1 ⊢
  have X1 : Hid (Whole w1 gX 48 ent0.cells) := Lib.hid x1
  clear b1 x1 z1 hgX 
  go_wp2_with fail
  refine (CN _).out.mono ?_
  rintro e w9 ⟨rfl, rfl⟩
  go_wp2_with (with_reducible refine wpList_store_whole rfl 48 _ _ rfl gX ent0.cells (by with_unfolding_all exact rfl) (by with_unfolding_all exact rfl) _ _ X1.out (ent_size' _) rfl (Ent.cells_one _) ?_)
  intro w2 q2 x2 z2
  have X2 : Hid (Whole w2 gX 48 ent0.cells) := Lib.hid x2
  have B2 := Lib.hid (B1.out.grown q2 B1.out.size (fun k hk => by injection hk with hk; have := M_X.out; omega))
  clear q2 x2 z2 X1 B1
  go_wp2
  exact bodyPost_ret (results_ent_tmp rfl _ _ _ _ rfl X2.out) rfl ⟨rfl, B2.out⟩
set_option maxHeartbeats 1000000 in
theorem rffIssue_gone (g : Nat) (v u : Value) (s : OS) (N : Nat) (ok : s.Ok N) (hN : N ≤ 4000000) (n : List UInt8) (id : Nat) (f t : Int) (hb : nameB n = true) (hm : s.marked n = true) (w : World) (h : RffAt w g v u s) :
    Calls Tryd.prog 25 #[.pointer (some ⟨g, 0, none⟩), .string ⟨n.toArray⟩, .int .u64 (id : Int), .int .i64 f, .int .i64 t] w fun e w' => e = .returned (.tuple #[ent0.val, .int .i64 33]) ∧ Below w.heap.size w w' := by
  have CN := fun w => Lib.hid (refName_any n w)
  have CM := fun w h => Lib.hid (rffGone_any g v u s n (by have := ok.gone; omega) w h)
  rw [hb] at CN
  simp only [hm] at CM
  have O := Lib.hid h
  clear hb h hm ok hN
  go_enter Tryd.func25, Tryd.ntmps25
  go_wp2_with (refine wpList_alloc_row rfl 48 rfl ent0.cells ent_zero ?_)
  intro w1 b1 x1 z1
  obtain ⟨gX, hgX⟩ : ∃ g, g = w.heap.size := ⟨_, rfl⟩
  have M_X := Lib.hid (show w.heap.size ≤ gX from by rw [hgX]; exact Nat.le_refl _)
  have B1 := Lib.hid b1
  rw [← hgX] at x1 ⊢
  have X1 : Hid (Whole w1 gX 48 ent0.cells) := Lib.hid x1
  clear b1 x1 z1 hgX 
  go_wp2_with fail
  refine (CN _).out.mono ?_
  rintro e w9 ⟨rfl, rfl⟩
  go_wp2_with fail
  refine ((CM w1 (O.out.below B1.out)).out).mono ?_
  rintro e2 w2 ⟨rfl, b2⟩
  have X2 : Hid (Whole w2 gX 48 ent0.cells) := Lib.hid (Whole.below X1.out b2 X1.out.lt)
  have B2 := Lib.hid (B1.out.trans (b2.mono B1.out.size))
  clear b2 X1 B1
  go_wp2_with (with_reducible refine wpList_store_whole rfl 48 _ _ rfl gX ent0.cells (by with_unfolding_all exact rfl) (by with_unfolding_all exact rfl) _ _ X2.out (ent_size' _) rfl (Ent.cells_one _) ?_)
  intro w3 q3 x3 z3
  have X3 : Hid (Whole w3 gX 48 ent0.cells) := Lib.hid x3
  have B3 := Lib.hid (B2.out.grown q3 B2.out.size (fun k hk => by injection hk with hk; have := M_X.out; omega))
  clear q3 x3 z3 X2 B2
  go_wp2
  exact bodyPost_ret (results_ent_tmp rfl _ _ _ _ rfl X3.out) rfl ⟨rfl, B3.out⟩
theorem arg_ways {f t : Int} (b1 b2 b3 : Bool) (h1 : decide (f < 0) = b1) (h2 : decide (t < f) = b2) (h3 : decide (t > 1073741824) = b3) : (b1 || b2 || b3) = decide (argBad f t) := by
  rw [Bool.eq_iff_iff, decide_eq_true_eq]
  subst h1 h2 h3
  simp [argBad, or_assoc]
set_option maxHeartbeats 1000000 in
theorem rffIssue_args (g : Nat) (v u : Value) (s : OS) (N : Nat) (ok : s.Ok N) (hN : N ≤ 4000000) (n : List UInt8) (id : Nat) (f t : Int) (hb : nameB n = true) (hm : s.marked n = false) (ha : argBad f t) (w : World) (h : RffAt w g v u s) :
    Calls Tryd.prog 25 #[.pointer (some ⟨g, 0, none⟩), .string ⟨n.toArray⟩, .int .u64 (id : Int), .int .i64 f, .int .i64 t] w fun e w' => e = .returned (.tuple #[ent0.val, .int .i64 2]) ∧ Below w.heap.size w w' := by
  have CN := fun w => Lib.hid (refName_any n w)
  have CM := fun w h => Lib.hid (rffGone_any g v u s n (by have := ok.gone; omega) w h)
  rw [hb] at CN
  simp only [hm] at CM
  have O := Lib.hid h
  obtain ⟨b1, h1⟩ : ∃ b, b = decide (f < 0) := ⟨_, rfl⟩
  obtain ⟨b2, h2⟩ : ∃ b, b = decide (t < f) := ⟨_, rfl⟩
  obtain ⟨b3, h3⟩ : ∃ b, b = decide (t > 1073741824) := ⟨_, rfl⟩
  have HW := Lib.hid ((arg_ways b1 b2 b3 h1.symm h2.symm h3.symm).trans (decide_eq_true ha))
  have d1 := h1.symm
  have d2 := h2.symm
  have d3 := h3.symm
  clear hb h hm ok hN ha h1 h2 h3
  cases b1 <;> cases b2 <;> cases b3
  · exact absurd HW.out (by decide)
  all_goals
    clear HW
    go_enter Tryd.func25, Tryd.ntmps25
    go_wp2_with (refine wpList_alloc_row rfl 48 rfl ent0.cells ent_zero ?_)
    intro w1 b1 x1 z1
    obtain ⟨gX, hgX⟩ : ∃ g, g = w.heap.size := ⟨_, rfl⟩
    have M_X := Lib.hid (show w.heap.size ≤ gX from by rw [hgX]; exact Nat.le_refl _)
    have B1 := Lib.hid b1
    rw [← hgX] at x1 ⊢
    have X1 : Hid (Whole w1 gX 48 ent0.cells) := Lib.hid x1
    clear b1 x1 z1 hgX 
    go_wp2_with fail
    refine (CN _).out.mono ?_
    rintro e w9 ⟨rfl, rfl⟩
    go_wp2_with fail
    refine ((CM w1 (O.out.below B1.out)).out).mono ?_
    rintro e2 w2 ⟨rfl, b2⟩
    have X2 : Hid (Whole w2 gX 48 ent0.cells) := Lib.hid (Whole.below X1.out b2 X1.out.lt)
    have B2 := Lib.hid (B1.out.trans (b2.mono B1.out.size))
    clear b2 X1 B1
    go_wp2_with (with_reducible refine wpList_store_whole rfl 48 _ _ rfl gX ent0.cells (by with_unfolding_all exact rfl) (by with_unfolding_all exact rfl) _ _ X2.out (ent_size' _) rfl (Ent.cells_one _) ?_)
    intro w3 q3 x3 z3
    have X3 : Hid (Whole w3 gX 48 ent0.cells) := Lib.hid x3
    have B3 := Lib.hid (B2.out.grown q3 B2.out.size (fun k hk => by injection hk with hk; have := M_X.out; omega))
    clear q3 x3 z3 X2 B2
    go_wp2
    exact bodyPost_ret (results_ent_tmp rfl _ _ _ _ rfl X3.out) rfl ⟨rfl, B3.out⟩
set_option maxHeartbeats 1000000 in
theorem rffIssue_good (g : Nat) (v u : Value) (s : OS) (N : Nat) (ok : s.Ok N) (hN : N ≤ 4000000) (n : List UInt8) (id : Nat) (f t : Int) (hl : n.length ≤ 1000) (hi : id < 18446744073709551616) (hb : nameB n = true) (hm : s.marked n = false) (ha : ¬ argBad f t) (w : World) (h : RffAt w g v u s) :
    Calls Tryd.prog 25 #[.pointer (some ⟨g, 0, none⟩), .string ⟨n.toArray⟩, .int .u64 (id : Int), .int .i64 f, .int .i64 t] w fun e w' => e = .returned (.tuple #[(s.sign ⟨n, id, f, t, 0, []⟩).val, .int .i64 0]) ∧ ∃ v', RffAt w' g v' u (s.more [s.sign ⟨n, id, f, t, 0, []⟩]) ∧ Moves (Foot g v u) (Foot g v' u) w w' := by
  have CN := fun w => Lib.hid (refName_any n w)
  have CM := fun w h => Lib.hid (rffGone_any g v u s n (by have := ok.gone; omega) w h)
  have CI := fun w h => Lib.hid (rffIssue1_any g v u s N ok hN ⟨n, id, f, t, 0, []⟩ ⟨hl, hi⟩ w h)
  rw [hb] at CN
  simp only [hm] at CM
  obtain ⟨S, hS⟩ : ∃ S, S = s.sign ⟨n, id, f, t, 0, []⟩ := ⟨_, rfl⟩
  rw [← hS] at CI ⊢
  have O := Lib.hid h
  have HF := Lib.hid h.lt
  simp only [argBad, not_or] at ha
  have d1 : decide (f < 0) = false := by simpa using ha.1
  have d2 : decide (t < f) = false := by simpa using ha.2.1
  have d3 : decide (t > 1073741824) = false := by simpa using ha.2.2
  have d3' : decide (1073741824 < t) = false := by simpa using ha.2.2
  clear hb h hm ok hN ha hl hi hS
  go_enter Tryd.func25, Tryd.ntmps25
  go_wp2_with (refine wpList_alloc_row rfl 48 rfl ent0.cells ent_zero ?_)
  intro w1 b1 x1 z1
  obtain ⟨gX, hgX⟩ : ∃ g, g = w.heap.size := ⟨_, rfl⟩
  have M_X := Lib.hid (show w.heap.size ≤ gX from by rw [hgX]; exact Nat.le_refl _)
  have B1 := Lib.hid b1
  rw [← hgX] at x1 ⊢
  have X1 : Hid (Whole w1 gX 48 ent0.cells) := Lib.hid x1
  clear b1 x1 z1 hgX 
  go_wp2_with fail
  refine (CN _).out.mono ?_
  rintro e w9 ⟨rfl, rfl⟩
  go_wp2_with fail
  refine ((CM w1 (O.out.below B1.out)).out).mono ?_
  rintro e2 w2 ⟨rfl, b2⟩
  have X2 : Hid (Whole w2 gX 48 ent0.cells) := Lib.hid (Whole.below X1.out b2 X1.out.lt)
  have B2 := Lib.hid (B1.out.trans (b2.mono B1.out.size))
  clear b2 X1 B1
  go_wp2_with fail
  refine (CI w2 (O.out.below B2.out)).out.mono ?_
  rintro e w8 ⟨v', rfl, o8, m8⟩
  have X8 : Hid (Whole w8 gX 48 ent0.cells) := Lib.hid (Whole.keeps X2.out m8.keeps (fun k => by have := HF.out _ k; have := M_X.out; omega))
  have F8 : Hid (∀ i, Foot g v' u i → i ≠ gX) := Lib.hid (fun i k e => by
    subst e
    rcases m8.foot _ k with k | k
    · have := HF.out _ k; have := M_X.out; omega
    · have := X2.out.lt; omega)
  have M8 := Lib.hid ((Moves.of_below (Foot g v u) B2.out).trans m8)
  have O8 := Lib.hid o8
  clear o8 m8 CI CM X2 B2
  go_wp2_with (with_reducible refine wpList_store_whole rfl 48 _ _ rfl gX S.cells (by with_unfolding_all exact rfl) (by with_unfolding_all exact rfl) _ _ X8.out (ent_size' _) rfl (Ent.cells_one _) ?_)
  intro w11 q11 x11 z11
  have X11 := Lib.hid x11
  have F : Hid (RffAt w11 g v' u (s.more [S]) ∧ Moves (Foot g v u) (Foot g v' u) w w11) := Lib.hid ⟨O8.out.keeps (F := fun i => i = gX) (Keeps.of_grown q11 (fun k hk => .inl (by injection hk with hk; exact hk.symm))) (fun i k e => F8.out i k e), ⟨M8.out.keeps.then (G := fun i => i = gX) (Keeps.of_grown q11 (fun k hk => .inl (by injection hk with hk; exact hk.symm))) (fun i e => .inr (by have := M_X.out; omega)), M8.out.foot⟩⟩
  clear q11 x11 z11 M8 X8 F8 O8
  go_wp2
  exact bodyPost_ret (results_ent_tmp rfl _ _ _ _ rfl X11.out) rfl ⟨rfl, _, F.out⟩
theorem rff_bad {s : OS} {n : List UInt8} {id : Nat} {f t : Int} (h : issC s n f t ≠ 0) : issE s n id f t = ent0 ∧ issS s n id f t = s := by rw [issE, issS, if_neg h, if_neg h]; exact ⟨rfl, rfl⟩
theorem rffIssue_any (g : Nat) (v u : Value) (s : OS) (N : Nat) (ok : s.Ok N) (hN : N ≤ 4000000) (n : List UInt8) (id : Nat) (f t : Int) (hl : n.length ≤ 1000) (hi : id < 18446744073709551616) (w : World) (h : RffAt w g v u s) :
    Calls Tryd.prog 25 #[.pointer (some ⟨g, 0, none⟩), .string ⟨n.toArray⟩, .int .u64 (id : Int), .int .i64 f, .int .i64 t] w fun e w' => e = .returned (.tuple #[(issE s n id f t).val, .int .i64 (issC s n f t)]) ∧ ∃ v', RffAt w' g v' u (issS s n id f t) ∧ Moves (Foot g v u) (Foot g v' u) w w' := by
  have bad : ∀ c : Int, c ≠ 0 → issC s n f t = c → Calls Tryd.prog 25 #[.pointer (some ⟨g, 0, none⟩), .string ⟨n.toArray⟩, .int .u64 (id : Int), .int .i64 f, .int .i64 t] w (fun e w' => e = .returned (.tuple #[ent0.val, .int .i64 c]) ∧ Below w.heap.size w w') →
      Calls Tryd.prog 25 #[.pointer (some ⟨g, 0, none⟩), .string ⟨n.toArray⟩, .int .u64 (id : Int), .int .i64 f, .int .i64 t] w fun e w' => e = .returned (.tuple #[(issE s n id f t).val, .int .i64 (issC s n f t)]) ∧ ∃ v', RffAt w' g v' u (issS s n id f t) ∧ Moves (Foot g v u) (Foot g v' u) w w' := by
    intro c hc e C
    obtain ⟨h1, h2⟩ := rff_bad (id := id) (by rw [e]; exact hc)
    rw [h1, h2, e]
    exact C.mono fun _ _ q => ⟨q.1, v, h.below q.2, Moves.of_below _ q.2⟩
  cases hb : nameB n with
  | false => exact bad 30 (by decide) (by rw [issC, if_pos hb]) (rffIssue_name g n id f t hb w)
  | true =>
    cases hm : s.marked n with
    | true => exact bad 33 (by decide) (by rw [issC, if_neg (by simp [hb]), if_pos hm]) (rffIssue_gone g v u s N ok hN n id f t hb hm w h)
    | false =>
      by_cases ha : argBad f t
      · exact bad 2 (by decide) (by rw [issC, if_neg (by simp [hb]), if_neg (by simp [hm]), if_pos ha]) (rffIssue_args g v u s N ok hN n id f t hb hm ha w h)
      · have hc : issC s n f t = 0 := by rw [issC, if_neg (by simp [hb]), if_neg (by simp [hm]), if_neg ha]
        rw [issE, issS, if_pos hc, if_pos hc, hc]
        exact rffIssue_good g v u s N ok hN n id f t hl hi hb hm ha w h
end Go.Proofs.YtfcjemedheccgaaDoor
