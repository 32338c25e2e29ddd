/- Package office as landed: Issue, whole. -/
import Derived.Test.YtfcjemedheccgaaDoorGbd
namespace Go.Proofs.YtfcjemedheccgaaDoor
set_option maxRecDepth 100000
open Go.RowKit

set_option maxHeartbeats 1000000 in
theorem issue_gone (g : Nat) (v u : Value) (s : OS) (N : Nat) (ok : s.Ok N) (hN : N ≤ 4000000) (n : List UInt8) (id : Nat) (f t : Int) (hb : nameB n = true) (hm : s.marked n = true) (w : World) (h : OffAt w g v u s) :
    Calls Tryd.prog 18 #[.pointer (some ⟨g, 0, none⟩), .string ⟨n.toArray⟩, .int .u64 (id : Int), .int .i64 f, .int .i64 t] w fun e w' => e = .returned (.tuple #[ent0.val, .int .i64 33]) ∧ Below w.heap.size w w' := by
  have CN := fun w => Lib.hid (labelName_any n w)
  have CM := fun w h => Lib.hid (marked_below g v u s n N ok hN w h)
  rw [hb] at CN
  simp only [hm] at CM
  have O := Lib.hid h
  clear hb h hm ok hN
  go_enter Tryd.func18, Tryd.ntmps18
  go_wp2_with (refine wpList_alloc_row rfl 48 rfl ent0.cells ent_zero ?_)
  intro w1 b1 x1 z1
  obtain ⟨gX, hgX⟩ : ∃ g, g = w.heap.size := ⟨_, rfl⟩
  have M_X := Lib.hid (show w.heap.size ≤ gX from by rw [hgX]; exact Nat.le_refl _)
  have B1 := Lib.hid b1
  rw [← hgX] at x1 ⊢
  have X1 : Hid (Whole w1 gX 48 ent0.cells) := Lib.hid x1
  clear b1 x1 z1 hgX 
  go_wp2_with fail
  refine ((CN w1).out).mono ?_
  rintro e2 w2 ⟨rfl, b2⟩
  have X2 : Hid (Whole w2 gX 48 ent0.cells) := Lib.hid (Whole.below X1.out b2 X1.out.lt)
  have B2 := Lib.hid (B1.out.trans (b2.mono B1.out.size))
  clear b2 X1 B1
  go_wp2_with fail
  refine ((CM w2 (O.out.below B2.out)).out).mono ?_
  rintro e3 w3 ⟨rfl, b3⟩
  have X3 : Hid (Whole w3 gX 48 ent0.cells) := Lib.hid (Whole.below X2.out b3 X2.out.lt)
  have B3 := Lib.hid (B2.out.trans (b3.mono B2.out.size))
  clear b3 X2 B2
  go_wp2_with (with_reducible refine wpList_store_whole rfl 48 _ _ rfl gX ent0.cells (by with_unfolding_all exact rfl) (by with_unfolding_all exact rfl) _ _ X3.out (ent_size' _) rfl (Ent.cells_one _) ?_)
  intro w4 q4 x4 z4
  have X4 : Hid (Whole w4 gX 48 ent0.cells) := Lib.hid x4
  have B4 := Lib.hid (B3.out.grown q4 B3.out.size (fun k hk => by injection hk with hk; have := M_X.out; omega))
  clear q4 x4 z4 X3 B3
  go_wp2
  exact bodyPost_ret (results_ent_tmp rfl _ _ _ _ rfl X4.out) rfl ⟨rfl, B4.out⟩
set_option maxHeartbeats 1000000 in
theorem issue_args (g : Nat) (v u : Value) (s : OS) (N : Nat) (ok : s.Ok N) (hN : N ≤ 4000000) (n : List UInt8) (id : Nat) (f t : Int) (hb : nameB n = true) (hm : s.marked n = false) (ha : argBad f t) (w : World) (h : OffAt w g v u s) :
    Calls Tryd.prog 18 #[.pointer (some ⟨g, 0, none⟩), .string ⟨n.toArray⟩, .int .u64 (id : Int), .int .i64 f, .int .i64 t] w fun e w' => e = .returned (.tuple #[ent0.val, .int .i64 2]) ∧ Below w.heap.size w w' := by
  have CN := fun w => Lib.hid (labelName_any n w)
  have CM := fun w h => Lib.hid (marked_below g v u s n N ok hN w h)
  rw [hb] at CN
  simp only [hm] at CM
  have O := Lib.hid h
  have HA := Lib.hid ha
  clear hb h hm ok hN ha
  by_cases h1 : f < 0
  · have d1 : decide (f < 0) = true := by simpa using h1
    clear h1
    go_enter Tryd.func18, Tryd.ntmps18
    go_wp2_with (refine wpList_alloc_row rfl 48 rfl ent0.cells ent_zero ?_)
    intro w1 b1 x1 z1
    obtain ⟨gX, hgX⟩ : ∃ g, g = w.heap.size := ⟨_, rfl⟩
    have M_X := Lib.hid (show w.heap.size ≤ gX from by rw [hgX]; exact Nat.le_refl _)
    have B1 := Lib.hid b1
    rw [← hgX] at x1 ⊢
    have X1 : Hid (Whole w1 gX 48 ent0.cells) := Lib.hid x1
    clear b1 x1 z1 hgX 
    go_wp2_with fail
    refine ((CN w1).out).mono ?_
    rintro e2 w2 ⟨rfl, b2⟩
    have X2 : Hid (Whole w2 gX 48 ent0.cells) := Lib.hid (Whole.below X1.out b2 X1.out.lt)
    have B2 := Lib.hid (B1.out.trans (b2.mono B1.out.size))
    clear b2 X1 B1
    go_wp2_with fail
    refine ((CM w2 (O.out.below B2.out)).out).mono ?_
    rintro e3 w3 ⟨rfl, b3⟩
    have X3 : Hid (Whole w3 gX 48 ent0.cells) := Lib.hid (Whole.below X2.out b3 X2.out.lt)
    have B3 := Lib.hid (B2.out.trans (b3.mono B2.out.size))
    clear b3 X2 B2
    go_wp2_with (with_reducible refine wpList_store_whole rfl 48 _ _ rfl gX ent0.cells (by with_unfolding_all exact rfl) (by with_unfolding_all exact rfl) _ _ X3.out (ent_size' _) rfl (Ent.cells_one _) ?_)
    intro w4 q4 x4 z4
    have X4 : Hid (Whole w4 gX 48 ent0.cells) := Lib.hid x4
    have B4 := Lib.hid (B3.out.grown q4 B3.out.size (fun k hk => by injection hk with hk; have := M_X.out; omega))
    clear q4 x4 z4 X3 B3
    go_wp2
    exact bodyPost_ret (results_ent_tmp rfl _ _ _ _ rfl X4.out) rfl ⟨rfl, B4.out⟩
  by_cases h2 : t < f
  · have d1 : decide (f < 0) = false := by simpa using h1
    have d2 : decide (t < f) = true := by simpa using h2
    clear h1 h2
    go_enter Tryd.func18, Tryd.ntmps18
    go_wp2_with (refine wpList_alloc_row rfl 48 rfl ent0.cells ent_zero ?_)
    intro w1 b1 x1 z1
    obtain ⟨gX, hgX⟩ : ∃ g, g = w.heap.size := ⟨_, rfl⟩
    have M_X := Lib.hid (show w.heap.size ≤ gX from by rw [hgX]; exact Nat.le_refl _)
    have B1 := Lib.hid b1
    rw [← hgX] at x1 ⊢
    have X1 : Hid (Whole w1 gX 48 ent0.cells) := Lib.hid x1
    clear b1 x1 z1 hgX 
    go_wp2_with fail
    refine ((CN w1).out).mono ?_
    rintro e2 w2 ⟨rfl, b2⟩
    have X2 : Hid (Whole w2 gX 48 ent0.cells) := Lib.hid (Whole.below X1.out b2 X1.out.lt)
    have B2 := Lib.hid (B1.out.trans (b2.mono B1.out.size))
    clear b2 X1 B1
    go_wp2_with fail
    refine ((CM w2 (O.out.below B2.out)).out).mono ?_
    rintro e3 w3 ⟨rfl, b3⟩
    have X3 : Hid (Whole w3 gX 48 ent0.cells) := Lib.hid (Whole.below X2.out b3 X2.out.lt)
    have B3 := Lib.hid (B2.out.trans (b3.mono B2.out.size))
    clear b3 X2 B2
    go_wp2_with (with_reducible refine wpList_store_whole rfl 48 _ _ rfl gX ent0.cells (by with_unfolding_all exact rfl) (by with_unfolding_all exact rfl) _ _ X3.out (ent_size' _) rfl (Ent.cells_one _) ?_)
    intro w4 q4 x4 z4
    have X4 : Hid (Whole w4 gX 48 ent0.cells) := Lib.hid x4
    have B4 := Lib.hid (B3.out.grown q4 B3.out.size (fun k hk => by injection hk with hk; have := M_X.out; omega))
    clear q4 x4 z4 X3 B3
    go_wp2
    exact bodyPost_ret (results_ent_tmp rfl _ _ _ _ rfl X4.out) rfl ⟨rfl, B4.out⟩
  have h3 : 1073741824 < t := by rcases HA.out with k | k | k <;> omega
  have d1 : decide (f < 0) = false := by simpa using h1
  have d2 : decide (t < f) = false := by simpa using h2
  have d3 : decide (t > 1073741824) = true := by simpa using h3
  have d3' : decide (1073741824 < t) = true := by simpa using h3
  clear h1 h2 h3
  go_enter Tryd.func18, Tryd.ntmps18
  go_wp2_with (refine wpList_alloc_row rfl 48 rfl ent0.cells ent_zero ?_)
  intro w1 b1 x1 z1
  obtain ⟨gX, hgX⟩ : ∃ g, g = w.heap.size := ⟨_, rfl⟩
  have M_X := Lib.hid (show w.heap.size ≤ gX from by rw [hgX]; exact Nat.le_refl _)
  have B1 := Lib.hid b1
  rw [← hgX] at x1 ⊢
  have X1 : Hid (Whole w1 gX 48 ent0.cells) := Lib.hid x1
  clear b1 x1 z1 hgX 
  go_wp2_with fail
  refine ((CN w1).out).mono ?_
  rintro e2 w2 ⟨rfl, b2⟩
  have X2 : Hid (Whole w2 gX 48 ent0.cells) := Lib.hid (Whole.below X1.out b2 X1.out.lt)
  have B2 := Lib.hid (B1.out.trans (b2.mono B1.out.size))
  clear b2 X1 B1
  go_wp2_with fail
  refine ((CM w2 (O.out.below B2.out)).out).mono ?_
  rintro e3 w3 ⟨rfl, b3⟩
  have X3 : Hid (Whole w3 gX 48 ent0.cells) := Lib.hid (Whole.below X2.out b3 X2.out.lt)
  have B3 := Lib.hid (B2.out.trans (b3.mono B2.out.size))
  clear b3 X2 B2
  go_wp2_with (with_reducible refine wpList_store_whole rfl 48 _ _ rfl gX ent0.cells (by with_unfolding_all exact rfl) (by with_unfolding_all exact rfl) _ _ X3.out (ent_size' _) rfl (Ent.cells_one _) ?_)
  intro w4 q4 x4 z4
  have X4 : Hid (Whole w4 gX 48 ent0.cells) := Lib.hid x4
  have B4 := Lib.hid (B3.out.grown q4 B3.out.size (fun k hk => by injection hk with hk; have := M_X.out; omega))
  clear q4 x4 z4 X3 B3
  go_wp2
  exact bodyPost_ret (results_ent_tmp rfl _ _ _ _ rfl X4.out) rfl ⟨rfl, B4.out⟩
set_option maxHeartbeats 1000000 in
theorem issue_good (g : Nat) (v u : Value) (s : OS) (N : Nat) (ok : s.Ok N) (hN : N ≤ 4000000) (n : List UInt8) (id : Nat) (f t : Int) (hl : n.length ≤ 1000) (hi : id < 18446744073709551616) (hb : nameB n = true) (hm : s.marked n = false) (ha : ¬ argBad f t) (w : World) (T : Tab w) (hA : Away (Foot g v u)) (h : OffAt w g v u s) :
    Calls Tryd.prog 18 #[.pointer (some ⟨g, 0, none⟩), .string ⟨n.toArray⟩, .int .u64 (id : Int), .int .i64 f, .int .i64 t] w fun e w' => e = .returned (.tuple #[(s.sign ⟨n, id, f, t, 0, []⟩).val, .int .i64 0]) ∧ ∃ v', OffAt w' g v' u (s.more [s.sign ⟨n, id, f, t, 0, []⟩]) ∧ Moves (Foot g v u) (Foot g v' u) w w' := by
  have CN := fun w => Lib.hid (labelName_any n w)
  have CM := fun w h => Lib.hid (marked_below g v u s n N ok hN w h)
  rw [hb] at CN
  simp only [hm] at CM
  obtain ⟨x, hx⟩ : ∃ x : Ent, x = ⟨n, id, f, t, 0, []⟩ := ⟨_, rfl⟩
  have hxe : x.name.length ≤ 1000 ∧ x.id < 18446744073709551616 := by rw [hx]; exact ⟨hl, hi⟩
  have CS := fun b l w T h hl hd hla => Lib.hid (sign_any g v u s N ok hN b l [x] (by simp) (fun e he => by rw [List.mem_singleton] at he; rw [he]; exact hxe) w T hA h hl hd hla)
  simp only [List.map_cons, List.map_nil] at CS
  rw [← hx]
  have HX := Lib.hid hx
  have O := Lib.hid h
  have T0 := Lib.hid T
  have HF := Lib.hid h.lt
  simp only [argBad, not_or] at ha
  have d1 : decide (f < 0) = false := by simpa using ha.1
  have d2 : decide (t < f) = false := by simpa using ha.2.1
  have d3 : decide (t > 1073741824) = false := by simpa using ha.2.2
  have d3' : decide (1073741824 < t) = false := by simpa using ha.2.2
  clear hb h hm ok hN ha hl hi T hA hx hxe
  go_enter Tryd.func18, Tryd.ntmps18
  go_wp2_with (refine wpList_alloc_row rfl 48 rfl ent0.cells ent_zero ?_)
  intro w1 b1 x1 z1
  obtain ⟨gX, hgX⟩ : ∃ g, g = w.heap.size := ⟨_, rfl⟩
  have M_X := Lib.hid (show w.heap.size ≤ gX from by rw [hgX]; exact Nat.le_refl _)
  have B1 := Lib.hid b1
  rw [← hgX] at x1 ⊢
  have X1 : Hid (Whole w1 gX 48 ent0.cells) := Lib.hid x1
  clear b1 x1 z1 hgX 
  go_wp2_with fail
  refine ((CN w1).out).mono ?_
  rintro e2 w2 ⟨rfl, b2⟩
  have X2 : Hid (Whole w2 gX 48 ent0.cells) := Lib.hid (Whole.below X1.out b2 X1.out.lt)
  have B2 := Lib.hid (B1.out.trans (b2.mono B1.out.size))
  clear b2 X1 B1
  go_wp2_with fail
  refine ((CM w2 (O.out.below B2.out)).out).mono ?_
  rintro e3 w3 ⟨rfl, b3⟩
  have X3 : Hid (Whole w3 gX 48 ent0.cells) := Lib.hid (Whole.below X2.out b3 X2.out.lt)
  have B3 := Lib.hid (B2.out.trans (b3.mono B2.out.size))
  clear b3 X2 B2
  go_wp2_with (refine wpList_alloc_row rfl 48 rfl ent0.cells ent_zero ?_)
  intro w4 b4 x4 z4
  obtain ⟨gE, hgE⟩ : ∃ g, g = w3.heap.size := ⟨_, rfl⟩
  have N_X_E := Lib.hid (show gX < gE from by rw [hgE]; exact X3.out.lt)
  have M_E := Lib.hid (show w.heap.size ≤ gE from by rw [hgE]; exact B3.out.size)
  have X4 : Hid (Whole w4 gX 48 ent0.cells) := Lib.hid (Whole.below X3.out b4 X3.out.lt)
  have B4 := Lib.hid (B3.out.trans (b4.mono B3.out.size))
  rw [← hgE] at x4 ⊢
  have E4 : Hid (Whole w4 gE 48 ent0.cells) := Lib.hid x4
  clear b4 x4 z4 hgE X3 B3
  go_wp2_with (with_reducible refine wpList_store_whole rfl 48 _ _ rfl gE (⟨n, id, f, t, 0, []⟩ : Ent).cells (by with_unfolding_all exact rfl) (by with_unfolding_all exact rfl) _ _ E4.out (ent_size' _) rfl (Ent.cells_one _) ?_)
  intro w5 q5 x5 z5
  have E5 : Hid (Whole w5 gE 48 (⟨n, id, f, t, 0, []⟩ : Ent).cells) := Lib.hid x5
  have X5 : Hid (Whole w5 gX 48 ent0.cells) := Lib.hid (grown_far X4.out q5 (by have := N_X_E.out; omega))
  have B5 := Lib.hid (B4.out.grown q5 B4.out.size (fun k hk => by injection hk with hk; have := M_E.out; omega))
  clear q5 x5 z5 E4 X4 B4
  have EX : Hid (EntAt w5 gE x) := Lib.hid (by rw [HX.out]; exact E5.out)
  go_wp2_with (first | (with_reducible refine wpList_load_ent rfl _ rfl gE (by with_unfolding_all exact rfl) x EX.out ?_) | (with_reducible refine wpList_one_own rfl _ rfl x (by with_unfolding_all exact rfl) ?_))
  intro w7 b7 o7 z7
  have X7 := Lib.hid (Whole.below X5.out b7 X5.out.lt)
  have B7 := Lib.hid (B5.out.trans (b7.mono B5.out.size))
  have O7 := Lib.hid (O.out.below B7.out)
  have Z7 : Hid (gX < w7.heap.size) := Lib.hid (Nat.lt_of_lt_of_le X5.out.lt b7.size)
  have XL := Lib.hid X5.out.lt
  have WL := Lib.hid B5.out.size
  obtain ⟨gl, hgl⟩ : ∃ q, q = w5.heap.size := ⟨_, rfl⟩
  rw [← hgl] at o7 XL WL ⊢
  have R7 := Lib.hid o7
  clear b7 o7 z7 EX E5 X5 B5 hgl O
  go_wp2_with fail
  refine (CS gl _ w7 (T0.out.below B7.out T0.out.pos) O7.out R7.out (fun i e k => by
    injection e with e
    have := HF.out i k
    have := WL.out
    have : gl = i := e
    omega) (fun e => by
    injection e with e
    have := T0.out.pos
    have := WL.out
    have : gl = 0 := e
    omega)).out.mono ?_
  rintro e w8 ⟨rfl, v', r8, o8, k8, f8⟩
  obtain ⟨gl', cap, e', -, -, hc⟩ := r8.spot (by simp)
  injection e' with e1 e2 e3
  injection e1 with e1
  injection e1 with e1
  subst e1
  have HC := Lib.hid (hc 0 _ rfl)
  have X8 : Hid (Whole w8 gX 48 ent0.cells) := Lib.hid (Whole.keeps X7.out k8 (fun k => by
    rcases k with k | k
    · have := HF.out _ k; have := M_X.out; omega
    · injection k with k; have : gl = gX := k; have := XL.out; omega))
  have O8 := Lib.hid o8
  have F8 := Lib.hid f8
  have M8 : Hid (Moves (Foot g v u) (Foot g v' u) w w8) := Lib.hid ⟨(Keeps.of_below B7.out).then k8 (fun i k => k.imp (fun q => q) (fun k => by injection k with k; have : gl = i := k; have := WL.out; omega)), fun i k => (f8 i k).imp (fun q => q) (fun q => Nat.le_trans B7.out.size q)⟩
  clear r8 o8 k8 f8 hc X7 O7 R7 B7 CS e2 e3
  go_wp2_with (first | (with_reducible refine wpList_load_rec Ent.isRec rfl _ rfl gl 0 (by with_unfolding_all exact rfl) (s.sign x).enc (Ent.len _) (fun j v hj => by with_unfolding_all exact HC.out j v hj) ?_) | (with_reducible refine wpList_store_whole rfl 48 _ _ rfl gX (s.sign x).cells (by with_unfolding_all exact rfl) (by with_unfolding_all exact rfl) _ _ X8.out (ent_size' _) rfl (Ent.cells_one _) ?_))
  intro w9 q9 x9 z9
  have X9 := Lib.hid x9
  have E9 : Hid (OffAt w9 g v' u (s.more [s.sign x]) ∧ Moves (Foot g v u) (Foot g v' u) w w9) := Lib.hid ⟨O8.out.keeps (F := fun i => i = gX) (Keeps.of_grown q9 (fun k hk => .inl (by injection hk with hk; exact hk.symm))) (fun i k e => by
    subst e
    rcases F8.out _ k with k | k
    · have := HF.out _ k; have := M_X.out; omega
    · have := Z7.out; omega), ⟨M8.out.keeps.then (F := Foot g v u) (G := fun i => i = gX) (Keeps.of_grown q9 (fun k hk => .inl (by injection hk with hk; exact hk.symm))) (fun i e => .inr (by have := M_X.out; omega)), M8.out.foot⟩⟩
  clear q9 x9 z9 X8 O8 M8
  go_wp2
  exact bodyPost_ret (results_ent_tmp rfl _ _ _ _ rfl X9.out) rfl ⟨rfl, _, E9.out.1, E9.out.2⟩
theorem issue_any (g : Nat) (v u : Value) (s : OS) (N : Nat) (ok : s.Ok N) (hN : N ≤ 4000000) (n : List UInt8) (id : Nat) (f t : Int) (hl : n.length ≤ 1000) (hi : id < 18446744073709551616) (w : World) (T : Tab w) (hA : Away (Foot g v u)) (h : OffAt w g v u s) :
    Calls Tryd.prog 18 #[.pointer (some ⟨g, 0, none⟩), .string ⟨n.toArray⟩, .int .u64 (id : Int), .int .i64 f, .int .i64 t] w fun e w' => e = .returned (.tuple #[(issE s n id f t).val, .int .i64 (issC s n f t)]) ∧ ∃ v', OffAt w' g v' u (issS s n id f t) ∧ Moves (Foot g v u) (Foot g v' u) w w' := by
  have bad : ∀ c : Int, c ≠ 0 → issC s n f t = c → Calls Tryd.prog 18 #[.pointer (some ⟨g, 0, none⟩), .string ⟨n.toArray⟩, .int .u64 (id : Int), .int .i64 f, .int .i64 t] w (fun e w' => e = .returned (.tuple #[ent0.val, .int .i64 c]) ∧ Below w.heap.size w w') →
      Calls Tryd.prog 18 #[.pointer (some ⟨g, 0, none⟩), .string ⟨n.toArray⟩, .int .u64 (id : Int), .int .i64 f, .int .i64 t] w fun e w' => e = .returned (.tuple #[(issE s n id f t).val, .int .i64 (issC s n f t)]) ∧ ∃ v', OffAt w' g v' u (issS s n id f t) ∧ Moves (Foot g v u) (Foot g v' u) w w' := by
    intro c hc e C
    obtain ⟨h1, h2⟩ := iss_bad (id := id) (by rw [e]; exact hc)
    rw [h1, h2, e]
    exact C.mono fun _ _ q => ⟨q.1, v, h.below q.2, Moves.of_below _ q.2⟩
  cases hb : nameB n with
  | false => exact bad 30 (by decide) (by rw [issC, if_pos hb]) (issue_name g n id f t hb w)
  | true =>
    cases hm : s.marked n with
    | true => exact bad 33 (by decide) (by rw [issC, if_neg (by simp [hb]), if_pos hm]) (issue_gone g v u s N ok hN n id f t hb hm w h)
    | false =>
      by_cases ha : argBad f t
      · exact bad 2 (by decide) (by rw [issC, if_neg (by simp [hb]), if_neg (by simp [hm]), if_pos ha]) (issue_args g v u s N ok hN n id f t hb hm ha w h)
      · have hc : issC s n f t = 0 := by rw [issC, if_neg (by simp [hb]), if_neg (by simp [hm]), if_neg ha]
        rw [issE, issS, if_pos hc, if_pos hc, hc]
        exact issue_good g v u s N ok hN n id f t hl hi hb hm ha w T hA h
end Go.Proofs.YtfcjemedheccgaaDoor
