/- What the statements ask of both offices at one deed (does). -/
import Derived.Test.YtfcjemedheccgaaDoorMOfY
import Derived.Test.YtfcjemedheccgaaDoorGbe
import Derived.Test.YtfcjemedheccgaaDoorGbg
import Derived.Test.YtfcjemedheccgaaDoorMOfX
import Derived.Test.YtfcjemedheccgaaDoorMEnSm
namespace Go.Proofs.YtfcjemedheccgaaDoor
set_option maxRecDepth 100000
open Go.RowKit

/-- What is left behind a deed. -/
def Done (w w' : World) (g g2 : Nat) (v u v2 u2 : Value) (s' : OS) : Prop :=
  ∃ v' u' v2' u2', Both w' g g2 v' u' v2' u2' s' ∧ Moves (fun i => Foot g v u i ∨ Foot g2 v2 u2 i) (fun i => Foot g v' u' i ∨ Foot g2 v2' u2' i) w w'
theorem Moves.pair {F F' G G' : Nat → Prop} {w w1 w2 : World} (h : Moves F F' w w1) (k : Moves G G' w1 w2) : Moves (fun i => F i ∨ G i) (fun i => F' i ∨ G' i) w w2 :=
  ⟨(h.keeps.mono (fun _ q => .inl q)).trans (k.keeps.mono (fun _ q => .inr q)), fun i q => q.elim (fun q => (h.foot i q).imp .inl id) (fun q => (k.foot i q).elim (fun z => .inl (.inr z)) (fun z => .inr (Nat.le_trans h.keeps.size z)))⟩
theorem Moves.pair_below {F F' : Nat → Prop} {w w1 w2 : World} (h : Moves F F' w w1) (b : Below w1.heap.size w1 w2) : Moves F F' w w2 := h.trans (Moves.of_below _ b)
theorem advL_length (s : OS) : (advL s).length ≤ s.issued.length := by
  rw [advL]
  split
  · exact Nat.zero_le _
  · exact s.out_length
theorem revL_length (s : OS) (n : List UInt8) : (revL s n).length ≤ s.issued.length := by
  rw [revL]
  split
  · exact advL_length (s.mark n)
  · exact Nat.zero_le _
set_option maxHeartbeats 2000000 in
theorem does_other (g g2 : Nat) (v u v2 u2 : Value) (s : OS) (N : Nat) (ok : s.Ok N) (hN : N ≤ 1500000) (d : Deed) (h0 : d.kind ≠ 0) (h1 : d.kind ≠ 1) (h2 : d.kind ≠ 2) (w : World) (h : Both w g g2 v u v2 u2 s) :
    Calls Tryd.prog 10 #[.pointer (some ⟨g, 0, none⟩), .pointer (some ⟨g2, 0, none⟩), d.val] w fun e w' => e = .returned (.bool true) ∧ Below w.heap.size w w' := by
  have H := Lib.hid h
  have e0 : (d.kind == 0) = false := by simpa using h0
  have e1 : (d.kind == 1) = false := by simpa using h1
  have e2 : (d.kind == 2) = false := by simpa using h2
  have CI := fun w o => Lib.hid (issued_rows g v u s N ok (by omega) w o)
  have CS := fun a b w x y => Lib.hid (refEntsSame_any_v a b s.issued s.issued (by have := ok.many; omega) w x y)
  simp only at CS
  clear h h0 h1 h2 ok hN
  go_enter Tryd.func10, Tryd.ntmps10
  go_wp2_with (refine wpList_box_row rfl 35 _ rfl d.enc.toArray (by with_unfolding_all exact rfl) ?_)
  intro w1 b1 x1 z1
  obtain ⟨gD, hgD⟩ : ∃ g, g = w.heap.size := ⟨_, rfl⟩
  have M_D := Lib.hid (show w.heap.size ≤ gD from by rw [hgD]; exact Nat.le_refl _)
  have B1 := Lib.hid b1
  rw [← hgD] at x1 ⊢
  have D1 : Hid (Deed.At w1 gD d) := Lib.hid x1
  clear b1 x1 z1 hgD 
  have O1 : Hid (OffAt w1 g v u s) := Lib.hid (H.out.off.below B1.out)
  have R1 : Hid (RffAt w1 g2 v2 u2 s) := Lib.hid (H.out.rff.below B1.out)
  have c0 := Deed.At.at_kind D1.out
  go_wp2_with (with_reducible refine wpList_load_whole Deed.isRec rfl _ rfl gD (by with_unfolding_all exact rfl) _ _ (Deed.len _) D1.out ?_)
  refine reg_begin (by kernel_rfl) fun w2 b2 z2 => ?_
  have D2 : Hid (Deed.At w2 gD d) := Lib.hid (Whole.below D1.out b2 D1.out.lt)
  have O2 : Hid (OffAt w2 g v u s) := Lib.hid (O1.out.below b2)
  have R2 : Hid (RffAt w2 g2 v2 u2 s) := Lib.hid (R1.out.below b2)
  have B2 := Lib.hid (B1.out.trans (b2.mono B1.out.size))
  clear b2 z2 D1 O1 R1 B1
  refine reg_take (i := 0) (v := ?_) rfl (by kernel_rfl) (by kernel_rfl) (by kernel_rfl) (fun _ _ _ h => h) (by rfl) ?hy0 ?_
  case hy0 => intro w' hw'; go_simp; (try with_reducible rfl)
  simp only [Act.put, List.setIfInBounds_toArray, List.set_cons_zero, List.set_cons_succ]
  refine reg_take (i := 2) (v := ?_) rfl (by kernel_rfl) (by kernel_rfl) (by kernel_rfl) (fun _ _ _ h => h) (by rfl) ?hy2 ?_
  case hy2 => intro w' hw'; go_simp; (try with_reducible rfl)
  simp only [Act.put, List.setIfInBounds_toArray, List.set_cons_zero, List.set_cons_succ]
  refine reg_take (i := 3) (v := ?_) rfl (by kernel_rfl) (by kernel_rfl) (by kernel_rfl) (fun _ _ _ h => h) (by rfl) ?hy3 ?_
  case hy3 => intro w' hw'; go_simp; (try with_reducible rfl)
  simp only [Act.put, List.setIfInBounds_toArray, List.set_cons_zero, List.set_cons_succ]
  refine reg_take (i := 4) (v := ?_) rfl (by kernel_rfl) (by kernel_rfl) (by kernel_rfl) (fun _ _ _ h => h) (by rfl) ?hy4 ?_
  case hy4 => intro w' hw'; go_simp; (try with_reducible rfl)
  simp only [Act.put, List.setIfInBounds_toArray, List.set_cons_zero, List.set_cons_succ]
  refine reg_take (i := 5) (v := v2) rfl (by kernel_rfl) (by kernel_rfl) (by kernel_rfl) (fun _ _ _ h => h) (by rfl) ?hy5 ?_
  case hy5 => intro w' hw'; have c := RffAt.c3 (R2.out.below hw'); go_simp; (try with_reducible rfl)
  simp only [Act.put, List.setIfInBounds_toArray, List.set_cons_zero, List.set_cons_succ]
  refine reg_call (i := 1) rfl (by kernel_rfl) (fun K' hK => ?_)
  go_simp
  refine ((CI w2 O2.out).out).mono ?_
  rintro e3 w3 ⟨x, rfl, o, b3⟩
  have D3 : Hid (Deed.At w3 gD d) := Lib.hid (Whole.below D2.out b3 D2.out.lt)
  have O3 : Hid (OffAt w3 g v u s) := Lib.hid (O2.out.below b3)
  have R3 : Hid (RffAt w3 g2 v2 u2 s) := Lib.hid (R2.out.below b3)
  have B3 := Lib.hid (B2.out.trans (b3.mono B2.out.size))
  have X3 : Hid (RowsAt w3 x 6 (s.issued.map Ent.enc)) := Lib.hid o
  refine hK.out _ _ b3 ?_
  clear hK K' b3 D2 O2 R2 B2 o
  refine reg_call (i := 6) rfl (by kernel_rfl) (fun K' hK => ?_)
  go_simp
  refine ((CS x v2 w3 X3.out R3.out.rows.rows).out).mono ?_
  rintro e4 w4 ⟨rfl, b4⟩
  have D4 : Hid (Deed.At w4 gD d) := Lib.hid (Whole.below D3.out b4 D3.out.lt)
  have O4 : Hid (OffAt w4 g v u s) := Lib.hid (O3.out.below b4)
  have R4 : Hid (RffAt w4 g2 v2 u2 s) := Lib.hid (R3.out.below b4)
  have X4 : Hid (RowsAt w4 x 6 (s.issued.map Ent.enc)) := Lib.hid (X3.out.below b4)
  have B4 := Lib.hid (B3.out.trans (b4.mono B3.out.size))
  refine hK.out _ _ b4 ?_
  clear hK K' b4 D3 O3 R3 X3 B3
  refine reg_take (i := 7) (v := ?_) rfl (by kernel_rfl) (by kernel_rfl) (by kernel_rfl) (fun _ _ _ h => h) (by rfl) ?hy7 ?_
  case hy7 => intro w' hw'; go_simp; (try with_reducible rfl)
  simp only [Act.put, List.setIfInBounds_toArray, List.set_cons_zero, List.set_cons_succ]
  refine reg_end (by kernel_rfl) ?_
  go_wp2
  go_ret
  exact ⟨rfl, B4.out⟩
set_option maxHeartbeats 2000000 in
theorem does_issue (g g2 : Nat) (v u v2 u2 : Value) (s : OS) (N : Nat) (ok : s.Ok N) (hN : N ≤ 1500000) (d : Deed) (h0 : d.kind = 0) (hn : d.name.length ≤ 1000) (hi : d.id < 18446744073709551616) (w : World) (T : Tab w) (hA : Away (Foot g v u)) (h : Both w g g2 v u v2 u2 s) :
    Calls Tryd.prog 10 #[.pointer (some ⟨g, 0, none⟩), .pointer (some ⟨g2, 0, none⟩), d.val] w fun e w' => e = .returned (.bool true) ∧ Done w w' g g2 v u v2 u2 (issS s d.name d.id d.since d.till) := by
  have H := Lib.hid h
  have T0 := Lib.hid T
  have HA := Lib.hid hA
  have e0 : (d.kind == 0) = true := by simpa using h0
  have HF := Lib.hid h.off.lt
  have HF2 := Lib.hid h.rff.lt
  have CI := fun w t o => Lib.hid (issue_any g v u s N ok (by omega) d.name d.id d.since d.till hn hi w t hA o)
  have CR := fun w o => Lib.hid (rffIssue_any g2 v2 u2 s N ok (by omega) d.name d.id d.since d.till hn hi w o)
  obtain ⟨E, hE⟩ : ∃ q, q = issE s d.name d.id d.since d.till := ⟨_, rfl⟩
  obtain ⟨C, hC⟩ : ∃ q, q = issC s d.name d.since d.till := ⟨_, rfl⟩
  obtain ⟨S, hS⟩ : ∃ q, q = issS s d.name d.id d.since d.till := ⟨_, rfl⟩
  rw [← hE, ← hC, ← hS] at CI CR
  rw [← hS]
  clear h h0 ok hN hn hi T hA hE hC hS
  go_enter Tryd.func10, Tryd.ntmps10
  go_wp2_with (refine wpList_box_row rfl 35 _ rfl d.enc.toArray (by with_unfolding_all exact rfl) ?_)
  intro w1 b1 x1 z1
  obtain ⟨gD, hgD⟩ : ∃ g, g = w.heap.size := ⟨_, rfl⟩
  have M_D := Lib.hid (show w.heap.size ≤ gD from by rw [hgD]; exact Nat.le_refl _)
  have B1 := Lib.hid b1
  rw [← hgD] at x1 ⊢
  have D1 : Hid (Deed.At w1 gD d) := Lib.hid x1
  clear b1 x1 z1 hgD 
  have O1 := Lib.hid (H.out.off.below B1.out)
  have R1 := Lib.hid (H.out.rff.below B1.out)
  have M1 := Lib.hid (Moves.of_below (Foot g v u) B1.out)
  have T1 := Lib.hid (T0.out.below B1.out T0.out.pos)
  obtain ⟨c0, c1, c2, c3, c4⟩ := Deed.At.cells D1.out
  clear B1
  go_wp2_with fail
  refine (CI w1 T1.out O1.out).out.mono ?_
  rintro e w2 ⟨rfl, v', o2, m2⟩
  have D2 : Hid (Deed.At w2 gD d) := Lib.hid (Whole.keeps D1.out m2.keeps (fun k => by have := HF.out _ k; have := M_D.out; omega))
  have K2 := Lib.hid (rff_kept R1.out H.out.dis m2)
  have M2 := Lib.hid (M1.out.trans m2)
  have O2 := Lib.hid o2
  have G2 : Hid (gD < w2.heap.size) := Lib.hid D2.out.lt
  clear o2 m2 CI O1 R1 M1 T1 D1 c0 c1 c2 c3 c4
  go_wp2_with (refine wpList_alloc_row rfl 48 rfl ent0.cells ent_zero ?_)
  intro w3 b3 x3 z3
  have X3 := Lib.hid x3
  have B3 := Lib.hid b3
  obtain ⟨A, hAA⟩ : ∃ q, q = w2.heap.size := ⟨_, rfl⟩
  have HAA := Lib.hid hAA
  rw [← hAA] at X3 ⊢
  clear b3 x3 z3 hAA
  go_wp2_with (with_reducible refine wpList_store_whole rfl 48 _ _ rfl A E.cells (by with_unfolding_all exact rfl) (by with_unfolding_all exact rfl) _ _ X3.out (ent_size' _) rfl (Ent.cells_one _) ?_)
  intro w4 q4 x4 z4
  have A4 : Hid (Ent.At w4 A E) := Lib.hid x4
  have B4 := Lib.hid (B3.out.grown q4 B3.out.size (fun k hk => by injection hk with hk; have := HAA.out; omega))
  have D4 : Hid (Deed.At w4 gD d) := Lib.hid (Whole.below D2.out B4.out D2.out.lt)
  have O4 := Lib.hid (O2.out.below B4.out)
  have R4 := Lib.hid (K2.out.1.below B4.out)
  have M4 := Lib.hid (M2.out.pair_below B4.out)
  have HA4 : Hid (w.heap.size ≤ A) := Lib.hid (by have := M2.out.keeps.size; have := HAA.out; omega)
  clear q4 x4 z4 X3 B3 B4 D2 O2 M2 G2 HAA
  obtain ⟨c0, c1, c2, c3, c4⟩ := Deed.At.cells D4.out
  go_wp2_with fail
  refine (CR w4 R4.out).out.mono ?_
  rintro e w5 ⟨rfl, v2', r5, m5⟩
  have A5 : Hid (Ent.At w5 A E) := Lib.hid (Whole.keeps A4.out m5.keeps (fun k => by have := HF2.out _ k; have := HA4.out; omega))
  have K5 := Lib.hid (off_kept O4.out K2.out.2 m5)
  have R5 := Lib.hid r5
  have M5 := Lib.hid m5
  clear r5 m5 CR O4 R4 K2 A4 D4 c0 c1 c2 c3 c4
  go_wp2_with (refine wpList_alloc_row rfl 48 rfl ent0.cells ent_zero ?_)
  intro w6 b6 x6 z6
  have X6 := Lib.hid x6
  have B6 := Lib.hid b6
  have A6 : Hid (Ent.At w6 A E) := Lib.hid (Whole.below A5.out b6 A5.out.lt)
  have L6 := Lib.hid A5.out.lt
  obtain ⟨Y, hY⟩ : ∃ q, q = w5.heap.size := ⟨_, rfl⟩
  have HY := Lib.hid hY
  rw [← hY] at X6 L6 ⊢
  clear b6 x6 z6 hY A5
  go_wp2_with (with_reducible refine wpList_store_whole rfl 48 _ _ rfl Y E.cells (by with_unfolding_all exact rfl) (by with_unfolding_all exact rfl) _ _ X6.out (ent_size' _) rfl (Ent.cells_one _) ?_)
  intro w7 q7 x7 z7
  have Y7 : Hid (Ent.At w7 Y E) := Lib.hid x7
  have A7 : Hid (Ent.At w7 A E) := Lib.hid (grown_far A6.out q7 (by have := L6.out; omega))
  have B7 := Lib.hid (B6.out.grown q7 B6.out.size (fun k hk => by injection hk with hk; have := HY.out; omega))
  have F : Hid (Done w w7 g g2 v u v2 u2 S) := Lib.hid ⟨v', u, v2', u2, ⟨K5.out.1.below B7.out, R5.out.below B7.out, K5.out.2⟩, M4.out.pair (M5.out.pair_below B7.out)⟩
  clear q7 x7 z7 X6 B6 A6 B7 K5 R5 M4 M5
  have hq : true = eqCells E.enc E.enc := by rw [Ent.same]; simp
  have HQ := Lib.hid hq
  clear hq
  go_wp2_with (first | (with_reducible refine wpList_load_whole Ent.isRec rfl _ rfl A (by with_unfolding_all exact rfl) _ _ (Ent.len _) A7.out ?_) | (with_reducible refine wpList_load_whole Ent.isRec rfl _ rfl Y (by with_unfolding_all exact rfl) _ _ (Ent.len _) Y7.out ?_) | (with_reducible refine wpList_eq_rec Ent.isRec rfl _ _ rfl E.enc E.enc E.fits E.fits (by with_unfolding_all exact rfl) (by with_unfolding_all exact rfl) true HQ.out ?_))
  go_ret
  exact ⟨rfl, F.out⟩
set_option maxHeartbeats 2000000 in
theorem does_advance (g g2 : Nat) (v u v2 u2 : Value) (s : OS) (N : Nat) (ok : s.Ok N) (hN : N ≤ 1500000) (d : Deed) (h0 : d.kind = 1) (w : World) (T : Tab w) (hA : Away (Foot g v u)) (h : Both w g g2 v u v2 u2 s) :
    Calls Tryd.prog 10 #[.pointer (some ⟨g, 0, none⟩), .pointer (some ⟨g2, 0, none⟩), d.val] w fun e w' => e = .returned (.bool true) ∧ Done w w' g g2 v u v2 u2 (advS s) := by
  have H := Lib.hid h
  have T0 := Lib.hid T
  have e0 : (d.kind == 0) = false := by rw [h0]; rfl
  have e1 : (d.kind == 1) = true := by rw [h0]; rfl
  have HF := Lib.hid h.off.lt
  have HF2 := Lib.hid h.rff.lt
  have CI := fun w t o => Lib.hid (advance_any g v u s N ok (by omega) w t hA o)
  have CR := fun w o => Lib.hid (rffAdvance_any g2 v2 u2 s N ok (by omega) w o)
  have HLN : (advL s).length ≤ 4000000 := by have h1 := advL_length s; have h2 := ok.many; omega
  obtain ⟨L, hL⟩ : ∃ q, q = advL s := ⟨_, rfl⟩
  obtain ⟨C, hC⟩ : ∃ q, q = advC s := ⟨_, rfl⟩
  obtain ⟨S, hS⟩ : ∃ q, q = advS s := ⟨_, rfl⟩
  rw [← hL, ← hC, ← hS] at CI CR
  rw [← hS]
  rw [← hL] at HLN
  have CS := fun a b w x y => Lib.hid (refEntsSame_any_v a b L L HLN w x y)
  simp only at CS
  clear h h0 ok hN T hA hL hC hS HLN
  go_enter Tryd.func10, Tryd.ntmps10
  go_wp2_with (refine wpList_box_row rfl 35 _ rfl d.enc.toArray (by with_unfolding_all exact rfl) ?_)
  intro w1 b1 x1 z1
  obtain ⟨gD, hgD⟩ : ∃ g, g = w.heap.size := ⟨_, rfl⟩
  have M_D := Lib.hid (show w.heap.size ≤ gD from by rw [hgD]; exact Nat.le_refl _)
  have B1 := Lib.hid b1
  rw [← hgD] at x1 ⊢
  have D1 : Hid (Deed.At w1 gD d) := Lib.hid x1
  clear b1 x1 z1 hgD 
  have O1 := Lib.hid (H.out.off.below B1.out)
  have R1 := Lib.hid (H.out.rff.below B1.out)
  have M1 := Lib.hid (Moves.of_below (Foot g v u) B1.out)
  have T1 := Lib.hid (T0.out.below B1.out T0.out.pos)
  have Z1 := Lib.hid B1.out.size
  obtain ⟨c0, c1, -⟩ := Deed.At.cells D1.out
  clear B1
  go_wp2_with fail
  refine (CI w1 T1.out O1.out).out.mono ?_
  rintro e w2 ⟨x, v', rfl, x2, o2, m2⟩
  have D2 : Hid (Deed.At w2 gD d) := Lib.hid (Whole.keeps D1.out m2.keeps (fun k => by have := HF.out _ k; have := M_D.out; omega))
  have K2 := Lib.hid (rff_kept R1.out H.out.dis m2)
  have M2 := Lib.hid (M1.out.trans m2)
  have O2 := Lib.hid o2
  have X2 : Hid (RowsAt w2 x 6 (L.map Ent.enc) ∧ ∀ i, x.ownBlock = some i → w.heap.size ≤ i) := Lib.hid ⟨x2.rows, fun i e => Nat.le_trans Z1.out (x2.lt i e).1⟩
  clear x2 o2 m2 CI O1 R1 M1 T1 Z1 D1 c0 c1
  obtain ⟨-, c1, -⟩ := Deed.At.cells D2.out
  go_wp2_with fail
  refine (CR w2 K2.out.1).out.mono ?_
  rintro e w5 ⟨y, v2', rfl, y5, r5, m5⟩
  have X5 : Hid (RowsAt w5 x 6 (L.map Ent.enc)) := Lib.hid (X2.out.1.keeps m5.keeps (fun i e k => by have := HF2.out _ k; have := X2.out.2 i e; omega))
  have Y5 : Hid (RowsAt w5 y 6 (L.map Ent.enc)) := Lib.hid y5.rows
  have K5 := Lib.hid (off_kept O2.out K2.out.2 m5)
  have R5 := Lib.hid r5
  have M5 := Lib.hid m5
  clear y5 r5 m5 CR O2 K2 X2 D2 c1
  go_wp2_with fail
  refine (CS x y w5 X5.out Y5.out).out.mono ?_
  rintro e w6 ⟨rfl, b6⟩
  have F : Hid (Done w w6 g g2 v u v2 u2 S) := Lib.hid ⟨v', u, v2', u2, ⟨K5.out.1.below b6, R5.out.below b6, K5.out.2⟩, M2.out.pair (M5.out.pair_below b6)⟩
  clear b6 X5 Y5 K5 R5 M2 M5 CS
  go_wp2
  go_ret
  exact ⟨rfl, F.out⟩
set_option maxHeartbeats 2000000 in
theorem does_revoke (g g2 : Nat) (v u v2 u2 : Value) (s : OS) (N : Nat) (ok : s.Ok N) (hN : N ≤ 1500000) (d : Deed) (h0 : d.kind = 2) (w : World) (T : Tab w) (hA : Away (Foot g v u)) (h : Both w g g2 v u v2 u2 s) :
    Calls Tryd.prog 10 #[.pointer (some ⟨g, 0, none⟩), .pointer (some ⟨g2, 0, none⟩), d.val] w fun e w' => e = .returned (.bool true) ∧ Done w w' g g2 v u v2 u2 (revS s d.name) := by
  have H := Lib.hid h
  have T0 := Lib.hid T
  have e0 : (d.kind == 0) = false := by rw [h0]; rfl
  have e1 : (d.kind == 1) = false := by rw [h0]; rfl
  have e2 : (d.kind == 2) = true := by rw [h0]; rfl
  have HF := Lib.hid h.off.lt
  have HF2 := Lib.hid h.rff.lt
  have CI := fun w t o => Lib.hid (revoke_any g v u s d.name N ok (by omega) w t hA o)
  have CR := fun w o => Lib.hid (rffRevoke_any g2 v2 u2 s d.name N ok (by omega) w o)
  have HLN : (revL s d.name).length ≤ 4000000 := by have h1 := revL_length s d.name; have h2 := ok.many; omega
  obtain ⟨L, hL⟩ : ∃ q, q = revL s d.name := ⟨_, rfl⟩
  obtain ⟨C, hC⟩ : ∃ q, q = revC s d.name := ⟨_, rfl⟩
  obtain ⟨S, hS⟩ : ∃ q, q = revS s d.name := ⟨_, rfl⟩
  rw [← hL, ← hC, ← hS] at CI CR
  rw [← hS]
  rw [← hL] at HLN
  have CS := fun a b w x y => Lib.hid (refEntsSame_any_v a b L L HLN w x y)
  simp only at CS
  clear h h0 ok hN T hA hL hC hS HLN
  go_enter Tryd.func10, Tryd.ntmps10
  go_wp2_with (refine wpList_box_row rfl 35 _ rfl d.enc.toArray (by with_unfolding_all exact rfl) ?_)
  intro w1 b1 x1 z1
  obtain ⟨gD, hgD⟩ : ∃ g, g = w.heap.size := ⟨_, rfl⟩
  have M_D := Lib.hid (show w.heap.size ≤ gD from by rw [hgD]; exact Nat.le_refl _)
  have B1 := Lib.hid b1
  rw [← hgD] at x1 ⊢
  have D1 : Hid (Deed.At w1 gD d) := Lib.hid x1
  clear b1 x1 z1 hgD 
  have O1 := Lib.hid (H.out.off.below B1.out)
  have R1 := Lib.hid (H.out.rff.below B1.out)
  have M1 := Lib.hid (Moves.of_below (Foot g v u) B1.out)
  have T1 := Lib.hid (T0.out.below B1.out T0.out.pos)
  have Z1 := Lib.hid B1.out.size
  obtain ⟨c0, c1, -⟩ := Deed.At.cells D1.out
  clear B1
  go_wp2_with fail
  refine (CI w1 T1.out O1.out).out.mono ?_
  rintro e w2 ⟨x, v', u', rfl, x2, o2, m2⟩
  have D2 : Hid (Deed.At w2 gD d) := Lib.hid (Whole.keeps D1.out m2.keeps (fun k => by have := HF.out _ k; have := M_D.out; omega))
  have K2 := Lib.hid (rff_kept R1.out H.out.dis m2)
  have M2 := Lib.hid (M1.out.trans m2)
  have O2 := Lib.hid o2
  have X2 : Hid (RowsAt w2 x 6 (L.map Ent.enc) ∧ ∀ i, x.ownBlock = some i → w.heap.size ≤ i) := Lib.hid ⟨x2.rows, fun i e => Nat.le_trans Z1.out (x2.lt i e).1⟩
  clear x2 o2 m2 CI O1 R1 M1 T1 Z1 D1 c0 c1
  obtain ⟨-, c1, -⟩ := Deed.At.cells D2.out
  go_wp2_with fail
  refine (CR w2 K2.out.1).out.mono ?_
  rintro e w5 ⟨y, v2', u2', rfl, y5, r5, m5⟩
  have X5 : Hid (RowsAt w5 x 6 (L.map Ent.enc)) := Lib.hid (X2.out.1.keeps m5.keeps (fun i e k => by have := HF2.out _ k; have := X2.out.2 i e; omega))
  have Y5 : Hid (RowsAt w5 y 6 (L.map Ent.enc)) := Lib.hid y5.rows
  have K5 := Lib.hid (off_kept O2.out K2.out.2 m5)
  have R5 := Lib.hid r5
  have M5 := Lib.hid m5
  clear y5 r5 m5 CR O2 K2 X2 D2 c1
  go_wp2_with fail
  refine (CS x y w5 X5.out Y5.out).out.mono ?_
  rintro e w6 ⟨rfl, b6⟩
  have F : Hid (Done w w6 g g2 v u v2 u2 S) := Lib.hid ⟨v', u', v2', u2', ⟨K5.out.1.below b6, R5.out.below b6, K5.out.2⟩, M2.out.pair (M5.out.pair_below b6)⟩
  clear b6 X5 Y5 K5 R5 M2 M5 CS
  go_wp2
  go_ret
  exact ⟨rfl, F.out⟩
theorem does_any (g g2 : Nat) (v u v2 u2 : Value) (s : OS) (N : Nat) (ok : s.Ok N) (hN : N ≤ 1500000) (d : Deed) (hn : d.name.length ≤ 1000) (hi : d.id < 18446744073709551616) (w : World) (T : Tab w) (hA : Away (Foot g v u)) (h : Both w g g2 v u v2 u2 s) :
    Calls Tryd.prog 10 #[.pointer (some ⟨g, 0, none⟩), .pointer (some ⟨g2, 0, none⟩), d.val] w fun e w' => e = .returned (.bool true) ∧ Done w w' g g2 v u v2 u2 (deedS s d) := by
  rw [deedS]
  by_cases h0 : d.kind = 0
  · rw [if_pos h0]; exact does_issue g g2 v u v2 u2 s N ok hN d h0 hn hi w T hA h
  · rw [if_neg h0]
    by_cases h1 : d.kind = 1
    · rw [if_pos h1]; exact does_advance g g2 v u v2 u2 s N ok hN d h1 w T hA h
    · rw [if_neg h1]
      by_cases h2 : d.kind = 2
      · rw [if_pos h2]; exact does_revoke g g2 v u v2 u2 s N ok hN d h2 w T hA h
      · rw [if_neg h2]
        exact (does_other g g2 v u v2 u2 s N ok hN d h0 h1 h2 w h).mono fun _ w' q => ⟨q.1, v, u, v2, u2, h.below q.2, Moves.of_below _ q.2⟩
end Go.Proofs.YtfcjemedheccgaaDoor
