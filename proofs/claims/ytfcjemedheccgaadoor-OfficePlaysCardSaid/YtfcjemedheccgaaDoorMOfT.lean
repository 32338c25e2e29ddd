/- The document's office: issue. -/
import Derived.Test.YtfcjemedheccgaaDoorMOfR
import Derived.Test.YtfcjemedheccgaaDoorGbb
namespace Go.Proofs.YtfcjemedheccgaaDoor
set_option maxRecDepth 100000
open Go.RowKit

theorem field_key (t : TypeId) (ht : t = 37) (i : Int) (k : List UInt8) (w : World) : (Instr.field t (gateV i k) 1).run Tryd.prog w = .ok (.string ⟨k.toArray⟩) w := by
  subst ht
  simp only [gateV]
  kernel_rfl
theorem exec_field_key {ev : Operand → Value} {o : Oper} (x : Operand) (ho : o.op = .field 37 x 1) (i : Int) (k : List UInt8) (hx : ev x = gateV i k) (w : World) :
    (execOp ev o).run Tryd.prog w = .ok (.value (.string ⟨k.toArray⟩)) w := by
  have h := field_key 37 rfl i k w
  unfold execOp
  simp [ho, hx, h]
theorem wp_one_ent {o : Oper} {a : Act} {w : World} {K : Act → World → Prop} {Q : Exit → Act → World → Prop} (y : Operand) (ho : o.op = .buildSlice 40 1 #[(0, y)]) (x : Ent) (hy : a.eval y = x.val)
    (h : ∀ w', Below w.heap.size w w' → RowsAt w' (.slice (some ⟨w.heap.size, 0, none⟩) 1 1) 6 [x.enc] → w'.heap.size = w.heap.size + 1 → K (a.put o.dst (.slice (some ⟨w.heap.size, 0, none⟩) 1 1)) w') : o.wp Tryd.prog a w K Q := by
  obtain ⟨i, h1, h2, h3⟩ := Ent.info
  have hr := run_buildSlice (P := Tryd.prog) (w := w) Tryd.underlying40 h1 h2 1 (by rw [h3]; decide) (by rw [h3]; decide) #[(0, x.val)] x.enc.toArray (by rw [h3]; exact Ent.build_one x)
  have q := h (w.alloc (.cells x.enc.toArray 48)) ((Below.refl _ _).alloc (Nat.le_refl _) _) (rows_one (Whole.new w 48 x.enc.toArray) (Nat.le_refl _)) (by simp)
  have hv : (#[(0, y)].map fun (z : Nat × Operand) => (z.1, a.eval z.2)) = #[(0, x.val)] := by simp [hy]
  unfold Oper.wp execOp
  simp only [ho, hv, hr, Sem.run_bind, Sem.run_pure, Result.andThen_ok, Oper.upon]
  exact q
set_option maxHeartbeats 2000000 in
theorem rffIssue1_any (g : Nat) (v u : Value) (s : OS) (N : Nat) (ok : s.Ok N) (hN : N ≤ 4000000) (x : Ent) (hxe : x.name.length ≤ 1000 ∧ x.id < 18446744073709551616) (w : World) (h : RffAt w g v u s) :
    Calls Tryd.prog 43 #[.pointer (some ⟨g, 0, none⟩), x.val] w fun e w' => ∃ v', e = .returned (s.sign x).val ∧ RffAt w' g v' u (s.more [s.sign x]) ∧ Moves (Foot g v u) (Foot g v' u) w w' := by
  have O := Lib.hid h
  have CG := fun w h => Lib.hid (rffGate_any g v u s ok.seed w h)
  have CS := fun w => Lib.hid (refSign_any s.key { x with index := s.idx } (by rw [ok.key]; decide) hxe.1 hxe.2 w)
  rw [show signE s.key { x with index := s.idx } = s.sign x from rfl] at CS
  have HL : Hid ((s.issued.map Ent.enc).length + [(s.sign x).enc].length ≤ 10000000) := Lib.hid (by rw [List.length_map, List.length_singleton]; have := ok.many; omega)
  have HONE : Hid (∀ c ∈ [(s.sign x).enc], c.length = 6 ∧ ∀ u ∈ c, u.oneCell' = true) := Lib.hid (entC_one [s.sign x])
  have HF := Lib.hid h.lt
  have hv : x.val = .agg x.cells := rfl
  obtain ⟨S, hS⟩ : ∃ S, S = s.sign x := ⟨_, rfl⟩
  rw [← hS] at CS HL HONE ⊢
  rw [hv]
  clear h ok hN hxe hv hS
  go_enter Tryd.func43, Tryd.ntmps43
  go_wp2_with (refine wpList_box_row rfl 48 _ rfl x.cells (by with_unfolding_all exact rfl) ?_)
  intro w1 b1 x1 z1
  obtain ⟨gE, hgE⟩ : ∃ g, g = w.heap.size := ⟨_, rfl⟩
  have M_E := Lib.hid (show w.heap.size ≤ gE from by rw [hgE]; exact Nat.le_refl _)
  have B1 := Lib.hid b1
  rw [← hgE] at x1 ⊢
  have E1 : Hid (Whole w1 gE 48 x.cells) := Lib.hid x1
  clear b1 x1 z1 hgE 
  go_wp2_with (refine wpList_alloc_row rfl 48 rfl ent0.cells ent_zero ?_)
  intro w2 b2 x2 z2
  obtain ⟨gX, hgX⟩ : ∃ g, g = w1.heap.size := ⟨_, rfl⟩
  have N_E_X := Lib.hid (show gE < gX from by rw [hgX]; exact E1.out.lt)
  have M_X := Lib.hid (show w.heap.size ≤ gX from by rw [hgX]; exact B1.out.size)
  have E2 : Hid (Whole w2 gE 48 x.cells) := Lib.hid (Whole.below E1.out b2 E1.out.lt)
  have B2 := Lib.hid (B1.out.trans (b2.mono B1.out.size))
  rw [← hgX] at x2 ⊢
  have X2 : Hid (Whole w2 gX 48 ent0.cells) := Lib.hid x2
  clear b2 x2 z2 hgX E1 B1
  have c2 := RffAt.c2 (O.out.below B2.out)
  go_wp2_with (with_reducible refine wpList_put_cell 3 ⟨by kernel_rfl, by kernel_rfl⟩ rfl _ _ rfl gE 4 (by with_unfolding_all exact rfl) (.int .i64 s.idx) (by with_unfolding_all exact rfl) (by with_unfolding_all exact rfl) (by with_unfolding_all exact rfl) _ _ E2.out _ (by with_unfolding_all exact rfl) ?_)
  intro w3 q3 x3 z3
  have E3 : Hid (Whole w3 gE 48 ({ x with index := s.idx } : Ent).cells) := Lib.hid x3
  have X3 : Hid (Whole w3 gX 48 ent0.cells) := Lib.hid (grown_far X2.out q3 (by have := N_E_X.out; omega))
  have B3 := Lib.hid (B2.out.grown q3 B2.out.size (fun k hk => by injection hk with hk; have := M_E.out; omega))
  clear q3 x3 z3 E2 X2 B2
  clear c2
  go_wp2_with fail
  have EN : Hid (EntAt w3.drew gE { x with index := s.idx }) := Lib.hid E3.out
  have XN : Hid (Whole w3.drew gX 48 ent0.cells) := Lib.hid X3.out
  have BN := Lib.hid B3.out.drew
  refine regG_begin [5] (fun w' => EntAt w' gE { x with index := s.idx }) (fun _ => True) (by kernel_rfl) ?_
  obtain ⟨wd, hwd⟩ : ∃ q, q = w3.drew := ⟨_, rfl⟩
  rw [← hwd] at EN XN BN ⊢
  clear hwd E3 X3 B3
  have hS1 : True := trivial
  have hS0 : EntAt wd gE { x with index := s.idx } := EN.out
  refine regG_take (i := 0) (v := ?_) rfl (by kernel_rfl) (by kernel_rfl) (by kernel_rfl) (by kernel_rfl) (by kernel_rfl) (fun _ _ _ h => h) (by rfl) ⟨hS1, .inl hS0⟩ ?hy0 ?_
  case hy0 => intro w' hw'; go_simp; (try with_reducible rfl)
  simp only [Act.put, List.setIfInBounds_toArray, List.set_cons_zero, List.set_cons_succ]
  refine regG_read (i := 3) (v := ({ x with index := s.idx } : Ent).val) rfl (by kernel_rfl) (by kernel_rfl) (by kernel_rfl) (by kernel_rfl) (by kernel_rfl) (by kernel_rfl) (fun _ _ _ h => h) (by rfl) ⟨hS1, .inl hS0⟩ ?hy3 ?_
  case hy3 => intro w' hw'; exact exec_load_ent _ rfl gE rfl _ w' hw'
  simp only [Act.put, List.setIfInBounds_toArray, List.set_cons_zero, List.set_cons_succ]
  clear hS0
  refine regG_do (i := 1) rfl (by kernel_rfl) (fun K' hK => ?_)
  go_simp
  refine (CG wd (O.out.below BN.out)).out.mono ?_
  rintro e w4 ⟨rfl, b4⟩
  have E4 := Lib.hid (EntAt.below EN.out b4 EN.out.lt)
  have X4 := Lib.hid (Whole.below XN.out b4 XN.out.lt)
  have B4 := Lib.hid (BN.out.trans (b4.mono BN.out.size))
  refine hK.out _ _ trivial (.inl E4.out) ?_
  clear hK K' b4 EN XN BN CG
  have hS0 : EntAt w4 gE { x with index := s.idx } := E4.out
  refine regG_take (i := 2) (v := .string ⟨s.key.toArray⟩) rfl (by kernel_rfl) (by kernel_rfl) (by kernel_rfl) (by kernel_rfl) (by kernel_rfl) (fun _ _ _ h => h) (by rfl) ⟨hS1, .inl hS0⟩ ?hy2 ?_
  case hy2 => intro w' hw'; exact exec_field_key _ rfl _ _ rfl w'
  simp only [Act.put, List.setIfInBounds_toArray, List.set_cons_zero, List.set_cons_succ]
  clear hS0
  refine regG_do (i := 4) rfl (by kernel_rfl) (fun K' hK => ?_)
  go_simp
  refine (CS w4).out.mono ?_
  rintro e w5 ⟨rfl, b5⟩
  have E5 := Lib.hid (EntAt.below E4.out b5 E4.out.lt)
  have X5 := Lib.hid (Whole.below X4.out b5 X4.out.lt)
  have B5 := Lib.hid (B4.out.trans (b5.mono B4.out.size))
  refine hK.out _ _ trivial (.inl E5.out) ?_
  clear hK K' b5 E4 X4 B4 CS
  refine regG_do (i := 5) rfl (by kernel_rfl) (fun K' hK => ?_)
  rw [if_pos (by rfl)]
  refine wp_store_whole 48 _ _ rfl gE S.cells rfl rfl _ _ E5.out (ent_size' _) rfl (Ent.cells_one _) ?_
  intro w6 q6 x6 z6
  have E6 : Hid (Ent.At w6 gE S) := Lib.hid x6
  have X6 : Hid (Whole w6 gX 48 ent0.cells) := Lib.hid (grown_far X5.out q6 (by have := N_E_X.out; omega))
  have B6 := Lib.hid (B5.out.grown q6 B5.out.size (fun k hk => by injection hk with hk; have := M_E.out; omega))
  refine hK.out _ _ trivial (.inr ⟨5, by simp, by kernel_rfl⟩) ?_
  clear hK K' q6 x6 z6 E5 X5 B5 hS1
  simp only [Act.put]
  refine regG_end (by kernel_rfl) ?_
  go_wp2_with fail
  have E7 : Hid (Ent.At w6.drew gE S) := Lib.hid E6.out
  have X7 : Hid (Whole w6.drew gX 48 ent0.cells) := Lib.hid X6.out
  have B7 := Lib.hid B6.out.drew
  refine regG_begin [10] (fun w' => w'.cell? ⟨g, 3, none⟩ = some v ∧ Ent.At w' gE S) (fun _ => True) (by kernel_rfl) ?_
  obtain ⟨w7, hwd⟩ : ∃ q, q = w6.drew := ⟨_, rfl⟩
  rw [← hwd] at E7 X7 B7 ⊢
  clear hwd E6 X6 B6
  have hS1 : True := trivial
  have hS0 : w7.cell? ⟨g, 3, none⟩ = some v ∧ Ent.At w7 gE S := ⟨RffAt.c3 (O.out.below B7.out), E7.out⟩
  refine regG_take (i := 0) (v := ?_) rfl (by kernel_rfl) (by kernel_rfl) (by kernel_rfl) (by kernel_rfl) (by kernel_rfl) (fun _ _ _ h => h) (by rfl) ⟨hS1, .inl hS0⟩ ?hy0 ?_
  case hy0 => intro w' hw'; go_simp; (try with_reducible rfl)
  simp only [Act.put, List.setIfInBounds_toArray, List.set_cons_zero, List.set_cons_succ]
  refine regG_take (i := 1) (v := ?_) rfl (by kernel_rfl) (by kernel_rfl) (by kernel_rfl) (by kernel_rfl) (by kernel_rfl) (fun _ _ _ h => h) (by rfl) ⟨hS1, .inl hS0⟩ ?hy1 ?_
  case hy1 => intro w' hw'; go_simp; (try with_reducible rfl)
  simp only [Act.put, List.setIfInBounds_toArray, List.set_cons_zero, List.set_cons_succ]
  refine regG_take (i := 2) (v := ?_) rfl (by kernel_rfl) (by kernel_rfl) (by kernel_rfl) (by kernel_rfl) (by kernel_rfl) (fun _ _ _ h => h) (by rfl) ⟨hS1, .inl hS0⟩ ?hy2 ?_
  case hy2 => intro w' hw'; go_simp; (try with_reducible rfl)
  simp only [Act.put, List.setIfInBounds_toArray, List.set_cons_zero, List.set_cons_succ]
  refine regG_take (i := 3) (v := ?_) rfl (by kernel_rfl) (by kernel_rfl) (by kernel_rfl) (by kernel_rfl) (by kernel_rfl) (fun _ _ _ h => h) (by rfl) ⟨hS1, .inl hS0⟩ ?hy3 ?_
  case hy3 => intro w' hw'; go_simp; (try with_reducible rfl)
  simp only [Act.put, List.setIfInBounds_toArray, List.set_cons_zero, List.set_cons_succ]
  refine regG_read (i := 4) (v := v) rfl (by kernel_rfl) (by kernel_rfl) (by kernel_rfl) (by kernel_rfl) (by kernel_rfl) (by kernel_rfl) (fun _ _ _ h => h) (by rfl) ⟨hS1, .inl hS0⟩ ?hy4 ?_
  case hy4 => intro w' hw'; have c := hw'.1; go_simp; (try with_reducible rfl)
  simp only [Act.put, List.setIfInBounds_toArray, List.set_cons_zero, List.set_cons_succ]
  refine regG_read (i := 5) (v := S.val) rfl (by kernel_rfl) (by kernel_rfl) (by kernel_rfl) (by kernel_rfl) (by kernel_rfl) (by kernel_rfl) (fun _ _ _ h => h) (by rfl) ⟨hS1, .inl hS0⟩ ?hy5 ?_
  case hy5 => intro w' hw'; exact exec_load_whole Ent.isRec _ rfl gE rfl _ _ (Ent.len _) w' hw'.2
  simp only [Act.put, List.setIfInBounds_toArray, List.set_cons_zero, List.set_cons_succ]
  clear hS0
  refine regG_do (i := 6) rfl (by kernel_rfl) (fun K' hK => ?_)
  rw [if_pos (by rfl)]
  refine wp_one_ent _ rfl S rfl ?_
  intro w8 b8 y8 z8
  have Y8 := Lib.hid y8
  have GX8 : Hid (gX < w8.heap.size) := Lib.hid (Nat.lt_of_lt_of_le X7.out.lt b8.size)
  have E8 : Hid (Ent.At w8 gE S) := Lib.hid (Whole.below E7.out b8 E7.out.lt)
  have X8 := Lib.hid (Whole.below X7.out b8 X7.out.lt)
  have B8 := Lib.hid (B7.out.trans (b8.mono B7.out.size))
  have O8 := Lib.hid (O.out.below B8.out)
  refine hK.out _ _ trivial (.inl ⟨RffAt.c3 O8.out, E8.out⟩) ?_
  clear hK K' b8 y8 z8 E7 X7 B7
  simp only [Act.put, List.setIfInBounds_toArray, List.set_cons_zero, List.set_cons_succ]
  refine regG_do (i := 7) rfl (by kernel_rfl) (fun K' hK => ?_)
  rw [if_pos (by rfl)]
  refine wp_append_rows_at entZ _ _ rfl v rfl O8.out.rows _ [S.enc] rfl Y8.out HONE.out HL.out (Nat.zero_le _) ?_
  intro v' w9 o9 q9 h9
  rw [show s.issued.map Ent.enc ++ [S.enc] = (s.issued ++ [S]).map Ent.enc from by rw [List.map_append]; rfl] at o9
  obtain ⟨A', cap', hu⟩ := o9.form
  rw [List.length_map, List.length_append, List.length_singleton] at hu
  have E9 : Hid (Ent.At w9 gE S) := Lib.hid (E8.out.grown_own q9 (fun e => by have := HF.out gE (.inr (.inl e)); have := M_E.out; omega))
  have X9 : Hid (Whole w9 gX 48 ent0.cells) := Lib.hid (X8.out.grown_own q9 (fun e => by have := HF.out gX (.inr (.inl e)); have := M_X.out; omega))
  have W9 : Hid (Whole w9 g 44 (rffC v u s).toArray) := Lib.hid (O8.out.whole.grown_own q9 O8.out.gv)
  have o9' := Lib.hid o9
  have q9' := Lib.hid q9
  have h9' := Lib.hid h9
  subst hu
  have hS0 : w9.cell? ⟨g, 3, none⟩ = some v ∧ Ent.At w9 gE S := ⟨(W9.out.at_ 3).trans rfl, E9.out⟩
  refine hK.out _ _ trivial (.inl hS0) ?_
  clear hK K' o9 q9 h9 E8 X8 Y8
  simp only [Act.put, List.setIfInBounds_toArray, List.set_cons_zero, List.set_cons_succ]
  refine regG_take (i := 8) (v := ?_) rfl (by kernel_rfl) (by kernel_rfl) (by kernel_rfl) (by kernel_rfl) (by kernel_rfl) (fun _ _ _ h => h) (by rfl) ⟨hS1, .inl hS0⟩ ?hy8 ?_
  case hy8 => intro w' hw'; go_simp; (try with_reducible rfl)
  simp only [Act.put, List.setIfInBounds_toArray, List.set_cons_zero, List.set_cons_succ]
  refine regG_take (i := 9) (v := ?_) rfl (by kernel_rfl) (by kernel_rfl) (by kernel_rfl) (by kernel_rfl) (by kernel_rfl) (fun _ _ _ h => h) (by rfl) ⟨hS1, .inl hS0⟩ ?hy9 ?_
  case hy9 => intro w' hw'; go_simp; (try with_reducible rfl)
  simp only [Act.put, List.setIfInBounds_toArray, List.set_cons_zero, List.set_cons_succ]
  clear hS0
  refine regG_do (i := 10) rfl (by kernel_rfl) (fun K' hK => ?_)
  rw [if_pos (by rfl)]
  refine wp_put_cell 40 ⟨by kernel_rfl, by kernel_rfl⟩ _ _ rfl g 3 rfl _ rfl rfl rfl _ _ W9.out _ rfl ?_
  intro w10 q10 x10 z10
  have E := Lib.hid (O8.out.issued_more (l := [S]) q9'.out o9'.out h9'.out q10 x10)
  have M := Lib.hid ((Moves.of_below (Foot g v u) B8.out).trans E.out.2)
  have E10 : Hid (Ent.At w10 gE S) := Lib.hid (grown_far E9.out q10 (by have := HF.out g (.inl rfl); have := M_E.out; omega))
  have X10 : Hid (Whole w10 gX 48 ent0.cells) := Lib.hid (grown_far X9.out q10 (by have := HF.out g (.inl rfl); have := M_X.out; omega))
  have HV : Hid (∀ i, Foot g (.slice A' (s.issued.length + 1) cap') u i → i ≠ gX) := Lib.hid (fun i k e => by
    subst e
    rcases E.out.2.foot _ k with k | k
    · have := HF.out _ k; have := M_X.out; omega
    · have := GX8.out; omega)
  refine hK.out _ _ trivial (.inr ⟨10, by simp, by kernel_rfl⟩) ?_
  clear hK K' q10 x10 z10 E9 X9 W9 o9' q9' h9' B8 O8 hS1
  simp only [Act.put]
  refine regG_end (by kernel_rfl) ?_
  go_wp2_with (first | (with_reducible refine wpList_load_whole Ent.isRec rfl _ rfl gE (by with_unfolding_all exact rfl) _ _ (Ent.len _) E10.out ?_) | (with_reducible refine wpList_store_whole rfl 48 _ _ rfl gX S.cells (by with_unfolding_all exact rfl) (by with_unfolding_all exact rfl) _ _ X10.out (ent_size' _) rfl (Ent.cells_one _) ?_))
  intro w11 q11 x11 z11
  have X11 := Lib.hid x11
  have F : Hid (RffAt w11 g (.slice A' (s.issued.length + 1) cap') u (s.more [S]) ∧ Moves (Foot g v u) (Foot g (.slice A' (s.issued.length + 1) cap') u) w w11) := Lib.hid ⟨E.out.1.keeps (F := fun i => i = gX) (Keeps.of_grown q11 (fun k hk => .inl (by injection hk with hk; exact hk.symm))) (fun i k e => HV.out i k e), ⟨M.out.keeps.then (G := fun i => i = gX) (Keeps.of_grown q11 (fun k hk => .inl (by injection hk with hk; exact hk.symm))) (fun i e => .inr (by have := M_X.out; omega)), M.out.foot⟩⟩
  clear q11 x11 z11 E M E10 X10 HV
  go_wp2
  exact bodyPost_ret (results_ent rfl _ _ _ _ rfl X11.out) rfl ⟨_, rfl, F.out⟩
end Go.Proofs.YtfcjemedheccgaaDoor
