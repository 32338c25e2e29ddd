/- What package digest's Block answers. -/
import Derived.Test.YtfcjemedheccgaaDoorGk
namespace Go.Proofs.YtfcjemedheccgaaDoor
set_option maxRecDepth 100000
open Go.RowKit

/-- The table of constants is as the text lays it. -/
def Tab (w : World) : Prop := ∀ k, k < 64 → w.cell? ⟨0, k, none⟩ = some (wd (kt.getD k 0))
theorem Tab.pos {w : World} (h : Tab w) : 0 < w.heap.size := World.block_lt_of_cell? w _ (h 0 (by decide))
theorem Tab.below {w w' : World} {B : Nat} (h : Tab w) (hb : Below B w w') (hB : 0 < B) : Tab w' := fun k hk => (hb.cell (p := ⟨0, k, none⟩) hB).trans (h k hk)
theorem Tab.of_heap {w w' : World} (h : Tab w) (hh : w'.heap = w.heap) : Tab w' := fun k hk => by
  have := h k hk
  rw [← this]
  exact World.cell?_of_block (by rw [hh])

theorem list8 {α : Type} (l : List α) (h : l.length = 8) : ∃ a b c d e f g i, l = [a, b, c, d, e, f, g, i] := by
  match l, h with
  | [a, b, c, d, e, f, g, i], _ => exact ⟨a, b, c, d, e, f, g, i, rfl⟩

theorem build8 (x0 x1 x2 x3 x4 x5 x6 x7 : UInt32) (w : World) : (Instr.build 119 #[(0, wd x0), (1, wd x1), (2, wd x2), (3, wd x3), (4, wd x4), (5, wd x5), (6, wd x6), (7, wd x7)]).run Tryd.prog w = .ok (.agg (wv [x0, x1, x2, x3, x4, x5, x6, x7])) w :=
  run_build w _ _ _ (by kernel_rfl)
/-- Eight words made an array. -/
theorem wpList_build8 {ops : Array Oper} {rest : List Oper} {o : Oper} {a : Act} {w : World} {Q : Exit → Act → World → Prop} (hgd : o.guard = none) (p0 p1 p2 p3 p4 p5 p6 p7 : Operand)
    (ho : o.op = .build 119 #[(0, p0), (1, p1), (2, p2), (3, p3), (4, p4), (5, p5), (6, p6), (7, p7)]) (x0 x1 x2 x3 x4 x5 x6 x7 : UInt32) (h0 : a.eval p0 = wd x0) (h1 : a.eval p1 = wd x1) (h2 : a.eval p2 = wd x2) (h3 : a.eval p3 = wd x3) (h4 : a.eval p4 = wd x4) (h5 : a.eval p5 = wd x5) (h6 : a.eval p6 = wd x6) (h7 : a.eval p7 = wd x7)
    (h : wpList Tryd.prog ops Q rest (a.put o.dst (.agg (wv [x0, x1, x2, x3, x4, x5, x6, x7]))) w) : wpList Tryd.prog ops Q (o :: rest) a w := by
  refine wpList_plain hgd fun K hK => ?_
  have q := hK _ _ h
  unfold Oper.wp execOp
  simp only [ho, List.map_toArray, List.map_cons, List.map_nil, h0, h1, h2, h3, h4, h5, h6, h7, build8, Sem.run_bind, Sem.run_pure, Result.andThen_ok, Oper.upon]
  exact q

set_option maxRecDepth 100000 in
set_option maxHeartbeats 1000000 in
theorem block_any (s : List UInt32) (hs : s.length = 8) (l : List UInt8) (hl : l.length = 64) (w : World) (T : Tab w) :
    Calls Tryd.prog 88 #[.agg (wv s), .agg (bv l).toArray] w fun e w' => e = .returned (.agg (wv (blockS s l))) ∧ Below w.heap.size w w' := by
  have T0 := Lib.hid T
  have hpos := Lib.hid T.pos
  have S23 : Hid ((Tryd.prog.info? 119).map (·.size) = some (wv s).size) := by rw [wv_size, hs]; exact size23
  have S24 : Hid ((Tryd.prog.info? 124).map (·.size) = some (bv l).toArray.size) := by rw [bva_size, hl]; exact size24
  have SP := Lib.hid (spread_any l hl)
  have HW := Lib.hid (wordsOf_length l)
  have HBS : Hid (blockS s l = addW s (rounds (wordsOf l) s 64)) := Lib.hid rfl
  generalize wordsOf l = W at *
  generalize blockS s l = R at *
  have S43 : Hid ((Tryd.prog.info? 125).map (·.size) = some (wv W).size) := by rw [wv_size, HW.out]; exact size43
  have Z43 : Hid ((wv (zw 64)).size = (wv W).size) := by rw [wv_size W, HW.out]; exact rfl
  have HS := Lib.hid hs
  clear T hl hs
  go_enter Tryd.func88, Tryd.ntmps88
  go_wp2_with (refine wpList_box_row rfl 119 _ rfl _ rfl ?_)
  intro w1 b1 x1 z1
  go_wp2_with (refine wpList_box_row rfl 124 _ rfl _ rfl ?_)
  intro w2 b2 x2 z2
  go_wp2_with (refine wpList_alloc_row rfl 119 rfl _ zero23 ?_)
  intro w3 b3 x3 z3
  have y1 := Lib.hid ((x1.below b2 (by omega)).below b3 (by omega))
  have y2 := Lib.hid (x2.below b3 (by omega))
  have HB3 : Hid (Below w.heap.size w w3) := (b1.trans (b2.mono (by omega))).trans (b3.mono (by omega))
  have z3' : w3.heap.size = w.heap.size + 3 := by omega
  have X3 := Lib.hid x3
  clear b1 b2 b3 x1 x2 x3 z1 z2 z3
  go_wp2_with (refine wpList_load_row rfl 124 _ rfl _ rfl _ _ _ _ y2.out Tryd.underlying124 rfl S24.out ?_)
  refine (SP.out w3).mono ?_
  rintro e w4 ⟨rfl, b4⟩
  have y1' := Lib.hid (y1.out.below b4 (by omega))
  have x3' := Lib.hid (X3.out.below b4 (by omega))
  have HB4 : Hid (Below w.heap.size w w4) := HB3.out.trans (b4.mono (by omega))
  have z4 : w.heap.size + 3 ≤ w4.heap.size := by have := b4.size; omega
  clear b4 y1 y2 X3 HB3 SP S24
  go_wp2_with (refine wpList_alloc_row rfl 125 rfl _ zero43 ?_)
  intro w5 b5 x5 z5
  have X5 := Lib.hid x5
  clear x5
  go_wp2_with (refine wpList_store_whole rfl 125 _ _ rfl _ _ rfl rfl _ _ X5.out S43.out Z43.out (wv_one _) ?_)
  intro w6 g6 x6 z6
  have Y1 := Lib.hid ((y1'.out.below b5 (by omega)).grown g6 (by simp; omega))
  have Y3 := Lib.hid ((x3'.out.below b5 (by omega)).grown g6 (by simp; omega))
  have X6 := Lib.hid x6
  have HB5 := HB4.out.trans (b5.mono (by omega))
  have HB6 := Lib.hid (HB5.grown g6 (by omega) (fun k hk => by injection hk; omega))
  have T6 := Lib.hid (T0.out.below HB6.out hpos.out)
  clear T0 y1' x3' HB4 b5 g6 x6 HB5 X5 z5 z6 z3' hpos Z43 S43
  obtain ⟨a0, b0, c0, d0, e0, f0, g0, h0, hs8⟩ := list8 s HS.out
  have H8 := Lib.hid hs8
  have at8 := fun j x (hj : s[j]? = some x) => wv_at s j x hj
  rw [hs8] at at8
  have v0 := Lib.hid (at8 0 a0 rfl)
  have v1 := Lib.hid (at8 1 b0 rfl)
  have v2 := Lib.hid (at8 2 c0 rfl)
  have v3 := Lib.hid (at8 3 d0 rfl)
  have v4 := Lib.hid (at8 4 e0 rfl)
  have v5 := Lib.hid (at8 5 f0 rfl)
  have v6 := Lib.hid (at8 6 g0 rfl)
  have v7 := Lib.hid (at8 7 h0 rfl)
  rw [← hs8] at v0 v1 v2 v3 v4 v5 v6 v7
  clear at8 hs8
  go_wp2_with fail
  refine still_all (by kernel_rfl) (by kernel_rfl) fun w7 h7 b7 => ?_
  have Y17 := Lib.hid (Y1.out.of_heap h7)
  have q0 := (Y17.out.at_ 0).trans v0.out
  have q1 := (Y17.out.at_ 1).trans v1.out
  have q2 := (Y17.out.at_ 2).trans v2.out
  have q3 := (Y17.out.at_ 3).trans v3.out
  have q4 := (Y17.out.at_ 4).trans v4.out
  have q5 := (Y17.out.at_ 5).trans v5.out
  have q6 := (Y17.out.at_ 6).trans v6.out
  have q7 := (Y17.out.at_ 7).trans v7.out
  repeat still_step
  refine wpStill_nil ?_
  have HB7 := Lib.hid (HB6.out.trans (b7.mono HB6.out.size))
  have X7 := Lib.hid (X6.out.of_heap h7)
  have Y37 := Lib.hid (Y3.out.of_heap h7)
  have T7 := Lib.hid (T6.out.of_heap h7)
  clear q0 q1 q2 q3 q4 q5 q6 q7 X6 Y3 T6 HB6 b7 h7 Y1
  go_wp2_with fail
  go_loopw [6, 7, 8, 9, 10, 11, 12, 13, 35] (fun ua ub uc ud ue uf ug uh i wr => ∃ (t : Nat) (a b c d e f g h : UInt32), t ≤ 64 ∧ i = .int .i64 t ∧ rounds W s t = [a, b, c, d, e, f, g, h] ∧ ua = wd a ∧ ub = wd b ∧ uc = wd c ∧ ud = wd d ∧ ue = wd e ∧ uf = wd f ∧ ug = wd g ∧ uh = wd h ∧ wr.heap = w7.heap ∧ Below w.heap.size w wr) (fun _ _ _ _ _ _ _ _ i _ => 64 - (intOf i).toNat)
  case atStart => exact ⟨0, _, _, _, _, _, _, _, _, Nat.zero_le _, rfl, H8.out, rfl, rfl, rfl, rfl, rfl, rfl, rfl, rfl, rfl, HB7.out⟩
  case round =>
    obtain ⟨t, a, b, c, d, e, f, g, h, ht, rfl, hr, rfl, rfl, rfl, rfl, rfl, rfl, rfl, rfl, hh, hb⟩ := hrel
    have HR := Lib.hid hr
    have HH := Lib.hid hh
    have HB := Lib.hid hb
    clear hr hh hb
    by_cases hlt : t < 64
    · have dt : decide ((t : Int) < 64) = true := by simp; omega
      have jt : (t : Int) < 64 := by omega
      have HN : Hid (rounds W s (t + 1) = rnd (kt.getD t 0) (W.getD t 0) (rounds W s t)) := Lib.hid rfl
      rw [HR.out] at HN
      have KT := Lib.hid (T7.out t hlt)
      have hWl : t < W.length := by rw [HW.out]; exact hlt
      have WT : Hid (W[t]? = some (W.getD t 0)) := Lib.hid (by simp [List.getD, List.getElem?_eq_getElem hWl])
      generalize kt.getD t 0 = k at *
      generalize W.getD t 0 = x at *
      obtain ⟨r1, r2, r3, r4, r5⟩ := rules_w
      clear hWl r4
      have HT := Lib.hid (And.intro ht hlt)
      clear hlt ht
      go_upto_region 6 with fail
      refine still_all (by kernel_rfl) (by kernel_rfl) fun w8 h8 b8 => ?_
      have k1 : w8.cell? ⟨0, t, none⟩ = some (wd k) := by rw [← KT.out]; exact World.cell?_of_block (by rw [h8, HH.out])
      have k2 : w8.cell? ⟨w4.heap.size, t, none⟩ = some (wd x) := ((X7.out.of_heap (h8.trans HH.out)).at_ t).trans (wv_at _ _ _ WT.out)
      repeat still_step
      still_call ((right_6 e _).mono fun _ _ h => ⟨h.1, h.2.symm⟩)
      repeat still_step
      still_call ((right_11 e _).mono fun _ _ h => ⟨h.1, h.2.symm⟩)
      repeat still_step
      still_call ((right_25 e _).mono fun _ _ h => ⟨h.1, h.2.symm⟩)
      repeat still_step
      refine wpStill_nil ?_
      have H8' := Lib.hid (h8.trans HH.out)
      have HB8 := Lib.hid (HB.out.trans (b8.mono HB.out.size))
      clear k1 k2 KT WT h8 b8 HH HB dt jt
      go_wp2_with fail
      refine (right_2 a _).mono ?_
      rintro _ _ ⟨rfl, rfl⟩
      go_wp2_with fail
      refine (right_13 a _).mono ?_
      rintro _ _ ⟨rfl, rfl⟩
      go_wp2_with fail
      refine (right_22 a _).mono ?_
      rintro _ _ ⟨rfl, rfl⟩
      have i1 : IntKind.i64.wrap ((t : Int) + 1) = ((t + 1 : Nat) : Int) := by have := HT.out; rw [IntWalk.i64_in _ (by omega)]; omega
      go_wp2_with fail
      clear r1 r2 r3 r5 i1
      obtain ⟨ht, hlt⟩ := HT.out
      refine ⟨⟨t + 1, _, _, _, _, _, _, _, _, hlt, ?_, HN.out, rfl, rfl, rfl, rfl, rfl, rfl, rfl, rfl, H8'.out, HB8.out⟩, ?_⟩
      · go_num
      · simp [intOf]; omega
    · have ht64 : t = 64 := by omega
      have dt : decide ((t : Int) < 64) = false := by simp; omega
      have HE : Hid (R = [a0 + a, b0 + b, c0 + c, d0 + d, e0 + e, f0 + f, g0 + g, h0 + h]) := by
        have := HBS.out
        rw [ht64] at HR
        rw [HR.out, H8.out] at this
        exact this
      have S8 : Hid ((Tryd.prog.info? 119).map (·.size) = some (wv R).size) := by rw [wv_size, HE.out]; exact size23
      have Z8 : Hid ((wv (zw 8)).size = (wv R).size) := by rw [wv_size R, HE.out]; exact rfl
      have Y1 := Lib.hid (Y17.out.of_heap HH.out)
      have Y3 := Lib.hid (Y37.out.of_heap HH.out)
      have q0 := (Y1.out.at_ 0).trans v0.out
      have q1 := (Y1.out.at_ 1).trans v1.out
      have q2 := (Y1.out.at_ 2).trans v2.out
      have q3 := (Y1.out.at_ 3).trans v3.out
      have q4 := (Y1.out.at_ 4).trans v4.out
      have q5 := (Y1.out.at_ 5).trans v5.out
      have q6 := (Y1.out.at_ 6).trans v6.out
      have q7 := (Y1.out.at_ 7).trans v7.out
      obtain ⟨r1, r2, r3, r4, r5⟩ := rules_w
      clear r2 r3 r4 r5 ht64 hlt ht
      go_upto_region 10 with fail
      refine wp_region_lit ?_
      iterate 96 (first | go_values | go_skip | go_guarded | go_step | go_upon | go_back)
      refine wpList_build8 rfl _ _ _ _ _ _ _ _ rfl _ _ _ _ _ _ _ _ rfl rfl rfl rfl rfl rfl rfl rfl ?_
      rw [← HE.out]
      refine wpList_store_whole rfl 119 _ _ rfl _ (wv R) rfl rfl _ _ Y3.out S8.out Z8.out (wv_one _) ?_
      intro w8 g8 x8 z8
      have X8 := Lib.hid x8
      have HB8 := Lib.hid (HB.out.grown g8 HB.out.size (fun k hk => by injection hk; omega))
      clear x8 g8 z8 q0 q1 q2 q3 q4 q5 q6 q7 r1
      refine wpList_nil ?_
      go_wp2_with fail
      refine bodyPost_ret (v := .agg (wv R)) ?_ rfl ⟨rfl, HB8.out⟩
      exact results_cell_row rfl _ _ _ _ _ _ _ rfl X8.out Tryd.underlying119 rfl S8.out
end Go.Proofs.YtfcjemedheccgaaDoor
