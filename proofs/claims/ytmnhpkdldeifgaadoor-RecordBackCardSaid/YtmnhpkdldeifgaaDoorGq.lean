/- What package digest's Block answers. What package digest's Start and take answer, and two functions of the library that it calls (Grow, Concat). What the library's Grow (of nothing) answers. -/
import Derived.Test.YtmnhpkdldeifgaaDoorGp
import Derived.Test.YtmnhpkdldeifgaaDoorGb
import Derived.Lib.AppendZerosOnto
import Derived.Deep.DeepCutAuto
import Derived.Deep.LoopGhost
namespace Go.Proofs.YtmnhpkdldeifgaaDoor
set_option maxRecDepth 100000
open Go.RowKit

/-- The table of constants is as the text lays it. -/
def Tab (w : World) : Prop := ∀ k, k < 64 → w.cell? ⟨3, k, none⟩ = some (wd (kt.getD k 0))
theorem Tab.pos {w : World} (h : Tab w) : 3 < w.heap.size := World.block_lt_of_cell? w _ (h 0 (by decide))
theorem Tab.below {w w' : World} {B : Nat} (h : Tab w) (hb : Below B w w') (hB : 3 < B) : Tab w' := fun k hk => (hb.cell (p := ⟨3, k, none⟩) hB).trans (h k hk)
theorem Tab.of_heap {w w' : World} (h : Tab w) (hh : w'.heap = w.heap) : Tab w' := fun k hk => by
  have := h k hk
  rw [← this]
  exact World.cell?_of_block (by rw [hh])

theorem list8 {α : Type} (l : List α) (h : l.length = 8) : ∃ a b c d e f g i, l = [a, b, c, d, e, f, g, i] := by
  match l, h with
  | [a, b, c, d, e, f, g, i], _ => exact ⟨a, b, c, d, e, f, g, i, rfl⟩

theorem build8 (x0 x1 x2 x3 x4 x5 x6 x7 : UInt32) (w : World) : (Instr.build 114 #[(0, wd x0), (1, wd x1), (2, wd x2), (3, wd x3), (4, wd x4), (5, wd x5), (6, wd x6), (7, wd x7)]).run Tryd.prog w = .ok (.agg (wv [x0, x1, x2, x3, x4, x5, x6, x7])) w :=
  run_build w _ _ _ (by kernel_rfl)
/-- Eight words made an array. -/
theorem wpList_build8 {ops : Array Oper} {rest : List Oper} {o : Oper} {a : Act} {w : World} {Q : Exit → Act → World → Prop} (hgd : o.guard = none) (p0 p1 p2 p3 p4 p5 p6 p7 : Operand)
    (ho : o.op = .build 114 #[(0, p0), (1, p1), (2, p2), (3, p3), (4, p4), (5, p5), (6, p6), (7, p7)]) (x0 x1 x2 x3 x4 x5 x6 x7 : UInt32) (h0 : a.eval p0 = wd x0) (h1 : a.eval p1 = wd x1) (h2 : a.eval p2 = wd x2) (h3 : a.eval p3 = wd x3) (h4 : a.eval p4 = wd x4) (h5 : a.eval p5 = wd x5) (h6 : a.eval p6 = wd x6) (h7 : a.eval p7 = wd x7)
    (h : wpList Tryd.prog ops Q rest (a.put o.dst (.agg (wv [x0, x1, x2, x3, x4, x5, x6, x7]))) w) : wpList Tryd.prog ops Q (o :: rest) a w := by
  refine wpList_plain hgd fun K hK => ?_
  have q := hK _ _ h
  unfold Oper.wp execOp
  simp only [ho, List.map_toArray, List.map_cons, List.map_nil, h0, h1, h2, h3, h4, h5, h6, h7, build8, Sem.run_bind, Sem.run_pure, Result.andThen_ok, Oper.upon]
  exact q

set_option maxRecDepth 100000 in
set_option maxHeartbeats 1000000 in
theorem block_any (s : List UInt32) (hs : s.length = 8) (l : List UInt8) (hl : l.length = 64) (w : World) (T : Tab w) :
    Calls Tryd.prog 91 #[.agg (wv s), .agg (bv l).toArray] w fun e w' => e = .returned (.agg (wv (blockS s l))) ∧ Below w.heap.size w w' := by
  have T0 := Lib.hid T
  have hpos := Lib.hid T.pos
  have S23 : Hid ((Tryd.prog.info? 114).map (·.size) = some (wv s).size) := by rw [wv_size, hs]; exact size23
  have S24 : Hid ((Tryd.prog.info? 78).map (·.size) = some (bv l).toArray.size) := by rw [bva_size, hl]; exact size24
  have SP := Lib.hid (spread_any l hl)
  have HW := Lib.hid (wordsOf_length l)
  have HBS : Hid (blockS s l = addW s (rounds (wordsOf l) s 64)) := Lib.hid rfl
  generalize wordsOf l = W at *
  generalize blockS s l = R at *
  have S43 : Hid ((Tryd.prog.info? 121).map (·.size) = some (wv W).size) := by rw [wv_size, HW.out]; exact size43
  have Z43 : Hid ((wv (zw 64)).size = (wv W).size) := by rw [wv_size W, HW.out]; exact rfl
  have HS := Lib.hid hs
  clear T hl hs
  go_enter Tryd.func91, Tryd.ntmps91
  go_wp2_with (refine wpList_box_row rfl 114 _ rfl _ rfl ?_)
  intro w1 b1 x1 z1
  go_wp2_with (refine wpList_box_row rfl 78 _ rfl _ rfl ?_)
  intro w2 b2 x2 z2
  go_wp2_with (refine wpList_alloc_row rfl 114 rfl _ zero23 ?_)
  intro w3 b3 x3 z3
  have y1 := Lib.hid ((x1.below b2 (by omega)).below b3 (by omega))
  have y2 := Lib.hid (x2.below b3 (by omega))
  have HB3 : Hid (Below w.heap.size w w3) := (b1.trans (b2.mono (by omega))).trans (b3.mono (by omega))
  have z3' : w3.heap.size = w.heap.size + 3 := by omega
  have X3 := Lib.hid x3
  clear b1 b2 b3 x1 x2 x3 z1 z2 z3
  go_wp2_with (refine wpList_load_row rfl 78 _ rfl _ rfl _ _ _ _ y2.out Tryd.underlying78 rfl S24.out ?_)
  refine (SP.out w3).mono ?_
  rintro e w4 ⟨rfl, b4⟩
  have y1' := Lib.hid (y1.out.below b4 (by omega))
  have x3' := Lib.hid (X3.out.below b4 (by omega))
  have HB4 : Hid (Below w.heap.size w w4) := HB3.out.trans (b4.mono (by omega))
  have z4 : w.heap.size + 3 ≤ w4.heap.size := by have := b4.size; omega
  clear b4 y1 y2 X3 HB3 SP S24
  go_wp2_with (refine wpList_alloc_row rfl 121 rfl _ zero43 ?_)
  intro w5 b5 x5 z5
  have X5 := Lib.hid x5
  clear x5
  go_wp2_with (refine wpList_store_whole rfl 121 _ _ rfl _ _ rfl rfl _ _ X5.out S43.out Z43.out (wv_one _) ?_)
  intro w6 g6 x6 z6
  have Y1 := Lib.hid ((y1'.out.below b5 (by omega)).grown g6 (by simp; omega))
  have Y3 := Lib.hid ((x3'.out.below b5 (by omega)).grown g6 (by simp; omega))
  have X6 := Lib.hid x6
  have HB5 := HB4.out.trans (b5.mono (by omega))
  have HB6 := Lib.hid (HB5.grown g6 (by omega) (fun k hk => by injection hk; omega))
  have T6 := Lib.hid (T0.out.below HB6.out hpos.out)
  clear T0 y1' x3' HB4 b5 g6 x6 HB5 X5 z5 z6 z3' hpos Z43 S43
  obtain ⟨a0, b0, c0, d0, e0, f0, g0, h0, hs8⟩ := list8 s HS.out
  have H8 := Lib.hid hs8
  have at8 := fun j x (hj : s[j]? = some x) => wv_at s j x hj
  rw [hs8] at at8
  have v0 := Lib.hid (at8 0 a0 rfl)
  have v1 := Lib.hid (at8 1 b0 rfl)
  have v2 := Lib.hid (at8 2 c0 rfl)
  have v3 := Lib.hid (at8 3 d0 rfl)
  have v4 := Lib.hid (at8 4 e0 rfl)
  have v5 := Lib.hid (at8 5 f0 rfl)
  have v6 := Lib.hid (at8 6 g0 rfl)
  have v7 := Lib.hid (at8 7 h0 rfl)
  rw [← hs8] at v0 v1 v2 v3 v4 v5 v6 v7
  clear at8 hs8
  go_wp2_with fail
  refine still_all (by kernel_rfl) (by kernel_rfl) fun w7 h7 b7 => ?_
  have Y17 := Lib.hid (Y1.out.of_heap h7)
  have q0 := (Y17.out.at_ 0).trans v0.out
  have q1 := (Y17.out.at_ 1).trans v1.out
  have q2 := (Y17.out.at_ 2).trans v2.out
  have q3 := (Y17.out.at_ 3).trans v3.out
  have q4 := (Y17.out.at_ 4).trans v4.out
  have q5 := (Y17.out.at_ 5).trans v5.out
  have q6 := (Y17.out.at_ 6).trans v6.out
  have q7 := (Y17.out.at_ 7).trans v7.out
  repeat still_step
  refine wpStill_nil ?_
  have HB7 := Lib.hid (HB6.out.trans (b7.mono HB6.out.size))
  have X7 := Lib.hid (X6.out.of_heap h7)
  have Y37 := Lib.hid (Y3.out.of_heap h7)
  have T7 := Lib.hid (T6.out.of_heap h7)
  clear q0 q1 q2 q3 q4 q5 q6 q7 X6 Y3 T6 HB6 b7 h7 Y1
  go_wp2_with fail
  go_loopw [6, 7, 8, 9, 10, 11, 12, 13, 35] (fun ua ub uc ud ue uf ug uh i wr => ∃ (t : Nat) (a b c d e f g h : UInt32), t ≤ 64 ∧ i = .int .i64 t ∧ rounds W s t = [a, b, c, d, e, f, g, h] ∧ ua = wd a ∧ ub = wd b ∧ uc = wd c ∧ ud = wd d ∧ ue = wd e ∧ uf = wd f ∧ ug = wd g ∧ uh = wd h ∧ wr.heap = w7.heap ∧ Below w.heap.size w wr) (fun _ _ _ _ _ _ _ _ i _ => 64 - (intOf i).toNat)
  case atStart => exact ⟨0, _, _, _, _, _, _, _, _, Nat.zero_le _, rfl, H8.out, rfl, rfl, rfl, rfl, rfl, rfl, rfl, rfl, rfl, HB7.out⟩
  case round =>
    obtain ⟨t, a, b, c, d, e, f, g, h, ht, rfl, hr, rfl, rfl, rfl, rfl, rfl, rfl, rfl, rfl, hh, hb⟩ := hrel
    have HR := Lib.hid hr
    have HH := Lib.hid hh
    have HB := Lib.hid hb
    clear hr hh hb
    by_cases hlt : t < 64
    · have dt : decide ((t : Int) < 64) = true := by simp; omega
      have jt : (t : Int) < 64 := by omega
      have HN : Hid (rounds W s (t + 1) = rnd (kt.getD t 0) (W.getD t 0) (rounds W s t)) := Lib.hid rfl
      rw [HR.out] at HN
      have KT := Lib.hid (T7.out t hlt)
      have hWl : t < W.length := by rw [HW.out]; exact hlt
      have WT : Hid (W[t]? = some (W.getD t 0)) := Lib.hid (by simp [List.getD, List.getElem?_eq_getElem hWl])
      generalize kt.getD t 0 = k at *
      generalize W.getD t 0 = x at *
      obtain ⟨r1, r2, r3, r4, r5⟩ := rules_w
      clear hWl r4
      have HT := Lib.hid (And.intro ht hlt)
      clear hlt ht
      go_upto_region 6 with fail
      refine still_all (by kernel_rfl) (by kernel_rfl) fun w8 h8 b8 => ?_
      have k1 : w8.cell? ⟨3, t, none⟩ = some (wd k) := by rw [← KT.out]; exact World.cell?_of_block (by rw [h8, HH.out])
      have k2 : w8.cell? ⟨w4.heap.size, t, none⟩ = some (wd x) := ((X7.out.of_heap (h8.trans HH.out)).at_ t).trans (wv_at _ _ _ WT.out)
      repeat still_step
      still_call ((right_6 e _).mono fun _ _ h => ⟨h.1, h.2.symm⟩)
      repeat still_step
      still_call ((right_11 e _).mono fun _ _ h => ⟨h.1, h.2.symm⟩)
      repeat still_step
      still_call ((right_25 e _).mono fun _ _ h => ⟨h.1, h.2.symm⟩)
      repeat still_step
      refine wpStill_nil ?_
      have H8' := Lib.hid (h8.trans HH.out)
      have HB8 := Lib.hid (HB.out.trans (b8.mono HB.out.size))
      clear k1 k2 KT WT h8 b8 HH HB dt jt
      go_wp2_with fail
      refine (right_2 a _).mono ?_
      rintro _ _ ⟨rfl, rfl⟩
      go_wp2_with fail
      refine (right_13 a _).mono ?_
      rintro _ _ ⟨rfl, rfl⟩
      go_wp2_with fail
      refine (right_22 a _).mono ?_
      rintro _ _ ⟨rfl, rfl⟩
      have i1 : IntKind.i64.wrap ((t : Int) + 1) = ((t + 1 : Nat) : Int) := by have := HT.out; rw [IntWalk.i64_in _ (by omega)]; omega
      go_wp2_with fail
      clear r1 r2 r3 r5 i1
      obtain ⟨ht, hlt⟩ := HT.out
      refine ⟨⟨t + 1, _, _, _, _, _, _, _, _, hlt, ?_, HN.out, rfl, rfl, rfl, rfl, rfl, rfl, rfl, rfl, H8'.out, HB8.out⟩, ?_⟩
      · go_num
      · simp [intOf]; omega
    · have ht64 : t = 64 := by omega
      have dt : decide ((t : Int) < 64) = false := by simp; omega
      have HE : Hid (R = [a0 + a, b0 + b, c0 + c, d0 + d, e0 + e, f0 + f, g0 + g, h0 + h]) := by
        have := HBS.out
        rw [ht64] at HR
        rw [HR.out, H8.out] at this
        exact this
      have S8 : Hid ((Tryd.prog.info? 114).map (·.size) = some (wv R).size) := by rw [wv_size, HE.out]; exact size23
      have Z8 : Hid ((wv (zw 8)).size = (wv R).size) := by rw [wv_size R, HE.out]; exact rfl
      have Y1 := Lib.hid (Y17.out.of_heap HH.out)
      have Y3 := Lib.hid (Y37.out.of_heap HH.out)
      have q0 := (Y1.out.at_ 0).trans v0.out
      have q1 := (Y1.out.at_ 1).trans v1.out
      have q2 := (Y1.out.at_ 2).trans v2.out
      have q3 := (Y1.out.at_ 3).trans v3.out
      have q4 := (Y1.out.at_ 4).trans v4.out
      have q5 := (Y1.out.at_ 5).trans v5.out
      have q6 := (Y1.out.at_ 6).trans v6.out
      have q7 := (Y1.out.at_ 7).trans v7.out
      obtain ⟨r1, r2, r3, r4, r5⟩ := rules_w
      clear r2 r3 r4 r5 ht64 hlt ht
      go_upto_region 10 with fail
      refine wp_region_lit ?_
      iterate 96 (first | go_values | go_skip | go_guarded | go_step | go_upon | go_back)
      refine wpList_build8 rfl _ _ _ _ _ _ _ _ rfl _ _ _ _ _ _ _ _ rfl rfl rfl rfl rfl rfl rfl rfl ?_
      rw [← HE.out]
      refine wpList_store_whole rfl 114 _ _ rfl _ (wv R) rfl rfl _ _ Y3.out S8.out Z8.out (wv_one _) ?_
      intro w8 g8 x8 z8
      have X8 := Lib.hid x8
      have HB8 := Lib.hid (HB.out.grown g8 HB.out.size (fun k hk => by injection hk; omega))
      clear x8 g8 z8 q0 q1 q2 q3 q4 q5 q6 q7 r1
      refine wpList_nil ?_
      go_wp2_with fail
      refine bodyPost_ret (v := .agg (wv R)) ?_ rfl ⟨rfl, HB8.out⟩
      exact results_cell_row rfl _ _ _ _ _ _ _ rfl X8.out Tryd.underlying114 rfl S8.out
end Go.Proofs.YtmnhpkdldeifgaaDoor

namespace Go.Proofs.YtmnhpkdldeifgaaDoor
set_option maxRecDepth 100000
open Go.RowKit

theorem start_size : (wv start).size = 8 := rfl
set_option maxRecDepth 100000 in
theorem start_any (w : World) : Calls Tryd.prog 87 #[] w fun e w' => e = .returned (.agg (wv start)) ∧ Below w.heap.size w w' := by
  go_enter Tryd.func87, Tryd.ntmps87
  go_wp2_with (refine wpList_alloc_row rfl 114 rfl _ zero23 ?_)
  intro w1 b1 x1 z1
  go_upto_region 1 with fail
  refine wp_region_lit (wpList_build8 rfl _ _ _ _ _ _ _ _ rfl 1779033703 3144134277 1013904242 2773480762 1359893119 2600822924 528734635 1541459225 rfl rfl rfl rfl rfl rfl rfl rfl
    (wpList_store_whole rfl 114 _ _ rfl _ (wv start) rfl rfl _ _ x1 size23 rfl (wv_one _) ?_))
  intro w2 g2 x2 z2
  refine wpList_nil ?_
  have HB := Lib.hid (b1.grown g2 (by omega) (fun k hk => by injection hk; omega))
  have X2 := Lib.hid x2
  clear b1 x1 z1 g2 x2 z2
  go_wp2_with fail
  refine bodyPost_ret (v := .agg (wv start)) ?_ rfl ⟨rfl, HB.out⟩
  exact results_cell_row rfl _ _ _ _ _ _ _ rfl X2.out Tryd.underlying114 rfl size23

/-- An array read in a statement that leaves its order open. -/
theorem still_load {P : Program} {ops : Array Oper} {w : World} {Q : Act → Prop} {a : Act} {o : Oper} {rest : List Oper} (hgd : o.guard = none) (ty : TypeId) (x : Operand) (ho : o.op = .load ty x) (ad : Addr) (hx : a.eval x = .pointer (some ad)) (v : Value)
    (hr : (loadVar ty ad).run P w = .ok v w) (h : wpStill P ops w Q rest (a.put o.dst v)) : wpStill P ops w Q (o :: rest) a := by
  refine wpStill_step fun K hK => ?_
  have q := hK _ h
  simp only [Region.wanted, hgd, if_true]
  unfold Oper.still execOp
  simp only [ho, hx, Instr.loadAt, Instr.sureAddr, Sem.run_bind, Sem.run_pure, Result.andThen_ok, hr, Oper.stillUpon]
  exact ⟨trivial, q⟩
theorem load_state {w : World} {g : Nat} {s : List UInt32} (h : Whole w g 114 (wv s)) (hs : s.length = 8) : (loadVar 114 ⟨g, 0, none⟩).run Tryd.prog w = .ok (.agg (wv s)) w :=
  run_loadVar_row w g _ _ _ _ _ h Tryd.underlying114 rfl (by rw [wv_size, hs]; exact size23)
theorem load_block {w : World} {b off n cap : Nat} {l : List UInt8} (h : BytesAt w (.slice (some ⟨b, off, none⟩) n cap) l) (hl : 64 ≤ l.length) : (loadVar 78 ⟨b, off, none⟩).run Tryd.prog w = .ok (.agg (bv (l.take 64)).toArray) w := by
  obtain ⟨b', off', e, _, hc⟩ := h.spots (by rintro rfl; simp at hl)
  injection e with e
  injection e with e1 e2
  subst e1 e2
  have hlen : (bv (l.take 64)).length = 64 := by rw [bv_length]; simp; omega
  have q := run_loadCells_list (P := Tryd.prog) w ⟨b, off, none⟩ (bv (l.take 64)) (fun j v hv => by
    have ha : (⟨b, off, none⟩ : Addr).add j = ⟨b, off + j, none⟩ := by unfold Addr.add; split <;> simp_all
    rw [ha]
    simp only [bv, List.getElem?_map, Option.map_eq_some_iff, List.getElem?_take] at hv
    obtain ⟨c, hc', rfl⟩ := hv
    split at hc'
    · exact hc j c hc'
    · cases hc')
  rw [hlen] at q
  have ha : (isAgg 78).run Tryd.prog w = .ok true w := by kernel_rfl
  simp [loadVar, ha, q]
theorem arr_ptr (A : Option Addr) (n cap : Nat) (h : 64 ≤ n) (w : World) : (Instr.arrayAt 78 (.slice A n cap)).run Tryd.prog w = .ok (.pointer A) w := by
  have h' : ¬ n < 64 := by omega
  simp [Instr.arrayAt, run_underlying Tryd.underlying78, h']
/-- Behind the first 64. -/
theorem BytesAt.behind {w : World} {b off n cap : Nat} {l : List UInt8} (h : BytesAt w (.slice (some ⟨b, off, none⟩) n cap) l) (hl : 64 ≤ n) : BytesAt w (.slice (if cap = 64 then some ⟨b, off, none⟩ else some ⟨b, off + 64, none⟩) (n - 64) (cap - 64)) (l.drop 64) := by
  obtain ⟨hn, hcap⟩ := h.size
  obtain ⟨b', off', e, _, hc⟩ := h.spots (by rintro rfl; simp at hn; omega)
  injection e with e
  injection e with e1 e2
  subst e1 e2
  refine ⟨_, cap - 64, by rw [List.length_drop, ← hn], by rw [List.length_drop]; omega, fun hne => ?_⟩
  have hd : ¬ cap = 64 := by
    intro h64
    apply hne
    apply List.drop_eq_nil_of_le
    omega
  rw [if_neg hd]
  refine ⟨_, rfl, fun j c hj => ?_⟩
  have ha : (⟨b, off + 64, none⟩ : Addr).add j = ⟨b, off + (64 + j), none⟩ := by unfold Addr.add; split <;> simp_all [Nat.add_assoc]
  rw [ha]
  rw [List.getElem?_drop] at hj
  exact hc _ c hj
theorem blocks_next (s : List UInt32) (l : List UInt8) (k : Nat) : blocks s l (k + 1) = blockS (blocks s l k) ((l.drop (64 * k)).take 64) := rfl

set_option maxRecDepth 100000 in
set_option maxHeartbeats 1000000 in
theorem take_any (s : List UInt32) (hs : s.length = 8) (v : Value) (l : List UInt8) (m : Nat) (hm : l.length = 64 * m) (hm1 : m ≤ 100000) (w : World) (hv : BytesAt w v l) (T : Tab w) :
    Calls Tryd.prog 86 #[.agg (wv s), v] w fun e w' => e = .returned (.agg (wv (blocks s l m))) ∧ Below w.heap.size w w' := by
  have T0 := Lib.hid T
  have HV := Lib.hid hv
  have HS := Lib.hid hs
  have hpos := Lib.hid T.pos
  obtain ⟨A, cap, rfl, hcap, -⟩ := hv
  have HM := Lib.hid hm
  rw [hm] at HV hcap ⊢
  clear T hs hm
  go_enter Tryd.func86, Tryd.ntmps86
  go_wp2_with (refine wpList_box_row rfl 114 _ rfl _ rfl ?_)
  intro w1 b1 x1 z1
  go_wp2_with (refine wpList_alloc_row rfl 114 rfl _ zero23 ?_)
  intro w2 b2 x2 z2
  have X1 := Lib.hid (x1.below b2 (by omega))
  have X2 := Lib.hid x2
  have HB2 : Hid (Below w.heap.size w w2) := b1.trans (b2.mono (by omega))
  have T2 := Lib.hid (T0.out.below HB2.out hpos.out)
  clear b1 b2 x1 x2 z1 z2 T0
  go_wp2_with fail
  go_loopw [1] (fun b wr => ∃ (k n : Nat) (A : Option Addr) (cap : Nat), k ≤ m ∧ n = 64 * (m - k) ∧ n ≤ cap ∧ b = .slice A n cap ∧ BytesAt w b (l.drop (64 * k)) ∧ Whole wr w.heap.size 114 (wv (blocks s l k)) ∧ Whole wr (w.heap.size + 1) 114 (wv (zw 8)) ∧ Tab wr ∧ Below w.heap.size w wr) (fun b _ => match b with | .slice _ n _ => n | _ => 0)
  case atStart => exact ⟨0, _, _, _, Nat.zero_le _, by simp, hcap, rfl, HV.out, X1.out, X2.out, T2.out, HB2.out⟩
  case round =>
    obtain ⟨k, n, A, cap, hk, hn, hcap, rfl, hv, x1, x2, T, hb⟩ := hrel
    clear X1 X2 T2 HB2 HV
    have HV := Lib.hid hv
    have X1 := Lib.hid x1
    have X2 := Lib.hid x2
    have HT := Lib.hid T
    have HB := Lib.hid hb
    have HN := Lib.hid hn
    have H8 := Lib.hid (blocks_length s l k HS.out)
    clear hv x1 x2 T hb
    by_cases hlt : k < m
    · have h64 : 64 ≤ n := by omega
      have dt : decide ((64 : Int) ≤ (n : Int)) = true := by simp; omega
      obtain ⟨b, off, rfl, hbl, -⟩ := HV.out.spots (by intro e; have := HV.out.size.1; rw [e] at this; simp at this; omega)
      have sa := arr_ptr (some ⟨b, off, none⟩) n cap h64
      clear hn hlt
      go_wp2_with fail
      refine still_tail 4 (by kernel_rfl) (by kernel_rfl) fun w3 h3 b3 => ?_
      simp only [List.take_succ_cons, List.take_zero, List.drop_succ_cons, List.drop_zero]
      have Y1 := Lib.hid (X1.out.of_heap h3)
      have Y2 := Lib.hid (X2.out.of_heap h3)
      have T3 := Lib.hid (HT.out.of_heap h3)
      have HB3 := Lib.hid (HB.out.trans (b3.mono HB.out.size))
      have V3 := Lib.hid (HV.out.below HB3.out)
      have h64' : 64 ≤ (l.drop (64 * k)).length := by rw [← V3.out.size.1]; exact h64
      refine still_load rfl 114 _ rfl _ rfl _ (load_state Y1.out H8.out) ?_
      still_step
      still_step
      refine still_load rfl 78 _ rfl _ rfl _ (load_block V3.out h64') ?_
      refine wpStill_nil ?_
      have CB := Lib.hid (block_any (blocks s l k) H8.out ((l.drop (64 * k)).take 64) (by simp only [List.length_take]; omega) w3 T3.out)
      rw [← blocks_next] at CB
      have H8' := Lib.hid (blocks_length s l (k + 1) HS.out)
      have S8' : Hid ((Tryd.prog.info? 114).map (·.size) = some (wv (blocks s l (k + 1))).size) := by rw [wv_size, H8'.out]; exact size23
      have Z8' : Hid ((wv (blocks s l k)).size = (wv (blocks s l (k + 1))).size) := by rw [wv_size, wv_size, H8'.out, H8.out]; exact rfl
      clear X1 X2 HT HB b3 h3 h64' dt sa
      generalize hB : blocks s l (k + 1) = B1 at *
      have HBB := Lib.hid hB
      clear hB
      go_wp2_with fail
      refine CB.out.mono ?_
      rintro e w4 ⟨rfl, b4⟩
      have Y14 := Lib.hid (Y1.out.below b4 Y1.out.lt)
      have Y24 := Lib.hid (Y2.out.below b4 Y2.out.lt)
      have T4 := Lib.hid (T3.out.below b4 T3.out.pos)
      have HB4 := Lib.hid (HB3.out.trans (b4.mono HB3.out.size))
      clear b4 CB V3 Y1 Y2 T3 HB3
      go_wp2_with (with_reducible refine wpList_store_whole rfl 114 _ _ rfl w.heap.size (wv B1) ?hx ?hy _ _ Y14.out S8'.out Z8'.out (wv_one _) ?_)
      case hx => exact rfl
      case hy => exact rfl
      intro w5 g5 x5 z5
      refine wpList_nil ?_
      have X5 := Lib.hid x5
      have Y25 := Lib.hid (Y24.out.grown g5 (by simp))
      have HB5 := Lib.hid (HB4.out.grown g5 HB4.out.size (fun k hk => by injection hk; omega))
      have T5 : Hid (Tab w5) := fun k hk => by
        have := T4.out k hk
        rw [← this]
        exact World.cell?_of_block (g5.block 3 T4.out.pos (by have := hpos.out; simp; omega))
      have V5 := Lib.hid (HV.out.behind h64)
      rw [List.drop_drop] at V5
      clear x5 g5 z5 Y14 Y24 HB4 T4 HV S8' Z8'
      go_wp2_with fail
      have hn := HN.out
      have e : 64 * k + 64 = 64 * (k + 1) := by omega
      rw [e] at V5
      rw [← HBB.out] at X5
      refine ⟨⟨k + 1, _, _, _, by omega, by omega, by omega, rfl, V5.out, X5.out, Y25.out, T5.out, HB5.out⟩, ?_⟩
      show n - 64 < n
      omega
    · have hkm : k = m := by omega
      have dt : decide ((64 : Int) ≤ (n : Int)) = false := by simp; omega
      subst hkm
      have S8' : Hid ((Tryd.prog.info? 114).map (·.size) = some (wv (blocks s l k)).size) := by rw [wv_size, H8.out]; exact size23
      have Z8' : Hid ((wv (zw 8)).size = (wv (blocks s l k)).size) := by rw [wv_size (blocks s l k), H8.out]; exact rfl
      clear hn hlt hk
      go_upto_region 4 with fail
      refine wp_region_lit (wpList_load_row rfl 114 _ rfl _ rfl _ _ _ _ X1.out Tryd.underlying114 rfl S8'.out (wpList_store_whole rfl 114 _ _ rfl _ _ rfl rfl _ _ X2.out S8'.out Z8'.out (wv_one _) ?_))
      intro w6 g6 x6 z6
      refine wpList_nil ?_
      have X6 := Lib.hid x6
      have HB6 := Lib.hid (HB.out.grown g6 HB.out.size (fun k hk => by injection hk; omega))
      clear x6 g6 z6
      go_wp2_with fail
      refine bodyPost_ret (v := .agg (wv (blocks s l k))) ?_ rfl ⟨rfl, HB6.out⟩
      exact results_cell_row rfl _ _ _ _ _ _ _ rfl X6.out Tryd.underlying114 rfl S8'.out
end Go.Proofs.YtmnhpkdldeifgaaDoor

namespace Go.Proofs.YtmnhpkdldeifgaaDoor
set_option maxRecDepth 100000
open Go.RowKit

theorem run_append_zeros (w : World) (ty : TypeId) (k : Nat) (h0 : 0 < k) (hk : k ≤ 10000000) :
    ∃ cap w', (Builtin.append_ #[25, 3] ty #[.slice none 0 0, .int .i64 (k : Int)]).run Tryd.prog w = .ok (.slice (some ⟨w.heap.size, 0, none⟩) k cap) w' ∧ k ≤ cap ∧
      w'.ownsRow w.heap.size 5 1 (.slice (some ⟨w.heap.size, 0, none⟩) 0 cap) 0 [] ∧ Below w.heap.size w w' := by
  obtain ⟨i0, hi0, hz0, hz1, hz2⟩ := info_parts byte_info
  have q := Lib.run_append_grow_zeros (P := Tryd.prog) w 25 3 ty 5 i0 (.int .u8 0) .i64 .i64 Tryd.underlying25 Tryd.underlying3 hi0 hz0 none 0 0 []
    (by simp [Builtin.firstCells]) k h0 (by omega) (by omega) (by omega) (by rw [hz2]; omega) (by rw [hz2]; simp only [Builtin.nextslicecap]; split <;> omega)
  rw [Nat.zero_add] at q
  refine ⟨_, _, q, grownCap_ge _ _ _ _, World.ownsRow_made w.drew _ _ (Nat.le_refl _) (grownCap_le_maxLen _ _ _ _ (by simp only [maxLen]; omega)) ?_, (Below.refl _ _).drew.alloc (Nat.le_refl _) _⟩
  have := grownCap_ge w k 0 5
  simp [size_zeroCells, Value.cells]
  omega

theorem wpList_append_zeros {w : World} {ops : Array Oper} {rest : List Oper} {o : Oper} {a : Act} {Q : Exit → Act → World → Prop} (hgd : o.guard = none) (s x : Operand)
    (ho : o.op = .call { callee := .builtin .append, args := #[s, x], argTypes := #[25, 3] }) (k : Nat) (hs : a.eval s = .slice none 0 0) (hx : a.eval x = .int .i64 (k : Int)) (h0 : 0 < k) (hk : k ≤ 10000000)
    (h : ∀ cap w', k ≤ cap → w'.ownsRow w.heap.size 5 1 (.slice (some ⟨w.heap.size, 0, none⟩) 0 cap) 0 [] → Below w.heap.size w w' → wpList Tryd.prog ops Q rest (a.put o.dst (.slice (some ⟨w.heap.size, 0, none⟩) k cap)) w') : wpList Tryd.prog ops Q (o :: rest) a w := by
  refine wpList_plain hgd fun K hK => ?_
  obtain ⟨cap, w', hr, h1, h2, h3⟩ := run_append_zeros w o.type k h0 hk
  have q := hK _ _ (h cap w' h1 h2 h3)
  unfold Oper.wp execOp
  simp only [ho, resolve, invoke, builtin, Sem.run_bind, Sem.run_pure, Result.andThen_ok, List.map_toArray, List.map_cons, List.map_nil, hs, hx, hr]
  exact q

set_option maxHeartbeats 1000000 in
theorem grow_any (n : Nat) (hn : n ≤ 10000000) (w : World) :
    Calls Tryd.prog 38 #[.slice none 0 0, .int .i64 (n : Int)] w fun e w' => ∃ v, e = .returned v ∧ w'.ownsRow w.heap.size 5 1 v 0 [] ∧ Below w.heap.size w w' := by
  by_cases h0 : n = 0
  · subst h0
    go_enter Tryd.func38, Tryd.ntmps38
    go_wp2
    go_ret
    exact ⟨_, rfl, World.ownsRow_nil _ _ _ _, Below.refl _ _⟩
  · have hp : 0 < n := by omega
    have d0 : decide ((n : Int) < 0) = false := by simp
    have d1 : decide ((0 : Int) < (n : Int)) = true := by simp; omega
    go_enter Tryd.func38, Tryd.ntmps38
    go_wp2_with (with_reducible refine wpList_append_zeros rfl _ _ rfl n ?hs ?hx hp hn ?_)
    case hs => exact rfl
    case hx => exact rfl
    intro cap w1 hc ho hb
    have HO := Lib.hid ho
    have hcp : cap ≠ 0 := by omega
    clear ho
    go_wp2
    go_ret
    exact ⟨_, rfl, HO.out, hb⟩

end Go.Proofs.YtmnhpkdldeifgaaDoor
