/- What package digest's Start and take answer, and two functions of the library that it calls (Grow, Concat). -/
import Derived.Test.YthhhldnlmkoamaaDoorDgB
namespace Go.Proofs.YthhhldnlmkoamaaDoor
open Go.RowKit

theorem start_size : (wv start).size = 8 := rfl
set_option maxRecDepth 100000 in
theorem start_any (w : World) : Calls Tryd.prog 29 #[] w fun e w' => e = .returned (.agg (wv start)) ∧ Below w.heap.size w w' := by
  go_enter Tryd.func29, Tryd.ntmps29
  go_wp2_with (refine wpList_alloc_row rfl 51 rfl _ zero23 ?_)
  intro w1 b1 x1 z1
  go_upto_region 1 with fail
  refine wp_region_lit (wpList_build8 rfl _ _ _ _ _ _ _ _ rfl 1779033703 3144134277 1013904242 2773480762 1359893119 2600822924 528734635 1541459225 rfl rfl rfl rfl rfl rfl rfl rfl
    (wpList_store_whole rfl 51 _ _ rfl _ (wv start) rfl rfl _ _ x1 size23 rfl (wv_one _) ?_))
  intro w2 g2 x2 z2
  refine wpList_nil ?_
  have HB := Lib.hid (b1.grown g2 (by omega) (fun k hk => by injection hk; omega))
  have X2 := Lib.hid x2
  clear b1 x1 z1 g2 x2 z2
  go_wp2_with fail
  refine bodyPost_ret (v := .agg (wv start)) ?_ rfl ⟨rfl, HB.out⟩
  exact results_cell_row rfl _ _ _ _ _ _ _ rfl X2.out Tryd.underlying51 rfl size23

/-- An array read in a statement that leaves its order open. -/
theorem still_load {P : Program} {ops : Array Oper} {w : World} {Q : Act → Prop} {a : Act} {o : Oper} {rest : List Oper} (hgd : o.guard = none) (ty : TypeId) (x : Operand) (ho : o.op = .load ty x) (ad : Addr) (hx : a.eval x = .pointer (some ad)) (v : Value)
    (hr : (loadVar ty ad).run P w = .ok v w) (h : wpStill P ops w Q rest (a.put o.dst v)) : wpStill P ops w Q (o :: rest) a := by
  refine wpStill_step fun K hK => ?_
  have q := hK _ h
  simp only [Region.wanted, hgd, if_true]
  unfold Oper.still execOp
  simp only [ho, hx, Instr.loadAt, Instr.sureAddr, Sem.run_bind, Sem.run_pure, Result.andThen_ok, hr, Oper.stillUpon]
  exact ⟨trivial, q⟩
theorem load_state {w : World} {g : Nat} {s : List UInt32} (h : Whole w g 51 (wv s)) (hs : s.length = 8) : (loadVar 51 ⟨g, 0, none⟩).run Tryd.prog w = .ok (.agg (wv s)) w :=
  run_loadVar_row w g _ _ _ _ _ h Tryd.underlying51 rfl (by rw [wv_size, hs]; exact size23)
theorem load_block {w : World} {b off n cap : Nat} {l : List UInt8} (h : BytesAt w (.slice (some ⟨b, off, none⟩) n cap) l) (hl : 64 ≤ l.length) : (loadVar 61 ⟨b, off, none⟩).run Tryd.prog w = .ok (.agg (bv (l.take 64)).toArray) w := by
  obtain ⟨b', off', e, _, hc⟩ := h.spots (by rintro rfl; simp at hl)
  injection e with e
  injection e with e1 e2
  subst e1 e2
  have hlen : (bv (l.take 64)).length = 64 := by rw [bv_length]; simp; omega
  have q := run_loadCells_list (P := Tryd.prog) w ⟨b, off, none⟩ (bv (l.take 64)) (fun j v hv => by
    have ha : (⟨b, off, none⟩ : Addr).add j = ⟨b, off + j, none⟩ := by unfold Addr.add; split <;> simp_all
    rw [ha]
    simp only [bv, List.getElem?_map, Option.map_eq_some_iff, List.getElem?_take] at hv
    obtain ⟨c, hc', rfl⟩ := hv
    split at hc'
    · exact hc j c hc'
    · cases hc')
  rw [hlen] at q
  have ha : (isAgg 61).run Tryd.prog w = .ok true w := by kernel_rfl
  simp [loadVar, ha, q]
theorem arr_ptr (A : Option Addr) (n cap : Nat) (h : 64 ≤ n) (w : World) : (Instr.arrayAt 61 (.slice A n cap)).run Tryd.prog w = .ok (.pointer A) w := by
  have h' : ¬ n < 64 := by omega
  simp [Instr.arrayAt, run_underlying Tryd.underlying61, h']
/-- Behind the first 64. -/
theorem BytesAt.behind {w : World} {b off n cap : Nat} {l : List UInt8} (h : BytesAt w (.slice (some ⟨b, off, none⟩) n cap) l) (hl : 64 ≤ n) : BytesAt w (.slice (if cap = 64 then some ⟨b, off, none⟩ else some ⟨b, off + 64, none⟩) (n - 64) (cap - 64)) (l.drop 64) := by
  obtain ⟨hn, hcap⟩ := h.size
  obtain ⟨b', off', e, _, hc⟩ := h.spots (by rintro rfl; simp at hn; omega)
  injection e with e
  injection e with e1 e2
  subst e1 e2
  refine ⟨_, cap - 64, by rw [List.length_drop, ← hn], by rw [List.length_drop]; omega, fun hne => ?_⟩
  have hd : ¬ cap = 64 := by
    intro h64
    apply hne
    apply List.drop_eq_nil_of_le
    omega
  rw [if_neg hd]
  refine ⟨_, rfl, fun j c hj => ?_⟩
  have ha : (⟨b, off + 64, none⟩ : Addr).add j = ⟨b, off + (64 + j), none⟩ := by unfold Addr.add; split <;> simp_all [Nat.add_assoc]
  rw [ha]
  rw [List.getElem?_drop] at hj
  exact hc _ c hj
theorem blocks_next (s : List UInt32) (l : List UInt8) (k : Nat) : blocks s l (k + 1) = blockS (blocks s l k) ((l.drop (64 * k)).take 64) := rfl

set_option maxRecDepth 100000 in
set_option maxHeartbeats 1000000 in
theorem take_any (s : List UInt32) (hs : s.length = 8) (v : Value) (l : List UInt8) (m : Nat) (hm : l.length = 64 * m) (hm1 : m ≤ 100000) (w : World) (hv : BytesAt w v l) (T : Tab w) :
    Calls Tryd.prog 28 #[.agg (wv s), v] w fun e w' => e = .returned (.agg (wv (blocks s l m))) ∧ Below w.heap.size w w' := by
  have T0 := Lib.hid T
  have HV := Lib.hid hv
  have HS := Lib.hid hs
  have hpos := Lib.hid T.pos
  obtain ⟨A, cap, rfl, hcap, -⟩ := hv
  have HM := Lib.hid hm
  rw [hm] at HV hcap ⊢
  clear T hs hm
  go_enter Tryd.func28, Tryd.ntmps28
  go_wp2_with (refine wpList_box_row rfl 51 _ rfl _ rfl ?_)
  intro w1 b1 x1 z1
  go_wp2_with (refine wpList_alloc_row rfl 51 rfl _ zero23 ?_)
  intro w2 b2 x2 z2
  have X1 := Lib.hid (x1.below b2 (by omega))
  have X2 := Lib.hid x2
  have HB2 : Hid (Below w.heap.size w w2) := b1.trans (b2.mono (by omega))
  have T2 := Lib.hid (T0.out.below HB2.out hpos.out)
  clear b1 b2 x1 x2 z1 z2 T0
  go_wp2_with fail
  go_loopw [1] (fun b wr => ∃ (k n : Nat) (A : Option Addr) (cap : Nat), k ≤ m ∧ n = 64 * (m - k) ∧ n ≤ cap ∧ b = .slice A n cap ∧ BytesAt w b (l.drop (64 * k)) ∧ Whole wr w.heap.size 51 (wv (blocks s l k)) ∧ Whole wr (w.heap.size + 1) 51 (wv (zw 8)) ∧ Tab wr ∧ Below w.heap.size w wr) (fun b _ => match b with | .slice _ n _ => n | _ => 0)
  case atStart => exact ⟨0, _, _, _, Nat.zero_le _, by simp, hcap, rfl, HV.out, X1.out, X2.out, T2.out, HB2.out⟩
  case round =>
    obtain ⟨k, n, A, cap, hk, hn, hcap, rfl, hv, x1, x2, T, hb⟩ := hrel
    clear X1 X2 T2 HB2 HV
    have HV := Lib.hid hv
    have X1 := Lib.hid x1
    have X2 := Lib.hid x2
    have HT := Lib.hid T
    have HB := Lib.hid hb
    have HN := Lib.hid hn
    have H8 := Lib.hid (blocks_length s l k HS.out)
    clear hv x1 x2 T hb
    by_cases hlt : k < m
    · have h64 : 64 ≤ n := by omega
      have dt : decide ((64 : Int) ≤ (n : Int)) = true := by simp; omega
      obtain ⟨b, off, rfl, hbl, -⟩ := HV.out.spots (by intro e; have := HV.out.size.1; rw [e] at this; simp at this; omega)
      have sa := arr_ptr (some ⟨b, off, none⟩) n cap h64
      clear hn hlt
      go_wp2_with fail
      refine still_tail 4 (by kernel_rfl) (by kernel_rfl) fun w3 h3 b3 => ?_
      simp only [List.take_succ_cons, List.take_zero, List.drop_succ_cons, List.drop_zero]
      have Y1 := Lib.hid (X1.out.of_heap h3)
      have Y2 := Lib.hid (X2.out.of_heap h3)
      have T3 := Lib.hid (HT.out.of_heap h3)
      have HB3 := Lib.hid (HB.out.trans (b3.mono HB.out.size))
      have V3 := Lib.hid (HV.out.below HB3.out)
      have h64' : 64 ≤ (l.drop (64 * k)).length := by rw [← V3.out.size.1]; exact h64
      refine still_load rfl 51 _ rfl _ rfl _ (load_state Y1.out H8.out) ?_
      still_step
      still_step
      refine still_load rfl 61 _ rfl _ rfl _ (load_block V3.out h64') ?_
      refine wpStill_nil ?_
      have CB := Lib.hid (block_any (blocks s l k) H8.out ((l.drop (64 * k)).take 64) (by simp only [List.length_take]; omega) w3 T3.out)
      rw [← blocks_next] at CB
      have H8' := Lib.hid (blocks_length s l (k + 1) HS.out)
      have S8' : Hid ((Tryd.prog.info? 51).map (·.size) = some (wv (blocks s l (k + 1))).size) := by rw [wv_size, H8'.out]; exact size23
      have Z8' : Hid ((wv (blocks s l k)).size = (wv (blocks s l (k + 1))).size) := by rw [wv_size, wv_size, H8'.out, H8.out]; exact rfl
      clear X1 X2 HT HB b3 h3 h64' dt sa
      generalize hB : blocks s l (k + 1) = B1 at *
      have HBB := Lib.hid hB
      clear hB
      go_wp2_with fail
      refine CB.out.mono ?_
      rintro e w4 ⟨rfl, b4⟩
      have Y14 := Lib.hid (Y1.out.below b4 Y1.out.lt)
      have Y24 := Lib.hid (Y2.out.below b4 Y2.out.lt)
      have T4 := Lib.hid (T3.out.below b4 T3.out.pos)
      have HB4 := Lib.hid (HB3.out.trans (b4.mono HB3.out.size))
      clear b4 CB V3 Y1 Y2 T3 HB3
      go_wp2_with (with_reducible refine wpList_store_whole rfl 51 _ _ rfl w.heap.size (wv B1) ?hx ?hy _ _ Y14.out S8'.out Z8'.out (wv_one _) ?_)
      case hx => exact rfl
      case hy => exact rfl
      intro w5 g5 x5 z5
      refine wpList_nil ?_
      have X5 := Lib.hid x5
      have Y25 := Lib.hid (Y24.out.grown g5 (by simp))
      have HB5 := Lib.hid (HB4.out.grown g5 HB4.out.size (fun k hk => by injection hk; omega))
      have T5 : Hid (Tab w5) := fun k hk => by
        have := T4.out k hk
        rw [← this]
        exact World.cell?_of_block (g5.block 0 T4.out.pos (by have := hpos.out; simp; omega))
      have V5 := Lib.hid (HV.out.behind h64)
      rw [List.drop_drop] at V5
      clear x5 g5 z5 Y14 Y24 HB4 T4 HV S8' Z8'
      go_wp2_with fail
      have hn := HN.out
      have e : 64 * k + 64 = 64 * (k + 1) := by omega
      rw [e] at V5
      rw [← HBB.out] at X5
      refine ⟨⟨k + 1, _, _, _, by omega, by omega, by omega, rfl, V5.out, X5.out, Y25.out, T5.out, HB5.out⟩, ?_⟩
      show n - 64 < n
      omega
    · have hkm : k = m := by omega
      have dt : decide ((64 : Int) ≤ (n : Int)) = false := by simp; omega
      subst hkm
      have S8' : Hid ((Tryd.prog.info? 51).map (·.size) = some (wv (blocks s l k)).size) := by rw [wv_size, H8.out]; exact size23
      have Z8' : Hid ((wv (zw 8)).size = (wv (blocks s l k)).size) := by rw [wv_size (blocks s l k), H8.out]; exact rfl
      clear hn hlt hk
      go_upto_region 4 with fail
      refine wp_region_lit (wpList_load_row rfl 51 _ rfl _ rfl _ _ _ _ X1.out Tryd.underlying51 rfl S8'.out (wpList_store_whole rfl 51 _ _ rfl _ _ rfl rfl _ _ X2.out S8'.out Z8'.out (wv_one _) ?_))
      intro w6 g6 x6 z6
      refine wpList_nil ?_
      have X6 := Lib.hid x6
      have HB6 := Lib.hid (HB.out.grown g6 HB.out.size (fun k hk => by injection hk; omega))
      clear x6 g6 z6
      go_wp2_with fail
      refine bodyPost_ret (v := .agg (wv (blocks s l k))) ?_ rfl ⟨rfl, HB6.out⟩
      exact results_cell_row rfl _ _ _ _ _ _ _ rfl X6.out Tryd.underlying51 rfl S8'.out
end Go.Proofs.YthhhldnlmkoamaaDoor
