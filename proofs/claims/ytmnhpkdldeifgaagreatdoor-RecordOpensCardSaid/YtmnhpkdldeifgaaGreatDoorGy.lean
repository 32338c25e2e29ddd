/- What package digest's Start and take answer, and two functions of the library that it calls (Grow, Concat). What the library's Grow (of nothing) answers. What the library's Concat (of two) answers. What package digest's Pad answers. -/
import Derived.Test.YtmnhpkdldeifgaaGreatDoorGx
import Derived.Test.YtmnhpkdldeifgaaGreatDoorGb
import Derived.Lib.AppendZerosOnto
import Derived.Deep.DeepCutAuto
import Derived.Deep.LoopGhost
namespace Go.Proofs.YtmnhpkdldeifgaaGreatDoor
set_option maxRecDepth 100000
open Go.RowKit

theorem start_size : (wv start).size = 8 := rfl
set_option maxRecDepth 100000 in
theorem start_any (w : World) : Calls Tryz.prog 120 #[] w fun e w' => e = .returned (.agg (wv start)) ∧ Below w.heap.size w w' := by
  go_enter Tryz.func120, Tryz.ntmps120
  go_wp2_with (refine wpList_alloc_row rfl 135 rfl _ zero23 ?_)
  intro w1 b1 x1 z1
  go_upto_region 1 with fail
  refine wp_region_lit (wpList_build8 rfl _ _ _ _ _ _ _ _ rfl 1779033703 3144134277 1013904242 2773480762 1359893119 2600822924 528734635 1541459225 rfl rfl rfl rfl rfl rfl rfl rfl
    (wpList_store_whole rfl 135 _ _ rfl _ (wv start) rfl rfl _ _ x1 size23 rfl (wv_one _) ?_))
  intro w2 g2 x2 z2
  refine wpList_nil ?_
  have HB := Lib.hid (b1.grown g2 (by omega) (fun k hk => by injection hk; omega))
  have X2 := Lib.hid x2
  clear b1 x1 z1 g2 x2 z2
  go_wp2_with fail
  refine bodyPost_ret (v := .agg (wv start)) ?_ rfl ⟨rfl, HB.out⟩
  exact results_cell_row rfl _ _ _ _ _ _ _ rfl X2.out Tryz.underlying135 rfl size23

/-- An array read in a statement that leaves its order open. -/
theorem still_load {P : Program} {ops : Array Oper} {w : World} {Q : Act → Prop} {a : Act} {o : Oper} {rest : List Oper} (hgd : o.guard = none) (ty : TypeId) (x : Operand) (ho : o.op = .load ty x) (ad : Addr) (hx : a.eval x = .pointer (some ad)) (v : Value)
    (hr : (loadVar ty ad).run P w = .ok v w) (h : wpStill P ops w Q rest (a.put o.dst v)) : wpStill P ops w Q (o :: rest) a := by
  refine wpStill_step fun K hK => ?_
  have q := hK _ h
  simp only [Region.wanted, hgd, if_true]
  unfold Oper.still execOp
  simp only [ho, hx, Instr.loadAt, Instr.sureAddr, Sem.run_bind, Sem.run_pure, Result.andThen_ok, hr, Oper.stillUpon]
  exact ⟨trivial, q⟩
theorem load_state {w : World} {g : Nat} {s : List UInt32} (h : Whole w g 135 (wv s)) (hs : s.length = 8) : (loadVar 135 ⟨g, 0, none⟩).run Tryz.prog w = .ok (.agg (wv s)) w :=
  run_loadVar_row w g _ _ _ _ _ h Tryz.underlying135 rfl (by rw [wv_size, hs]; exact size23)
theorem load_block {w : World} {b off n cap : Nat} {l : List UInt8} (h : BytesAt w (.slice (some ⟨b, off, none⟩) n cap) l) (hl : 64 ≤ l.length) : (loadVar 77 ⟨b, off, none⟩).run Tryz.prog w = .ok (.agg (bv (l.take 64)).toArray) w := by
  obtain ⟨b', off', e, _, hc⟩ := h.spots (by rintro rfl; simp at hl)
  injection e with e
  injection e with e1 e2
  subst e1 e2
  have hlen : (bv (l.take 64)).length = 64 := by rw [bv_length]; simp; omega
  have q := run_loadCells_list (P := Tryz.prog) w ⟨b, off, none⟩ (bv (l.take 64)) (fun j v hv => by
    have ha : (⟨b, off, none⟩ : Addr).add j = ⟨b, off + j, none⟩ := by unfold Addr.add; split <;> simp_all
    rw [ha]
    simp only [bv, List.getElem?_map, Option.map_eq_some_iff, List.getElem?_take] at hv
    obtain ⟨c, hc', rfl⟩ := hv
    split at hc'
    · exact hc j c hc'
    · cases hc')
  rw [hlen] at q
  have ha : (isAgg 77).run Tryz.prog w = .ok true w := by kernel_rfl
  simp [loadVar, ha, q]
theorem arr_ptr (A : Option Addr) (n cap : Nat) (h : 64 ≤ n) (w : World) : (Instr.arrayAt 77 (.slice A n cap)).run Tryz.prog w = .ok (.pointer A) w := by
  have h' : ¬ n < 64 := by omega
  simp [Instr.arrayAt, run_underlying Tryz.underlying77, h']
/-- Behind the first 64. -/
theorem BytesAt.behind {w : World} {b off n cap : Nat} {l : List UInt8} (h : BytesAt w (.slice (some ⟨b, off, none⟩) n cap) l) (hl : 64 ≤ n) : BytesAt w (.slice (if cap = 64 then some ⟨b, off, none⟩ else some ⟨b, off + 64, none⟩) (n - 64) (cap - 64)) (l.drop 64) := by
  obtain ⟨hn, hcap⟩ := h.size
  obtain ⟨b', off', e, _, hc⟩ := h.spots (by rintro rfl; simp at hn; omega)
  injection e with e
  injection e with e1 e2
  subst e1 e2
  refine ⟨_, cap - 64, by rw [List.length_drop, ← hn], by rw [List.length_drop]; omega, fun hne => ?_⟩
  have hd : ¬ cap = 64 := by
    intro h64
    apply hne
    apply List.drop_eq_nil_of_le
    omega
  rw [if_neg hd]
  refine ⟨_, rfl, fun j c hj => ?_⟩
  have ha : (⟨b, off + 64, none⟩ : Addr).add j = ⟨b, off + (64 + j), none⟩ := by unfold Addr.add; split <;> simp_all [Nat.add_assoc]
  rw [ha]
  rw [List.getElem?_drop] at hj
  exact hc _ c hj
theorem blocks_next (s : List UInt32) (l : List UInt8) (k : Nat) : blocks s l (k + 1) = blockS (blocks s l k) ((l.drop (64 * k)).take 64) := rfl

set_option maxRecDepth 100000 in
set_option maxHeartbeats 1000000 in
theorem take_any (s : List UInt32) (hs : s.length = 8) (v : Value) (l : List UInt8) (m : Nat) (hm : l.length = 64 * m) (hm1 : m ≤ 100000) (w : World) (hv : BytesAt w v l) (T : Tab w) :
    Calls Tryz.prog 119 #[.agg (wv s), v] w fun e w' => e = .returned (.agg (wv (blocks s l m))) ∧ Below w.heap.size w w' := by
  have T0 := Lib.hid T
  have HV := Lib.hid hv
  have HS := Lib.hid hs
  have hpos := Lib.hid T.pos
  obtain ⟨A, cap, rfl, hcap, -⟩ := hv
  have HM := Lib.hid hm
  rw [hm] at HV hcap ⊢
  clear T hs hm
  go_enter Tryz.func119, Tryz.ntmps119
  go_wp2_with (refine wpList_box_row rfl 135 _ rfl _ rfl ?_)
  intro w1 b1 x1 z1
  go_wp2_with (refine wpList_alloc_row rfl 135 rfl _ zero23 ?_)
  intro w2 b2 x2 z2
  have X1 := Lib.hid (x1.below b2 (by omega))
  have X2 := Lib.hid x2
  have HB2 : Hid (Below w.heap.size w w2) := b1.trans (b2.mono (by omega))
  have T2 := Lib.hid (T0.out.below HB2.out hpos.out)
  clear b1 b2 x1 x2 z1 z2 T0
  go_wp2_with fail
  go_loopw [1] (fun b wr => ∃ (k n : Nat) (A : Option Addr) (cap : Nat), k ≤ m ∧ n = 64 * (m - k) ∧ n ≤ cap ∧ b = .slice A n cap ∧ BytesAt w b (l.drop (64 * k)) ∧ Whole wr w.heap.size 135 (wv (blocks s l k)) ∧ Whole wr (w.heap.size + 1) 135 (wv (zw 8)) ∧ Tab wr ∧ Below w.heap.size w wr) (fun b _ => match b with | .slice _ n _ => n | _ => 0)
  case atStart => exact ⟨0, _, _, _, Nat.zero_le _, by simp, hcap, rfl, HV.out, X1.out, X2.out, T2.out, HB2.out⟩
  case round =>
    obtain ⟨k, n, A, cap, hk, hn, hcap, rfl, hv, x1, x2, T, hb⟩ := hrel
    clear X1 X2 T2 HB2 HV
    have HV := Lib.hid hv
    have X1 := Lib.hid x1
    have X2 := Lib.hid x2
    have HT := Lib.hid T
    have HB := Lib.hid hb
    have HN := Lib.hid hn
    have H8 := Lib.hid (blocks_length s l k HS.out)
    clear hv x1 x2 T hb
    by_cases hlt : k < m
    · have h64 : 64 ≤ n := by omega
      have dt : decide ((64 : Int) ≤ (n : Int)) = true := by simp; omega
      obtain ⟨b, off, rfl, hbl, -⟩ := HV.out.spots (by intro e; have := HV.out.size.1; rw [e] at this; simp at this; omega)
      have sa := arr_ptr (some ⟨b, off, none⟩) n cap h64
      clear hn hlt
      go_wp2_with fail
      refine still_tail 4 (by kernel_rfl) (by kernel_rfl) fun w3 h3 b3 => ?_
      simp only [List.take_succ_cons, List.take_zero, List.drop_succ_cons, List.drop_zero]
      have Y1 := Lib.hid (X1.out.of_heap h3)
      have Y2 := Lib.hid (X2.out.of_heap h3)
      have T3 := Lib.hid (HT.out.of_heap h3)
      have HB3 := Lib.hid (HB.out.trans (b3.mono HB.out.size))
      have V3 := Lib.hid (HV.out.below HB3.out)
      have h64' : 64 ≤ (l.drop (64 * k)).length := by rw [← V3.out.size.1]; exact h64
      refine still_load rfl 135 _ rfl _ rfl _ (load_state Y1.out H8.out) ?_
      still_step
      still_step
      refine still_load rfl 77 _ rfl _ rfl _ (load_block V3.out h64') ?_
      refine wpStill_nil ?_
      have CB := Lib.hid (block_any (blocks s l k) H8.out ((l.drop (64 * k)).take 64) (by simp only [List.length_take]; omega) w3 T3.out)
      rw [← blocks_next] at CB
      have H8' := Lib.hid (blocks_length s l (k + 1) HS.out)
      have S8' : Hid ((Tryz.prog.info? 135).map (·.size) = some (wv (blocks s l (k + 1))).size) := by rw [wv_size, H8'.out]; exact size23
      have Z8' : Hid ((wv (blocks s l k)).size = (wv (blocks s l (k + 1))).size) := by rw [wv_size, wv_size, H8'.out, H8.out]; exact rfl
      clear X1 X2 HT HB b3 h3 h64' dt sa
      generalize hB : blocks s l (k + 1) = B1 at *
      have HBB := Lib.hid hB
      clear hB
      go_wp2_with fail
      refine CB.out.mono ?_
      rintro e w4 ⟨rfl, b4⟩
      have Y14 := Lib.hid (Y1.out.below b4 Y1.out.lt)
      have Y24 := Lib.hid (Y2.out.below b4 Y2.out.lt)
      have T4 := Lib.hid (T3.out.below b4 T3.out.pos)
      have HB4 := Lib.hid (HB3.out.trans (b4.mono HB3.out.size))
      clear b4 CB V3 Y1 Y2 T3 HB3
      go_wp2_with (with_reducible refine wpList_store_whole rfl 135 _ _ rfl w.heap.size (wv B1) ?hx ?hy _ _ Y14.out S8'.out Z8'.out (wv_one _) ?_)
      case hx => exact rfl
      case hy => exact rfl
      intro w5 g5 x5 z5
      refine wpList_nil ?_
      have X5 := Lib.hid x5
      have Y25 := Lib.hid (Y24.out.grown g5 (by simp))
      have HB5 := Lib.hid (HB4.out.grown g5 HB4.out.size (fun k hk => by injection hk; omega))
      have T5 : Hid (Tab w5) := fun k hk => by
        have := T4.out k hk
        rw [← this]
        exact World.cell?_of_block (g5.block 3 T4.out.pos (by have := hpos.out; simp; omega))
      have V5 := Lib.hid (HV.out.behind h64)
      rw [List.drop_drop] at V5
      clear x5 g5 z5 Y14 Y24 HB4 T4 HV S8' Z8'
      go_wp2_with fail
      have hn := HN.out
      have e : 64 * k + 64 = 64 * (k + 1) := by omega
      rw [e] at V5
      rw [← HBB.out] at X5
      refine ⟨⟨k + 1, _, _, _, by omega, by omega, by omega, rfl, V5.out, X5.out, Y25.out, T5.out, HB5.out⟩, ?_⟩
      show n - 64 < n
      omega
    · have hkm : k = m := by omega
      have dt : decide ((64 : Int) ≤ (n : Int)) = false := by simp; omega
      subst hkm
      have S8' : Hid ((Tryz.prog.info? 135).map (·.size) = some (wv (blocks s l k)).size) := by rw [wv_size, H8.out]; exact size23
      have Z8' : Hid ((wv (zw 8)).size = (wv (blocks s l k)).size) := by rw [wv_size (blocks s l k), H8.out]; exact rfl
      clear hn hlt hk
      go_upto_region 4 with fail
      refine wp_region_lit (wpList_load_row rfl 135 _ rfl _ rfl _ _ _ _ X1.out Tryz.underlying135 rfl S8'.out (wpList_store_whole rfl 135 _ _ rfl _ _ rfl rfl _ _ X2.out S8'.out Z8'.out (wv_one _) ?_))
      intro w6 g6 x6 z6
      refine wpList_nil ?_
      have X6 := Lib.hid x6
      have HB6 := Lib.hid (HB.out.grown g6 HB.out.size (fun k hk => by injection hk; omega))
      clear x6 g6 z6
      go_wp2_with fail
      refine bodyPost_ret (v := .agg (wv (blocks s l k))) ?_ rfl ⟨rfl, HB6.out⟩
      exact results_cell_row rfl _ _ _ _ _ _ _ rfl X6.out Tryz.underlying135 rfl S8'.out
end Go.Proofs.YtmnhpkdldeifgaaGreatDoor

namespace Go.Proofs.YtmnhpkdldeifgaaGreatDoor
set_option maxRecDepth 100000
open Go.RowKit

theorem run_append_zeros (w : World) (ty : TypeId) (k : Nat) (h0 : 0 < k) (hk : k ≤ 10000000) :
    ∃ cap w', (Builtin.append_ #[25, 3] ty #[.slice none 0 0, .int .i64 (k : Int)]).run Tryz.prog w = .ok (.slice (some ⟨w.heap.size, 0, none⟩) k cap) w' ∧ k ≤ cap ∧
      w'.ownsRow w.heap.size 5 1 (.slice (some ⟨w.heap.size, 0, none⟩) 0 cap) 0 [] ∧ Below w.heap.size w w' := by
  obtain ⟨i0, hi0, hz0, hz1, hz2⟩ := info_parts byte_info
  have q := Lib.run_append_grow_zeros (P := Tryz.prog) w 25 3 ty 5 i0 (.int .u8 0) .i64 .i64 Tryz.underlying25 Tryz.underlying3 hi0 hz0 none 0 0 []
    (by simp [Builtin.firstCells]) k h0 (by omega) (by omega) (by omega) (by rw [hz2]; omega) (by rw [hz2]; simp only [Builtin.nextslicecap]; split <;> omega)
  rw [Nat.zero_add] at q
  refine ⟨_, _, q, grownCap_ge _ _ _ _, World.ownsRow_made w.drew _ _ (Nat.le_refl _) (grownCap_le_maxLen _ _ _ _ (by simp only [maxLen]; omega)) ?_, (Below.refl _ _).drew.alloc (Nat.le_refl _) _⟩
  have := grownCap_ge w k 0 5
  simp [size_zeroCells, Value.cells]
  omega

theorem wpList_append_zeros {w : World} {ops : Array Oper} {rest : List Oper} {o : Oper} {a : Act} {Q : Exit → Act → World → Prop} (hgd : o.guard = none) (s x : Operand)
    (ho : o.op = .call { callee := .builtin .append, args := #[s, x], argTypes := #[25, 3] }) (k : Nat) (hs : a.eval s = .slice none 0 0) (hx : a.eval x = .int .i64 (k : Int)) (h0 : 0 < k) (hk : k ≤ 10000000)
    (h : ∀ cap w', k ≤ cap → w'.ownsRow w.heap.size 5 1 (.slice (some ⟨w.heap.size, 0, none⟩) 0 cap) 0 [] → Below w.heap.size w w' → wpList Tryz.prog ops Q rest (a.put o.dst (.slice (some ⟨w.heap.size, 0, none⟩) k cap)) w') : wpList Tryz.prog ops Q (o :: rest) a w := by
  refine wpList_plain hgd fun K hK => ?_
  obtain ⟨cap, w', hr, h1, h2, h3⟩ := run_append_zeros w o.type k h0 hk
  have q := hK _ _ (h cap w' h1 h2 h3)
  unfold Oper.wp execOp
  simp only [ho, resolve, invoke, builtin, Sem.run_bind, Sem.run_pure, Result.andThen_ok, List.map_toArray, List.map_cons, List.map_nil, hs, hx, hr]
  exact q

set_option maxHeartbeats 1000000 in
theorem grow_any (n : Nat) (hn : n ≤ 10000000) (w : World) :
    Calls Tryz.prog 34 #[.slice none 0 0, .int .i64 (n : Int)] w fun e w' => ∃ v, e = .returned v ∧ w'.ownsRow w.heap.size 5 1 v 0 [] ∧ Below w.heap.size w w' := by
  by_cases h0 : n = 0
  · subst h0
    go_enter Tryz.func34, Tryz.ntmps34
    go_wp2
    go_ret
    exact ⟨_, rfl, World.ownsRow_nil _ _ _ _, Below.refl _ _⟩
  · have hp : 0 < n := by omega
    have d0 : decide ((n : Int) < 0) = false := by simp
    have d1 : decide ((0 : Int) < (n : Int)) = true := by simp; omega
    go_enter Tryz.func34, Tryz.ntmps34
    go_wp2_with (with_reducible refine wpList_append_zeros rfl _ _ rfl n ?hs ?hx hp hn ?_)
    case hs => exact rfl
    case hx => exact rfl
    intro cap w1 hc ho hb
    have HO := Lib.hid ho
    have hcp : cap ≠ 0 := by omega
    clear ho
    go_wp2
    go_ret
    exact ⟨_, rfl, HO.out, hb⟩

end Go.Proofs.YtmnhpkdldeifgaaGreatDoor

namespace Go.Proofs.YtmnhpkdldeifgaaGreatDoor
set_option maxRecDepth 100000
open Go.RowKit

set_option maxHeartbeats 1000000 in
theorem concat_any (g : Nat) (v0 v1 : Value) (l0 l1 : List UInt8) (w : World) (c0 : w.cell? ⟨g, 0, none⟩ = some v0) (c1 : w.cell? ⟨g, 1, none⟩ = some v1) (h0 : BytesAt w v0 l0) (h1 : BytesAt w v1 l1) (hl0 : l0.length ≤ 1000000) (hl1 : l1.length ≤ 1000000) :
    Calls Tryz.prog 14 #[.slice (some ⟨g, 0, none⟩) 2 2] w fun e w' => ∃ v, e = .returned v ∧ BytesAt w' v (l0 ++ l1) ∧ Below w.heap.size w w' := by
  have H0 := Lib.hid h0
  have H1 := Lib.hid h1
  obtain ⟨A0, cap0, rfl, hc0, -⟩ := h0
  obtain ⟨A1, cap1, rfl, hc1, -⟩ := h1
  go_enter Tryz.func14, Tryz.ntmps14
  go_wp2_with fail
  go_loop [3, 11] (fun z i => (i = .int .i64 0 ∧ z = .int .i64 0) ∨ (i = .int .i64 1 ∧ z = .int .i64 (l0.length : Int)) ∨ (i = .int .i64 2 ∧ z = .int .i64 ((l0.length + l1.length : Nat) : Int))) (fun _ i => 2 - (intOf i).toNat)
  case atStart => exact Or.inl ⟨rfl, rfl⟩
  case round =>
    rcases hrel with ⟨rfl, rfl⟩ | ⟨rfl, rfl⟩ | ⟨rfl, rfl⟩
    · go_wp2
      exact ⟨Or.inr (Or.inl ⟨rfl, rfl⟩), by simp [intOf]⟩
    · go_wp2
      exact ⟨Or.inr (Or.inr ⟨rfl, by go_num⟩), by simp [intOf]⟩
    · have hgw : g < w.heap.size := World.block_lt_of_cell? w _ c0
      go_wp2_with fail
      have G := grow_any (l0.length + l1.length) (by omega) w
      rw [Int.natCast_add] at G
      refine G.mono ?_
      clear G
      rintro e w1 ⟨v, rfl, ho, hb⟩
      have HO := Lib.hid ho
      have HB := Lib.hid hb
      clear ho hb
      go_wp2_with fail
      go_loopw [6, 27] (fun v i wr => ((i = .int .i64 0 ∧ wr.ownsRow w.heap.size 5 1 v 0 []) ∨ (i = .int .i64 1 ∧ wr.ownsRow w.heap.size 5 1 v l0.length (bv l0)) ∨ (i = .int .i64 2 ∧ wr.ownsRow w.heap.size 5 1 v (l0.length + l1.length) (bv l0 ++ bv l1))) ∧ Below w.heap.size w wr) (fun _ i _ => 2 - (intOf i).toNat)
      case atStart => exact ⟨Or.inl ⟨rfl, HO.out⟩, HB.out⟩
      case round =>
        obtain ⟨hr, hb⟩ := hrel
        clear HO HB
        have HB := Lib.hid hb
        have k0 : wr.cell? ⟨g, 0, none⟩ = some (.slice A0 l0.length cap0) := (hb.cell (p := ⟨g, 0, none⟩) hgw).trans c0
        have k1 : wr.cell? ⟨g, 1, none⟩ = some (.slice A1 l1.length cap1) := (hb.cell (p := ⟨g, 1, none⟩) hgw).trans c1
        have K0 := Lib.hid (H0.out.below hb)
        have K1 := Lib.hid (H1.out.below hb)
        clear hb c0 c1
        rcases hr with ⟨rfl, ho⟩ | ⟨rfl, ho⟩ | ⟨rfl, ho⟩
        · have HO := Lib.hid ho
          clear ho
          go_wp2_with (with_reducible refine wpList_append_bytes rfl _ _ rfl w.heap.size _ _ _ ?hv HO.out _ _ ?hx K0.out ?hlen ?hbase ?_)
          case hv => exact rfl
          case hx => exact rfl
          case hlen => omega
          case hbase => exact HB.out.size
          intro v' w2 ho2 hg2
          have hlt := HO.out.lt
          have HO2 := Lib.hid ho2
          have HB2 := Lib.hid (HB.out.grown hg2 HB.out.size (fun k hk => (hlt k hk).1))
          clear ho2 hg2 hlt k0 k1
          go_wp2_with fail
          exact ⟨⟨Or.inr (Or.inl ⟨rfl, HO2.out⟩), HB2.out⟩, by simp [intOf]⟩
        · have HO := Lib.hid ho
          clear ho
          go_wp2_with (with_reducible refine wpList_append_bytes rfl _ _ rfl w.heap.size _ _ _ ?hv HO.out _ _ ?hx K1.out ?hlen ?hbase ?_)
          case hv => exact rfl
          case hx => exact rfl
          case hlen => omega
          case hbase => exact HB.out.size
          intro v' w2 ho2 hg2
          have hlt := HO.out.lt
          have HO2 := Lib.hid ho2
          have HB2 := Lib.hid (HB.out.grown hg2 HB.out.size (fun k hk => (hlt k hk).1))
          clear ho2 hg2 hlt k0 k1
          go_wp2_with fail
          exact ⟨⟨Or.inr (Or.inr ⟨rfl, HO2.out⟩), HB2.out⟩, by simp [intOf]⟩
        · have HY : Hid (BytesAt wr u6 (l0 ++ l1)) := BytesAt.of_own (base := w.heap.size) (by rw [List.length_append, bv_append]; exact ho)
          clear ho
          go_wp2
          go_ret
          exact ⟨_, rfl, HY.out, HB.out⟩
end Go.Proofs.YtmnhpkdldeifgaaGreatDoor

namespace Go.Proofs.YtmnhpkdldeifgaaGreatDoor
set_option maxRecDepth 100000
open Go.RowKit

/-- How far the eight bytes of the length have been written, the last first. -/
def padTo (n i : Nat) : List UInt8 := 128 :: (List.replicate (zerosFor n + (8 - i)) 0 ++ (be8 (n * 8)).drop (8 - i))
theorem padTo_length (n i : Nat) (hi : i ≤ 8) : (padTo n i).length = 9 + zerosFor n := by simp [padTo, be8_length]; omega
theorem padTo_zero (n : Nat) : padTo n 0 = 128 :: List.replicate (zerosFor n + 8) 0 := by simp [padTo, be8_length]
theorem padTo_all (n : Nat) : padTo n 8 = padL n := by simp [padTo, padL]
theorem be8_at (x i : Nat) (hi : i < 8) : (be8 x)[7 - i]? = some (UInt8.ofNat (x / 256 ^ i)) := by
  have h : 7 - i < 8 := by omega
  have e : 7 - (7 - i) = i := by omega
  simp [be8, List.getElem?_range h, e]
theorem padTo_set (n i : Nat) (hi : i < 8) : (padTo n i).set (8 + zerosFor n - i) (UInt8.ofNat (n * 8 / 256 ^ i)) = padTo n (i + 1) := by
  have e1 : 8 + zerosFor n - i = (zerosFor n + (7 - i)) + 1 := by omega
  have e2 : zerosFor n + (8 - i) = zerosFor n + (7 - i) + 1 := by omega
  have e3 : 8 - (i + 1) = 7 - i := by omega
  have e4 : 8 - i = 7 - i + 1 := by omega
  rw [padTo, padTo, e1, List.set_cons_succ, e2, List.replicate_succ', List.append_assoc, List.set_append_right _ _ (by simp), e3, drop_at (be8_at (n * 8) i hi), e4]
  simp
theorem bv_set (l : List UInt8) (i : Nat) (c : UInt8) : (bv l).set i (.int .u8 (c.toNat : Int)) = bv (l.set i c) := by simp [bv, List.map_set]

theorem made_zeros (n : Nat) : (madeCells #[Value.int .u8 0] n).toList = bv (List.replicate n 0) := by
  rw [toList_madeCells_one]
  simp [bv]
theorem len_byte (n k : Nat) (hk : k < 8) : IntKind.u64.wrap ((n : Int) * 8) / 2 ^ (8 * k) % 256 = ((UInt8.ofNat (n * 8 / 256 ^ k)).toNat : Int) := by
  have e : IntKind.u64.wrap ((n : Int) * 8) = ((n * 8 % 18446744073709551616 : Nat) : Int) := by
    simp [IntKind.wrap, IntKind.bits, IntKind.signed]
  rw [e]
  have h : k = 0 ∨ k = 1 ∨ k = 2 ∨ k = 3 ∨ k = 4 ∨ k = 5 ∨ k = 6 ∨ k = 7 := by omega
  rcases h with rfl | rfl | rfl | rfl | rfl | rfl | rfl | rfl <;> simp <;> omega
theorem pad_neg (n : Int) (hn : n < 0) (w : World) : Calls Tryz.prog 121 #[.int .i64 n] w fun e w' => e = .returned (.slice none 0 0) ∧ w = w' := by
  have d : decide (n < 0) = true := by simp; omega
  go_enter Tryz.func121, Tryz.ntmps121
  go_wp2
  go_ret
  exact ⟨rfl, rfl⟩

set_option maxHeartbeats 1000000 in
theorem pad_any (n : Nat) (hn : n < 9223372036854775808) (w : World) :
    Calls Tryz.prog 121 #[.int .i64 (n : Int)] w fun e w' => ∃ v, e = .returned v ∧ BytesAt w' v (padL n) ∧ Below w.heap.size w w' := by
  obtain ⟨i0, hi0, hz0, hz1, hz2⟩ := info_parts byte_info
  have d0 : decide ((n : Int) < 0) = false := by simp
  go_enter Tryz.func121, Tryz.ntmps121
  go_wp2_with (at_make; refine wpList_make_full _ rfl (.tmp 19) (.tmp 19) 25 rfl w.heap.size 5 i0 (.int .u8 0) 1 Tryz.underlying25 hi0 hz0 hz1 .i64 .i64 _ _ (9 + zerosFor n) rfl rfl ?c1 ?c2 ?c3 ?c4 ?c5 ?_)
  case c1 => rw [zerosFor]; omega
  case c2 => rw [zerosFor]; omega
  case c3 => rw [hz2, zerosFor]; omega
  case c4 => simp only [maxLen, zerosFor]; omega
  case c5 => exact Nat.le_refl _
  intro w1 ho1 hg1
  rw [made_zeros] at ho1
  have hb1 : Below w.heap.size w w1 := (Below.refl _ _).grown hg1 (Nat.le_refl _) (fun k hk => by cases hk)
  have HP0 : Hid ((bv (List.replicate (9 + zerosFor n) 0)).set 0 (.int .u8 128) = bv (padTo n 0)) := by
    have e : 9 + zerosFor n = (zerosFor n + 8) + 1 := by omega
    rw [padTo_zero, e, List.replicate_succ]
    exact rfl
  have HPL : Hid (∀ i, i ≤ 8 → (padTo n i).length = 9 + zerosFor n) := padTo_length n
  have HPS : Hid (∀ i, i < 8 → (padTo n i).set (8 + zerosFor n - i) (UInt8.ofNat (n * 8 / 256 ^ i)) = padTo n (i + 1)) := padTo_set n
  have HPA := Lib.hid (padTo_all n)
  have hz : zerosFor n < 64 := by rw [zerosFor]; omega
  generalize zerosFor n = z at *
  have HO1 := Lib.hid ho1
  have HB1 := Lib.hid hb1
  have c0 := ho1.cellAt 0 (by omega)
  have f0 := ho1.frozenAt 0
  have e0 : (bv (List.replicate (9 + z) 0))[0]? = some (.int .u8 0) := by
    have e : 9 + z = (8 + z) + 1 := by omega
    rw [e, List.replicate_succ]
    exact rfl
  rw [e0] at c0
  clear ho1 hg1 hb1 e0
  go_wp2_with fail
  go_loopw [26] (fun i wr => ∃ k : Nat, k ≤ 8 ∧ i = .int .i64 k ∧ wr.ownsRow w.heap.size 5 1 (.slice (some ⟨w.heap.size, 0, none⟩) (9 + z) (9 + z)) (9 + z) (bv (padTo n k)) ∧ Below w.heap.size w wr) (fun i _ => 8 - (intOf i).toNat)
  case atStart =>
    refine ⟨0, Nat.zero_le _, rfl, ?_, HB1.out.setCell (Nat.le_refl _) _⟩
    have q := HO1.out.stored 0 (.int .u8 128)
    rw [HP0.out] at q
    exact q.1
  case round =>
    obtain ⟨k, hk, rfl, ho, hbel⟩ := hrel
    clear HO1 HB1 c0 f0
    have HO := Lib.hid ho
    have HB := Lib.hid hbel
    by_cases hlt : k < 8
    · have c2 := ho.cellAt (8 + z - k) (by omega)
      have f2 := ho.frozenAt (8 + z - k)
      have hlen : 8 + z - k < (bv (padTo n k)).length := by rw [bv_length, HPL.out k hk]; omega
      rw [List.getElem?_eq_getElem hlen] at c2
      generalize (bv (padTo n k))[8 + z - k] = old at c2
      clear ho hbel hlen
      have d1 : decide ((k : Int) < 8) = true := by simp; omega
      go_wp2
      refine ⟨⟨k + 1, by omega, by go_num, ?_, HB.out.setCell (Nat.le_refl _) _⟩, by simp [intOf]; omega⟩
      have q := HO.out.stored (8 + z - k) (.int .u8 ((UInt8.ofNat (n * 8 / 256 ^ k)).toNat : Int))
      rw [bv_set, HPS.out k hlt] at q
      rw [len_byte n k hlt]
      exact q.1
    · have hk8 : k = 8 := by omega
      rw [hk8, HPA.out] at ho
      have HY : Hid (BytesAt wr (.slice (some ⟨w.heap.size, 0, none⟩) (9 + z) (9 + z)) (padL n)) := by
        apply BytesAt.of_own (base := w.heap.size)
        have e : (padL n).length = 9 + z := by rw [← HPA.out]; exact HPL.out 8 (Nat.le_refl _)
        rw [e]
        exact ho
      have d1 : decide ((k : Int) < 8) = false := by simp; omega
      clear ho hbel HO hlt hk8
      go_wp2
      go_ret
      exact ⟨_, rfl, HY.out, HB.out⟩
end Go.Proofs.YtmnhpkdldeifgaaGreatDoor
