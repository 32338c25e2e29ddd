/- What package cipher's lay and begin answer: the 16 words as they are at first. -/
import Derived.Test.YtmnhpkdldeifgaaDoorGw
import Derived.Test.YtmnhpkdldeifgaaDoorGb
import Derived.Deep.DeepCutAuto
import Derived.Deep.LoopGhost
import Derived.ChangeAlike
namespace Go.Proofs.YtmnhpkdldeifgaaDoor
set_option maxRecDepth 100000
open Go.RowKit

theorem zero_w16 : (Tryd.prog.info? 76).map (·.zero) = some (some (.agg (wv (List.replicate 16 0)))) := by kernel_rfl
theorem size_w16 : (Tryd.prog.info? 76).map (·.size) = some 16 := by kernel_rfl
theorem size_of16 (l : List UInt32) (hl : l.length = 16) : (Tryd.prog.info? 76).map (·.size) = some (wv l).size := by rw [wv_size, hl]; exact size_w16
theorem same16 (l l' : List UInt32) (hl : l.length = 16) (hl' : l'.length = 16) : (wv l).size = (wv l').size := by rw [wv_size, wv_size, hl, hl']

set_option maxRecDepth 100000 in
set_option maxHeartbeats 2000000 in
theorem lay_any (l : List UInt32) (hl : l.length = 16) (p : Nat) (A : Option Addr) (n cap : Nat) (b : List UInt8) (w : World) (h : BytesAt w (.slice A n cap) b) (hp : 4 * p + n ≤ 64) :
    Calls Tryd.prog 60 #[.agg (wv l), .int .i64 (p : Int), .slice A n cap] w fun e w' => e = .returned (.agg (wv (layTo l p b n))) ∧ Below w.heap.size w w' := by
  have HZ := Lib.hid h.size
  have H := Lib.hid h
  have HL := Lib.hid hl
  clear h hl
  go_enter Tryd.func60, Tryd.ntmps60
  go_wp2_with (refine wpList_box_row rfl 76 _ rfl _ rfl ?_)
  intro w1 b1 x1 z1
  go_wp2_with (refine wpList_alloc_row rfl 76 rfl _ zero_w16 ?_)
  intro w2 b2 x2 z2
  have X1 : Hid (Whole w2 w.heap.size 76 (wv (layTo l p b 0))) := x1.below b2 (by omega)
  have HB : Hid (Below w.heap.size w w2) := b1.trans (b2.mono (by omega))
  have X2 : Hid (Whole w2 (w.heap.size + 1) 76 (wv (List.replicate 16 0))) := by
    exact x2
  clear b1 b2 x1 x2 z1 z2
  go_wp2_with fail
  go_loopw [10] (fun i wr => ∃ k : Nat, k ≤ n ∧ i = .int .i64 k ∧ Whole wr w.heap.size 76 (wv (layTo l p b k)) ∧ Whole wr (w.heap.size + 1) 76 (wv (List.replicate 16 0)) ∧ Below w.heap.size w wr) (fun i _ => n - (intOf i).toNat)
  case atStart => exact ⟨0, Nat.zero_le _, rfl, X1.out, X2.out, HB.out⟩
  case round =>
    obtain ⟨k, hk, rfl, x1, x2, hb⟩ := hrel
    have Y1 := Lib.hid x1
    have Y2 := Lib.hid x2
    have HBr := Lib.hid hb
    clear x1 x2 hb X1 X2 HB
    have LT : Hid ((layTo l p b k).length = 16) := by rw [Hid, layTo_length]; exact HL.out
    by_cases hlt : k < n
    · obtain ⟨g, off, rfl, hg, hcell⟩ := H.out.spots (by intro e; have := HZ.out.1; rw [e] at this; simp at this; omega)
      have hx : b[k]? = some (b.getD k 0) := by simp [List.getD, List.getElem?_eq_getElem (show k < b.length by have := HZ.out.1; omega)]
      have c0 := (HBr.out.cell (p := ⟨g, off + k, none⟩) hg).trans (hcell k _ hx)
      obtain ⟨q, hq⟩ : ∃ q, q = k / 4 := ⟨_, rfl⟩
      obtain ⟨r, hr⟩ : ∃ r, r = k % 4 := ⟨_, rfl⟩
      obtain ⟨m, hm⟩ : ∃ m, m = p + q := ⟨_, rfl⟩
      obtain ⟨s, hs⟩ : ∃ s, s = 8 * r := ⟨_, rfl⟩
      have hm16 : m < 16 := by omega
      have hx1 : (layTo l p b k)[m]? = some ((layTo l p b k).getD m 0) := by simp [List.getD, List.getElem?_eq_getElem (show m < (layTo l p b k).length by rw [LT.out]; exact hm16)]
      have c1 := (Y1.out.at_ m).trans (wv_at _ _ _ hx1)
      have HS : Hid ((layTo l p b k).set m ((layTo l p b k).getD m 0 ||| (b.getD k 0).toUInt32 <<< UInt32.ofNat s) = layTo l p b (k + 1)) := by
        rw [hs, hr, hm, hq]
        exact Lib.hid rfl
      obtain ⟨-, -, -, r4, -⟩ := rules_w
      have sh := run_shl_i s (by omega)
      have bw : ∀ c : UInt8, Value.int .u32 (IntKind.u32.wrap (c.toNat : Int)) = wd c.toUInt32 := fun c => by
        have := c.toNat_lt
        rw [IntWalk.u32_in _ (by omega)]
        exact byte_wd c
      have tq : IntKind.i64.wrap ((k : Int) / 4) = (q : Int) := by rw [IntWalk.i64_in _ (by omega)]; omega
      have tr : (k : Int).tmod 4 = (r : Int) := by rw [Int.tmod_eq_emod_of_nonneg (by omega)]; omega
      have tm : IntKind.i64.wrap ((p : Int) + (q : Int)) = (m : Int) := by rw [IntWalk.i64_in _ (by omega)]; omega
      have ts : IntKind.i64.wrap (8 * (r : Int)) = (s : Int) := by rw [IntWalk.i64_in _ (by omega)]; omega
      have jm : (m : Int) < 16 := by omega
      have jk : (k : Int) < (n : Int) := by omega
      have HQ := Lib.hid (And.intro hq (And.intro hr (And.intro hm (And.intro hs hm16))))
      clear hq hr hm hs hm16
      have C0 := Lib.hid c0
      have C1 := Lib.hid c1
      generalize (layTo l p b k).getD m 0 = x at *
      generalize b.getD k 0 = c at *
      generalize layTo l p b k = L at *
      clear hx hx1 hcell c0 c1
      go_wp2_with fail
      refine still_tail 17 (by kernel_rfl) (by kernel_rfl) fun w4 h4 b4 => ?_
      simp only [List.take_succ_cons, List.take_zero, List.drop_succ_cons, List.drop_zero]
      have c0 := (World.cell?_of_block (a := ⟨g, off + k, none⟩) (by rw [h4])).trans C0.out
      have c1 := (World.cell?_of_block (a := ⟨w.heap.size, m, none⟩) (by rw [h4])).trans C1.out
      repeat still_step
      refine wpStill_nil ?_
      have WX := Lib.hid (Y1.out.of_heap h4)
      have W2 := Lib.hid (Y2.out.of_heap h4)
      refine wpList_put_w rfl _ _ rfl _ _ rfl _ rfl _ _ WX.out (by rw [LT.out]; exact HQ.out.2.2.2.2) ?_
      intro w5 g5 x5 z5
      rw [HS.out] at x5
      have X5 := Lib.hid x5
      have W5 := Lib.hid (W2.out.grown g5 (by simp))
      have HB4 := HBr.out.trans (b4.mono HBr.out.size)
      have HB5 := Lib.hid (HB4.grown g5 HB4.size (fun k hk => by injection hk; omega))
      clear c0 c1 h4 b4 HB4 x5 g5 z5 WX W2 C0 C1 HBr Y1 Y2 tq tr tm ts jm sh bw r4
      refine wpList_nil ?_
      go_wp2_with fail
      exact ⟨⟨k + 1, by omega, by go_num, X5.out, W5.out, HB5.out⟩, by simp [intOf]; omega⟩
    · obtain rfl : k = n := by omega
      have S16 := Lib.hid (size_of16 _ LT.out)
      have Z16 := Lib.hid (same16 (List.replicate 16 0) _ rfl LT.out)
      obtain ⟨L, hL⟩ : ∃ L, L = layTo l p b k := ⟨_, rfl⟩
      rw [← hL] at Y1 LT S16 Z16
      have HE := Lib.hid hL
      clear hL
      go_upto_region 6 with fail
      refine wp_region_lit (wpList_load_row rfl 76 _ rfl _ rfl _ _ _ _ Y1.out Tryd.underlying76 rfl S16.out (wpList_store_whole rfl 76 _ _ rfl _ _ rfl rfl _ _ Y2.out S16.out Z16.out (wv_one _) ?_))
      intro w6 g6 x6 z6
      refine wpList_nil ?_
      have X6 := Lib.hid x6
      have HB6 := Lib.hid (HBr.out.grown g6 HBr.out.size (fun k hk => by injection hk; omega))
      clear x6 g6 z6
      go_wp2_with fail
      refine bodyPost_ret (v := .agg (wv L)) ?_ rfl ⟨by rw [HE.out], HB6.out⟩
      exact results_cell_row rfl _ _ _ _ _ _ _ rfl X6.out Tryd.underlying76 rfl S16.out

theorem build_w16 (c : UInt32) (w : World) : (Instr.build 76 #[(0, .int .u32 1634760805), (1, .int .u32 857760878), (2, .int .u32 2036477234), (3, .int .u32 1797285236), (12, wd c)]).run Tryd.prog w = .ok (.agg (wv (words0 c))) w :=
  run_build w _ _ _ (by kernel_rfl)
theorem wpList_build_w16 {ops : Array Oper} {rest : List Oper} {o : Oper} {a : Act} {w : World} {Q : Exit → Act → World → Prop} (hgd : o.guard = none) (p : Operand)
    (ho : o.op = .build 76 #[(0, .const (.int .u32 1634760805)), (1, .const (.int .u32 857760878)), (2, .const (.int .u32 2036477234)), (3, .const (.int .u32 1797285236)), (12, p)]) (c : UInt32) (hp : a.eval p = wd c)
    (h : wpList Tryd.prog ops Q rest (a.put o.dst (.agg (wv (words0 c)))) w) : wpList Tryd.prog ops Q (o :: rest) a w := by
  refine wpList_plain hgd fun K hK => ?_
  have q := hK _ _ h
  have e : ∀ v : Value, a.eval (.const v) = v := fun _ => rfl
  unfold Oper.wp execOp
  simp only [ho, List.map_toArray, List.map_cons, List.map_nil, hp, e, build_w16, Sem.run_bind, Sem.run_pure, Result.andThen_ok, Oper.upon]
  exact q

set_option maxRecDepth 100000 in
set_option maxHeartbeats 2000000 in
theorem begin_any (A0 A1 : Option Addr) (cap0 cap1 : Nat) (key nonce : List UInt8) (c : UInt32) (w : World) (h0 : BytesAt w (.slice A0 32 cap0) key) (h1 : BytesAt w (.slice A1 12 cap1) nonce) :
    Calls Tryd.prog 45 #[.slice A0 32 cap0, .slice A1 12 cap1, wd c] w fun e w' => e = .returned (.agg (wv (words16C key nonce c))) ∧ Below w.heap.size w w' := by
  have H0 := Lib.hid h0
  have H1 := Lib.hid h1
  have HE := Lib.hid (laid_words key nonce c)
  have L1 : Hid ((layTo (words0 c) 4 key 32).length = 16) := by rw [Hid, layTo_length]; exact rfl
  have L2 : Hid ((words16C key nonce c).length = 16) := Lib.hid (words16C_length key nonce c)
  have S16 := Lib.hid (size_of16 _ L2.out)
  have Z16 := Lib.hid (same16 (List.replicate 16 0) _ rfl L2.out)
  clear h0 h1
  go_enter Tryd.func45, Tryd.ntmps45
  go_wp2_with (refine wpList_alloc_row rfl 76 rfl _ zero_w16 ?_)
  intro w1 b1 x1 z1
  have X1 := Lib.hid x1
  have B1 := Lib.hid b1
  have Z1 := Lib.hid z1
  clear x1 b1 z1
  go_wp2_with (first | refine wpList_build_w16 rfl _ rfl c rfl ?_ | refine wpList_alloc_row rfl 76 rfl _ zero_w16 ?_)
  intro w2 b2 x2 z2
  have X2 := Lib.hid x2
  have Y1 := Lib.hid (X1.out.below b2 (by have := Z1.out; omega))
  have B2 := Lib.hid (B1.out.trans (b2.mono (by have := Z1.out; omega)))
  have Z2 : Hid (w2.heap.size = w.heap.size + 2) := by have := Z1.out; exact Lib.hid (by omega)
  have Z1' := Z1
  clear x2 b2 z2 B1 X1
  go_wp2_with (refine wpList_store_whole rfl 76 _ _ rfl _ _ rfl rfl _ _ X2.out (size_of16 _ rfl) (same16 _ _ rfl rfl) (wv_one _) ?_)
  intro w3 g3 x3 z3
  have X3 := Lib.hid x3
  have Y3 := Lib.hid (Y1.out.grown g3 (by have := Z1.out; simp; omega))
  have B3 := Lib.hid (B2.out.grown g3 B2.out.size (fun k hk => by have := Z1.out; injection hk; omega))
  have Z3 : Hid (w3.heap.size = w.heap.size + 2) := by have := Z2.out; exact Lib.hid (by omega)
  clear x3 g3 z3 B2 X2 Y1 Z2
  go_wp2_with (refine wpList_load_row rfl 76 _ rfl _ rfl _ _ _ _ X3.out Tryd.underlying76 rfl (size_of16 _ rfl) ?_)
  refine (lay_any (words0 c) rfl 4 A0 32 cap0 key w3 (H0.out.keep fun _ g hg _ => B3.out.block g hg) (by decide)).mono ?_
  rintro e w4 ⟨rfl, b4⟩
  have Y4 := Lib.hid (Y3.out.below b4 (by have := Z3.out; omega))
  have B4 := Lib.hid (B3.out.trans (b4.mono B3.out.size))
  clear b4 B3 Y3 X3 Z3
  go_wp2_with fail
  refine (lay_any (layTo (words0 c) 4 key 32) L1.out 13 A1 12 cap1 nonce w4 (H1.out.keep fun _ g hg _ => B4.out.block g hg) (by decide)).mono ?_
  rintro e w5 ⟨rfl, b5⟩
  have Y5 := Lib.hid (Y4.out.below b5 (Y4.out.lt))
  have B5 := Lib.hid (B4.out.trans (b5.mono B4.out.size))
  clear b5 B4 Y4
  rw [HE.out]
  go_wp2_with (refine wpList_store_whole rfl 76 _ _ rfl _ _ rfl rfl _ _ Y5.out S16.out Z16.out (wv_one _) ?_)
  intro w6 g6 x6 z6
  have X6 := Lib.hid x6
  have HB6 := Lib.hid (B5.out.grown g6 B5.out.size (fun k hk => by injection hk; omega))
  clear x6 g6 z6
  go_wp2_with fail
  refine bodyPost_ret (v := .agg (wv (words16C key nonce c))) ?_ rfl ⟨rfl, HB6.out⟩
  exact results_cell_row rfl _ _ _ _ _ _ _ rfl X6.out Tryd.underlying76 rfl S16.out
end Go.Proofs.YtmnhpkdldeifgaaDoor
