/- What the document's Id answers. -/
import Derived.Test.YtgldelgeaajgpaaDoorDgG
import Derived.Test.YtgldelgeaajgpaaDoorDgV
namespace Go.Proofs.YtgldelgeaajgpaaDoor
open Go.RowKit

theorem word4_nat (a b c d : UInt8) : (word4 [a, b, c, d]).toNat = a.toNat * 16777216 + b.toNat * 65536 + c.toNat * 256 + d.toNat := by
  have ha := a.toNat_lt
  have hb := b.toNat_lt
  have hc := c.toNat_lt
  have hd := d.toNat_lt
  rw [← num_word]
  simp
  omega
theorem byte_step8 (x : UInt64) (hx : x.toNat < 72057594037927936) (c : UInt8) : (x <<< 8 ||| c.toUInt64).toNat = x.toNat * 256 + c.toNat := by
  have hc := c.toNat_lt
  have e : (x <<< 8).toNat = x.toNat <<< 8 := by
    simp only [UInt64.toNat_shiftLeft, UInt64.reduceToNat, Nat.reduceMod]
    rw [Nat.mod_eq_of_lt]
    rw [Nat.shiftLeft_eq]
    omega
  rw [UInt64.toNat_or, e, UInt8.toNat_toUInt64, ← Nat.shiftLeft_add_eq_or_of_lt (by omega), Nat.shiftLeft_eq]
theorem id_word (a b c d e f g h : UInt8) : (word4 [a, b, c, d]).toUInt64 * 4294967296 + (word4 [e, f, g, h]).toUInt64 = word8 [a, b, c, d, e, f, g, h] := by
  have ha := a.toNat_lt
  have hb := b.toNat_lt
  have hc := c.toNat_lt
  have hd := d.toNat_lt
  have he := e.toNat_lt
  have hf := f.toNat_lt
  have hg := g.toNat_lt
  have hh := h.toNat_lt
  apply UInt64.toNat_inj.1
  have t0 := byte_step8 ((0 : UInt64)) (by decide) a
  have t1 := byte_step8 (((0 : UInt64)) <<< 8 ||| a.toUInt64) (by rw [t0]; simp; omega) b
  have t2 := byte_step8 ((((0 : UInt64)) <<< 8 ||| a.toUInt64) <<< 8 ||| b.toUInt64) (by rw [t1, t0]; simp; omega) c
  have t3 := byte_step8 (((((0 : UInt64)) <<< 8 ||| a.toUInt64) <<< 8 ||| b.toUInt64) <<< 8 ||| c.toUInt64) (by rw [t2, t1, t0]; simp; omega) d
  have t4 := byte_step8 ((((((0 : UInt64)) <<< 8 ||| a.toUInt64) <<< 8 ||| b.toUInt64) <<< 8 ||| c.toUInt64) <<< 8 ||| d.toUInt64) (by rw [t3, t2, t1, t0]; simp; omega) e
  have t5 := byte_step8 (((((((0 : UInt64)) <<< 8 ||| a.toUInt64) <<< 8 ||| b.toUInt64) <<< 8 ||| c.toUInt64) <<< 8 ||| d.toUInt64) <<< 8 ||| e.toUInt64) (by rw [t4, t3, t2, t1, t0]; simp; omega) f
  have t6 := byte_step8 ((((((((0 : UInt64)) <<< 8 ||| a.toUInt64) <<< 8 ||| b.toUInt64) <<< 8 ||| c.toUInt64) <<< 8 ||| d.toUInt64) <<< 8 ||| e.toUInt64) <<< 8 ||| f.toUInt64) (by rw [t5, t4, t3, t2, t1, t0]; simp; omega) g
  have t7 := byte_step8 (((((((((0 : UInt64)) <<< 8 ||| a.toUInt64) <<< 8 ||| b.toUInt64) <<< 8 ||| c.toUInt64) <<< 8 ||| d.toUInt64) <<< 8 ||| e.toUInt64) <<< 8 ||| f.toUInt64) <<< 8 ||| g.toUInt64) (by rw [t6, t5, t4, t3, t2, t1, t0]; simp; omega) h
  have ee : word8 [a, b, c, d, e, f, g, h] = (((((((((0 : UInt64)) <<< 8 ||| a.toUInt64) <<< 8 ||| b.toUInt64) <<< 8 ||| c.toUInt64) <<< 8 ||| d.toUInt64) <<< 8 ||| e.toUInt64) <<< 8 ||| f.toUInt64) <<< 8 ||| g.toUInt64) <<< 8 ||| h.toUInt64 := rfl
  rw [ee, t7, t6, t5, t4, t3, t2, t1, t0]
  simp [word4_nat]
  omega

theorem wd_u64 (x : UInt32) (w : World) : (convert 50 24 (wd x)).run Tryd.prog w = .ok (qd x.toUInt64) w := by
  have h := x.toNat_lt
  simp only [wd]
  go_simp
  simp only [qd]
  rw [IntWalk.u64_in _ (by omega)]
  simp
theorem qd_add (t : TypeId) (x y : UInt64) (w : World) : (binOp .add t (qd x) (qd y)).run Tryd.prog w = .ok (qd (x + y)) w := by
  have : binOp .add t (qd x) (qd y) = pure (qd (x + y)) := by
    simp only [qd, binOp, Op.intArith]
    simp [IntKind.wrap, IntKind.bits, IntKind.signed]
  rw [this]
  rfl
theorem qd_mul32 (t : TypeId) (x : UInt64) (w : World) : (binOp .mul t (qd x) (.int .u64 4294967296)).run Tryd.prog w = .ok (qd (x * 4294967296)) w := by
  have : binOp .mul t (qd x) (.int .u64 4294967296) = pure (qd (x * 4294967296)) := by
    simp only [qd, binOp, Op.intArith]
    simp [IntKind.wrap, IntKind.bits, IntKind.signed]
  rw [this]
  rfl

set_option maxRecDepth 100000 in
set_option maxHeartbeats 1000000 in
theorem refId_any (v : Value) (l : List UInt8) (hl : l.length ≤ 5000) (w : World) (h : BytesAt w v l) :
    Calls Tryd.prog 30 #[v] w fun e w' => e = .returned (qd (idL l)) ∧ Below w.heap.size w w' := by
  have C := Lib.hid (refSum_any v l hl w h)
  have HL := Lib.hid (sumL_length l)
  have HI : Hid (idL l = word8 ((sumL l).take 8)) := Lib.hid rfl
  generalize sumL l = R at *
  generalize idL l = I at *
  obtain ⟨c0, c1, c2, c3, c4, c5, c6, c7, h8⟩ := list8 (R.take 8) (by rw [List.length_take, HL.out]; rfl)
  have hat : ∀ j x, [c0, c1, c2, c3, c4, c5, c6, c7][j]? = some x → R[j]? = some x := fun j x hj => by
    rw [← h8, List.getElem?_take] at hj
    split at hj
    · exact hj
    · cases hj
  have HAT := Lib.hid hat
  rw [h8, ← id_word] at HI
  have HI' := Lib.hid HI.out
  clear h hat h8
  go_enter Tryd.func30, Tryd.ntmps30
  go_wp2_with fail
  refine C.out.mono ?_
  rintro e w1 ⟨v1, rfl, y1, b1⟩
  have B1 := Lib.hid b1
  have Y1 := Lib.hid y1
  obtain ⟨A1, cap1, rfl, hc1, -⟩ := y1
  rw [HL.out] at hc1 Y1 ⊢
  have hc8 : 8 ≤ cap1 := by omega
  have hc4 : 4 ≤ cap1 := by omega
  have hc8i : (8 : Int) ≤ (cap1 : Int) := by omega
  have hc4i : (4 : Int) ≤ (cap1 : Int) := by omega
  have hn0 : cap1 ≠ 0 := by omega
  have hn4 : cap1 ≠ 4 := by omega
  obtain ⟨b, off, rfl, hb, hcell⟩ := Y1.out.spots (by rintro rfl; have := HL.out; simp at this)
  have K0 := Lib.hid (hcell 0 c0 (HAT.out 0 c0 rfl))
  have K1 := Lib.hid (hcell 1 c1 (HAT.out 1 c1 rfl))
  have K2 := Lib.hid (hcell 2 c2 (HAT.out 2 c2 rfl))
  have K3 := Lib.hid (hcell 3 c3 (HAT.out 3 c3 rfl))
  have K4 := Lib.hid (hcell 4 c4 (HAT.out 4 c4 rfl))
  have K5 := Lib.hid (hcell 5 c5 (HAT.out 5 c5 rfl))
  have K6 := Lib.hid (hcell 6 c6 (HAT.out 6 c6 rfl))
  have K7 := Lib.hid (hcell 7 c7 (HAT.out 7 c7 rfl))
  clear b1 hcell hc1
  go_wp2_with fail
  refine reg_begin (by kernel_rfl) fun w2 hb2 hz2 => ?_
  have B2 : Hid (Below w.heap.size w w2) := B1.out.trans (hb2.mono B1.out.size)
  have L0 := Lib.hid ((hb2.cell (p := ⟨b, off + 0, none⟩) hb).trans K0.out)
  have L1 := Lib.hid ((hb2.cell (p := ⟨b, off + 1, none⟩) hb).trans K1.out)
  have L2 := Lib.hid ((hb2.cell (p := ⟨b, off + 2, none⟩) hb).trans K2.out)
  have L3 := Lib.hid ((hb2.cell (p := ⟨b, off + 3, none⟩) hb).trans K3.out)
  have L4 := Lib.hid ((hb2.cell (p := ⟨b, off + 4, none⟩) hb).trans K4.out)
  have L5 := Lib.hid ((hb2.cell (p := ⟨b, off + 5, none⟩) hb).trans K5.out)
  have L6 := Lib.hid ((hb2.cell (p := ⟨b, off + 6, none⟩) hb).trans K6.out)
  have L7 := Lib.hid ((hb2.cell (p := ⟨b, off + 7, none⟩) hb).trans K7.out)
  have hbw2 : b < w2.heap.size := by omega
  have q1 := qd_add
  have q2 := qd_mul32
  have q3 := wd_u64
  clear hb2 hz2
  refine reg_take (i := 0) (v := ?_) rfl (by kernel_rfl) (by kernel_rfl) (by kernel_rfl) (fun _ _ _ h => h) (by rfl) ?hy0 ?_
  case hy0 => intro w' hw'; go_simp; (try with_reducible rfl)
  simp only [Act.put, List.setIfInBounds_toArray, List.set_cons_zero, List.set_cons_succ]
  refine reg_take (i := 1) (v := ?_) rfl (by kernel_rfl) (by kernel_rfl) (by kernel_rfl) (fun _ _ _ h => h) (by rfl) ?hy1 ?_
  case hy1 => intro w' hw'; go_simp; (try with_reducible rfl)
  simp only [Act.put, List.setIfInBounds_toArray, List.set_cons_zero, List.set_cons_succ]
  refine reg_take (i := 5) (v := ?_) rfl (by kernel_rfl) (by kernel_rfl) (by kernel_rfl) (fun _ _ _ h => h) (by rfl) ?hy5 ?_
  case hy5 => intro w' hw'; go_simp; (try with_reducible rfl)
  simp only [Act.put, List.setIfInBounds_toArray, List.set_cons_zero, List.set_cons_succ]
  refine reg_take (i := 6) (v := ?_) rfl (by kernel_rfl) (by kernel_rfl) (by kernel_rfl) (fun _ _ _ h => h) (by rfl) ?hy6 ?_
  case hy6 => intro w' hw'; go_simp; (try with_reducible rfl)
  simp only [Act.put, List.setIfInBounds_toArray, List.set_cons_zero, List.set_cons_succ]
  refine reg_call (i := 2) rfl (by kernel_rfl) (fun K' hK => ?_)
  go_simp
  refine (number_any b off _ c0 c1 c2 c3 w2 L0.out L1.out L2.out L3.out).mono ?_
  rintro e w3 ⟨rfl, h3, b3⟩
  have B3 : Hid (Below w.heap.size w w3) := B2.out.trans (b3.mono B2.out.size)
  have M4 := Lib.hid ((b3.cell (p := ⟨b, off + 4, none⟩) hbw2).trans L4.out)
  have M5 := Lib.hid ((b3.cell (p := ⟨b, off + 5, none⟩) hbw2).trans L5.out)
  have M6 := Lib.hid ((b3.cell (p := ⟨b, off + 6, none⟩) hbw2).trans L6.out)
  have M7 := Lib.hid ((b3.cell (p := ⟨b, off + 7, none⟩) hbw2).trans L7.out)
  refine hK.out _ _ b3 ?_
  clear hK K' h3 b3
  refine reg_take (i := 3) (v := ?_) rfl (by kernel_rfl) (by kernel_rfl) (by kernel_rfl) (fun _ _ _ h => h) (by rfl) ?hy3 ?_
  case hy3 => intro w' hw'; go_simp; (try with_reducible rfl)
  simp only [Act.put, List.setIfInBounds_toArray, List.set_cons_zero, List.set_cons_succ]
  refine reg_take (i := 4) (v := ?_) rfl (by kernel_rfl) (by kernel_rfl) (by kernel_rfl) (fun _ _ _ h => h) (by rfl) ?hy4 ?_
  case hy4 => intro w' hw'; go_simp; (try with_reducible rfl)
  simp only [Act.put, List.setIfInBounds_toArray, List.set_cons_zero, List.set_cons_succ]
  refine reg_call (i := 7) rfl (by kernel_rfl) (fun K' hK => ?_)
  go_simp
  refine (number_any b (off + 4) _ c4 c5 c6 c7 w3 M4.out M5.out M6.out M7.out).mono ?_
  rintro e w4 ⟨rfl, h4, b4⟩
  have B4 : Hid (Below w.heap.size w w4) := B3.out.trans (b4.mono B3.out.size)
  refine hK.out _ _ b4 ?_
  clear hK K' h4 b4
  refine reg_take (i := 8) (v := ?_) rfl (by kernel_rfl) (by kernel_rfl) (by kernel_rfl) (fun _ _ _ h => h) (by rfl) ?hy8 ?_
  case hy8 => intro w' hw'; go_simp; (try with_reducible rfl)
  simp only [Act.put, List.setIfInBounds_toArray, List.set_cons_zero, List.set_cons_succ]
  refine reg_take (i := 9) (v := ?_) rfl (by kernel_rfl) (by kernel_rfl) (by kernel_rfl) (fun _ _ _ h => h) (by rfl) ?hy9 ?_
  case hy9 => intro w' hw'; go_simp; (try with_reducible rfl)
  simp only [Act.put, List.setIfInBounds_toArray, List.set_cons_zero, List.set_cons_succ]
  refine reg_take (i := 10) (v := ?_) rfl (by kernel_rfl) (by kernel_rfl) (by kernel_rfl) (fun _ _ _ h => h) (by rfl) ?hy10 ?_
  case hy10 => intro w' hw'; go_simp; (try with_reducible rfl)
  simp only [Act.put, List.setIfInBounds_toArray, List.set_cons_zero, List.set_cons_succ]
  refine reg_end (by kernel_rfl) ?_
  clear q1 q2 q3
  go_wp2
  go_ret
  exact ⟨by rw [HI.out]; rfl, B4.out⟩
end Go.Proofs.YtgldelgeaajgpaaDoor
