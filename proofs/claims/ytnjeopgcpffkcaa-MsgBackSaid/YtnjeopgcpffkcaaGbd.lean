/- Package msg: put, field by field; Put. (Written by tools/mkmsput.py.) -/
import Derived.Test.YtnjeopgcpffkcaaGs
import Derived.Test.YtnjeopgcpffkcaaGba
namespace Go.Proofs.Ytnjeopgcpffkcaa
set_option maxRecDepth 100000
open Go.RowKit

/-- A field that its kind has not is nothing. -/
theorem right_key {m : Mg} (h : RightM m) : m.key.length ≤ 24 := by
  have hb := h.bare
  cases h5 : inK m.kind 5 with
  | true =>
    have := h.key h5
    simp only [keyB, Bool.and_eq_true, decide_eq_true_eq] at this
    omega
  | false =>
    have e := congrArg Mg.key hb
    simp only [bareM, h5] at e
    rw [e]
    simp

set_option maxHeartbeats 1000000 in
theorem put_0 (W : World) (m : Mg) (e t : Row) (hI : Lists W e t m) (hR : RightM m) (base : Nat) (hBW : W.heap.size ≤ base) (v : Value) (b : List UInt8) (hbl : b.length ≤ 20000)
    (w : World) (hW : Below W.heap.size W w) (hown : OwnB w base v b) (hb : base ≤ w.heap.size) :
    Calls Try.prog 28 #[v, (m.raw e t).val, .int .i64 0] w fun x w' => ∃ v', x = .returned v' ∧ OwnB w' base v' (b ++ putF m 0) ∧ Moves (VF v) (VF v') w w' := by
  have HI := Lib.hid hI
  have HR := Lib.hid hR
  have HK := Lib.hid (right_key hR)
  have HBW := Lib.hid hBW
  have HL := Lib.hid hbl
  have H0 := Lib.hid hown
  have HB0 := Lib.hid hb
  have BW0 := Lib.hid hW
  have r : IntKind.u64.wrap m.error = (uN m.error : Int) := uN_wrap m.error
  clear hI hR hBW hbl hown hb hW
  go_enter Try.func28, Try.ntmps28
  go_wp2_with (refine wpList_box_row rfl 27 _ rfl (m.raw e t).enc.toArray (by with_unfolding_all exact rfl) ?_)
  intro w1 b1 x1 z1
  obtain ⟨gM, hgM⟩ : ∃ g, g = w.heap.size := ⟨_, rfl⟩
  have M_M := Lib.hid (show w.heap.size ≤ gM from by rw [hgM]; exact Nat.le_refl _)
  have B1 := Lib.hid b1
  rw [← hgM] at x1 ⊢
  have M1 : Hid (Mr.At w1 gM (m.raw e t)) := Lib.hid x1
  clear b1 x1 z1 hgM 
  have HO := Lib.hid (H0.out.below B1.out)
  have HB := Lib.hid (Nat.le_trans HB0.out B1.out.size)
  have BW := Lib.hid (BW0.out.trans (B1.out.mono BW0.out.size))
  have c : w1.cell? ⟨gM, 3, none⟩ = some (.int .i64 m.error) := M1.out.at_ 3
  have C := Lib.hid (put_num_at base v b (uN m.error) 2 w1 (by decide) (by decide) HO.out HB.out (by have := HL.out; omega))
  go_wp2_with fail
  refine C.out.mono ?_
  rintro x u ⟨v1, rfl, o1, m1⟩
  have O1 : Hid (OwnB u base v1 (b ++ putF m 0)) := Lib.hid o1
  have MV := Lib.hid (m1.after B1.out)
  clear o1 m1 C c M1 B1
  go_wp2
  go_ret
  exact ⟨_, rfl, O1.out, MV.out⟩

set_option maxHeartbeats 1000000 in
theorem put_1 (W : World) (m : Mg) (e t : Row) (hI : Lists W e t m) (hR : RightM m) (base : Nat) (hBW : W.heap.size ≤ base) (v : Value) (b : List UInt8) (hbl : b.length ≤ 20000)
    (w : World) (hW : Below W.heap.size W w) (hown : OwnB w base v b) (hb : base ≤ w.heap.size) :
    Calls Try.prog 28 #[v, (m.raw e t).val, .int .i64 1] w fun x w' => ∃ v', x = .returned v' ∧ OwnB w' base v' (b ++ putF m 1) ∧ Moves (VF v) (VF v') w w' := by
  have HI := Lib.hid hI
  have HR := Lib.hid hR
  have HK := Lib.hid (right_key hR)
  have HBW := Lib.hid hBW
  have HL := Lib.hid hbl
  have H0 := Lib.hid hown
  have HB0 := Lib.hid hb
  have BW0 := Lib.hid hW
  
  clear hI hR hBW hbl hown hb hW
  go_enter Try.func28, Try.ntmps28
  go_wp2_with (refine wpList_box_row rfl 27 _ rfl (m.raw e t).enc.toArray (by with_unfolding_all exact rfl) ?_)
  intro w1 b1 x1 z1
  obtain ⟨gM, hgM⟩ : ∃ g, g = w.heap.size := ⟨_, rfl⟩
  have M_M := Lib.hid (show w.heap.size ≤ gM from by rw [hgM]; exact Nat.le_refl _)
  have B1 := Lib.hid b1
  rw [← hgM] at x1 ⊢
  have M1 : Hid (Mr.At w1 gM (m.raw e t)) := Lib.hid x1
  clear b1 x1 z1 hgM 
  have HO := Lib.hid (H0.out.below B1.out)
  have HB := Lib.hid (Nat.le_trans HB0.out B1.out.size)
  have BW := Lib.hid (BW0.out.trans (B1.out.mono BW0.out.size))
  have c : w1.cell? ⟨gM, 5, none⟩ = some (.bool m.has) := M1.out.at_ 5
  have C := Lib.hid (putFlag_any base v b m.has w1 HO.out HB.out (by have := HL.out; omega))
  go_wp2_with fail
  refine C.out.mono ?_
  rintro x u ⟨v1, rfl, o1, m1⟩
  have O1 : Hid (OwnB u base v1 (b ++ putF m 1)) := Lib.hid o1
  have MV := Lib.hid (m1.after B1.out)
  clear o1 m1 C c M1 B1
  go_wp2
  go_ret
  exact ⟨_, rfl, O1.out, MV.out⟩

set_option maxHeartbeats 1000000 in
theorem put_2 (W : World) (m : Mg) (e t : Row) (hI : Lists W e t m) (hR : RightM m) (base : Nat) (hBW : W.heap.size ≤ base) (v : Value) (b : List UInt8) (hbl : b.length ≤ 20000)
    (w : World) (hW : Below W.heap.size W w) (hown : OwnB w base v b) (hb : base ≤ w.heap.size) :
    Calls Try.prog 28 #[v, (m.raw e t).val, .int .i64 2] w fun x w' => ∃ v', x = .returned v' ∧ OwnB w' base v' (b ++ putF m 2) ∧ Moves (VF v) (VF v') w w' := by
  have HI := Lib.hid hI
  have HR := Lib.hid hR
  have HK := Lib.hid (right_key hR)
  have HBW := Lib.hid hBW
  have HL := Lib.hid hbl
  have H0 := Lib.hid hown
  have HB0 := Lib.hid hb
  have BW0 := Lib.hid hW
  
  clear hI hR hBW hbl hown hb hW
  go_enter Try.func28, Try.ntmps28
  go_wp2_with (refine wpList_box_row rfl 27 _ rfl (m.raw e t).enc.toArray (by with_unfolding_all exact rfl) ?_)
  intro w1 b1 x1 z1
  obtain ⟨gM, hgM⟩ : ∃ g, g = w.heap.size := ⟨_, rfl⟩
  have M_M := Lib.hid (show w.heap.size ≤ gM from by rw [hgM]; exact Nat.le_refl _)
  have B1 := Lib.hid b1
  rw [← hgM] at x1 ⊢
  have M1 : Hid (Mr.At w1 gM (m.raw e t)) := Lib.hid x1
  clear b1 x1 z1 hgM 
  have HO := Lib.hid (H0.out.below B1.out)
  have HB := Lib.hid (Nat.le_trans HB0.out B1.out.size)
  have BW := Lib.hid (BW0.out.trans (B1.out.mono BW0.out.size))
  have c : w1.cell? ⟨gM, 6, none⟩ = some (.bool m.gone) := M1.out.at_ 6
  have C := Lib.hid (putFlag_any base v b m.gone w1 HO.out HB.out (by have := HL.out; omega))
  go_wp2_with fail
  refine C.out.mono ?_
  rintro x u ⟨v1, rfl, o1, m1⟩
  have O1 : Hid (OwnB u base v1 (b ++ putF m 2)) := Lib.hid o1
  have MV := Lib.hid (m1.after B1.out)
  clear o1 m1 C c M1 B1
  go_wp2
  go_ret
  exact ⟨_, rfl, O1.out, MV.out⟩

set_option maxHeartbeats 1000000 in
theorem put_3 (W : World) (m : Mg) (e t : Row) (hI : Lists W e t m) (hR : RightM m) (base : Nat) (hBW : W.heap.size ≤ base) (v : Value) (b : List UInt8) (hbl : b.length ≤ 20000)
    (w : World) (hW : Below W.heap.size W w) (hown : OwnB w base v b) (hb : base ≤ w.heap.size) :
    Calls Try.prog 28 #[v, (m.raw e t).val, .int .i64 3] w fun x w' => ∃ v', x = .returned v' ∧ OwnB w' base v' (b ++ putF m 3) ∧ Moves (VF v) (VF v') w w' := by
  have HI := Lib.hid hI
  have HR := Lib.hid hR
  have HK := Lib.hid (right_key hR)
  have HBW := Lib.hid hBW
  have HL := Lib.hid hbl
  have H0 := Lib.hid hown
  have HB0 := Lib.hid hb
  have BW0 := Lib.hid hW
  
  clear hI hR hBW hbl hown hb hW
  go_enter Try.func28, Try.ntmps28
  go_wp2_with (refine wpList_box_row rfl 27 _ rfl (m.raw e t).enc.toArray (by with_unfolding_all exact rfl) ?_)
  intro w1 b1 x1 z1
  obtain ⟨gM, hgM⟩ : ∃ g, g = w.heap.size := ⟨_, rfl⟩
  have M_M := Lib.hid (show w.heap.size ≤ gM from by rw [hgM]; exact Nat.le_refl _)
  have B1 := Lib.hid b1
  rw [← hgM] at x1 ⊢
  have M1 : Hid (Mr.At w1 gM (m.raw e t)) := Lib.hid x1
  clear b1 x1 z1 hgM 
  have HO := Lib.hid (H0.out.below B1.out)
  have HB := Lib.hid (Nat.le_trans HB0.out B1.out.size)
  have BW := Lib.hid (BW0.out.trans (B1.out.mono BW0.out.size))
  have c : w1.cell? ⟨gM, 4, none⟩ = some (.int .u64 (m.id : Int)) := M1.out.at_ 4
  have C := Lib.hid (put_num_at base v b m.id 8 w1 (by decide) (by decide) HO.out HB.out (by have := HL.out; omega))
  go_wp2_with fail
  refine C.out.mono ?_
  rintro x u ⟨v1, rfl, o1, m1⟩
  have O1 : Hid (OwnB u base v1 (b ++ putF m 3)) := Lib.hid o1
  have MV := Lib.hid (m1.after B1.out)
  clear o1 m1 C c M1 B1
  go_wp2
  go_ret
  exact ⟨_, rfl, O1.out, MV.out⟩

set_option maxHeartbeats 1000000 in
theorem put_4 (W : World) (m : Mg) (e t : Row) (hI : Lists W e t m) (hR : RightM m) (base : Nat) (hBW : W.heap.size ≤ base) (v : Value) (b : List UInt8) (hbl : b.length ≤ 20000)
    (w : World) (hW : Below W.heap.size W w) (hown : OwnB w base v b) (hb : base ≤ w.heap.size) :
    Calls Try.prog 28 #[v, (m.raw e t).val, .int .i64 4] w fun x w' => ∃ v', x = .returned v' ∧ OwnB w' base v' (b ++ putF m 4) ∧ Moves (VF v) (VF v') w w' := by
  have HI := Lib.hid hI
  have HR := Lib.hid hR
  have HK := Lib.hid (right_key hR)
  have HBW := Lib.hid hBW
  have HL := Lib.hid hbl
  have H0 := Lib.hid hown
  have HB0 := Lib.hid hb
  have BW0 := Lib.hid hW
  have r : IntKind.u64.wrap m.ver = (uN m.ver : Int) := uN_wrap m.ver
  clear hI hR hBW hbl hown hb hW
  go_enter Try.func28, Try.ntmps28
  go_wp2_with (refine wpList_box_row rfl 27 _ rfl (m.raw e t).enc.toArray (by with_unfolding_all exact rfl) ?_)
  intro w1 b1 x1 z1
  obtain ⟨gM, hgM⟩ : ∃ g, g = w.heap.size := ⟨_, rfl⟩
  have M_M := Lib.hid (show w.heap.size ≤ gM from by rw [hgM]; exact Nat.le_refl _)
  have B1 := Lib.hid b1
  rw [← hgM] at x1 ⊢
  have M1 : Hid (Mr.At w1 gM (m.raw e t)) := Lib.hid x1
  clear b1 x1 z1 hgM 
  have HO := Lib.hid (H0.out.below B1.out)
  have HB := Lib.hid (Nat.le_trans HB0.out B1.out.size)
  have BW := Lib.hid (BW0.out.trans (B1.out.mono BW0.out.size))
  have c : w1.cell? ⟨gM, 2, none⟩ = some (.int .i64 m.ver) := M1.out.at_ 2
  have C := Lib.hid (put_num_at base v b (uN m.ver) 4 w1 (by decide) (by decide) HO.out HB.out (by have := HL.out; omega))
  go_wp2_with fail
  refine C.out.mono ?_
  rintro x u ⟨v1, rfl, o1, m1⟩
  have O1 : Hid (OwnB u base v1 (b ++ putF m 4)) := Lib.hid o1
  have MV := Lib.hid (m1.after B1.out)
  clear o1 m1 C c M1 B1
  go_wp2
  go_ret
  exact ⟨_, rfl, O1.out, MV.out⟩

set_option maxHeartbeats 1000000 in
theorem put_5 (W : World) (m : Mg) (e t : Row) (hI : Lists W e t m) (hR : RightM m) (base : Nat) (hBW : W.heap.size ≤ base) (v : Value) (b : List UInt8) (hbl : b.length ≤ 20000)
    (w : World) (hW : Below W.heap.size W w) (hown : OwnB w base v b) (hb : base ≤ w.heap.size) :
    Calls Try.prog 28 #[v, (m.raw e t).val, .int .i64 5] w fun x w' => ∃ v', x = .returned v' ∧ OwnB w' base v' (b ++ putF m 5) ∧ Moves (VF v) (VF v') w w' := by
  have HI := Lib.hid hI
  have HR := Lib.hid hR
  have HK := Lib.hid (right_key hR)
  have HBW := Lib.hid hBW
  have HL := Lib.hid hbl
  have H0 := Lib.hid hown
  have HB0 := Lib.hid hb
  have BW0 := Lib.hid hW
  
  clear hI hR hBW hbl hown hb hW
  go_enter Try.func28, Try.ntmps28
  go_wp2_with (refine wpList_box_row rfl 27 _ rfl (m.raw e t).enc.toArray (by with_unfolding_all exact rfl) ?_)
  intro w1 b1 x1 z1
  obtain ⟨gM, hgM⟩ : ∃ g, g = w.heap.size := ⟨_, rfl⟩
  have M_M := Lib.hid (show w.heap.size ≤ gM from by rw [hgM]; exact Nat.le_refl _)
  have B1 := Lib.hid b1
  rw [← hgM] at x1 ⊢
  have M1 : Hid (Mr.At w1 gM (m.raw e t)) := Lib.hid x1
  clear b1 x1 z1 hgM 
  have HO := Lib.hid (H0.out.below B1.out)
  have HB := Lib.hid (Nat.le_trans HB0.out B1.out.size)
  have BW := Lib.hid (BW0.out.trans (B1.out.mono BW0.out.size))
  have c : w1.cell? ⟨gM, 7, none⟩ = some (.string ⟨m.key.toArray⟩) := M1.out.at_ 7
  have C := Lib.hid (put_text_at base v b m.key w1 (by have := HK.out; omega) HO.out HB.out (by have := HL.out; omega))
  go_wp2_with fail
  refine C.out.mono ?_
  rintro x u ⟨v1, rfl, o1, m1⟩
  have O1 : Hid (OwnB u base v1 (b ++ putF m 5)) := Lib.hid o1
  have MV := Lib.hid (m1.after B1.out)
  clear o1 m1 C c M1 B1
  go_wp2
  go_ret
  exact ⟨_, rfl, O1.out, MV.out⟩

set_option maxHeartbeats 1000000 in
theorem put_6 (W : World) (m : Mg) (e t : Row) (hI : Lists W e t m) (hR : RightM m) (base : Nat) (hBW : W.heap.size ≤ base) (v : Value) (b : List UInt8) (hbl : b.length ≤ 20000)
    (w : World) (hW : Below W.heap.size W w) (hown : OwnB w base v b) (hb : base ≤ w.heap.size) :
    Calls Try.prog 28 #[v, (m.raw e t).val, .int .i64 6] w fun x w' => ∃ v', x = .returned v' ∧ OwnB w' base v' (b ++ putF m 6) ∧ Moves (VF v) (VF v') w w' := by
  have HI := Lib.hid hI
  have HR := Lib.hid hR
  have HK := Lib.hid (right_key hR)
  have HBW := Lib.hid hBW
  have HL := Lib.hid hbl
  have H0 := Lib.hid hown
  have HB0 := Lib.hid hb
  have BW0 := Lib.hid hW
  
  clear hI hR hBW hbl hown hb hW
  go_enter Try.func28, Try.ntmps28
  go_wp2_with (refine wpList_box_row rfl 27 _ rfl (m.raw e t).enc.toArray (by with_unfolding_all exact rfl) ?_)
  intro w1 b1 x1 z1
  obtain ⟨gM, hgM⟩ : ∃ g, g = w.heap.size := ⟨_, rfl⟩
  have M_M := Lib.hid (show w.heap.size ≤ gM from by rw [hgM]; exact Nat.le_refl _)
  have B1 := Lib.hid b1
  rw [← hgM] at x1 ⊢
  have M1 : Hid (Mr.At w1 gM (m.raw e t)) := Lib.hid x1
  clear b1 x1 z1 hgM 
  have HO := Lib.hid (H0.out.below B1.out)
  have HB := Lib.hid (Nat.le_trans HB0.out B1.out.size)
  have BW := Lib.hid (BW0.out.trans (B1.out.mono BW0.out.size))
  have c : w1.cell? ⟨gM, 8, none⟩ = some (.string ⟨m.val.toArray⟩) := M1.out.at_ 8
  have C := Lib.hid (put_text_at base v b m.val w1 (by have := HR.out.val; omega) HO.out HB.out (by have := HL.out; omega))
  go_wp2_with fail
  refine C.out.mono ?_
  rintro x u ⟨v1, rfl, o1, m1⟩
  have O1 : Hid (OwnB u base v1 (b ++ putF m 6)) := Lib.hid o1
  have MV := Lib.hid (m1.after B1.out)
  clear o1 m1 C c M1 B1
  go_wp2
  go_ret
  exact ⟨_, rfl, O1.out, MV.out⟩

set_option maxHeartbeats 1000000 in
theorem put_7 (W : World) (m : Mg) (e t : Row) (hI : Lists W e t m) (hR : RightM m) (base : Nat) (hBW : W.heap.size ≤ base) (v : Value) (b : List UInt8) (hbl : b.length ≤ 20000)
    (w : World) (hW : Below W.heap.size W w) (hown : OwnB w base v b) (hb : base ≤ w.heap.size) :
    Calls Try.prog 28 #[v, (m.raw e t).val, .int .i64 7] w fun x w' => ∃ v', x = .returned v' ∧ OwnB w' base v' (b ++ putF m 7) ∧ Moves (VF v) (VF v') w w' := by
  have HI := Lib.hid hI
  have HR := Lib.hid hR
  have HK := Lib.hid (right_key hR)
  have HBW := Lib.hid hBW
  have HL := Lib.hid hbl
  have H0 := Lib.hid hown
  have HB0 := Lib.hid hb
  have BW0 := Lib.hid hW
  
  clear hI hR hBW hbl hown hb hW
  go_enter Try.func28, Try.ntmps28
  go_wp2_with (refine wpList_box_row rfl 27 _ rfl (m.raw e t).enc.toArray (by with_unfolding_all exact rfl) ?_)
  intro w1 b1 x1 z1
  obtain ⟨gM, hgM⟩ : ∃ g, g = w.heap.size := ⟨_, rfl⟩
  have M_M := Lib.hid (show w.heap.size ≤ gM from by rw [hgM]; exact Nat.le_refl _)
  have B1 := Lib.hid b1
  rw [← hgM] at x1 ⊢
  have M1 : Hid (Mr.At w1 gM (m.raw e t)) := Lib.hid x1
  clear b1 x1 z1 hgM 
  have HO := Lib.hid (H0.out.below B1.out)
  have HB := Lib.hid (Nat.le_trans HB0.out B1.out.size)
  have BW := Lib.hid (BW0.out.trans (B1.out.mono BW0.out.size))
  have c : w1.cell? ⟨gM, 9, none⟩ = some (.slice e.a e.n e.c) := M1.out.at_ 9
  have C := Lib.hid (putEntries_any W e m.es HI.out.es HR.out.many HR.out.es base HBW.out v b (by have := HL.out; omega) w1 BW.out HO.out HB.out)
  go_wp2_with fail
  refine C.out.mono ?_
  rintro x u ⟨v1, rfl, o1, m1⟩
  have O1 : Hid (OwnB u base v1 (b ++ putF m 7)) := Lib.hid o1
  have MV := Lib.hid (m1.after B1.out)
  clear o1 m1 C c M1 B1
  go_wp2
  go_ret
  exact ⟨_, rfl, O1.out, MV.out⟩

set_option maxHeartbeats 1000000 in
theorem put_8 (W : World) (m : Mg) (e t : Row) (hI : Lists W e t m) (hR : RightM m) (base : Nat) (hBW : W.heap.size ≤ base) (v : Value) (b : List UInt8) (hbl : b.length ≤ 20000)
    (w : World) (hW : Below W.heap.size W w) (hown : OwnB w base v b) (hb : base ≤ w.heap.size) :
    Calls Try.prog 28 #[v, (m.raw e t).val, .int .i64 8] w fun x w' => ∃ v', x = .returned v' ∧ OwnB w' base v' (b ++ putF m 8) ∧ Moves (VF v) (VF v') w w' := by
  have HI := Lib.hid hI
  have HR := Lib.hid hR
  have HK := Lib.hid (right_key hR)
  have HBW := Lib.hid hBW
  have HL := Lib.hid hbl
  have H0 := Lib.hid hown
  have HB0 := Lib.hid hb
  have BW0 := Lib.hid hW
  
  clear hI hR hBW hbl hown hb hW
  go_enter Try.func28, Try.ntmps28
  go_wp2_with (refine wpList_box_row rfl 27 _ rfl (m.raw e t).enc.toArray (by with_unfolding_all exact rfl) ?_)
  intro w1 b1 x1 z1
  obtain ⟨gM, hgM⟩ : ∃ g, g = w.heap.size := ⟨_, rfl⟩
  have M_M := Lib.hid (show w.heap.size ≤ gM from by rw [hgM]; exact Nat.le_refl _)
  have B1 := Lib.hid b1
  rw [← hgM] at x1 ⊢
  have M1 : Hid (Mr.At w1 gM (m.raw e t)) := Lib.hid x1
  clear b1 x1 z1 hgM 
  have HO := Lib.hid (H0.out.below B1.out)
  have HB := Lib.hid (Nat.le_trans HB0.out B1.out.size)
  have BW := Lib.hid (BW0.out.trans (B1.out.mono BW0.out.size))
  have c : w1.cell? ⟨gM, 10, none⟩ = some (.slice t.a t.n t.c) := M1.out.at_ 10
  have C := Lib.hid (putItems_any W t m.its HI.out.its HR.out.items HR.out.its base HBW.out v b (by have := HL.out; omega) w1 BW.out HO.out HB.out)
  go_wp2_with fail
  refine C.out.mono ?_
  rintro x u ⟨v1, rfl, o1, m1⟩
  have O1 : Hid (OwnB u base v1 (b ++ putF m 8)) := Lib.hid o1
  have MV := Lib.hid (m1.after B1.out)
  clear o1 m1 C c M1 B1
  go_wp2
  go_ret
  exact ⟨_, rfl, O1.out, MV.out⟩

theorem put_any (f : Nat) (hf : f < 9) (W : World) (m : Mg) (e t : Row) (hI : Lists W e t m) (hR : RightM m) (base : Nat) (hBW : W.heap.size ≤ base) (v : Value) (b : List UInt8) (hbl : b.length ≤ 20000)
    (w : World) (hW : Below W.heap.size W w) (hown : OwnB w base v b) (hb : base ≤ w.heap.size) :
    Calls Try.prog 28 #[v, (m.raw e t).val, .int .i64 (f : Int)] w fun x w' => ∃ v', x = .returned v' ∧ OwnB w' base v' (b ++ putF m f) ∧ Moves (VF v) (VF v') w w' :=
  match f, hf with
  | 0, _ => put_0 W m e t hI hR base hBW v b hbl w hW hown hb
  | 1, _ => put_1 W m e t hI hR base hBW v b hbl w hW hown hb
  | 2, _ => put_2 W m e t hI hR base hBW v b hbl w hW hown hb
  | 3, _ => put_3 W m e t hI hR base hBW v b hbl w hW hown hb
  | 4, _ => put_4 W m e t hI hR base hBW v b hbl w hW hown hb
  | 5, _ => put_5 W m e t hI hR base hBW v b hbl w hW hown hb
  | 6, _ => put_6 W m e t hI hR base hBW v b hbl w hW hown hb
  | 7, _ => put_7 W m e t hI hR base hBW v b hbl w hW hown hb
  | 8, _ => put_8 W m e t hI hR base hBW v b hbl w hW hown hb
  | n + 9, h => absurd h (by omega)

end Go.Proofs.Ytnjeopgcpffkcaa
