/- What package cipher's turn answers: all eight Quarters. -/
import Derived.Test.YtmnhpkdldeifgaaGreatDoorGbd
namespace Go.Proofs.YtmnhpkdldeifgaaGreatDoor
set_option maxRecDepth 100000
open Go.RowKit

theorem qAt_of (l : List UInt32) (p q r s : Nat) (xp xq xr xs ya yb yc yd : UInt32) (hp : l[p]? = some xp) (hq : l[q]? = some xq) (hr : l[r]? = some xr) (hs : l[s]? = some xs) (e : quarter xp xq xr xs = (ya, yb, yc, yd)) :
    (((l.set p ya).set q yb).set r yc).set s yd = qAt l (p, q, r, s) := by
  simp only [qAt, List.getD, hp, hq, hr, hs, Option.getD_some, e]
theorem at16 (l : List UInt32) (hl : l.length = 16) (i : Nat) (hi : i < 16) : ∃ x, l[i]? = some x := ⟨_, List.getElem?_eq_getElem (by rw [hl]; exact hi)⟩

set_option maxRecDepth 100000 in
set_option maxHeartbeats 4000000 in
theorem turn_any (l : List UInt32) (hl : l.length = 16) (w : World) :
    Calls Tryz.prog 74 #[.agg (wv l)] w fun e w' => e = .returned (.agg (wv (dround l))) ∧ Below w.heap.size w w' := by
  have L0 := Lib.hid hl
  have S16 := Lib.hid (size_of16 (dround l) (by rw [dround_length]; exact hl))
  have Z16 := Lib.hid (same16 (List.replicate 16 0) (dround l) rfl (by rw [dround_length]; exact hl))
  have HE : Hid (qAt (qAt (qAt (qAt (qAt (qAt (qAt (qAt l (0, 4, 8, 12)) (1, 5, 9, 13)) (2, 6, 10, 14)) (3, 7, 11, 15)) (0, 5, 10, 15)) (1, 6, 11, 12)) (2, 7, 8, 13)) (3, 4, 9, 14) = dround l) := by simp only [Hid, dround, qPlaces, List.foldl_cons, List.foldl_nil]
  clear hl
  go_enter Tryz.func74, Tryz.ntmps74
  go_wp2_with (refine wpList_box_row rfl 75 _ rfl _ rfl ?_)
  intro w1 b1 x1 z1
  go_wp2_with (refine wpList_alloc_row rfl 75 rfl _ zero_w16 ?_)
  intro w2 b2 x2 z2
  have X0 : Hid (Whole w2 w.heap.size 75 (wv l)) := x1.below b2 (by omega)
  have B0 : Hid (Below w.heap.size w w2) := b1.trans (b2.mono (by omega))
  have Y0 : Hid (Whole w2 (w.heap.size + 1) 75 (wv (List.replicate 16 0))) := x2
  clear b1 b2 x1 x2 z1 z2
  obtain ⟨D, hD⟩ : ∃ D, D = dround l := ⟨_, rfl⟩
  rw [← hD] at S16 Z16 HE
  have HD := Lib.hid hD
  clear hD
  obtain ⟨xp, ep⟩ := at16 l L0.out 0 (by decide)
  obtain ⟨xq, eq⟩ := at16 l L0.out 4 (by decide)
  obtain ⟨xr, er⟩ := at16 l L0.out 8 (by decide)
  obtain ⟨xs, es⟩ := at16 l L0.out 12 (by decide)
  have c0 := (X0.out.at_ 0).trans (wv_at _ _ _ ep)
  have c1 := (X0.out.at_ 4).trans (wv_at _ _ _ eq)
  have c2 := (X0.out.at_ 8).trans (wv_at _ _ _ er)
  have c3 := (X0.out.at_ 12).trans (wv_at _ _ _ es)
  have QA := Lib.hid (quarter_any xp xq xr xs w2)
  have HQ := Lib.hid (fun ya yb yc yd e => qAt_of l 0 4 8 12 xp xq xr xs ya yb yc yd ep eq er es e)
  obtain ⟨qq, hqq⟩ : ∃ qq, qq = quarter xp xq xr xs := ⟨_, rfl⟩
  rw [← hqq] at QA
  obtain ⟨ya, yb, yc, yd⟩ := qq
  have HL := Lib.hid (HQ.out ya yb yc yd hqq.symm)
  have L1 : Hid ((qAt l (0, 4, 8, 12)).length = 16) := by rw [Hid, qAt_length]; exact L0.out
  clear ep eq er es HQ hqq
  go_wp2_with fail
  refine QA.out.mono ?_
  rintro e u0 ⟨rfl, b⟩
  have XA := Lib.hid (X0.out.below b X0.out.lt)
  have YA := Lib.hid (Y0.out.below b Y0.out.lt)
  have BA := Lib.hid (B0.out.trans (b.mono B0.out.size))
  clear b QA X0 Y0 B0 c0 c1 c2 c3
  go_wp2_with (with_reducible refine wpList_put_w rfl _ _ rfl _ 0 ?hx ya ?hy _ _ XA.out ?hi ?_)
  case hx => exact rfl
  case hy => exact rfl
  case hi => rw [L0.out]; decide
  intro u1 g1 x1 z1
  have XB := Lib.hid x1
  have YB := Lib.hid (YA.out.grown g1 (by simp))
  have BB := Lib.hid (BA.out.grown g1 BA.out.size (fun k hk => by injection hk; omega))
  clear x1 g1 z1 XA YA BA
  go_wp2_with (with_reducible refine wpList_put_w rfl _ _ rfl _ 4 ?hx yb ?hy _ _ XB.out ?hi ?_)
  case hx => exact rfl
  case hy => exact rfl
  case hi => rw [List.length_set, L0.out]; decide
  intro u2 g2 x2 z2
  have XC := Lib.hid x2
  have YC := Lib.hid (YB.out.grown g2 (by simp))
  have BC := Lib.hid (BB.out.grown g2 BB.out.size (fun k hk => by injection hk; omega))
  clear x2 g2 z2 XB YB BB
  go_wp2_with (with_reducible refine wpList_put_w rfl _ _ rfl _ 8 ?hx yc ?hy _ _ XC.out ?hi ?_)
  case hx => exact rfl
  case hy => exact rfl
  case hi => rw [List.length_set, List.length_set, L0.out]; decide
  intro u3 g3 x3 z3
  have XD := Lib.hid x3
  have YD := Lib.hid (YC.out.grown g3 (by simp))
  have BD := Lib.hid (BC.out.grown g3 BC.out.size (fun k hk => by injection hk; omega))
  clear x3 g3 z3 XC YC BC
  go_wp2_with (with_reducible refine wpList_put_w rfl _ _ rfl _ 12 ?hx yd ?hy _ _ XD.out ?hi ?_)
  case hx => exact rfl
  case hy => exact rfl
  case hi => rw [List.length_set, List.length_set, List.length_set, L0.out]; decide
  intro v1 g4 x4 z4
  rw [HL.out] at x4
  have X1 := Lib.hid x4
  have Y1 := Lib.hid (YD.out.grown g4 (by simp))
  have B1 := Lib.hid (BD.out.grown g4 BD.out.size (fun k hk => by injection hk; omega))
  clear x4 g4 z4 XD YD BD HL L0
  generalize qAt l (0, 4, 8, 12) = l1 at *
  obtain ⟨xp, ep⟩ := at16 l1 L1.out 1 (by decide)
  obtain ⟨xq, eq⟩ := at16 l1 L1.out 5 (by decide)
  obtain ⟨xr, er⟩ := at16 l1 L1.out 9 (by decide)
  obtain ⟨xs, es⟩ := at16 l1 L1.out 13 (by decide)
  have c0 := (X1.out.at_ 1).trans (wv_at _ _ _ ep)
  have c1 := (X1.out.at_ 5).trans (wv_at _ _ _ eq)
  have c2 := (X1.out.at_ 9).trans (wv_at _ _ _ er)
  have c3 := (X1.out.at_ 13).trans (wv_at _ _ _ es)
  have QA := Lib.hid (quarter_any xp xq xr xs v1)
  have HQ := Lib.hid (fun ya yb yc yd e => qAt_of l1 1 5 9 13 xp xq xr xs ya yb yc yd ep eq er es e)
  obtain ⟨qq, hqq⟩ : ∃ qq, qq = quarter xp xq xr xs := ⟨_, rfl⟩
  rw [← hqq] at QA
  obtain ⟨ya, yb, yc, yd⟩ := qq
  have HL := Lib.hid (HQ.out ya yb yc yd hqq.symm)
  have L2 : Hid ((qAt l1 (1, 5, 9, 13)).length = 16) := by rw [Hid, qAt_length]; exact L1.out
  clear ep eq er es HQ hqq
  go_wp2_with fail
  refine QA.out.mono ?_
  rintro e u0 ⟨rfl, b⟩
  have XA := Lib.hid (X1.out.below b X1.out.lt)
  have YA := Lib.hid (Y1.out.below b Y1.out.lt)
  have BA := Lib.hid (B1.out.trans (b.mono B1.out.size))
  clear b QA X1 Y1 B1 c0 c1 c2 c3
  go_wp2_with (with_reducible refine wpList_put_w rfl _ _ rfl _ 1 ?hx ya ?hy _ _ XA.out ?hi ?_)
  case hx => exact rfl
  case hy => exact rfl
  case hi => rw [L1.out]; decide
  intro u1 g1 x1 z1
  have XB := Lib.hid x1
  have YB := Lib.hid (YA.out.grown g1 (by simp))
  have BB := Lib.hid (BA.out.grown g1 BA.out.size (fun k hk => by injection hk; omega))
  clear x1 g1 z1 XA YA BA
  go_wp2_with (with_reducible refine wpList_put_w rfl _ _ rfl _ 5 ?hx yb ?hy _ _ XB.out ?hi ?_)
  case hx => exact rfl
  case hy => exact rfl
  case hi => rw [List.length_set, L1.out]; decide
  intro u2 g2 x2 z2
  have XC := Lib.hid x2
  have YC := Lib.hid (YB.out.grown g2 (by simp))
  have BC := Lib.hid (BB.out.grown g2 BB.out.size (fun k hk => by injection hk; omega))
  clear x2 g2 z2 XB YB BB
  go_wp2_with (with_reducible refine wpList_put_w rfl _ _ rfl _ 9 ?hx yc ?hy _ _ XC.out ?hi ?_)
  case hx => exact rfl
  case hy => exact rfl
  case hi => rw [List.length_set, List.length_set, L1.out]; decide
  intro u3 g3 x3 z3
  have XD := Lib.hid x3
  have YD := Lib.hid (YC.out.grown g3 (by simp))
  have BD := Lib.hid (BC.out.grown g3 BC.out.size (fun k hk => by injection hk; omega))
  clear x3 g3 z3 XC YC BC
  go_wp2_with (with_reducible refine wpList_put_w rfl _ _ rfl _ 13 ?hx yd ?hy _ _ XD.out ?hi ?_)
  case hx => exact rfl
  case hy => exact rfl
  case hi => rw [List.length_set, List.length_set, List.length_set, L1.out]; decide
  intro v2 g4 x4 z4
  rw [HL.out] at x4
  have X2 := Lib.hid x4
  have Y2 := Lib.hid (YD.out.grown g4 (by simp))
  have B2 := Lib.hid (BD.out.grown g4 BD.out.size (fun k hk => by injection hk; omega))
  clear x4 g4 z4 XD YD BD HL L1
  generalize qAt l1 (1, 5, 9, 13) = l2 at *
  obtain ⟨xp, ep⟩ := at16 l2 L2.out 2 (by decide)
  obtain ⟨xq, eq⟩ := at16 l2 L2.out 6 (by decide)
  obtain ⟨xr, er⟩ := at16 l2 L2.out 10 (by decide)
  obtain ⟨xs, es⟩ := at16 l2 L2.out 14 (by decide)
  have c0 := (X2.out.at_ 2).trans (wv_at _ _ _ ep)
  have c1 := (X2.out.at_ 6).trans (wv_at _ _ _ eq)
  have c2 := (X2.out.at_ 10).trans (wv_at _ _ _ er)
  have c3 := (X2.out.at_ 14).trans (wv_at _ _ _ es)
  have QA := Lib.hid (quarter_any xp xq xr xs v2)
  have HQ := Lib.hid (fun ya yb yc yd e => qAt_of l2 2 6 10 14 xp xq xr xs ya yb yc yd ep eq er es e)
  obtain ⟨qq, hqq⟩ : ∃ qq, qq = quarter xp xq xr xs := ⟨_, rfl⟩
  rw [← hqq] at QA
  obtain ⟨ya, yb, yc, yd⟩ := qq
  have HL := Lib.hid (HQ.out ya yb yc yd hqq.symm)
  have L3 : Hid ((qAt l2 (2, 6, 10, 14)).length = 16) := by rw [Hid, qAt_length]; exact L2.out
  clear ep eq er es HQ hqq
  go_wp2_with fail
  refine QA.out.mono ?_
  rintro e u0 ⟨rfl, b⟩
  have XA := Lib.hid (X2.out.below b X2.out.lt)
  have YA := Lib.hid (Y2.out.below b Y2.out.lt)
  have BA := Lib.hid (B2.out.trans (b.mono B2.out.size))
  clear b QA X2 Y2 B2 c0 c1 c2 c3
  go_wp2_with (with_reducible refine wpList_put_w rfl _ _ rfl _ 2 ?hx ya ?hy _ _ XA.out ?hi ?_)
  case hx => exact rfl
  case hy => exact rfl
  case hi => rw [L2.out]; decide
  intro u1 g1 x1 z1
  have XB := Lib.hid x1
  have YB := Lib.hid (YA.out.grown g1 (by simp))
  have BB := Lib.hid (BA.out.grown g1 BA.out.size (fun k hk => by injection hk; omega))
  clear x1 g1 z1 XA YA BA
  go_wp2_with (with_reducible refine wpList_put_w rfl _ _ rfl _ 6 ?hx yb ?hy _ _ XB.out ?hi ?_)
  case hx => exact rfl
  case hy => exact rfl
  case hi => rw [List.length_set, L2.out]; decide
  intro u2 g2 x2 z2
  have XC := Lib.hid x2
  have YC := Lib.hid (YB.out.grown g2 (by simp))
  have BC := Lib.hid (BB.out.grown g2 BB.out.size (fun k hk => by injection hk; omega))
  clear x2 g2 z2 XB YB BB
  go_wp2_with (with_reducible refine wpList_put_w rfl _ _ rfl _ 10 ?hx yc ?hy _ _ XC.out ?hi ?_)
  case hx => exact rfl
  case hy => exact rfl
  case hi => rw [List.length_set, List.length_set, L2.out]; decide
  intro u3 g3 x3 z3
  have XD := Lib.hid x3
  have YD := Lib.hid (YC.out.grown g3 (by simp))
  have BD := Lib.hid (BC.out.grown g3 BC.out.size (fun k hk => by injection hk; omega))
  clear x3 g3 z3 XC YC BC
  go_wp2_with (with_reducible refine wpList_put_w rfl _ _ rfl _ 14 ?hx yd ?hy _ _ XD.out ?hi ?_)
  case hx => exact rfl
  case hy => exact rfl
  case hi => rw [List.length_set, List.length_set, List.length_set, L2.out]; decide
  intro v3 g4 x4 z4
  rw [HL.out] at x4
  have X3 := Lib.hid x4
  have Y3 := Lib.hid (YD.out.grown g4 (by simp))
  have B3 := Lib.hid (BD.out.grown g4 BD.out.size (fun k hk => by injection hk; omega))
  clear x4 g4 z4 XD YD BD HL L2
  generalize qAt l2 (2, 6, 10, 14) = l3 at *
  obtain ⟨xp, ep⟩ := at16 l3 L3.out 3 (by decide)
  obtain ⟨xq, eq⟩ := at16 l3 L3.out 7 (by decide)
  obtain ⟨xr, er⟩ := at16 l3 L3.out 11 (by decide)
  obtain ⟨xs, es⟩ := at16 l3 L3.out 15 (by decide)
  have c0 := (X3.out.at_ 3).trans (wv_at _ _ _ ep)
  have c1 := (X3.out.at_ 7).trans (wv_at _ _ _ eq)
  have c2 := (X3.out.at_ 11).trans (wv_at _ _ _ er)
  have c3 := (X3.out.at_ 15).trans (wv_at _ _ _ es)
  have QA := Lib.hid (quarter_any xp xq xr xs v3)
  have HQ := Lib.hid (fun ya yb yc yd e => qAt_of l3 3 7 11 15 xp xq xr xs ya yb yc yd ep eq er es e)
  obtain ⟨qq, hqq⟩ : ∃ qq, qq = quarter xp xq xr xs := ⟨_, rfl⟩
  rw [← hqq] at QA
  obtain ⟨ya, yb, yc, yd⟩ := qq
  have HL := Lib.hid (HQ.out ya yb yc yd hqq.symm)
  have L4 : Hid ((qAt l3 (3, 7, 11, 15)).length = 16) := by rw [Hid, qAt_length]; exact L3.out
  clear ep eq er es HQ hqq
  go_wp2_with fail
  refine QA.out.mono ?_
  rintro e u0 ⟨rfl, b⟩
  have XA := Lib.hid (X3.out.below b X3.out.lt)
  have YA := Lib.hid (Y3.out.below b Y3.out.lt)
  have BA := Lib.hid (B3.out.trans (b.mono B3.out.size))
  clear b QA X3 Y3 B3 c0 c1 c2 c3
  go_wp2_with (with_reducible refine wpList_put_w rfl _ _ rfl _ 3 ?hx ya ?hy _ _ XA.out ?hi ?_)
  case hx => exact rfl
  case hy => exact rfl
  case hi => rw [L3.out]; decide
  intro u1 g1 x1 z1
  have XB := Lib.hid x1
  have YB := Lib.hid (YA.out.grown g1 (by simp))
  have BB := Lib.hid (BA.out.grown g1 BA.out.size (fun k hk => by injection hk; omega))
  clear x1 g1 z1 XA YA BA
  go_wp2_with (with_reducible refine wpList_put_w rfl _ _ rfl _ 7 ?hx yb ?hy _ _ XB.out ?hi ?_)
  case hx => exact rfl
  case hy => exact rfl
  case hi => rw [List.length_set, L3.out]; decide
  intro u2 g2 x2 z2
  have XC := Lib.hid x2
  have YC := Lib.hid (YB.out.grown g2 (by simp))
  have BC := Lib.hid (BB.out.grown g2 BB.out.size (fun k hk => by injection hk; omega))
  clear x2 g2 z2 XB YB BB
  go_wp2_with (with_reducible refine wpList_put_w rfl _ _ rfl _ 11 ?hx yc ?hy _ _ XC.out ?hi ?_)
  case hx => exact rfl
  case hy => exact rfl
  case hi => rw [List.length_set, List.length_set, L3.out]; decide
  intro u3 g3 x3 z3
  have XD := Lib.hid x3
  have YD := Lib.hid (YC.out.grown g3 (by simp))
  have BD := Lib.hid (BC.out.grown g3 BC.out.size (fun k hk => by injection hk; omega))
  clear x3 g3 z3 XC YC BC
  go_wp2_with (with_reducible refine wpList_put_w rfl _ _ rfl _ 15 ?hx yd ?hy _ _ XD.out ?hi ?_)
  case hx => exact rfl
  case hy => exact rfl
  case hi => rw [List.length_set, List.length_set, List.length_set, L3.out]; decide
  intro v4 g4 x4 z4
  rw [HL.out] at x4
  have X4 := Lib.hid x4
  have Y4 := Lib.hid (YD.out.grown g4 (by simp))
  have B4 := Lib.hid (BD.out.grown g4 BD.out.size (fun k hk => by injection hk; omega))
  clear x4 g4 z4 XD YD BD HL L3
  generalize qAt l3 (3, 7, 11, 15) = l4 at *
  obtain ⟨xp, ep⟩ := at16 l4 L4.out 0 (by decide)
  obtain ⟨xq, eq⟩ := at16 l4 L4.out 5 (by decide)
  obtain ⟨xr, er⟩ := at16 l4 L4.out 10 (by decide)
  obtain ⟨xs, es⟩ := at16 l4 L4.out 15 (by decide)
  have c0 := (X4.out.at_ 0).trans (wv_at _ _ _ ep)
  have c1 := (X4.out.at_ 5).trans (wv_at _ _ _ eq)
  have c2 := (X4.out.at_ 10).trans (wv_at _ _ _ er)
  have c3 := (X4.out.at_ 15).trans (wv_at _ _ _ es)
  have QA := Lib.hid (quarter_any xp xq xr xs v4)
  have HQ := Lib.hid (fun ya yb yc yd e => qAt_of l4 0 5 10 15 xp xq xr xs ya yb yc yd ep eq er es e)
  obtain ⟨qq, hqq⟩ : ∃ qq, qq = quarter xp xq xr xs := ⟨_, rfl⟩
  rw [← hqq] at QA
  obtain ⟨ya, yb, yc, yd⟩ := qq
  have HL := Lib.hid (HQ.out ya yb yc yd hqq.symm)
  have L5 : Hid ((qAt l4 (0, 5, 10, 15)).length = 16) := by rw [Hid, qAt_length]; exact L4.out
  clear ep eq er es HQ hqq
  go_wp2_with fail
  refine QA.out.mono ?_
  rintro e u0 ⟨rfl, b⟩
  have XA := Lib.hid (X4.out.below b X4.out.lt)
  have YA := Lib.hid (Y4.out.below b Y4.out.lt)
  have BA := Lib.hid (B4.out.trans (b.mono B4.out.size))
  clear b QA X4 Y4 B4 c0 c1 c2 c3
  go_wp2_with (with_reducible refine wpList_put_w rfl _ _ rfl _ 0 ?hx ya ?hy _ _ XA.out ?hi ?_)
  case hx => exact rfl
  case hy => exact rfl
  case hi => rw [L4.out]; decide
  intro u1 g1 x1 z1
  have XB := Lib.hid x1
  have YB := Lib.hid (YA.out.grown g1 (by simp))
  have BB := Lib.hid (BA.out.grown g1 BA.out.size (fun k hk => by injection hk; omega))
  clear x1 g1 z1 XA YA BA
  go_wp2_with (with_reducible refine wpList_put_w rfl _ _ rfl _ 5 ?hx yb ?hy _ _ XB.out ?hi ?_)
  case hx => exact rfl
  case hy => exact rfl
  case hi => rw [List.length_set, L4.out]; decide
  intro u2 g2 x2 z2
  have XC := Lib.hid x2
  have YC := Lib.hid (YB.out.grown g2 (by simp))
  have BC := Lib.hid (BB.out.grown g2 BB.out.size (fun k hk => by injection hk; omega))
  clear x2 g2 z2 XB YB BB
  go_wp2_with (with_reducible refine wpList_put_w rfl _ _ rfl _ 10 ?hx yc ?hy _ _ XC.out ?hi ?_)
  case hx => exact rfl
  case hy => exact rfl
  case hi => rw [List.length_set, List.length_set, L4.out]; decide
  intro u3 g3 x3 z3
  have XD := Lib.hid x3
  have YD := Lib.hid (YC.out.grown g3 (by simp))
  have BD := Lib.hid (BC.out.grown g3 BC.out.size (fun k hk => by injection hk; omega))
  clear x3 g3 z3 XC YC BC
  go_wp2_with (with_reducible refine wpList_put_w rfl _ _ rfl _ 15 ?hx yd ?hy _ _ XD.out ?hi ?_)
  case hx => exact rfl
  case hy => exact rfl
  case hi => rw [List.length_set, List.length_set, List.length_set, L4.out]; decide
  intro v5 g4 x4 z4
  rw [HL.out] at x4
  have X5 := Lib.hid x4
  have Y5 := Lib.hid (YD.out.grown g4 (by simp))
  have B5 := Lib.hid (BD.out.grown g4 BD.out.size (fun k hk => by injection hk; omega))
  clear x4 g4 z4 XD YD BD HL L4
  generalize qAt l4 (0, 5, 10, 15) = l5 at *
  obtain ⟨xp, ep⟩ := at16 l5 L5.out 1 (by decide)
  obtain ⟨xq, eq⟩ := at16 l5 L5.out 6 (by decide)
  obtain ⟨xr, er⟩ := at16 l5 L5.out 11 (by decide)
  obtain ⟨xs, es⟩ := at16 l5 L5.out 12 (by decide)
  have c0 := (X5.out.at_ 1).trans (wv_at _ _ _ ep)
  have c1 := (X5.out.at_ 6).trans (wv_at _ _ _ eq)
  have c2 := (X5.out.at_ 11).trans (wv_at _ _ _ er)
  have c3 := (X5.out.at_ 12).trans (wv_at _ _ _ es)
  have QA := Lib.hid (quarter_any xp xq xr xs v5)
  have HQ := Lib.hid (fun ya yb yc yd e => qAt_of l5 1 6 11 12 xp xq xr xs ya yb yc yd ep eq er es e)
  obtain ⟨qq, hqq⟩ : ∃ qq, qq = quarter xp xq xr xs := ⟨_, rfl⟩
  rw [← hqq] at QA
  obtain ⟨ya, yb, yc, yd⟩ := qq
  have HL := Lib.hid (HQ.out ya yb yc yd hqq.symm)
  have L6 : Hid ((qAt l5 (1, 6, 11, 12)).length = 16) := by rw [Hid, qAt_length]; exact L5.out
  clear ep eq er es HQ hqq
  go_wp2_with fail
  refine QA.out.mono ?_
  rintro e u0 ⟨rfl, b⟩
  have XA := Lib.hid (X5.out.below b X5.out.lt)
  have YA := Lib.hid (Y5.out.below b Y5.out.lt)
  have BA := Lib.hid (B5.out.trans (b.mono B5.out.size))
  clear b QA X5 Y5 B5 c0 c1 c2 c3
  go_wp2_with (with_reducible refine wpList_put_w rfl _ _ rfl _ 1 ?hx ya ?hy _ _ XA.out ?hi ?_)
  case hx => exact rfl
  case hy => exact rfl
  case hi => rw [L5.out]; decide
  intro u1 g1 x1 z1
  have XB := Lib.hid x1
  have YB := Lib.hid (YA.out.grown g1 (by simp))
  have BB := Lib.hid (BA.out.grown g1 BA.out.size (fun k hk => by injection hk; omega))
  clear x1 g1 z1 XA YA BA
  go_wp2_with (with_reducible refine wpList_put_w rfl _ _ rfl _ 6 ?hx yb ?hy _ _ XB.out ?hi ?_)
  case hx => exact rfl
  case hy => exact rfl
  case hi => rw [List.length_set, L5.out]; decide
  intro u2 g2 x2 z2
  have XC := Lib.hid x2
  have YC := Lib.hid (YB.out.grown g2 (by simp))
  have BC := Lib.hid (BB.out.grown g2 BB.out.size (fun k hk => by injection hk; omega))
  clear x2 g2 z2 XB YB BB
  go_wp2_with (with_reducible refine wpList_put_w rfl _ _ rfl _ 11 ?hx yc ?hy _ _ XC.out ?hi ?_)
  case hx => exact rfl
  case hy => exact rfl
  case hi => rw [List.length_set, List.length_set, L5.out]; decide
  intro u3 g3 x3 z3
  have XD := Lib.hid x3
  have YD := Lib.hid (YC.out.grown g3 (by simp))
  have BD := Lib.hid (BC.out.grown g3 BC.out.size (fun k hk => by injection hk; omega))
  clear x3 g3 z3 XC YC BC
  go_wp2_with (with_reducible refine wpList_put_w rfl _ _ rfl _ 12 ?hx yd ?hy _ _ XD.out ?hi ?_)
  case hx => exact rfl
  case hy => exact rfl
  case hi => rw [List.length_set, List.length_set, List.length_set, L5.out]; decide
  intro v6 g4 x4 z4
  rw [HL.out] at x4
  have X6 := Lib.hid x4
  have Y6 := Lib.hid (YD.out.grown g4 (by simp))
  have B6 := Lib.hid (BD.out.grown g4 BD.out.size (fun k hk => by injection hk; omega))
  clear x4 g4 z4 XD YD BD HL L5
  generalize qAt l5 (1, 6, 11, 12) = l6 at *
  obtain ⟨xp, ep⟩ := at16 l6 L6.out 2 (by decide)
  obtain ⟨xq, eq⟩ := at16 l6 L6.out 7 (by decide)
  obtain ⟨xr, er⟩ := at16 l6 L6.out 8 (by decide)
  obtain ⟨xs, es⟩ := at16 l6 L6.out 13 (by decide)
  have c0 := (X6.out.at_ 2).trans (wv_at _ _ _ ep)
  have c1 := (X6.out.at_ 7).trans (wv_at _ _ _ eq)
  have c2 := (X6.out.at_ 8).trans (wv_at _ _ _ er)
  have c3 := (X6.out.at_ 13).trans (wv_at _ _ _ es)
  have QA := Lib.hid (quarter_any xp xq xr xs v6)
  have HQ := Lib.hid (fun ya yb yc yd e => qAt_of l6 2 7 8 13 xp xq xr xs ya yb yc yd ep eq er es e)
  obtain ⟨qq, hqq⟩ : ∃ qq, qq = quarter xp xq xr xs := ⟨_, rfl⟩
  rw [← hqq] at QA
  obtain ⟨ya, yb, yc, yd⟩ := qq
  have HL := Lib.hid (HQ.out ya yb yc yd hqq.symm)
  have L7 : Hid ((qAt l6 (2, 7, 8, 13)).length = 16) := by rw [Hid, qAt_length]; exact L6.out
  clear ep eq er es HQ hqq
  go_wp2_with fail
  refine QA.out.mono ?_
  rintro e u0 ⟨rfl, b⟩
  have XA := Lib.hid (X6.out.below b X6.out.lt)
  have YA := Lib.hid (Y6.out.below b Y6.out.lt)
  have BA := Lib.hid (B6.out.trans (b.mono B6.out.size))
  clear b QA X6 Y6 B6 c0 c1 c2 c3
  go_wp2_with (with_reducible refine wpList_put_w rfl _ _ rfl _ 2 ?hx ya ?hy _ _ XA.out ?hi ?_)
  case hx => exact rfl
  case hy => exact rfl
  case hi => rw [L6.out]; decide
  intro u1 g1 x1 z1
  have XB := Lib.hid x1
  have YB := Lib.hid (YA.out.grown g1 (by simp))
  have BB := Lib.hid (BA.out.grown g1 BA.out.size (fun k hk => by injection hk; omega))
  clear x1 g1 z1 XA YA BA
  go_wp2_with (with_reducible refine wpList_put_w rfl _ _ rfl _ 7 ?hx yb ?hy _ _ XB.out ?hi ?_)
  case hx => exact rfl
  case hy => exact rfl
  case hi => rw [List.length_set, L6.out]; decide
  intro u2 g2 x2 z2
  have XC := Lib.hid x2
  have YC := Lib.hid (YB.out.grown g2 (by simp))
  have BC := Lib.hid (BB.out.grown g2 BB.out.size (fun k hk => by injection hk; omega))
  clear x2 g2 z2 XB YB BB
  go_wp2_with (with_reducible refine wpList_put_w rfl _ _ rfl _ 8 ?hx yc ?hy _ _ XC.out ?hi ?_)
  case hx => exact rfl
  case hy => exact rfl
  case hi => rw [List.length_set, List.length_set, L6.out]; decide
  intro u3 g3 x3 z3
  have XD := Lib.hid x3
  have YD := Lib.hid (YC.out.grown g3 (by simp))
  have BD := Lib.hid (BC.out.grown g3 BC.out.size (fun k hk => by injection hk; omega))
  clear x3 g3 z3 XC YC BC
  go_wp2_with (with_reducible refine wpList_put_w rfl _ _ rfl _ 13 ?hx yd ?hy _ _ XD.out ?hi ?_)
  case hx => exact rfl
  case hy => exact rfl
  case hi => rw [List.length_set, List.length_set, List.length_set, L6.out]; decide
  intro v7 g4 x4 z4
  rw [HL.out] at x4
  have X7 := Lib.hid x4
  have Y7 := Lib.hid (YD.out.grown g4 (by simp))
  have B7 := Lib.hid (BD.out.grown g4 BD.out.size (fun k hk => by injection hk; omega))
  clear x4 g4 z4 XD YD BD HL L6
  generalize qAt l6 (2, 7, 8, 13) = l7 at *
  obtain ⟨xp, ep⟩ := at16 l7 L7.out 3 (by decide)
  obtain ⟨xq, eq⟩ := at16 l7 L7.out 4 (by decide)
  obtain ⟨xr, er⟩ := at16 l7 L7.out 9 (by decide)
  obtain ⟨xs, es⟩ := at16 l7 L7.out 14 (by decide)
  have c0 := (X7.out.at_ 3).trans (wv_at _ _ _ ep)
  have c1 := (X7.out.at_ 4).trans (wv_at _ _ _ eq)
  have c2 := (X7.out.at_ 9).trans (wv_at _ _ _ er)
  have c3 := (X7.out.at_ 14).trans (wv_at _ _ _ es)
  have QA := Lib.hid (quarter_any xp xq xr xs v7)
  have HQ := Lib.hid (fun ya yb yc yd e => qAt_of l7 3 4 9 14 xp xq xr xs ya yb yc yd ep eq er es e)
  obtain ⟨qq, hqq⟩ : ∃ qq, qq = quarter xp xq xr xs := ⟨_, rfl⟩
  rw [← hqq] at QA
  obtain ⟨ya, yb, yc, yd⟩ := qq
  have HL := Lib.hid (HQ.out ya yb yc yd hqq.symm)
  have L8 : Hid ((qAt l7 (3, 4, 9, 14)).length = 16) := by rw [Hid, qAt_length]; exact L7.out
  clear ep eq er es HQ hqq
  go_wp2_with fail
  refine QA.out.mono ?_
  rintro e u0 ⟨rfl, b⟩
  have XA := Lib.hid (X7.out.below b X7.out.lt)
  have YA := Lib.hid (Y7.out.below b Y7.out.lt)
  have BA := Lib.hid (B7.out.trans (b.mono B7.out.size))
  clear b QA X7 Y7 B7 c0 c1 c2 c3
  go_wp2_with (with_reducible refine wpList_put_w rfl _ _ rfl _ 3 ?hx ya ?hy _ _ XA.out ?hi ?_)
  case hx => exact rfl
  case hy => exact rfl
  case hi => rw [L7.out]; decide
  intro u1 g1 x1 z1
  have XB := Lib.hid x1
  have YB := Lib.hid (YA.out.grown g1 (by simp))
  have BB := Lib.hid (BA.out.grown g1 BA.out.size (fun k hk => by injection hk; omega))
  clear x1 g1 z1 XA YA BA
  go_wp2_with (with_reducible refine wpList_put_w rfl _ _ rfl _ 4 ?hx yb ?hy _ _ XB.out ?hi ?_)
  case hx => exact rfl
  case hy => exact rfl
  case hi => rw [List.length_set, L7.out]; decide
  intro u2 g2 x2 z2
  have XC := Lib.hid x2
  have YC := Lib.hid (YB.out.grown g2 (by simp))
  have BC := Lib.hid (BB.out.grown g2 BB.out.size (fun k hk => by injection hk; omega))
  clear x2 g2 z2 XB YB BB
  go_wp2_with (with_reducible refine wpList_put_w rfl _ _ rfl _ 9 ?hx yc ?hy _ _ XC.out ?hi ?_)
  case hx => exact rfl
  case hy => exact rfl
  case hi => rw [List.length_set, List.length_set, L7.out]; decide
  intro u3 g3 x3 z3
  have XD := Lib.hid x3
  have YD := Lib.hid (YC.out.grown g3 (by simp))
  have BD := Lib.hid (BC.out.grown g3 BC.out.size (fun k hk => by injection hk; omega))
  clear x3 g3 z3 XC YC BC
  go_wp2_with (with_reducible refine wpList_put_w rfl _ _ rfl _ 14 ?hx yd ?hy _ _ XD.out ?hi ?_)
  case hx => exact rfl
  case hy => exact rfl
  case hi => rw [List.length_set, List.length_set, List.length_set, L7.out]; decide
  intro v8 g4 x4 z4
  rw [HL.out] at x4
  have X8 := Lib.hid x4
  have Y8 := Lib.hid (YD.out.grown g4 (by simp))
  have B8 := Lib.hid (BD.out.grown g4 BD.out.size (fun k hk => by injection hk; omega))
  clear x4 g4 z4 XD YD BD HL L7
  generalize qAt l7 (3, 4, 9, 14) = l8 at *
  rw [HE.out] at X8
  go_upto_region 9 with fail
  refine wp_region_lit (wpList_load_row rfl 75 _ rfl _ rfl _ _ _ _ X8.out Tryz.underlying75 rfl S16.out (wpList_store_whole rfl 75 _ _ rfl _ _ rfl rfl _ _ Y8.out S16.out Z16.out (wv_one _) ?_))
  intro w6 g6 x6 z6
  refine wpList_nil ?_
  have X6 := Lib.hid x6
  have HB6 := Lib.hid (B8.out.grown g6 B8.out.size (fun k hk => by injection hk; omega))
  clear x6 g6 z6
  go_wp2_with fail
  refine bodyPost_ret (v := .agg (wv D)) ?_ rfl ⟨by rw [HD.out], HB6.out⟩
  exact results_cell_row rfl _ _ _ _ _ _ _ rfl X6.out Tryz.underlying75 rfl S16.out
end Go.Proofs.YtmnhpkdldeifgaaGreatDoor
