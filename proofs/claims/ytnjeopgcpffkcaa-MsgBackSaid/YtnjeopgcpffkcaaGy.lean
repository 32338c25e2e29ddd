/- Package msg: (*reader).take, field by field. (Written by tools/mkmstake.py.) -/
import Derived.Test.YtnjeopgcpffkcaaGv
import Derived.Test.YtnjeopgcpffkcaaGx
namespace Go.Proofs.Ytnjeopgcpffkcaa
set_option maxRecDepth 100000
open Go.RowKit

/-- The blocks that a message is read with. -/
structure Tkb (w0 : World) (gR gP gM base gV gO : Nat) : Prop where
  r : gR < base
  p : gP < base
  m : gM < base
  mr : gM ≠ gR
  mp : gM ≠ gP
  r0 : w0.heap.size ≤ gR
  p0 : w0.heap.size ≤ gP
  m0 : w0.heap.size ≤ gM
  vr : gV ≠ gR ∧ gV ≠ gP ∧ gV ≠ gM
  o : gO ≠ gR ∧ gO ≠ gP ∧ gO ≠ gM
/-- So far it was read. -/
def Tks (w0 : World) (gR gP gM base gV gO : Nat) (T : Tk) (w : World) : Prop :=
  ∃ e t, Mr.At w gM (T.m.raw e t) ∧ OwnLists w base e t T.m ∧ RdrAt w gR gP T.r T.big T.bad ∧ Below w0.heap.size w0 w ∧ base ≤ w.heap.size ∧ Whole w gV 66 #[.pointer (some ⟨gR, 0, none⟩)] ∧ Mr.At w gO Mr.zero
theorem Tks.next {w0 w w1 w2 : World} {gR gP gM base gV gO : Nat} {T : Tk} {e t : Row} (hb : Tkb w0 gR gP gM base gV gO) (hv : Whole w gV 66 #[.pointer (some ⟨gR, 0, none⟩)]) (hO : Mr.At w gO Mr.zero) (hl : Below w0.heap.size w0 w) (hB : base ≤ w.heap.size) (k : Keeps (RF gR gP) w w1) (hr : RdrAt w1 gR gP T.r T.big T.bad) (q : w1.grownBy w2 (some gM)) (x : Mr.At w2 gM (T.m.raw e t)) (ho : OwnLists w1 base e t T.m) : Tks w0 gR gP gM base gV gO T w2 :=
  ⟨e, t, x, ho.far q hb.m, hr.keeps (F := fun i => i = gM) (Keeps.of_grown q (fun k e => .inl (by injection e with e; exact e.symm))) (fun e => hb.mr e.symm) (fun e => hb.mp e.symm),
   (hl.trans (k.below (fun i hi => by have := hb.r0; have := hb.p0; rcases hi with rfl | rfl <;> omega) hl.size)).grown q (Nat.le_trans hl.size k.size) (fun k hk => by injection hk with hk; have := hb.m0; omega), Nat.le_trans hB (Nat.le_trans k.size q.size),
   grown_far (Whole.keeps hv k (fun i => by have := hb.vr; rcases i with i | i <;> omega)) q (by have := hb.vr; omega), grown_far (Whole.keeps hO k (fun i => by have := hb.o; rcases i with i | i <;> omega)) q (by have := hb.o; omega)⟩
theorem OwnLists.rdr {w w' : World} {gR gP base : Nat} {e t : Row} {m : Mg} (h : OwnLists w base e t m) (q : Keeps (RF gR gP) w w') (h1 : gR < base) (h2 : gP < base) : OwnLists w' base e t m := ⟨h.es.rdr q h1 h2, h.its.rdr q h1 h2⟩

set_option maxHeartbeats 1000000 in
theorem take_0 (w0 : World) (gR gP gM base gV gO : Nat) (hb : Tkb w0 gR gP gM base gV gO) (T : Tk) (w : World) (h : Tks w0 gR gP gM base gV gO T w) :
    Calls Try.prog 48 #[.pointer (some ⟨gR, 0, none⟩), .pointer (some ⟨gM, 0, none⟩), .int .i64 0] w fun x w' => x = .returned (.tuple #[]) ∧ Tks w0 gR gP gM base gV gO (takeF T 0) w' := by
  obtain ⟨e, t, hm, hl, hr, hlow, hB, hv, hO⟩ := h
  have HV := Lib.hid hv
  have HO := Lib.hid hO
  have HM := Lib.hid hm
  have HL := Lib.hid hl
  have HR := Lib.hid hr
  have HW := Lib.hid hlow
  have HB := Lib.hid hB
  have HK := Lib.hid hb
  clear hm hl hr hlow hB hb hv hO
  have C := Lib.hid (pkNum gP 2 T.r w HR.out.rd (by decide) (by decide))
  have rz := numO_i64 T.r 2 (by decide)
  have c0 : w.cell? ⟨gR, 0, none⟩ = some (.pointer (some ⟨gP, 0, none⟩)) := HR.out.rdr.at_ 0
  go_enter Try.func48, Try.ntmps48
  go_wp2_with fail
  refine C.out.mono ?_
  rintro x w1 ⟨rfl, hr1, hg1⟩
  have R1 := Lib.hid (HR.out.read hr1 hg1)
  have K1 : Hid (Keeps (RF gR gP) w w1) := Lib.hid (keeps_read hg1)
  clear hr1 hg1 C c0
  have M1 : Hid (Mr.At w1 gM (T.m.raw e t)) := Lib.hid (Whole.keeps HM.out K1.out (fun k => by have := HK.out.mr; have := HK.out.mp; rcases k with k | k <;> omega))
  have L1 := Lib.hid (HL.out.rdr K1.out HK.out.r HK.out.p)
  go_wp2_with (with_reducible refine wpList_put_cell 22 ⟨by kernel_rfl, by kernel_rfl⟩ rfl _ _ rfl gM 3 (by with_unfolding_all exact rfl) (.int .i64 (numO T.r 2 : Int)) (by with_unfolding_all exact rfl) (by with_unfolding_all exact rfl) (by with_unfolding_all exact rfl) _ _ M1.out _ (by with_unfolding_all exact rfl) ?_)
  intro w2 q2 x2 z2
  have HF : Hid (Tks w0 gR gP gM base gV gO (takeF T 0) w2) := Lib.hid (Tks.next (T := takeF T 0) (e := e) (t := t) HK.out HV.out HO.out HW.out HB.out K1.out R1.out q2 x2 ⟨L1.out.es, L1.out.its⟩)
  clear q2 x2 z2 M1 L1 K1 R1
  go_wp2
  go_end0
  exact ⟨rfl, HF.out⟩

set_option maxHeartbeats 1000000 in
theorem take_1 (w0 : World) (gR gP gM base gV gO : Nat) (hb : Tkb w0 gR gP gM base gV gO) (T : Tk) (w : World) (h : Tks w0 gR gP gM base gV gO T w) :
    Calls Try.prog 48 #[.pointer (some ⟨gR, 0, none⟩), .pointer (some ⟨gM, 0, none⟩), .int .i64 1] w fun x w' => x = .returned (.tuple #[]) ∧ Tks w0 gR gP gM base gV gO (takeF T 1) w' := by
  obtain ⟨e, t, hm, hl, hr, hlow, hB, hv, hO⟩ := h
  have HV := Lib.hid hv
  have HO := Lib.hid hO
  have HM := Lib.hid hm
  have HL := Lib.hid hl
  have HR := Lib.hid hr
  have HW := Lib.hid hlow
  have HB := Lib.hid hB
  have HK := Lib.hid hb
  clear hm hl hr hlow hB hb hv hO
  have C := Lib.hid (flag_any gR gP T.r T.big T.bad w HR.out)
  
  have c0 : w.cell? ⟨gR, 0, none⟩ = some (.pointer (some ⟨gP, 0, none⟩)) := HR.out.rdr.at_ 0
  go_enter Try.func48, Try.ntmps48
  go_wp2_with fail
  refine C.out.mono ?_
  rintro x w1 ⟨rfl, hr1, hg1⟩
  have R1 := Lib.hid hr1
  have K1 : Hid (Keeps (RF gR gP) w w1) := Lib.hid hg1
  clear hr1 hg1 C c0
  have M1 : Hid (Mr.At w1 gM (T.m.raw e t)) := Lib.hid (Whole.keeps HM.out K1.out (fun k => by have := HK.out.mr; have := HK.out.mp; rcases k with k | k <;> omega))
  have L1 := Lib.hid (HL.out.rdr K1.out HK.out.r HK.out.p)
  go_wp2_with (with_reducible refine wpList_put_cell 4 ⟨by kernel_rfl, by kernel_rfl⟩ rfl _ _ rfl gM 5 (by with_unfolding_all exact rfl) (.bool (truthB T.r)) (by with_unfolding_all exact rfl) (by with_unfolding_all exact rfl) (by with_unfolding_all exact rfl) _ _ M1.out _ (by with_unfolding_all exact rfl) ?_)
  intro w2 q2 x2 z2
  have HF : Hid (Tks w0 gR gP gM base gV gO (takeF T 1) w2) := Lib.hid (Tks.next (T := takeF T 1) (e := e) (t := t) HK.out HV.out HO.out HW.out HB.out K1.out R1.out q2 x2 ⟨L1.out.es, L1.out.its⟩)
  clear q2 x2 z2 M1 L1 K1 R1
  go_wp2
  go_end0
  exact ⟨rfl, HF.out⟩

set_option maxHeartbeats 1000000 in
theorem take_2 (w0 : World) (gR gP gM base gV gO : Nat) (hb : Tkb w0 gR gP gM base gV gO) (T : Tk) (w : World) (h : Tks w0 gR gP gM base gV gO T w) :
    Calls Try.prog 48 #[.pointer (some ⟨gR, 0, none⟩), .pointer (some ⟨gM, 0, none⟩), .int .i64 2] w fun x w' => x = .returned (.tuple #[]) ∧ Tks w0 gR gP gM base gV gO (takeF T 2) w' := by
  obtain ⟨e, t, hm, hl, hr, hlow, hB, hv, hO⟩ := h
  have HV := Lib.hid hv
  have HO := Lib.hid hO
  have HM := Lib.hid hm
  have HL := Lib.hid hl
  have HR := Lib.hid hr
  have HW := Lib.hid hlow
  have HB := Lib.hid hB
  have HK := Lib.hid hb
  clear hm hl hr hlow hB hb hv hO
  have C := Lib.hid (flag_any gR gP T.r T.big T.bad w HR.out)
  
  have c0 : w.cell? ⟨gR, 0, none⟩ = some (.pointer (some ⟨gP, 0, none⟩)) := HR.out.rdr.at_ 0
  go_enter Try.func48, Try.ntmps48
  go_wp2_with fail
  refine C.out.mono ?_
  rintro x w1 ⟨rfl, hr1, hg1⟩
  have R1 := Lib.hid hr1
  have K1 : Hid (Keeps (RF gR gP) w w1) := Lib.hid hg1
  clear hr1 hg1 C c0
  have M1 : Hid (Mr.At w1 gM (T.m.raw e t)) := Lib.hid (Whole.keeps HM.out K1.out (fun k => by have := HK.out.mr; have := HK.out.mp; rcases k with k | k <;> omega))
  have L1 := Lib.hid (HL.out.rdr K1.out HK.out.r HK.out.p)
  go_wp2_with (with_reducible refine wpList_put_cell 4 ⟨by kernel_rfl, by kernel_rfl⟩ rfl _ _ rfl gM 6 (by with_unfolding_all exact rfl) (.bool (truthB T.r)) (by with_unfolding_all exact rfl) (by with_unfolding_all exact rfl) (by with_unfolding_all exact rfl) _ _ M1.out _ (by with_unfolding_all exact rfl) ?_)
  intro w2 q2 x2 z2
  have HF : Hid (Tks w0 gR gP gM base gV gO (takeF T 2) w2) := Lib.hid (Tks.next (T := takeF T 2) (e := e) (t := t) HK.out HV.out HO.out HW.out HB.out K1.out R1.out q2 x2 ⟨L1.out.es, L1.out.its⟩)
  clear q2 x2 z2 M1 L1 K1 R1
  go_wp2
  go_end0
  exact ⟨rfl, HF.out⟩

set_option maxHeartbeats 1000000 in
theorem take_3 (w0 : World) (gR gP gM base gV gO : Nat) (hb : Tkb w0 gR gP gM base gV gO) (T : Tk) (w : World) (h : Tks w0 gR gP gM base gV gO T w) :
    Calls Try.prog 48 #[.pointer (some ⟨gR, 0, none⟩), .pointer (some ⟨gM, 0, none⟩), .int .i64 3] w fun x w' => x = .returned (.tuple #[]) ∧ Tks w0 gR gP gM base gV gO (takeF T 3) w' := by
  obtain ⟨e, t, hm, hl, hr, hlow, hB, hv, hO⟩ := h
  have HV := Lib.hid hv
  have HO := Lib.hid hO
  have HM := Lib.hid hm
  have HL := Lib.hid hl
  have HR := Lib.hid hr
  have HW := Lib.hid hlow
  have HB := Lib.hid hB
  have HK := Lib.hid hb
  clear hm hl hr hlow hB hb hv hO
  have C := Lib.hid (pkNum gP 8 T.r w HR.out.rd (by decide) (by decide))
  
  have c0 : w.cell? ⟨gR, 0, none⟩ = some (.pointer (some ⟨gP, 0, none⟩)) := HR.out.rdr.at_ 0
  go_enter Try.func48, Try.ntmps48
  go_wp2_with fail
  refine C.out.mono ?_
  rintro x w1 ⟨rfl, hr1, hg1⟩
  have R1 := Lib.hid (HR.out.read hr1 hg1)
  have K1 : Hid (Keeps (RF gR gP) w w1) := Lib.hid (keeps_read hg1)
  clear hr1 hg1 C c0
  have M1 : Hid (Mr.At w1 gM (T.m.raw e t)) := Lib.hid (Whole.keeps HM.out K1.out (fun k => by have := HK.out.mr; have := HK.out.mp; rcases k with k | k <;> omega))
  have L1 := Lib.hid (HL.out.rdr K1.out HK.out.r HK.out.p)
  go_wp2_with (with_reducible refine wpList_put_cell 23 ⟨by kernel_rfl, by kernel_rfl⟩ rfl _ _ rfl gM 4 (by with_unfolding_all exact rfl) (.int .u64 (numO T.r 8 : Int)) (by with_unfolding_all exact rfl) (by with_unfolding_all exact rfl) (by with_unfolding_all exact rfl) _ _ M1.out _ (by with_unfolding_all exact rfl) ?_)
  intro w2 q2 x2 z2
  have HF : Hid (Tks w0 gR gP gM base gV gO (takeF T 3) w2) := Lib.hid (Tks.next (T := takeF T 3) (e := e) (t := t) HK.out HV.out HO.out HW.out HB.out K1.out R1.out q2 x2 ⟨L1.out.es, L1.out.its⟩)
  clear q2 x2 z2 M1 L1 K1 R1
  go_wp2
  go_end0
  exact ⟨rfl, HF.out⟩

set_option maxHeartbeats 1000000 in
theorem take_4 (w0 : World) (gR gP gM base gV gO : Nat) (hb : Tkb w0 gR gP gM base gV gO) (T : Tk) (w : World) (h : Tks w0 gR gP gM base gV gO T w) :
    Calls Try.prog 48 #[.pointer (some ⟨gR, 0, none⟩), .pointer (some ⟨gM, 0, none⟩), .int .i64 4] w fun x w' => x = .returned (.tuple #[]) ∧ Tks w0 gR gP gM base gV gO (takeF T 4) w' := by
  obtain ⟨e, t, hm, hl, hr, hlow, hB, hv, hO⟩ := h
  have HV := Lib.hid hv
  have HO := Lib.hid hO
  have HM := Lib.hid hm
  have HL := Lib.hid hl
  have HR := Lib.hid hr
  have HW := Lib.hid hlow
  have HB := Lib.hid hB
  have HK := Lib.hid hb
  clear hm hl hr hlow hB hb hv hO
  have C := Lib.hid (pkNum gP 4 T.r w HR.out.rd (by decide) (by decide))
  have rz := numO_i64 T.r 4 (by decide)
  have c0 : w.cell? ⟨gR, 0, none⟩ = some (.pointer (some ⟨gP, 0, none⟩)) := HR.out.rdr.at_ 0
  go_enter Try.func48, Try.ntmps48
  go_wp2_with fail
  refine C.out.mono ?_
  rintro x w1 ⟨rfl, hr1, hg1⟩
  have R1 := Lib.hid (HR.out.read hr1 hg1)
  have K1 : Hid (Keeps (RF gR gP) w w1) := Lib.hid (keeps_read hg1)
  clear hr1 hg1 C c0
  have M1 : Hid (Mr.At w1 gM (T.m.raw e t)) := Lib.hid (Whole.keeps HM.out K1.out (fun k => by have := HK.out.mr; have := HK.out.mp; rcases k with k | k <;> omega))
  have L1 := Lib.hid (HL.out.rdr K1.out HK.out.r HK.out.p)
  go_wp2_with (with_reducible refine wpList_put_cell 3 ⟨by kernel_rfl, by kernel_rfl⟩ rfl _ _ rfl gM 2 (by with_unfolding_all exact rfl) (.int .i64 (numO T.r 4 : Int)) (by with_unfolding_all exact rfl) (by with_unfolding_all exact rfl) (by with_unfolding_all exact rfl) _ _ M1.out _ (by with_unfolding_all exact rfl) ?_)
  intro w2 q2 x2 z2
  have HF : Hid (Tks w0 gR gP gM base gV gO (takeF T 4) w2) := Lib.hid (Tks.next (T := takeF T 4) (e := e) (t := t) HK.out HV.out HO.out HW.out HB.out K1.out R1.out q2 x2 ⟨L1.out.es, L1.out.its⟩)
  clear q2 x2 z2 M1 L1 K1 R1
  go_wp2
  go_end0
  exact ⟨rfl, HF.out⟩

set_option maxHeartbeats 1000000 in
theorem take_5 (w0 : World) (gR gP gM base gV gO : Nat) (hb : Tkb w0 gR gP gM base gV gO) (T : Tk) (w : World) (h : Tks w0 gR gP gM base gV gO T w) :
    Calls Try.prog 48 #[.pointer (some ⟨gR, 0, none⟩), .pointer (some ⟨gM, 0, none⟩), .int .i64 5] w fun x w' => x = .returned (.tuple #[]) ∧ Tks w0 gR gP gM base gV gO (takeF T 5) w' := by
  obtain ⟨e, t, hm, hl, hr, hlow, hB, hv, hO⟩ := h
  have HV := Lib.hid hv
  have HO := Lib.hid hO
  have HM := Lib.hid hm
  have HL := Lib.hid hl
  have HR := Lib.hid hr
  have HW := Lib.hid hlow
  have HB := Lib.hid hB
  have HK := Lib.hid hb
  clear hm hl hr hlow hB hb hv hO
  have C := Lib.hid (pkText gP 24 T.r w HR.out.rd)
  
  have c0 : w.cell? ⟨gR, 0, none⟩ = some (.pointer (some ⟨gP, 0, none⟩)) := HR.out.rdr.at_ 0
  go_enter Try.func48, Try.ntmps48
  go_wp2_with fail
  refine C.out.mono ?_
  rintro x w1 ⟨rfl, hr1, hg1⟩
  have R1 := Lib.hid (HR.out.read hr1 hg1)
  have K1 : Hid (Keeps (RF gR gP) w w1) := Lib.hid (keeps_read hg1)
  clear hr1 hg1 C c0
  have M1 : Hid (Mr.At w1 gM (T.m.raw e t)) := Lib.hid (Whole.keeps HM.out K1.out (fun k => by have := HK.out.mr; have := HK.out.mp; rcases k with k | k <;> omega))
  have L1 := Lib.hid (HL.out.rdr K1.out HK.out.r HK.out.p)
  go_wp2_with (with_reducible refine wpList_put_cell 9 ⟨by kernel_rfl, by kernel_rfl⟩ rfl _ _ rfl gM 7 (by with_unfolding_all exact rfl) (.string ⟨(textO T.r 24).toArray⟩) (by with_unfolding_all exact rfl) (by with_unfolding_all exact rfl) (by with_unfolding_all exact rfl) _ _ M1.out _ (by with_unfolding_all exact rfl) ?_)
  intro w2 q2 x2 z2
  have HF : Hid (Tks w0 gR gP gM base gV gO (takeF T 5) w2) := Lib.hid (Tks.next (T := takeF T 5) (e := e) (t := t) HK.out HV.out HO.out HW.out HB.out K1.out R1.out q2 x2 ⟨L1.out.es, L1.out.its⟩)
  clear q2 x2 z2 M1 L1 K1 R1
  go_wp2
  go_end0
  exact ⟨rfl, HF.out⟩

set_option maxHeartbeats 1000000 in
theorem take_6 (w0 : World) (gR gP gM base gV gO : Nat) (hb : Tkb w0 gR gP gM base gV gO) (T : Tk) (w : World) (h : Tks w0 gR gP gM base gV gO T w) :
    Calls Try.prog 48 #[.pointer (some ⟨gR, 0, none⟩), .pointer (some ⟨gM, 0, none⟩), .int .i64 6] w fun x w' => x = .returned (.tuple #[]) ∧ Tks w0 gR gP gM base gV gO (takeF T 6) w' := by
  obtain ⟨e, t, hm, hl, hr, hlow, hB, hv, hO⟩ := h
  have HV := Lib.hid hv
  have HO := Lib.hid hO
  have HM := Lib.hid hm
  have HL := Lib.hid hl
  have HR := Lib.hid hr
  have HW := Lib.hid hlow
  have HB := Lib.hid hB
  have HK := Lib.hid hb
  clear hm hl hr hlow hB hb hv hO
  have C := Lib.hid (pkText gP 32 T.r w HR.out.rd)
  
  have c0 : w.cell? ⟨gR, 0, none⟩ = some (.pointer (some ⟨gP, 0, none⟩)) := HR.out.rdr.at_ 0
  go_enter Try.func48, Try.ntmps48
  go_wp2_with fail
  refine C.out.mono ?_
  rintro x w1 ⟨rfl, hr1, hg1⟩
  have R1 := Lib.hid (HR.out.read hr1 hg1)
  have K1 : Hid (Keeps (RF gR gP) w w1) := Lib.hid (keeps_read hg1)
  clear hr1 hg1 C c0
  have M1 : Hid (Mr.At w1 gM (T.m.raw e t)) := Lib.hid (Whole.keeps HM.out K1.out (fun k => by have := HK.out.mr; have := HK.out.mp; rcases k with k | k <;> omega))
  have L1 := Lib.hid (HL.out.rdr K1.out HK.out.r HK.out.p)
  go_wp2_with (with_reducible refine wpList_put_cell 9 ⟨by kernel_rfl, by kernel_rfl⟩ rfl _ _ rfl gM 8 (by with_unfolding_all exact rfl) (.string ⟨(textO T.r 32).toArray⟩) (by with_unfolding_all exact rfl) (by with_unfolding_all exact rfl) (by with_unfolding_all exact rfl) _ _ M1.out _ (by with_unfolding_all exact rfl) ?_)
  intro w2 q2 x2 z2
  have HF : Hid (Tks w0 gR gP gM base gV gO (takeF T 6) w2) := Lib.hid (Tks.next (T := takeF T 6) (e := e) (t := t) HK.out HV.out HO.out HW.out HB.out K1.out R1.out q2 x2 ⟨L1.out.es, L1.out.its⟩)
  clear q2 x2 z2 M1 L1 K1 R1
  go_wp2
  go_end0
  exact ⟨rfl, HF.out⟩

set_option maxHeartbeats 1000000 in
theorem take_7 (w0 : World) (gR gP gM base gV gO : Nat) (hb : Tkb w0 gR gP gM base gV gO) (T : Tk) (w : World) (h : Tks w0 gR gP gM base gV gO T w) :
    Calls Try.prog 48 #[.pointer (some ⟨gR, 0, none⟩), .pointer (some ⟨gM, 0, none⟩), .int .i64 7] w fun x w' => x = .returned (.tuple #[]) ∧ Tks w0 gR gP gM base gV gO (takeF T 7) w' := by
  obtain ⟨e, t, hm, hl, hr, hlow, hB, hv, hO⟩ := h
  have HV := Lib.hid hv
  have HO := Lib.hid hO
  have HM := Lib.hid hm
  have HL := Lib.hid hl
  have HR := Lib.hid hr
  have HW := Lib.hid hlow
  have HB := Lib.hid hB
  have HK := Lib.hid hb
  clear hm hl hr hlow hB hb hv hO
  have C := Lib.hid (entries_any gR gP T.r T.big T.bad w HR.out)
  
  have c0 : w.cell? ⟨gR, 0, none⟩ = some (.pointer (some ⟨gP, 0, none⟩)) := HR.out.rdr.at_ 0
  go_enter Try.func48, Try.ntmps48
  go_wp2_with fail
  refine C.out.mono ?_
  rintro x w1 ⟨vv, rfl, ho1, hr1, hg1⟩
  obtain ⟨v1, rfl⟩ := raw_of ho1.rows
  have V1 := Lib.hid (ho1.less HB.out)
  have R1 := Lib.hid hr1
  have K1 : Hid (Keeps (RF gR gP) w w1) := Lib.hid hg1
  clear ho1 hr1 hg1 C c0
  have M1 : Hid (Mr.At w1 gM (T.m.raw e t)) := Lib.hid (Whole.keeps HM.out K1.out (fun k => by have := HK.out.mr; have := HK.out.mp; rcases k with k | k <;> omega))
  have L1 := Lib.hid (HL.out.rdr K1.out HK.out.r HK.out.p)
  go_wp2_with (with_reducible refine wpList_put_cell 24 ⟨by kernel_rfl, by kernel_rfl⟩ rfl _ _ rfl gM 9 (by with_unfolding_all exact rfl) (v1.v) (by with_unfolding_all exact rfl) (by with_unfolding_all exact rfl) (by with_unfolding_all exact rfl) _ _ M1.out _ (by with_unfolding_all exact rfl) ?_)
  intro w2 q2 x2 z2
  have HF : Hid (Tks w0 gR gP gM base gV gO (takeF T 7) w2) := Lib.hid (Tks.next (T := takeF T 7) (e := v1) (t := t) HK.out HV.out HO.out HW.out HB.out K1.out R1.out q2 x2 ⟨V1.out, L1.out.its⟩)
  clear q2 x2 z2 M1 L1 K1 R1
  go_wp2
  go_end0
  exact ⟨rfl, HF.out⟩

set_option maxHeartbeats 1000000 in
theorem take_8 (w0 : World) (gR gP gM base gV gO : Nat) (hb : Tkb w0 gR gP gM base gV gO) (T : Tk) (w : World) (h : Tks w0 gR gP gM base gV gO T w) :
    Calls Try.prog 48 #[.pointer (some ⟨gR, 0, none⟩), .pointer (some ⟨gM, 0, none⟩), .int .i64 8] w fun x w' => x = .returned (.tuple #[]) ∧ Tks w0 gR gP gM base gV gO (takeF T 8) w' := by
  obtain ⟨e, t, hm, hl, hr, hlow, hB, hv, hO⟩ := h
  have HV := Lib.hid hv
  have HO := Lib.hid hO
  have HM := Lib.hid hm
  have HL := Lib.hid hl
  have HR := Lib.hid hr
  have HW := Lib.hid hlow
  have HB := Lib.hid hB
  have HK := Lib.hid hb
  clear hm hl hr hlow hB hb hv hO
  have C := Lib.hid (items_any gR gP T.r T.big T.bad w HR.out)
  
  have c0 : w.cell? ⟨gR, 0, none⟩ = some (.pointer (some ⟨gP, 0, none⟩)) := HR.out.rdr.at_ 0
  go_enter Try.func48, Try.ntmps48
  go_wp2_with fail
  refine C.out.mono ?_
  rintro x w1 ⟨vv, rfl, ho1, hr1, hg1⟩
  obtain ⟨v1, rfl⟩ := raw_of ho1.rows
  have V1 := Lib.hid (ho1.less HB.out)
  have R1 := Lib.hid hr1
  have K1 : Hid (Keeps (RF gR gP) w w1) := Lib.hid hg1
  clear ho1 hr1 hg1 C c0
  have M1 : Hid (Mr.At w1 gM (T.m.raw e t)) := Lib.hid (Whole.keeps HM.out K1.out (fun k => by have := HK.out.mr; have := HK.out.mp; rcases k with k | k <;> omega))
  have L1 := Lib.hid (HL.out.rdr K1.out HK.out.r HK.out.p)
  go_wp2_with (with_reducible refine wpList_put_cell 25 ⟨by kernel_rfl, by kernel_rfl⟩ rfl _ _ rfl gM 10 (by with_unfolding_all exact rfl) (v1.v) (by with_unfolding_all exact rfl) (by with_unfolding_all exact rfl) (by with_unfolding_all exact rfl) _ _ M1.out _ (by with_unfolding_all exact rfl) ?_)
  intro w2 q2 x2 z2
  have HF : Hid (Tks w0 gR gP gM base gV gO (takeF T 8) w2) := Lib.hid (Tks.next (T := takeF T 8) (e := e) (t := v1) HK.out HV.out HO.out HW.out HB.out K1.out R1.out q2 x2 ⟨L1.out.es, V1.out⟩)
  clear q2 x2 z2 M1 L1 K1 R1
  go_wp2
  go_end0
  exact ⟨rfl, HF.out⟩

theorem take_any (f : Nat) (hf : f < 9) (w0 : World) (gR gP gM base gV gO : Nat) (hb : Tkb w0 gR gP gM base gV gO) (T : Tk) (w : World) (h : Tks w0 gR gP gM base gV gO T w) :
    Calls Try.prog 48 #[.pointer (some ⟨gR, 0, none⟩), .pointer (some ⟨gM, 0, none⟩), .int .i64 (f : Int)] w fun x w' => x = .returned (.tuple #[]) ∧ Tks w0 gR gP gM base gV gO (takeF T f) w' :=
  match f, hf with
  | 0, _ => take_0 w0 gR gP gM base gV gO hb T w h
  | 1, _ => take_1 w0 gR gP gM base gV gO hb T w h
  | 2, _ => take_2 w0 gR gP gM base gV gO hb T w h
  | 3, _ => take_3 w0 gR gP gM base gV gO hb T w h
  | 4, _ => take_4 w0 gR gP gM base gV gO hb T w h
  | 5, _ => take_5 w0 gR gP gM base gV gO hb T w h
  | 6, _ => take_6 w0 gR gP gM base gV gO hb T w h
  | 7, _ => take_7 w0 gR gP gM base gV gO hb T w h
  | 8, _ => take_8 w0 gR gP gM base gV gO hb T w h
  | n + 9, h => absurd h (by omega)
end Go.Proofs.Ytnjeopgcpffkcaa
