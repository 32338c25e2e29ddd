/- Layer 19's statements: the chapter's example, and a record that is opened (works). api.Head as a structure: its cells, opened, in a block. (Written by tools/mkrec.py.) The document's layer 19: Right, Put. Readers, the package's and the document's: what keeps them. -/
import Derived.Test.YtmnhpkdldeifgaaGreatDoorGbo
import Derived.Lib.SlBytesConst
import Derived.Test.YtmnhpkdldeifgaaGreatDoorGd
import Derived.Test.YtmnhpkdldeifgaaGreatDoorGu
import Derived.Test.YtmnhpkdldeifgaaGreatDoorGf
namespace Go.Proofs.YtmnhpkdldeifgaaGreatDoor
set_option maxRecDepth 100000
open Go.RowKit

def recRoot : List UInt8 := [114, 111, 111, 116]
def recText : List UInt8 := [116, 101, 120, 116]
def recHead : Head := ⟨1, 2, 3, 4⟩
theorem recHead_ok : recHead.Ok := ⟨by decide, by decide, by decide, by decide⟩
theorem recHead_right : headR recHead = true := rfl
theorem recHead_put : headB recHead = [3, 0, 0, 0, 0, 0, 0, 0, 1, 2, 0, 3, 0, 0, 0, 4] := by decide
theorem rectext_conv (w : World) : (convert 25 25 (.slice (some ⟨w.heap.size, 0, none⟩) 4 4)).run Tryz.prog (w.alloc (.cells #[.int .u8 116, .int .u8 101, .int .u8 120, .int .u8 116] 5)) =
    .ok (.slice (some ⟨w.heap.size, 0, none⟩) 4 4) (w.alloc (.cells #[.int .u8 116, .int .u8 101, .int .u8 120, .int .u8 116] 5 (4, 5))) :=
  Lib.run_convert_bytes_const w 25 5 _ 4 4 Tryz.underlying25 Tryz.underlying5
theorem rectext_lit (w : World) : BytesAt (w.alloc (.cells #[.int .u8 116, .int .u8 101, .int .u8 120, .int .u8 116] 5 (4, 5))) (.slice (some ⟨w.heap.size, 0, none⟩) 4 4) recText := by
  refine ⟨_, _, rfl, Nat.le_refl _, fun _ => ⟨_, rfl, fun j c hj => ?_⟩⟩
  have ha : (⟨w.heap.size, 0, none⟩ : Addr).add j = ⟨w.heap.size, j, none⟩ := by unfold Addr.add; split <;> simp_all
  rw [ha, cell_of_row _ _ j _ _ _ (heap_alloc_new w _)]
  have e : (#[.int .u8 116, .int .u8 101, .int .u8 120, .int .u8 116] : Array Value) = (bv recText).toArray := rfl
  rw [e]
  simp [bv, hj]

set_option maxRecDepth 100000 in
set_option maxHeartbeats 2000000 in
theorem works19 (w : World) (T : Tab w) (PW : PowT w) :
    Calls Tryz.prog 5 #[] w fun e w' => e = .returned (.bool true) ∧ Below w.heap.size w w' := by
  have T0 := Lib.hid T
  have P0 := Lib.hid PW
  obtain ⟨k1, k2, k3⟩ := open_seal (root := recRoot) (text := recText) recHead_right recHead_ok.id_ok (by decide)
  have CS := fun v w h T PW => Lib.hid (show Calls Tryz.prog 6 #[.string ⟨#[114, 111, 111, 116]⟩, recHead.val, v] w fun e w' => ∃ v', e = .returned (.tuple #[v', .int .i64 0]) ∧ BytesAt w' v' (sealR recRoot recHead recText) ∧ Below w.heap.size w w' from
    (rcSeal_any recRoot recHead recHead_ok v recText w (by decide) h T PW).mono fun _ _ ⟨v', he, ⟨hb, _⟩, hw⟩ => ⟨v', he, hb, hw⟩)
  have CO := fun v w h T PW => rcOpen_any recRoot (sealR recRoot recHead recText) v w (by decide) h T PW
  simp only [k1, k2, k3] at CO
  replace CO := fun v w h T PW => Lib.hid (show Calls Tryz.prog 8 #[.string ⟨#[114, 111, 111, 116]⟩, v] w fun e w' => ∃ v', e = .returned (.tuple #[recHead.val, v', .int .i64 0]) ∧ BytesAt w' v' recText ∧ Below w.heap.size w w' from CO v w h T PW)
  have CP := fun w => rcPut_any recHead w
  simp only [recHead_put] at CP
  replace CP := fun w => Lib.hid (CP w)
  have CR := fun w => rcRight_any recHead recHead_ok.id_ok w
  simp only [recHead_right] at CR
  replace CR := fun w => Lib.hid (CR w)
  have CZ := fun w => Lib.hid (show Calls Tryz.prog 11 #[Head.zero.val] w fun e w' => e = .returned (.bool false) ∧ Below w.heap.size w w' from rcRight_any Head.zero (by decide) w)
  generalize sealR recRoot recHead recText = S at *
  have ET : Hid (recText = [116, 101, 120, 116]) := Lib.hid rfl
  clear T PW k1 k2 k3
  go_enter Tryz.func5, Tryz.ntmps5
  go_wp2_with (refine wpList_alloc_row rfl 24 rfl Head.zero.enc.toArray Head.zero_is ?_)
  intro w1 b1 x1 z1
  obtain ⟨gE, hgE⟩ : ∃ g, g = w.heap.size := ⟨_, rfl⟩
  have M_E := Lib.hid (show w.heap.size ≤ gE from by rw [hgE]; exact Nat.le_refl _)
  have B1 := Lib.hid b1
  rw [← hgE] at x1 ⊢
  have E1 : Hid (Head.At w1 gE Head.zero) := Lib.hid x1
  clear b1 x1 z1 hgE 
  go_wp2_with (first | (with_reducible refine wpList_load_whole Head.isRec rfl _ rfl gE (by with_unfolding_all exact rfl) _ _ (Head.len _) E1.out ?_) | (with_reducible refine wpList_store_whole rfl 24 _ _ rfl gE recHead.enc.toArray (by with_unfolding_all exact rfl) (by with_unfolding_all exact rfl) _ _ E1.out (Head.size _) rfl (Head.one _) ?_))
  intro w2 q2 x2 z2
  have E2 : Hid (Head.At w2 gE recHead) := Lib.hid x2
  have B2 := Lib.hid (B1.out.grown q2 B1.out.size (fun k hk => by injection hk with hk; have := M_E.out; omega))
  clear q2 x2 z2 E1 B1
  have EE := Lib.hid (E2.out)
  have rL := rectext_conv w2
  have y3 := rectext_lit w2
  have b3 : Below w2.heap.size w2 (w2.alloc (.cells #[.int .u8 116, .int .u8 101, .int .u8 120, .int .u8 116] 5 (4, 5))) := (Below.refl _ _).alloc (Nat.le_refl _) _
  have E3 : Hid (Head.At (w2.alloc (.cells #[.int .u8 116, .int .u8 101, .int .u8 120, .int .u8 116] 5 (4, 5))) gE recHead) := Lib.hid (Whole.below E2.out b3 E2.out.lt)
  have B3 := Lib.hid (B2.out.trans (b3.mono B2.out.size))
  have L3 : Hid (BytesAt (w2.alloc (.cells #[.int .u8 116, .int .u8 101, .int .u8 120, .int .u8 116] 5 (4, 5))) (.slice (some ⟨w2.heap.size, 0, none⟩) 4 4) recText) := Lib.hid y3
  clear b3 y3 E2 B2
  go_wp2_with (first | (with_reducible refine wpList_load_whole Head.isRec rfl _ rfl gE (by with_unfolding_all exact rfl) _ _ (Head.len _) E3.out ?_) | (with_reducible refine wpList_load_whole Head.isRec rfl _ rfl gE (by with_unfolding_all exact rfl) _ _ (Head.len _) EE.out ?_))
  refine ((CS _ (w2.alloc (.cells #[.int .u8 116, .int .u8 101, .int .u8 120, .int .u8 116] 5 (4, 5))) L3.out (T0.out.below B3.out T0.out.pos) (P0.out.below B3.out)).out).mono ?_
  rintro e4 w4 ⟨v2, rfl, y2, b4⟩
  have E4 : Hid (Head.At w4 gE recHead) := Lib.hid (Whole.below E3.out b4 E3.out.lt)
  have L4 : Hid (BytesAt w4 (.slice (some ⟨w2.heap.size, 0, none⟩) 4 4) recText) := Lib.hid (L3.out.below b4)
  have B4 := Lib.hid (B3.out.trans (b4.mono B3.out.size))
  have S4 : Hid (BytesAt w4 v2 S) := Lib.hid y2
  clear b4 E3 L3 B3 y2
  clear rL EE CS
  clear L4
  go_wp2_with (with_reducible refine wpList_load_whole Head.isRec rfl _ rfl gE (by with_unfolding_all exact rfl) _ _ (Head.len _) E4.out ?_)
  refine ((CO v2 w4 S4.out (T0.out.below B4.out T0.out.pos) (P0.out.below B4.out)).out).mono ?_
  rintro e5 w5 ⟨v3, rfl, y3, b5⟩
  have E5 : Hid (Head.At w5 gE recHead) := Lib.hid (Whole.below E4.out b5 E4.out.lt)
  have S5 : Hid (BytesAt w5 v2 S) := Lib.hid (S4.out.below b5)
  have B5 := Lib.hid (B4.out.trans (b5.mono B4.out.size))
  have Q5 : Hid (BytesAt w5 v3 recText) := Lib.hid y3
  clear b5 E4 S4 B4 y3
  clear CO
  clear S5
  rw [ET.out] at Q5
  have D5 : Hid (Since w5 w5) := Lib.hid (⟨Below.refl _ _⟩)
  have Q0 := Q5
  clear Q5
  go_wp2_with (first | (with_reducible refine wpList_load_whole Head.isRec rfl _ rfl gE (by with_unfolding_all exact rfl) _ _ (Head.len _) E5.out ?_) | (refine wpList_alloc_row rfl 24 rfl Head.zero.enc.toArray Head.zero_is ?_))
  intro w6 b6 x6 z6
  obtain ⟨gK, hgK⟩ : ∃ g, g = w5.heap.size := ⟨_, rfl⟩
  have N_E_K := Lib.hid (show gE < gK from by rw [hgK]; exact E5.out.lt)
  have L_D_K := Lib.hid (show w5.heap.size ≤ gK from by rw [hgK]; exact D5.out.b.size)
  have M_K := Lib.hid (show w.heap.size ≤ gK from by rw [hgK]; exact B5.out.size)
  have E6 : Hid (Head.At w6 gE recHead) := Lib.hid (Whole.below E5.out b6 E5.out.lt)
  have D6 : Hid (Since w5 w6) := Lib.hid (D5.out.below b6)
  have B6 := Lib.hid (B5.out.trans (b6.mono B5.out.size))
  rw [← hgK] at x6 ⊢
  have K6 : Hid (Head.At w6 gK Head.zero) := Lib.hid x6
  clear b6 x6 z6 hgK E5 D5 B5
  go_wp2_with (first | (with_reducible refine wpList_load_whole Head.isRec rfl _ rfl gE (by with_unfolding_all exact rfl) _ _ (Head.len _) E6.out ?_) | (with_reducible refine wpList_load_whole Head.isRec rfl _ rfl gK (by with_unfolding_all exact rfl) _ _ (Head.len _) K6.out ?_) | (with_reducible refine wpList_store_whole rfl 24 _ _ rfl gK recHead.enc.toArray (by with_unfolding_all exact rfl) (by with_unfolding_all exact rfl) _ _ K6.out (Head.size _) rfl (Head.one _) ?_))
  intro w7 q7 x7 z7
  have K7 : Hid (Head.At w7 gK recHead) := Lib.hid x7
  have E7 : Hid (Head.At w7 gE recHead) := Lib.hid (grown_far E6.out q7 (by have := N_E_K.out; omega))
  have D7 : Hid (Since w5 w7) := Lib.hid (D6.out.far q7 L_D_K.out)
  have B7 := Lib.hid (B6.out.grown q7 B6.out.size (fun k hk => by injection hk with hk; have := M_K.out; omega))
  clear q7 x7 z7 K6 E6 D6 B6
  go_wp2_with (first | (with_reducible refine wpList_load_whole Head.isRec rfl _ rfl gE (by with_unfolding_all exact rfl) _ _ (Head.len _) E7.out ?_) | (with_reducible refine wpList_load_whole Head.isRec rfl _ rfl gK (by with_unfolding_all exact rfl) _ _ (Head.len _) K7.out ?_))
  refine ((CP w7).out).mono ?_
  rintro e8 w8 ⟨vp, rfl, yp, b8⟩
  have E8 : Hid (Head.At w8 gE recHead) := Lib.hid (Whole.below E7.out b8 E7.out.lt)
  have D8 : Hid (Since w5 w8) := Lib.hid (D7.out.below b8)
  have K8 : Hid (Head.At w8 gK recHead) := Lib.hid (Whole.below K7.out b8 K7.out.lt)
  have B8 := Lib.hid (B7.out.trans (b8.mono B7.out.size))
  have P8 : Hid (BytesAt w8 vp [3, 0, 0, 0, 0, 0, 0, 0, 1, 2, 0, 3, 0, 0, 0, 4]) := Lib.hid yp
  clear b8 E7 D7 K7 B7 yp
  have rp := conv_bytes P8.out
  go_wp2_with (first | (with_reducible refine wpList_load_whole Head.isRec rfl _ rfl gE (by with_unfolding_all exact rfl) _ _ (Head.len _) E8.out ?_) | (with_reducible refine wpList_load_whole Head.isRec rfl _ rfl gK (by with_unfolding_all exact rfl) _ _ (Head.len _) K8.out ?_) | (with_reducible refine wpList_load_whole_w Head.isRec (by kernel_rfl) _ rfl gE (by with_unfolding_all exact rfl) _ _ (Head.len _) E8.out ?_))
  refine ((CR w8).out).mono ?_
  rintro e9 w9 ⟨rfl, b9⟩
  have E9 : Hid (Head.At w9 gE recHead) := Lib.hid (Whole.below E8.out b9 E8.out.lt)
  have D9 : Hid (Since w5 w9) := Lib.hid (D8.out.below b9)
  have K9 : Hid (Head.At w9 gK recHead) := Lib.hid (Whole.below K8.out b9 K8.out.lt)
  have P9 : Hid (BytesAt w9 vp [3, 0, 0, 0, 0, 0, 0, 0, 1, 2, 0, 3, 0, 0, 0, 4]) := Lib.hid (P8.out.below b9)
  have B9 := Lib.hid (B8.out.trans (b9.mono B8.out.size))
  clear b9 E8 D8 K8 P8 B8
  clear rp CP CR
  clear P9
  go_wp2_with (first | (with_reducible refine wpList_load_whole Head.isRec rfl _ rfl gE (by with_unfolding_all exact rfl) _ _ (Head.len _) E9.out ?_) | (with_reducible refine wpList_load_whole Head.isRec rfl _ rfl gK (by with_unfolding_all exact rfl) _ _ (Head.len _) K9.out ?_))
  refine ((CZ w9).out).mono ?_
  rintro e10 w10 ⟨rfl, b10⟩
  have E10 : Hid (Head.At w10 gE recHead) := Lib.hid (Whole.below E9.out b10 E9.out.lt)
  have D10 : Hid (Since w5 w10) := Lib.hid (D9.out.below b10)
  have K10 : Hid (Head.At w10 gK recHead) := Lib.hid (Whole.below K9.out b10 K9.out.lt)
  have B10 := Lib.hid (B9.out.trans (b10.mono B9.out.size))
  clear b10 E9 D9 K9 B9
  have rq := conv_bytes (Q0.out.below D10.out.b)
  go_wp2_with (first | (with_reducible refine wpList_load_whole_w Head.isRec (by kernel_rfl) _ rfl gK (by with_unfolding_all exact rfl) _ _ (Head.len _) K10.out ?_) | (with_reducible refine wpList_load_whole_w Head.isRec (by kernel_rfl) _ rfl gE (by with_unfolding_all exact rfl) _ _ (Head.len _) E10.out ?_) | (with_reducible refine wpList_eq_rec_w Head.isRec (by kernel_rfl) _ _ rfl recHead.enc recHead.enc (Head.fits _) (Head.fits _) (by with_unfolding_all exact rfl) (by with_unfolding_all exact rfl) true (eqCells_refl (Head.fits _)).symm ?_))
  go_ret
  exact ⟨rfl, B10.out⟩
end Go.Proofs.YtmnhpkdldeifgaaGreatDoor

namespace Go.Proofs.YtmnhpkdldeifgaaGreatDoor
set_option maxRecDepth 100000
open Go.RowKit Go.ChangeShapes Go.WideShapes Go.ChangeAt

abbrev Heaf := Head
namespace Heaf
abbrev enc (x : Heaf) : List Value := Head.enc x
abbrev ks : List CK := Head.ks
abbrev val (x : Heaf) : Value := .agg (enc x).toArray
theorem len (x : Heaf) : (enc x).length = 4 := rfl
theorem fits (x : Heaf) : Fits ks (enc x) := Head.fits x
theorem one (x : Heaf) : (enc x).toArray.all (·.oneCell') = true := Head.one x
theorem isRec : Rec Tryz.prog 32 ks := ⟨by kernel_rfl, by kernel_rfl, by kernel_rfl⟩
theorem size (x : Heaf) : (Tryz.prog.info? 32).map (·.size) = some (enc x).toArray.size := by
  have h : (Tryz.prog.info? 32).map (·.size) = some 4 := by kernel_rfl
  exact h
abbrev zero : Heaf := Head.zero
theorem zero_is : (Tryz.prog.info? 32).map (·.zero) = some (some (.agg (enc zero).toArray)) := by kernel_rfl
theorem same (x y : Heaf) : eqCells (enc x) (enc y) = decide (x = y) := Head.same x y
theorem eq_run (x y : Heaf) (w : World) : (binOp .eql 32 (val x) (val y)).run Tryz.prog w = .ok (.bool (decide (x = y))) w := by
  rw [← same]
  exact run_eq_rec isRec _ _ (fits x) (fits y) w
/-- In a block. -/
abbrev At (w : World) (g : Nat) (x : Heaf) : Prop := Whole w g 32 (enc x).toArray
theorem At.cells {w : World} {g : Nat} {x : Heaf} (h : At w g x) : w.cell? ⟨g, 0, none⟩ = some (.int .u64 (x.id : Int)) ∧ w.cell? ⟨g, 1, none⟩ = some (.int .i64 x.role) ∧ w.cell? ⟨g, 2, none⟩ = some (.int .i64 x.epoch) ∧ w.cell? ⟨g, 3, none⟩ = some (.int .i64 x.seq) :=
  ⟨h.at_ 0, h.at_ 1, h.at_ 2, h.at_ 3⟩
theorem At.at_id {w : World} {g : Nat} {x : Heaf} (h : At w g x) : w.cell? ⟨g, 0, none⟩ = some (.int .u64 (x.id : Int)) := h.at_ 0
theorem At.at_role {w : World} {g : Nat} {x : Heaf} (h : At w g x) : w.cell? ⟨g, 1, none⟩ = some (.int .i64 x.role) := h.at_ 1
theorem At.at_epoch {w : World} {g : Nat} {x : Heaf} (h : At w g x) : w.cell? ⟨g, 2, none⟩ = some (.int .i64 x.epoch) := h.at_ 2
theorem At.at_seq {w : World} {g : Nat} {x : Heaf} (h : At w g x) : w.cell? ⟨g, 3, none⟩ = some (.int .i64 x.seq) := h.at_ 3
theorem At.set_id {w : World} {g : Nat} {x : Heaf} (h : At w g x) (v : Nat) : At (w.setCell ⟨g, 0, none⟩ (.int .u64 (v : Int))) g { x with id := v } := h.stored 0 _
theorem At.set_role {w : World} {g : Nat} {x : Heaf} (h : At w g x) (v : Int) : At (w.setCell ⟨g, 1, none⟩ (.int .i64 v)) g { x with role := v } := h.stored 1 _
theorem At.set_epoch {w : World} {g : Nat} {x : Heaf} (h : At w g x) (v : Int) : At (w.setCell ⟨g, 2, none⟩ (.int .i64 v)) g { x with epoch := v } := h.stored 2 _
theorem At.set_seq {w : World} {g : Nat} {x : Heaf} (h : At w g x) (v : Int) : At (w.setCell ⟨g, 3, none⟩ (.int .i64 v)) g { x with seq := v } := h.stored 3 _
end Heaf
end Go.Proofs.YtmnhpkdldeifgaaGreatDoor

namespace Go.Proofs.YtmnhpkdldeifgaaGreatDoor
set_option maxRecDepth 100000
open Go.RowKit

set_option maxRecDepth 100000 in
set_option maxHeartbeats 2000000 in
theorem rgRight_any (h : Head) (w : World) :
    Calls Tryz.prog 15 #[Heaf.val h] w fun e w' => e = .returned (.bool (headR h)) ∧ Below w.heap.size w w' := by
  have HE := Lib.hid (fun q => headR_true (h := h) q)
  have HE2 := Lib.hid (fun q => headR_false (h := h) q)
  obtain ⟨X, hX⟩ : ∃ X, X = headR h := ⟨_, rfl⟩
  rw [← hX] at HE HE2 ⊢
  clear hX
  go_enter Tryz.func15, Tryz.ntmps15
  go_wp2_with (refine wpList_box_row rfl 32 _ rfl (Heaf.enc h).toArray (by with_unfolding_all exact rfl) ?_)
  intro w1 b1 x1 z1
  obtain ⟨gX, hgX⟩ : ∃ g, g = w.heap.size := ⟨_, rfl⟩
  have M_X := Lib.hid (show w.heap.size ≤ gX from by rw [hgX]; exact Nat.le_refl _)
  have B1 := Lib.hid b1
  rw [← hgX] at x1 ⊢
  have X1 : Hid (Heaf.At w1 gX h) := Lib.hid x1
  clear b1 x1 z1 hgX 
  obtain ⟨c0, c1, c2, c3⟩ := Heaf.At.cells X1.out
  by_cases i0 : 0 < h.id
  · by_cases r1 : h.role = 1
    · have e1 : (h.role == 1) = true := by simpa using r1
      by_cases k0 : 0 ≤ h.epoch
      · by_cases k1 : h.epoch < 65536
        · by_cases k2 : 0 < h.seq
          · by_cases k3 : h.seq ≤ 4096
            · have HF : Hid (X = true) := Lib.hid (by cases X with | true => rfl | false => exact absurd (show _ by omega) (HE2.out rfl))
              clear HE HE2
              go_wp2
              go_ret
              exact ⟨by rw [HF.out]; rfl, B1.out⟩
            · have HF : Hid (X = false) := Lib.hid (by cases X with | false => rfl | true => exact absurd (HE.out rfl) (by omega))
              clear HE HE2
              go_wp2
              go_ret
              exact ⟨by rw [HF.out]; rfl, B1.out⟩
          · have HF : Hid (X = false) := Lib.hid (by cases X with | false => rfl | true => exact absurd (HE.out rfl) (by omega))
            clear HE HE2
            go_wp2
            go_ret
            exact ⟨by rw [HF.out]; rfl, B1.out⟩
        · have HF : Hid (X = false) := Lib.hid (by cases X with | false => rfl | true => exact absurd (HE.out rfl) (by omega))
          clear HE HE2
          go_wp2
          go_ret
          exact ⟨by rw [HF.out]; rfl, B1.out⟩
      · have HF : Hid (X = false) := Lib.hid (by cases X with | false => rfl | true => exact absurd (HE.out rfl) (by omega))
        clear HE HE2
        go_wp2
        go_ret
        exact ⟨by rw [HF.out]; rfl, B1.out⟩
    · have e1 : (h.role == 1) = false := by simpa using r1
      by_cases r2 : h.role = 2
      · have e2 : (h.role == 2) = true := by simpa using r2
        by_cases k0 : 0 ≤ h.epoch
        · by_cases k1 : h.epoch < 65536
          · by_cases k2 : 0 < h.seq
            · by_cases k3 : h.seq ≤ 4096
              · have HF : Hid (X = true) := Lib.hid (by cases X with | true => rfl | false => exact absurd (show _ by omega) (HE2.out rfl))
                clear HE HE2
                go_wp2
                go_ret
                exact ⟨by rw [HF.out]; rfl, B1.out⟩
              · have HF : Hid (X = false) := Lib.hid (by cases X with | false => rfl | true => exact absurd (HE.out rfl) (by omega))
                clear HE HE2
                go_wp2
                go_ret
                exact ⟨by rw [HF.out]; rfl, B1.out⟩
            · have HF : Hid (X = false) := Lib.hid (by cases X with | false => rfl | true => exact absurd (HE.out rfl) (by omega))
              clear HE HE2
              go_wp2
              go_ret
              exact ⟨by rw [HF.out]; rfl, B1.out⟩
          · have HF : Hid (X = false) := Lib.hid (by cases X with | false => rfl | true => exact absurd (HE.out rfl) (by omega))
            clear HE HE2
            go_wp2
            go_ret
            exact ⟨by rw [HF.out]; rfl, B1.out⟩
        · have HF : Hid (X = false) := Lib.hid (by cases X with | false => rfl | true => exact absurd (HE.out rfl) (by omega))
          clear HE HE2
          go_wp2
          go_ret
          exact ⟨by rw [HF.out]; rfl, B1.out⟩
      · have e2 : (h.role == 2) = false := by simpa using r2
        have HF : Hid (X = false) := Lib.hid (by cases X with | false => rfl | true => exact absurd (HE.out rfl) (by omega))
        clear HE HE2
        go_wp2
        go_ret
        exact ⟨by rw [HF.out]; rfl, B1.out⟩
  · have HF : Hid (X = false) := Lib.hid (by cases X with | false => rfl | true => exact absurd (HE.out rfl) (by omega))
    clear HE HE2
    go_wp2
    go_ret
    exact ⟨by rw [HF.out]; rfl, B1.out⟩

theorem rgNum_b (v : Value) (l : List UInt8) (x size : Nat) (w : World) (h : BytesAt w v l) (h1 : 1 ≤ size) (h8 : size ≤ 8) (hl : l.length ≤ 3000) (hx : x < 18446744073709551616) :
    Calls Tryz.prog 39 #[v, .int .u64 (x : Int), .int .i64 (size : Int)] w fun e w' => ∃ v', e = .returned v' ∧ w'.ownsRow w.heap.size 5 1 v' (l ++ be size x).length (bv (l ++ be size x)) ∧ Below w.heap.size w w' := by
  have h0 := h
  obtain ⟨A, cap, rfl, -, -⟩ := h0
  exact ref_num_put A l cap x size w h h1 h8 hl hx
theorem rgNum_at (v : Value) (l : List UInt8) (x size : Nat) (w : World) (h : BytesAt w v l) (h1 : 1 ≤ size) (h8 : size ≤ 8) (hl : l.length ≤ 3000) (hx : x < 18446744073709551616) :
    Calls Tryz.prog 39 #[v, .int .u64 (x : Int), .int .i64 (size : Int)] w fun e w' => ∃ v', e = .returned v' ∧ BytesAt w' v' (l ++ be size x) ∧ Below w.heap.size w w' :=
  (rgNum_b v l x size w h h1 h8 hl hx).mono fun _ _ ⟨v', he, ho, hb⟩ => ⟨v', he, BytesAt.of_own ho, hb⟩

set_option maxRecDepth 100000 in
set_option maxHeartbeats 1000000 in
theorem rgPut_any (h : Head) (hi : h.id < 18446744073709551616) (w : World) :
    Calls Tryz.prog 19 #[Heaf.val h] w fun e w' => ∃ v', e = .returned v' ∧ w'.ownsRow w.heap.size 5 1 v' (headB h).length (bv (headB h)) ∧ Below w.heap.size w w' := by
  have r1 := uN_wrap h.role
  have r2 := uN_wrap h.epoch
  have r3 := uN_wrap h.seq
  have HI := Lib.hid (And.intro hi (And.intro (uN_lt h.role) (And.intro (uN_lt h.epoch) (uN_lt h.seq))))
  have HD : Hid ([3] ++ be 8 h.id ++ be 1 (uN h.role) ++ be 2 (uN h.epoch) ++ be 4 (uN h.seq) = headB h) := Lib.hid rfl
  generalize uN h.role = n1 at *
  generalize uN h.epoch = n2 at *
  generalize uN h.seq = n3 at *
  generalize headB h = H at *
  clear hi
  go_enter Tryz.func19, Tryz.ntmps19
  go_wp2_with (refine wpList_box_row rfl 32 _ rfl (Heaf.enc h).toArray (by with_unfolding_all exact rfl) ?_)
  intro w1 b1 x1 z1
  obtain ⟨gX, hgX⟩ : ∃ g, g = w.heap.size := ⟨_, rfl⟩
  have M_X := Lib.hid (show w.heap.size ≤ gX from by rw [hgX]; exact Nat.le_refl _)
  have B1 := Lib.hid b1
  rw [← hgX] at x1 ⊢
  have X1 : Hid (Heaf.At w1 gX h) := Lib.hid x1
  clear b1 x1 z1 hgX 
  have bl : Below w1.heap.size w1 (w1.alloc (.cells #[.int .u8 3] 5)) := (Below.refl _ _).alloc (Nat.le_refl _) _
  obtain ⟨c0, c1, c2, c3⟩ := Heaf.At.cells (show Heaf.At (w1.alloc (.cells #[.int .u8 3] 5)) gX h from Whole.below X1.out bl X1.out.lt)
  have C := Lib.hid (rgNum_b _ [3] h.id 8 _ (BytesAt.lit w1 [3] #[.int .u8 3] rfl) (by decide) (by decide) (by decide) HI.out.1)
  have XL := Lib.hid (show Heaf.At (w1.alloc (.cells #[.int .u8 3] 5)) gX h from Whole.below X1.out bl X1.out.lt)
  have BL := Lib.hid (B1.out.trans (bl.mono B1.out.size))
  clear bl c1 c2 c3
  go_wp2_with fail
  refine C.out.mono ?_
  rintro e v1 ⟨s1, rfl, o1, b1⟩
  have Y1 := Lib.hid (BytesAt.of_own o1)
  have XX1 := Lib.hid (show Heaf.At v1 gX h from Whole.below XL.out b1 XL.out.lt)
  have D1 := Lib.hid (BL.out.trans (b1.mono BL.out.size))
  clear o1 b1 C XL BL c0 X1 B1
  have c1 := Heaf.At.at_role XX1.out
  go_wp2_with (with_reducible refine wpList_load_whole Heaf.isRec rfl _ rfl gX (by with_unfolding_all exact rfl) _ _ (Heaf.len _) XX1.out ?_)
  refine ((rgNum_at s1 ([3] ++ be 8 h.id) n1 1 v1 Y1.out (by decide) (by decide) (by simp [be_length]) HI.out.2.1)).mono ?_
  rintro e2 w2 ⟨s2, rfl, o2, b2⟩
  have X2 : Hid (Heaf.At w2 gX h) := Lib.hid (Whole.below XX1.out b2 XX1.out.lt)
  have B2 := Lib.hid (D1.out.trans (b2.mono D1.out.size))
  have Y2 : Hid (BytesAt w2 s2 ([3] ++ be 8 h.id ++ be 1 n1)) := Lib.hid o2
  clear b2 XX1 D1 o2
  clear c1 Y1
  have c2 := Heaf.At.at_epoch X2.out
  go_wp2_with (with_reducible refine wpList_load_whole Heaf.isRec rfl _ rfl gX (by with_unfolding_all exact rfl) _ _ (Heaf.len _) X2.out ?_)
  refine ((rgNum_at s2 ([3] ++ be 8 h.id ++ be 1 n1) n2 2 w2 Y2.out (by decide) (by decide) (by simp [be_length]) HI.out.2.2.1)).mono ?_
  rintro e3 w3 ⟨s3, rfl, o3, b3⟩
  have X3 : Hid (Heaf.At w3 gX h) := Lib.hid (Whole.below X2.out b3 X2.out.lt)
  have Y3 : Hid (BytesAt w3 s2 ([3] ++ be 8 h.id ++ be 1 n1)) := Lib.hid (Y2.out.below b3)
  have B3 := Lib.hid (B2.out.trans (b3.mono B2.out.size))
  have Z3 : Hid (BytesAt w3 s3 ([3] ++ be 8 h.id ++ be 1 n1 ++ be 2 n2)) := Lib.hid o3
  clear b3 X2 Y2 B2 o3
  clear Y3
  clear c2
  have c3 := Heaf.At.at_seq X3.out
  have SB := Lib.hid B3.out.size
  go_wp2_with fail
  refine (rgNum_b s3 ([3] ++ be 8 h.id ++ be 1 n1 ++ be 2 n2) n3 4 w3 Z3.out (by decide) (by decide) (by simp [be_length]) HI.out.2.2.2).mono ?_
  rintro e v5 ⟨s5, rfl, o5, b5⟩
  rw [HD.out] at o5
  have O5 := Lib.hid (own_less o5 SB.out)
  have D5 := Lib.hid (B3.out.trans (b5.mono B3.out.size))
  clear o5 b5 c3
  go_wp2
  go_ret
  exact ⟨_, rfl, O5.out, D5.out⟩
end Go.Proofs.YtmnhpkdldeifgaaGreatDoor

namespace Go.Proofs.YtmnhpkdldeifgaaGreatDoor
set_option maxRecDepth 100000
open Go.RowKit

theorem RfS.apart {w w' : World} {g h : Nat} {A : Option Addr} {cap : Nat} {b : List UInt8} {s : RS} (H : RfS w g A cap b s) (hg : w.grownBy w' (some h)) (hn : g ≠ h) (hA : b ≠ [] → ∀ ad, A = some ad → ad.block ≠ h) : RfS w' g A cap b s := by
  obtain ⟨p, hr, hp, hl, ho, hB, hA'⟩ := H
  exact ⟨p, Whole.grown hr hg (fun e => hn (by injection e)), hp, hl, ho, RfS.kept hB hA hg, hA'⟩
theorem RfS.belowR {w w' : World} {g : Nat} {A : Option Addr} {cap : Nat} {b : List UInt8} {s : RS} (H : RfS w g A cap b s) (hb : Below w.heap.size w w') : RfS w' g A cap b s := by
  obtain ⟨p, hr, hp, hl, ho, hB, hA⟩ := H
  exact ⟨p, Whole.below hr hb (Whole.lt hr), hp, hl, ho, hB.below hb, hA⟩
theorem RdS.belowR {w w' : World} {g : Nat} {s : RS} (H : RdS w g s) (hb : Below w.heap.size w w') : RdS w' g s := ⟨Whole.below H.1 hb (Whole.lt H.1), H.2⟩
theorem RdS.apart {w w' : World} {g h : Nat} {s : RS} (H : RdS w g s) (hg : w.grownBy w' (some h)) (hn : g ≠ h) : RdS w' g s := ⟨Whole.grown H.1 hg (fun e => hn (by injection e)), H.2⟩
end Go.Proofs.YtmnhpkdldeifgaaGreatDoor
