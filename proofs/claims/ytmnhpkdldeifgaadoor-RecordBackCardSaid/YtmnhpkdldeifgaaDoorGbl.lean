/- What changed since a world: new blocks alone, and those that came behind it. Layer 19's statements: the chapter's example, and a record that is opened (works). Tables out of what a card lists of package-level variables: powers of ten, digest's constants. What layer 18's cards list of package-level variables: the door's own heap meets it; the two tables out of it. -/
import Derived.Test.YtmnhpkdldeifgaaDoorGa
import Derived.Test.YtmnhpkdldeifgaaDoorGbk
import Derived.Lib.SlBytesConst
import Derived.Test.YtmnhpkdldeifgaaDoorGu
import Derived.Test.YtmnhpkdldeifgaaDoorGq
import Derived.Test.YtmnhpkdldeifgaaDoorTie
import Derived.Test.YtmnhpkdldeifgaaDoorCards
import Derived.Lib.LaidTab
import Derived.LaidMore
import Derived.Stop.Joined
import Derived.Stop.LaidErr
import Derived.SevenTiedAt
namespace Go.Proofs.YtmnhpkdldeifgaaDoor
set_option maxRecDepth 100000
open Go.RowKit

/-- What changed since a world: blocks that came later alone. -/
structure Since (w0 w : World) : Prop where
  b : Below w0.heap.size w0 w
theorem Since.below {w0 w w' : World} (h : Since w0 w) (b : Below w.heap.size w w') : Since w0 w' := ⟨h.b.trans (b.mono h.b.size)⟩
theorem Since.far {w0 w w' : World} {g : Nat} (h : Since w0 w) (q : w.grownBy w' (some g)) (hg : w0.heap.size ≤ g) : Since w0 w' := ⟨h.b.grown q h.b.size (fun k hk => by injection hk with hk; omega)⟩
end Go.Proofs.YtmnhpkdldeifgaaDoor

namespace Go.Proofs.YtmnhpkdldeifgaaDoor
set_option maxRecDepth 100000
open Go.RowKit

def recRoot : List UInt8 := [114, 111, 111, 116]
def recText : List UInt8 := [116, 101, 120, 116]
def recHead : Head := ⟨1, 2, 3, 4⟩
theorem recHead_ok : recHead.Ok := ⟨by decide, by decide, by decide, by decide⟩
theorem recHead_right : headR recHead = true := rfl
theorem recHead_put : headB recHead = [3, 0, 0, 0, 0, 0, 0, 0, 1, 2, 0, 3, 0, 0, 0, 4] := by decide
theorem rectext_conv (w : World) : (convert 25 25 (.slice (some ⟨w.heap.size, 0, none⟩) 4 4)).run Tryd.prog (w.alloc (.cells #[.int .u8 116, .int .u8 101, .int .u8 120, .int .u8 116] 5)) =
    .ok (.slice (some ⟨w.heap.size, 0, none⟩) 4 4) (w.alloc (.cells #[.int .u8 116, .int .u8 101, .int .u8 120, .int .u8 116] 5 (4, 5))) :=
  Lib.run_convert_bytes_const w 25 5 _ 4 4 Tryd.underlying25 Tryd.underlying5
theorem rectext_lit (w : World) : BytesAt (w.alloc (.cells #[.int .u8 116, .int .u8 101, .int .u8 120, .int .u8 116] 5 (4, 5))) (.slice (some ⟨w.heap.size, 0, none⟩) 4 4) recText := by
  refine ⟨_, _, rfl, Nat.le_refl _, fun _ => ⟨_, rfl, fun j c hj => ?_⟩⟩
  have ha : (⟨w.heap.size, 0, none⟩ : Addr).add j = ⟨w.heap.size, j, none⟩ := by unfold Addr.add; split <;> simp_all
  rw [ha, cell_of_row _ _ j _ _ _ (heap_alloc_new w _)]
  have e : (#[.int .u8 116, .int .u8 101, .int .u8 120, .int .u8 116] : Array Value) = (bv recText).toArray := rfl
  rw [e]
  simp [bv, hj]

set_option maxRecDepth 100000 in
set_option maxHeartbeats 2000000 in
theorem works19 (w : World) (T : Tab w) (PW : PowT w) :
    Calls Tryd.prog 5 #[] w fun e w' => e = .returned (.bool true) ∧ Below w.heap.size w w' := by
  have T0 := Lib.hid T
  have P0 := Lib.hid PW
  obtain ⟨k1, k2, k3⟩ := open_seal (root := recRoot) (text := recText) recHead_right recHead_ok.id_ok (by decide)
  have CS := fun v w h T PW => Lib.hid (show Calls Tryd.prog 12 #[.string ⟨#[114, 111, 111, 116]⟩, recHead.val, v] w fun e w' => ∃ v', e = .returned (.tuple #[v', .int .i64 0]) ∧ BytesAt w' v' (sealR recRoot recHead recText) ∧ Below w.heap.size w w' from
    (rcSeal_any recRoot recHead recHead_ok v recText w (by decide) h T PW).mono fun _ _ ⟨v', he, ⟨hb, _⟩, hw⟩ => ⟨v', he, hb, hw⟩)
  have CO := fun v w h T PW => rcOpen_any recRoot (sealR recRoot recHead recText) v w (by decide) h T PW
  simp only [k1, k2, k3] at CO
  replace CO := fun v w h T PW => Lib.hid (show Calls Tryd.prog 13 #[.string ⟨#[114, 111, 111, 116]⟩, v] w fun e w' => ∃ v', e = .returned (.tuple #[recHead.val, v', .int .i64 0]) ∧ BytesAt w' v' recText ∧ Below w.heap.size w w' from CO v w h T PW)
  have CP := fun w => rcPut_any recHead w
  simp only [recHead_put] at CP
  replace CP := fun w => Lib.hid (CP w)
  have CR := fun w => rcRight_any recHead recHead_ok.id_ok w
  simp only [recHead_right] at CR
  replace CR := fun w => Lib.hid (CR w)
  have CZ := fun w => Lib.hid (show Calls Tryd.prog 8 #[Head.zero.val] w fun e w' => e = .returned (.bool false) ∧ Below w.heap.size w w' from rcRight_any Head.zero (by decide) w)
  generalize sealR recRoot recHead recText = S at *
  have ET : Hid (recText = [116, 101, 120, 116]) := Lib.hid rfl
  clear T PW k1 k2 k3
  go_enter Tryd.func5, Tryd.ntmps5
  go_wp2_with (refine wpList_alloc_row rfl 24 rfl Head.zero.enc.toArray Head.zero_is ?_)
  intro w1 b1 x1 z1
  obtain ⟨gE, hgE⟩ : ∃ g, g = w.heap.size := ⟨_, rfl⟩
  have M_E := Lib.hid (show w.heap.size ≤ gE from by rw [hgE]; exact Nat.le_refl _)
  have B1 := Lib.hid b1
  rw [← hgE] at x1 ⊢
  have E1 : Hid (Head.At w1 gE Head.zero) := Lib.hid x1
  clear b1 x1 z1 hgE 
  go_wp2_with (first | (with_reducible refine wpList_load_whole Head.isRec rfl _ rfl gE (by with_unfolding_all exact rfl) _ _ (Head.len _) E1.out ?_) | (with_reducible refine wpList_store_whole rfl 24 _ _ rfl gE recHead.enc.toArray (by with_unfolding_all exact rfl) (by with_unfolding_all exact rfl) _ _ E1.out (Head.size _) rfl (Head.one _) ?_))
  intro w2 q2 x2 z2
  have E2 : Hid (Head.At w2 gE recHead) := Lib.hid x2
  have B2 := Lib.hid (B1.out.grown q2 B1.out.size (fun k hk => by injection hk with hk; have := M_E.out; omega))
  clear q2 x2 z2 E1 B1
  have EE := Lib.hid (E2.out)
  have rL := rectext_conv w2
  have y3 := rectext_lit w2
  have b3 : Below w2.heap.size w2 (w2.alloc (.cells #[.int .u8 116, .int .u8 101, .int .u8 120, .int .u8 116] 5 (4, 5))) := (Below.refl _ _).alloc (Nat.le_refl _) _
  have E3 : Hid (Head.At (w2.alloc (.cells #[.int .u8 116, .int .u8 101, .int .u8 120, .int .u8 116] 5 (4, 5))) gE recHead) := Lib.hid (Whole.below E2.out b3 E2.out.lt)
  have B3 := Lib.hid (B2.out.trans (b3.mono B2.out.size))
  have L3 : Hid (BytesAt (w2.alloc (.cells #[.int .u8 116, .int .u8 101, .int .u8 120, .int .u8 116] 5 (4, 5))) (.slice (some ⟨w2.heap.size, 0, none⟩) 4 4) recText) := Lib.hid y3
  clear b3 y3 E2 B2
  go_wp2_with (first | (with_reducible refine wpList_load_whole Head.isRec rfl _ rfl gE (by with_unfolding_all exact rfl) _ _ (Head.len _) E3.out ?_) | (with_reducible refine wpList_load_whole Head.isRec rfl _ rfl gE (by with_unfolding_all exact rfl) _ _ (Head.len _) EE.out ?_))
  refine ((CS _ (w2.alloc (.cells #[.int .u8 116, .int .u8 101, .int .u8 120, .int .u8 116] 5 (4, 5))) L3.out (T0.out.below B3.out T0.out.pos) (P0.out.below B3.out)).out).mono ?_
  rintro e4 w4 ⟨v2, rfl, y2, b4⟩
  have E4 : Hid (Head.At w4 gE recHead) := Lib.hid (Whole.below E3.out b4 E3.out.lt)
  have L4 : Hid (BytesAt w4 (.slice (some ⟨w2.heap.size, 0, none⟩) 4 4) recText) := Lib.hid (L3.out.below b4)
  have B4 := Lib.hid (B3.out.trans (b4.mono B3.out.size))
  have S4 : Hid (BytesAt w4 v2 S) := Lib.hid y2
  clear b4 E3 L3 B3 y2
  clear rL EE CS
  clear L4
  go_wp2_with (with_reducible refine wpList_load_whole Head.isRec rfl _ rfl gE (by with_unfolding_all exact rfl) _ _ (Head.len _) E4.out ?_)
  refine ((CO v2 w4 S4.out (T0.out.below B4.out T0.out.pos) (P0.out.below B4.out)).out).mono ?_
  rintro e5 w5 ⟨v3, rfl, y3, b5⟩
  have E5 : Hid (Head.At w5 gE recHead) := Lib.hid (Whole.below E4.out b5 E4.out.lt)
  have S5 : Hid (BytesAt w5 v2 S) := Lib.hid (S4.out.below b5)
  have B5 := Lib.hid (B4.out.trans (b5.mono B4.out.size))
  have Q5 : Hid (BytesAt w5 v3 recText) := Lib.hid y3
  clear b5 E4 S4 B4 y3
  clear CO
  clear S5
  rw [ET.out] at Q5
  have D5 : Hid (Since w5 w5) := Lib.hid (⟨Below.refl _ _⟩)
  have Q0 := Q5
  clear Q5
  go_wp2_with (first | (with_reducible refine wpList_load_whole Head.isRec rfl _ rfl gE (by with_unfolding_all exact rfl) _ _ (Head.len _) E5.out ?_) | (refine wpList_alloc_row rfl 24 rfl Head.zero.enc.toArray Head.zero_is ?_))
  intro w6 b6 x6 z6
  obtain ⟨gK, hgK⟩ : ∃ g, g = w5.heap.size := ⟨_, rfl⟩
  have N_E_K := Lib.hid (show gE < gK from by rw [hgK]; exact E5.out.lt)
  have L_D_K := Lib.hid (show w5.heap.size ≤ gK from by rw [hgK]; exact D5.out.b.size)
  have M_K := Lib.hid (show w.heap.size ≤ gK from by rw [hgK]; exact B5.out.size)
  have E6 : Hid (Head.At w6 gE recHead) := Lib.hid (Whole.below E5.out b6 E5.out.lt)
  have D6 : Hid (Since w5 w6) := Lib.hid (D5.out.below b6)
  have B6 := Lib.hid (B5.out.trans (b6.mono B5.out.size))
  rw [← hgK] at x6 ⊢
  have K6 : Hid (Head.At w6 gK Head.zero) := Lib.hid x6
  clear b6 x6 z6 hgK E5 D5 B5
  go_wp2_with (first | (with_reducible refine wpList_load_whole Head.isRec rfl _ rfl gE (by with_unfolding_all exact rfl) _ _ (Head.len _) E6.out ?_) | (with_reducible refine wpList_load_whole Head.isRec rfl _ rfl gK (by with_unfolding_all exact rfl) _ _ (Head.len _) K6.out ?_) | (with_reducible refine wpList_store_whole rfl 24 _ _ rfl gK recHead.enc.toArray (by with_unfolding_all exact rfl) (by with_unfolding_all exact rfl) _ _ K6.out (Head.size _) rfl (Head.one _) ?_))
  intro w7 q7 x7 z7
  have K7 : Hid (Head.At w7 gK recHead) := Lib.hid x7
  have E7 : Hid (Head.At w7 gE recHead) := Lib.hid (grown_far E6.out q7 (by have := N_E_K.out; omega))
  have D7 : Hid (Since w5 w7) := Lib.hid (D6.out.far q7 L_D_K.out)
  have B7 := Lib.hid (B6.out.grown q7 B6.out.size (fun k hk => by injection hk with hk; have := M_K.out; omega))
  clear q7 x7 z7 K6 E6 D6 B6
  go_wp2_with (first | (with_reducible refine wpList_load_whole Head.isRec rfl _ rfl gE (by with_unfolding_all exact rfl) _ _ (Head.len _) E7.out ?_) | (with_reducible refine wpList_load_whole Head.isRec rfl _ rfl gK (by with_unfolding_all exact rfl) _ _ (Head.len _) K7.out ?_))
  refine ((CP w7).out).mono ?_
  rintro e8 w8 ⟨vp, rfl, yp, b8⟩
  have E8 : Hid (Head.At w8 gE recHead) := Lib.hid (Whole.below E7.out b8 E7.out.lt)
  have D8 : Hid (Since w5 w8) := Lib.hid (D7.out.below b8)
  have K8 : Hid (Head.At w8 gK recHead) := Lib.hid (Whole.below K7.out b8 K7.out.lt)
  have B8 := Lib.hid (B7.out.trans (b8.mono B7.out.size))
  have P8 : Hid (BytesAt w8 vp [3, 0, 0, 0, 0, 0, 0, 0, 1, 2, 0, 3, 0, 0, 0, 4]) := Lib.hid yp
  clear b8 E7 D7 K7 B7 yp
  have rp := conv_bytes P8.out
  go_wp2_with (first | (with_reducible refine wpList_load_whole Head.isRec rfl _ rfl gE (by with_unfolding_all exact rfl) _ _ (Head.len _) E8.out ?_) | (with_reducible refine wpList_load_whole Head.isRec rfl _ rfl gK (by with_unfolding_all exact rfl) _ _ (Head.len _) K8.out ?_) | (with_reducible refine wpList_load_whole_w Head.isRec (by kernel_rfl) _ rfl gE (by with_unfolding_all exact rfl) _ _ (Head.len _) E8.out ?_))
  refine ((CR w8).out).mono ?_
  rintro e9 w9 ⟨rfl, b9⟩
  have E9 : Hid (Head.At w9 gE recHead) := Lib.hid (Whole.below E8.out b9 E8.out.lt)
  have D9 : Hid (Since w5 w9) := Lib.hid (D8.out.below b9)
  have K9 : Hid (Head.At w9 gK recHead) := Lib.hid (Whole.below K8.out b9 K8.out.lt)
  have P9 : Hid (BytesAt w9 vp [3, 0, 0, 0, 0, 0, 0, 0, 1, 2, 0, 3, 0, 0, 0, 4]) := Lib.hid (P8.out.below b9)
  have B9 := Lib.hid (B8.out.trans (b9.mono B8.out.size))
  clear b9 E8 D8 K8 P8 B8
  clear rp CP CR
  clear P9
  go_wp2_with (first | (with_reducible refine wpList_load_whole Head.isRec rfl _ rfl gE (by with_unfolding_all exact rfl) _ _ (Head.len _) E9.out ?_) | (with_reducible refine wpList_load_whole Head.isRec rfl _ rfl gK (by with_unfolding_all exact rfl) _ _ (Head.len _) K9.out ?_))
  refine ((CZ w9).out).mono ?_
  rintro e10 w10 ⟨rfl, b10⟩
  have E10 : Hid (Head.At w10 gE recHead) := Lib.hid (Whole.below E9.out b10 E9.out.lt)
  have D10 : Hid (Since w5 w10) := Lib.hid (D9.out.below b10)
  have K10 : Hid (Head.At w10 gK recHead) := Lib.hid (Whole.below K9.out b10 K9.out.lt)
  have B10 := Lib.hid (B9.out.trans (b10.mono B9.out.size))
  clear b10 E9 D9 K9 B9
  have rq := conv_bytes (Q0.out.below D10.out.b)
  go_wp2_with (first | (with_reducible refine wpList_load_whole_w Head.isRec (by kernel_rfl) _ rfl gK (by with_unfolding_all exact rfl) _ _ (Head.len _) K10.out ?_) | (with_reducible refine wpList_load_whole_w Head.isRec (by kernel_rfl) _ rfl gE (by with_unfolding_all exact rfl) _ _ (Head.len _) E10.out ?_) | (with_reducible refine wpList_eq_rec_w Head.isRec (by kernel_rfl) _ _ rfl recHead.enc recHead.enc (Head.fits _) (Head.fits _) (by with_unfolding_all exact rfl) (by with_unfolding_all exact rfl) true (eqCells_refl (Head.fits _)).symm ?_))
  go_ret
  exact ⟨rfl, B10.out⟩
end Go.Proofs.YtmnhpkdldeifgaaDoor

namespace Go.Proofs.YtmnhpkdldeifgaaDoor
set_option maxRecDepth 100000
open Go.RowKit Go.ChangeShapes Go.WideShapes Go.ChangeAt

theorem tPow : (Tryd.prog.globals[0]?).map (·.type) = some 111 := by kernel_rfl
theorem pow_is : Rows.laid_internal_strconv_uint64pow10 (H := Unit) = Lib.tabData .u64 Lib.pow10Tab := by kernel_rfl
theorem pow_of_met {W : World} {r : List (String × DataW Unit)} (h : laidMet Tryd.prog (("internal/strconv.uint64pow10", Rows.laid_internal_strconv_uint64pow10) :: r) W) : PowT W := by
  rw [pow_is] at h
  exact Lib.tabIs_of_head gPow tPow Tryd.underlying111 Tryd.underlying22 (by kernel_rfl) (by kernel_rfl) h
theorem gC : Tryd.prog.globalNamed "carcanet/digest.constants" = some 3 := by kernel_rfl
theorem tC : (Tryd.prog.globals[3]?).map (·.type) = some 121 := by kernel_rfl
def ktI : List Int := kt.map fun x => (x.toNat : Int)
theorem ktI_length : ktI.length = 64 := by kernel_rfl
theorem const_is : Rows.laid_carcanet_digest_constants (H := Unit) = Lib.tabData .u32 ktI := by kernel_rfl
theorem tab_of_met {W : World} {r : List (String × DataW Unit)} (h : laidMet Tryd.prog (("carcanet/digest.constants", Rows.laid_carcanet_digest_constants) :: r) W) : Tab W := by
  rw [const_is] at h
  have q := Lib.tabIs_of_head gC tC Tryd.underlying121 Tryd.underlying64 (by kernel_rfl) (by kernel_rfl) h
  intro k hk
  have hk64 : kt.length = 64 := by kernel_rfl
  have hl : k < kt.length := by omega
  have c := q.cell gC k (by rw [ktI_length]; exact hk)
  rw [c]
  simp [ktI, wd, List.getD, List.getElem?_eq_getElem hl]
end Go.Proofs.YtmnhpkdldeifgaaDoor

namespace Go.Proofs.YtmnhpkdldeifgaaDoor
set_option maxRecDepth 100000
open Go.RowKit Go.ChangeShapes Go.WideShapes Go.ChangeAt

def laidP : List (String × DataW Unit) := [("math/bits.deBruijn32tab", Rows.laid_math_bits_deBruijn32tab), ("math/bits.deBruijn64tab", Rows.laid_math_bits_deBruijn64tab), ("internal/strconv.uint64pow10", Rows.laid_internal_strconv_uint64pow10), ("carcanet/digest.constants", Rows.laid_carcanet_digest_constants)]
theorem door_metP (os : Os) (args : Array Value) : laidMetH Tryd.prog laidP ((World.doorLaid Tryd.prog 400 os).forCall (fun _ _ => 0) ⟨#[], args, []⟩).memory :=
  laidMetH_of_parts3 (fuel := 8) (laidMet_of_run' 8 (by kernel_rfl) (by kernel_rfl)) (by kernel_rfl) (by kernel_rfl)
theorem powP {W : World} (h : laidMetH Tryd.prog laidP W) : PowT W ∧ Tab W := by
  rw [MakeChecks.laidMetH_plain _ _ _ (by kernel_rfl)] at h
  exact ⟨pow_of_met h.tail.tail, tab_of_met h.tail.tail.tail⟩
end Go.Proofs.YtmnhpkdldeifgaaDoor
