/- The chapter's example, as the statements of layer 7 ask for it (works). -/
import Derived.Test.YtbdcligpbogkjaaPoA
import Derived.Lib.SlBytesConst
namespace Go.Proofs.Ytbdcligpbogkjaa
open Go.RowKit

def exK : List UInt8 := [133, 214, 190, 120, 87, 85, 109, 51, 127, 68, 82, 254, 66, 213, 6, 168, 1, 3, 128, 138, 251, 13, 178, 253, 74, 191, 246, 175, 65, 73, 245, 27]
def exM : List UInt8 := [67, 114, 121, 112, 116, 111, 103, 114, 97, 112, 104, 105, 99, 32, 70, 111, 114, 117, 109, 32, 82, 101, 115, 101, 97, 114, 99, 104, 32, 71, 114, 111, 117, 112]
def exT : List UInt8 := [168, 6, 29, 193, 48, 81, 54, 198, 194, 43, 139, 175, 12, 1, 39, 169]
theorem exP : tagL exK exM = exT := by kernel_rfl
theorem exT_str : (⟨exT.toArray⟩ : ByteArray) = ⟨#[168, 6, 29, 193, 48, 81, 54, 198, 194, 43, 139, 175, 12, 1, 39, 169]⟩ := rfl
theorem exM_conv (w : World) : (convert 22 22 (.slice (some ⟨w.heap.size, 0, none⟩) 34 34)).run Try.prog (w.alloc (.cells #[.int .u8 67, .int .u8 114, .int .u8 121, .int .u8 112, .int .u8 116, .int .u8 111, .int .u8 103, .int .u8 114, .int .u8 97, .int .u8 112, .int .u8 104, .int .u8 105, .int .u8 99, .int .u8 32, .int .u8 70, .int .u8 111, .int .u8 114, .int .u8 117, .int .u8 109, .int .u8 32, .int .u8 82, .int .u8 101, .int .u8 115, .int .u8 101, .int .u8 97, .int .u8 114, .int .u8 99, .int .u8 104, .int .u8 32, .int .u8 71, .int .u8 114, .int .u8 111, .int .u8 117, .int .u8 112] 5)) =
    .ok (.slice (some ⟨w.heap.size, 0, none⟩) 34 34) (w.alloc (.cells #[.int .u8 67, .int .u8 114, .int .u8 121, .int .u8 112, .int .u8 116, .int .u8 111, .int .u8 103, .int .u8 114, .int .u8 97, .int .u8 112, .int .u8 104, .int .u8 105, .int .u8 99, .int .u8 32, .int .u8 70, .int .u8 111, .int .u8 114, .int .u8 117, .int .u8 109, .int .u8 32, .int .u8 82, .int .u8 101, .int .u8 115, .int .u8 101, .int .u8 97, .int .u8 114, .int .u8 99, .int .u8 104, .int .u8 32, .int .u8 71, .int .u8 114, .int .u8 111, .int .u8 117, .int .u8 112] 5 (34, 35))) :=
  Lib.run_convert_bytes_const w 22 5 _ 34 34 Try.underlying22 Try.underlying5
theorem exM_lit (w : World) : BytesAt (w.alloc (.cells #[.int .u8 67, .int .u8 114, .int .u8 121, .int .u8 112, .int .u8 116, .int .u8 111, .int .u8 103, .int .u8 114, .int .u8 97, .int .u8 112, .int .u8 104, .int .u8 105, .int .u8 99, .int .u8 32, .int .u8 70, .int .u8 111, .int .u8 114, .int .u8 117, .int .u8 109, .int .u8 32, .int .u8 82, .int .u8 101, .int .u8 115, .int .u8 101, .int .u8 97, .int .u8 114, .int .u8 99, .int .u8 104, .int .u8 32, .int .u8 71, .int .u8 114, .int .u8 111, .int .u8 117, .int .u8 112] 5 (34, 35))) (.slice (some ⟨w.heap.size, 0, none⟩) 34 34) exM := by
  refine ⟨_, _, rfl, Nat.le_refl _, fun _ => ⟨_, rfl, fun j c hj => ?_⟩⟩
  have ha : (⟨w.heap.size, 0, none⟩ : Addr).add j = ⟨w.heap.size, j, none⟩ := by unfold Addr.add; split <;> simp_all
  have e : (#[.int .u8 67, .int .u8 114, .int .u8 121, .int .u8 112, .int .u8 116, .int .u8 111, .int .u8 103, .int .u8 114, .int .u8 97, .int .u8 112, .int .u8 104, .int .u8 105, .int .u8 99, .int .u8 32, .int .u8 70, .int .u8 111, .int .u8 114, .int .u8 117, .int .u8 109, .int .u8 32, .int .u8 82, .int .u8 101, .int .u8 115, .int .u8 101, .int .u8 97, .int .u8 114, .int .u8 99, .int .u8 104, .int .u8 32, .int .u8 71, .int .u8 114, .int .u8 111, .int .u8 117, .int .u8 112] : Array Value) = (bv exM).toArray := rfl
  rw [ha, cell_of_row _ _ j _ _ _ (heap_alloc_new w _), e]
  simp [bv, hj]
theorem exK_conv (w : World) : ∃ vs w2, (convert 9 22 (.string { data := #[133, 214, 190, 120, 87, 85, 109, 51, 127, 68, 82, 254, 66, 213, 6, 168, 1, 3, 128, 138, 251, 13, 178, 253, 74, 191, 246, 175, 65, 73, 245, 27] })).run Try.prog w = .ok vs w2 ∧ BytesAt w2 vs exK ∧ Below w.heap.size w w2 := conv_str w _

set_option maxRecDepth 100000 in
set_option maxHeartbeats 4000000 in
theorem works7 (H : PolyIs) (w : World) : Calls Try.prog 6 #[] w fun e w' => e = .returned (.bool true) ∧ Below w.heap.size w w' := by
  have EX := Lib.hid exP
  have rc := exM_conv
  obtain ⟨vk, wk, rk, yk, bk⟩ := exK_conv w
  obtain ⟨Ak, ck, rfl, hck, -⟩ := id yk
  have YK := Lib.hid yk
  have BK := Lib.hid bk
  clear yk bk hck
  go_enter Try.func6, Try.ntmps6
  go_wp2_with fail
  have y := exM_lit wk
  have b : Below wk.heap.size wk (wk.alloc (.cells #[.int .u8 67, .int .u8 114, .int .u8 121, .int .u8 112, .int .u8 116, .int .u8 111, .int .u8 103, .int .u8 114, .int .u8 97, .int .u8 112, .int .u8 104, .int .u8 105, .int .u8 99, .int .u8 32, .int .u8 70, .int .u8 111, .int .u8 114, .int .u8 117, .int .u8 109, .int .u8 32, .int .u8 82, .int .u8 101, .int .u8 115, .int .u8 101, .int .u8 97, .int .u8 114, .int .u8 99, .int .u8 104, .int .u8 32, .int .u8 71, .int .u8 114, .int .u8 111, .int .u8 117, .int .u8 112] 5 (34, 35))) := (Below.refl _ _).alloc (Nat.le_refl _) _
  generalize wk.alloc (.cells #[.int .u8 67, .int .u8 114, .int .u8 121, .int .u8 112, .int .u8 116, .int .u8 111, .int .u8 103, .int .u8 114, .int .u8 97, .int .u8 112, .int .u8 104, .int .u8 105, .int .u8 99, .int .u8 32, .int .u8 70, .int .u8 111, .int .u8 114, .int .u8 117, .int .u8 109, .int .u8 32, .int .u8 82, .int .u8 101, .int .u8 115, .int .u8 101, .int .u8 97, .int .u8 114, .int .u8 99, .int .u8 104, .int .u8 32, .int .u8 71, .int .u8 114, .int .u8 111, .int .u8 117, .int .u8 112] 5 (34, 35)) = w1 at *
  have YK1 := Lib.hid (YK.out.below b)
  have B1 := Lib.hid (BK.out.trans (b.mono BK.out.size))
  refine (H.tag _ _ 34 _ _ exK exM w1 (by decide) YK1.out y).mono ?_
  rintro e w2 ⟨v2, rfl, y2, b2⟩
  rw [EX.out] at y2
  have Y2 := Lib.hid y2.bytes
  have YK2 := Lib.hid (YK1.out.below b2)
  have B2 := Lib.hid (B1.out.trans (b2.mono B1.out.size))
  clear y b y2 b2 YK1 B1 YK BK rk
  go_wp2_with fail
  refine (H.tagBad none none 0 0 0 0 w2 (by decide) (by decide)).mono ?_
  rintro e w3 ⟨v3, rfl, -, b3⟩
  have Y3 := Lib.hid (Y2.out.below b3)
  have B3 := Lib.hid (B2.out.trans (b3.mono B2.out.size))
  have r3 := conv_bytes Y3.out
  rw [exT_str] at r3
  obtain ⟨vq, wq, rq, yq, bq⟩ := exK_conv w3
  obtain ⟨Aq, cq, rfl, hcq, -⟩ := id yq
  have YQ := Lib.hid yq
  have BQ := Lib.hid bq
  clear b3 B2 Y2 YK2 yq bq hcq
  obtain ⟨A2, c2, rfl, hc2, -⟩ := id Y3.out
  clear hc2
  go_wp2_with fail
  have y := exM_lit wq
  have b : Below wq.heap.size wq (wq.alloc (.cells #[.int .u8 67, .int .u8 114, .int .u8 121, .int .u8 112, .int .u8 116, .int .u8 111, .int .u8 103, .int .u8 114, .int .u8 97, .int .u8 112, .int .u8 104, .int .u8 105, .int .u8 99, .int .u8 32, .int .u8 70, .int .u8 111, .int .u8 114, .int .u8 117, .int .u8 109, .int .u8 32, .int .u8 82, .int .u8 101, .int .u8 115, .int .u8 101, .int .u8 97, .int .u8 114, .int .u8 99, .int .u8 104, .int .u8 32, .int .u8 71, .int .u8 114, .int .u8 111, .int .u8 117, .int .u8 112] 5 (34, 35))) := (Below.refl _ _).alloc (Nat.le_refl _) _
  generalize wq.alloc (.cells #[.int .u8 67, .int .u8 114, .int .u8 121, .int .u8 112, .int .u8 116, .int .u8 111, .int .u8 103, .int .u8 114, .int .u8 97, .int .u8 112, .int .u8 104, .int .u8 105, .int .u8 99, .int .u8 32, .int .u8 70, .int .u8 111, .int .u8 114, .int .u8 117, .int .u8 109, .int .u8 32, .int .u8 82, .int .u8 101, .int .u8 115, .int .u8 101, .int .u8 97, .int .u8 114, .int .u8 99, .int .u8 104, .int .u8 32, .int .u8 71, .int .u8 114, .int .u8 111, .int .u8 117, .int .u8 112] 5 (34, 35)) = w4 at *
  have BB := BQ.out.trans (b.mono BQ.out.size)
  refine (H.check _ _ _ 32 34 16 _ _ _ exK exM exT w4 (by decide) (by decide) (YQ.out.below b) y (Y3.out.below BB)).mono ?_
  rintro e w5 ⟨rfl, b5⟩
  have B5 := Lib.hid (B3.out.trans ((BB.trans (b5.mono BB.size)).mono B3.out.size))
  have D : decide (32 = 32 ∧ tagL exK exM = exT) = true := decide_eq_true ⟨rfl, exP⟩
  rw [D]
  clear y b b5 B3 r3 rq rc D BB YQ BQ
  go_wp2
  go_ret
  exact ⟨rfl, B5.out⟩
end Go.Proofs.Ytbdcligpbogkjaa
