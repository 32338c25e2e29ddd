/- The chapter's example, as the statements of layer 6 ask for it (works). -/
import Derived.Test.YthphneiecihkiaaCiA
import Derived.Test.YthphneiecihkiaaGenP
import Derived.Test.YthphneiecihkiaaGenT
namespace Go.Proofs.Ythphneiecihkiaa
open Go.RowKit

set_option maxRecDepth 100000 in
set_option maxHeartbeats 8000000 in
theorem works6 (H : CipherIs) (w : World) : Calls Try.prog 9 #[] w fun e w' => e = .returned (.bool true) ∧ Below w.heap.size w w' := by
  have EQ := Lib.hid ex_quarter
  have EX := Lib.hid ex_xor
  go_enter Try.func9, Try.ntmps9
  go_wp2_with fail
  refine (H.quarter 0x11111111 0x01020304 0x9b8d6f43 0x01234567 w).mono ?_
  rintro e w1 ⟨rfl, b1⟩
  rw [EQ.out]
  have u0 : wd ((0xea2a92f4, 0xcb1cf8ce, 0x4581472e, 0x5881c4bb) : UInt32 × UInt32 × UInt32 × UInt32).1 = .int .u32 3928658676 := rfl
  have u1 : wd ((0xea2a92f4, 0xcb1cf8ce, 0x4581472e, 0x5881c4bb) : UInt32 × UInt32 × UInt32 × UInt32).2.1 = .int .u32 3407673550 := rfl
  have u2 : wd ((0xea2a92f4, 0xcb1cf8ce, 0x4581472e, 0x5881c4bb) : UInt32 × UInt32 × UInt32 × UInt32).2.2.1 = .int .u32 1166100270 := rfl
  have u3 : wd ((0xea2a92f4, 0xcb1cf8ce, 0x4581472e, 0x5881c4bb) : UInt32 × UInt32 × UInt32 × UInt32).2.2.2 = .int .u32 1484899515 := rfl
  rw [u0, u1, u2, u3]
  have B1 := Lib.hid b1
  clear b1 EQ u0 u1 u2 u3
  go_wp2_with fail
  refine (H.blockBad none none 0 0 0 0 0 (.inl (by decide)) w1).mono ?_
  rintro e w2 ⟨rfl, b2⟩
  have B2 := Lib.hid (B1.out.trans (b2.mono B1.out.size))
  clear b2 B1
  go_wp2_with fail
  refine regS_begin (fun w' => Below w.heap.size w w') (by kernel_rfl) B2.out.drew ?_
  have hS : Below w.heap.size w w2.drew := B2.out.drew
  clear B2
  generalize w2.drew = w3 at *
  refine regS_three (i := 0) (j := 1) (k := 2) rfl rfl rfl (by kernel_rfl) (fun K' hK => ?_) (fun K' hK => ?_) (fun K' hK => ?_)
  · skip
    rw [if_pos (by rfl)]
    refine wp_make_bytes _ _ rfl 32 rfl rfl (by decide) ?_
    intro w4 y0 b4 z4
    have s4 := hS.trans (b4.mono hS.size)
    refine hK.out _ _ s4 ?_
    generalize w3.heap.size = g0 at y0 ⊢
    have Y0_4 := Lib.hid y0
    clear hK K' hS b4 y0 z4
    have hS := s4
    clear s4
    simp only [Act.put, List.setIfInBounds_toArray, List.set_cons_zero, List.set_cons_succ]
    refine regS_two (i := 1) (j := 2) rfl rfl (by kernel_rfl) (fun K' hK => ?_) (fun K' hK => ?_)
    · skip
      rw [if_pos (by rfl)]
      refine wp_make_bytes _ _ rfl 12 rfl rfl (by decide) ?_
      intro w5 y1 b5 z5
      have s5 := hS.trans (b5.mono hS.size)
      refine hK.out _ _ s5 ?_
      generalize w4.heap.size = g1 at y1 ⊢
      have Y1_5 := Lib.hid y1
      have Y0_5 := Lib.hid (Y0_4.out.below b5)
      clear hK K' hS b5 y1 z5 Y0_4
      have hS := s5
      clear s5
      simp only [Act.put, List.setIfInBounds_toArray, List.set_cons_zero, List.set_cons_succ]
      refine regS_do (i := 2) rfl (by kernel_rfl) (fun K' hK => ?_)
      go_simp
      have y2 : BytesAt (w5.alloc (.cells #[.int .u8 0] 5)) (.slice (some ⟨w5.heap.size, 0, none⟩) 1 1) [0] := BytesAt.lit w5 [0] _ rfl
      have b6 : Below w5.heap.size w5 (w5.alloc (.cells #[.int .u8 0] 5)) := (Below.refl _ _).alloc (Nat.le_refl _) _
      have s6 := hS.trans (b6.mono hS.size)
      refine hK.out _ _ s6 ?_
      generalize w5.alloc (.cells #[.int .u8 0] 5) = w6 at *
      generalize w5.heap.size = g2 at y2 ⊢
      have Y2_6 := Lib.hid y2
      have Y0_6 := Lib.hid (Y0_5.out.below b6)
      have Y1_6 := Lib.hid (Y1_5.out.below b6)
      clear hK K' hS b6 y2 Y0_5 Y1_5
      have hS := s6
      clear s6
      refine regS_do (i := 3) rfl (by kernel_rfl) (fun K' hK => ?_)
      go_simp
      refine (H.xor _ _ _ 1 32 12 1 _ _ [0] 0 (by decide) (by decide) w6 Y0_6.out Y1_6.out Y2_6.out).mono ?_
      rintro e w7 ⟨v7, rfl, y7, b7⟩
      rw [EX.out] at y7
      have s7 := hS.trans (b7.mono hS.size)
      refine hK.out _ _ s7 ?_
      clear hK K' hS b7 Y0_6 Y1_6 Y2_6
      have hS := s7
      clear s7
      have Y7 := Lib.hid y7
      obtain ⟨A7, cap7, rfl, -, -⟩ := y7
      obtain ⟨bb, ob, rfl, hlb, hcb⟩ := Y7.out.spots (by simp)
      have c7 := hcb 0 118 rfl
      rw [Nat.add_zero] at c7
      have C7 := Lib.hid c7
      clear hcb c7 Y7
      refine regS_take (i := 4) (v := ?_) rfl (by kernel_rfl) (by kernel_rfl) (by kernel_rfl) (fun _ _ _ h => h) (by rfl) hS ?hy4 ?_
      case hy4 => intro w' hw'; go_simp; (try with_reducible rfl)
      simp only [Act.put, List.setIfInBounds_toArray, List.set_cons_zero, List.set_cons_succ]
      refine regS_take (i := 5) (v := ?_) rfl (by kernel_rfl) (by kernel_rfl) (by kernel_rfl) (fun _ _ _ h => h) (by rfl) hS ?hy5 ?_
      case hy5 => intro w' hw'; go_simp; (try with_reducible rfl)
      simp only [Act.put, List.setIfInBounds_toArray, List.set_cons_zero, List.set_cons_succ]
      refine regS_take (i := 6) (v := ?_) rfl (by kernel_rfl) (by kernel_rfl) (by kernel_rfl) (fun _ _ _ h => h) (by rfl) hS ?hy6 ?_
      case hy6 => intro w' hw'; go_simp; (try with_reducible rfl)
      simp only [Act.put, List.setIfInBounds_toArray, List.set_cons_zero, List.set_cons_succ]
      refine regS_take (i := 7) (v := ?_) rfl (by kernel_rfl) (by kernel_rfl) (by kernel_rfl) (fun _ _ _ h => h) (by rfl) hS ?hy7 ?_
      case hy7 => intro w' hw'; go_simp; (try with_reducible rfl)
      simp only [Act.put, List.setIfInBounds_toArray, List.set_cons_zero, List.set_cons_succ]
      refine regS_take (i := 8) (v := ?_) rfl (by kernel_rfl) (by kernel_rfl) (by kernel_rfl) (fun _ _ _ h => h) (by rfl) hS ?hy8 ?_
      case hy8 => intro w' hw'; go_simp; (try with_reducible rfl)
      simp only [Act.put, List.setIfInBounds_toArray, List.set_cons_zero, List.set_cons_succ]
      refine regS_end (by kernel_rfl) ?_
      have B7 := Lib.hid hS
      have c7 := C7.out
      clear hS C7
      go_wp2
      go_ret
      exact ⟨rfl, B7.out⟩
    · skip
      go_simp
      have y2 : BytesAt (w4.alloc (.cells #[.int .u8 0] 5)) (.slice (some ⟨w4.heap.size, 0, none⟩) 1 1) [0] := BytesAt.lit w4 [0] _ rfl
      have b5 : Below w4.heap.size w4 (w4.alloc (.cells #[.int .u8 0] 5)) := (Below.refl _ _).alloc (Nat.le_refl _) _
      have s5 := hS.trans (b5.mono hS.size)
      refine hK.out _ _ s5 ?_
      generalize w4.alloc (.cells #[.int .u8 0] 5) = w5 at *
      generalize w4.heap.size = g2 at y2 ⊢
      have Y2_5 := Lib.hid y2
      have Y0_5 := Lib.hid (Y0_4.out.below b5)
      clear hK K' hS b5 y2 Y0_4
      have hS := s5
      clear s5
      refine regS_do (i := 1) rfl (by kernel_rfl) (fun K' hK => ?_)
      rw [if_pos (by rfl)]
      refine wp_make_bytes _ _ rfl 12 rfl rfl (by decide) ?_
      intro w6 y1 b6 z6
      have s6 := hS.trans (b6.mono hS.size)
      refine hK.out _ _ s6 ?_
      generalize w5.heap.size = g1 at y1 ⊢
      have Y1_6 := Lib.hid y1
      have Y0_6 := Lib.hid (Y0_5.out.below b6)
      have Y2_6 := Lib.hid (Y2_5.out.below b6)
      clear hK K' hS b6 y1 z6 Y0_5 Y2_5
      have hS := s6
      clear s6
      simp only [Act.put, List.setIfInBounds_toArray, List.set_cons_zero, List.set_cons_succ]
      refine regS_do (i := 3) rfl (by kernel_rfl) (fun K' hK => ?_)
      go_simp
      refine (H.xor _ _ _ 1 32 12 1 _ _ [0] 0 (by decide) (by decide) w6 Y0_6.out Y1_6.out Y2_6.out).mono ?_
      rintro e w7 ⟨v7, rfl, y7, b7⟩
      rw [EX.out] at y7
      have s7 := hS.trans (b7.mono hS.size)
      refine hK.out _ _ s7 ?_
      clear hK K' hS b7 Y0_6 Y1_6 Y2_6
      have hS := s7
      clear s7
      have Y7 := Lib.hid y7
      obtain ⟨A7, cap7, rfl, -, -⟩ := y7
      obtain ⟨bb, ob, rfl, hlb, hcb⟩ := Y7.out.spots (by simp)
      have c7 := hcb 0 118 rfl
      rw [Nat.add_zero] at c7
      have C7 := Lib.hid c7
      clear hcb c7 Y7
      refine regS_take (i := 4) (v := ?_) rfl (by kernel_rfl) (by kernel_rfl) (by kernel_rfl) (fun _ _ _ h => h) (by rfl) hS ?hy4 ?_
      case hy4 => intro w' hw'; go_simp; (try with_reducible rfl)
      simp only [Act.put, List.setIfInBounds_toArray, List.set_cons_zero, List.set_cons_succ]
      refine regS_take (i := 5) (v := ?_) rfl (by kernel_rfl) (by kernel_rfl) (by kernel_rfl) (fun _ _ _ h => h) (by rfl) hS ?hy5 ?_
      case hy5 => intro w' hw'; go_simp; (try with_reducible rfl)
      simp only [Act.put, List.setIfInBounds_toArray, List.set_cons_zero, List.set_cons_succ]
      refine regS_take (i := 6) (v := ?_) rfl (by kernel_rfl) (by kernel_rfl) (by kernel_rfl) (fun _ _ _ h => h) (by rfl) hS ?hy6 ?_
      case hy6 => intro w' hw'; go_simp; (try with_reducible rfl)
      simp only [Act.put, List.setIfInBounds_toArray, List.set_cons_zero, List.set_cons_succ]
      refine regS_take (i := 7) (v := ?_) rfl (by kernel_rfl) (by kernel_rfl) (by kernel_rfl) (fun _ _ _ h => h) (by rfl) hS ?hy7 ?_
      case hy7 => intro w' hw'; go_simp; (try with_reducible rfl)
      simp only [Act.put, List.setIfInBounds_toArray, List.set_cons_zero, List.set_cons_succ]
      refine regS_take (i := 8) (v := ?_) rfl (by kernel_rfl) (by kernel_rfl) (by kernel_rfl) (fun _ _ _ h => h) (by rfl) hS ?hy8 ?_
      case hy8 => intro w' hw'; go_simp; (try with_reducible rfl)
      simp only [Act.put, List.setIfInBounds_toArray, List.set_cons_zero, List.set_cons_succ]
      refine regS_end (by kernel_rfl) ?_
      have B7 := Lib.hid hS
      have c7 := C7.out
      clear hS C7
      go_wp2
      go_ret
      exact ⟨rfl, B7.out⟩
  · skip
    rw [if_pos (by rfl)]
    refine wp_make_bytes _ _ rfl 12 rfl rfl (by decide) ?_
    intro w4 y1 b4 z4
    have s4 := hS.trans (b4.mono hS.size)
    refine hK.out _ _ s4 ?_
    generalize w3.heap.size = g1 at y1 ⊢
    have Y1_4 := Lib.hid y1
    clear hK K' hS b4 y1 z4
    have hS := s4
    clear s4
    simp only [Act.put, List.setIfInBounds_toArray, List.set_cons_zero, List.set_cons_succ]
    refine regS_two (i := 0) (j := 2) rfl rfl (by kernel_rfl) (fun K' hK => ?_) (fun K' hK => ?_)
    · skip
      rw [if_pos (by rfl)]
      refine wp_make_bytes _ _ rfl 32 rfl rfl (by decide) ?_
      intro w5 y0 b5 z5
      have s5 := hS.trans (b5.mono hS.size)
      refine hK.out _ _ s5 ?_
      generalize w4.heap.size = g0 at y0 ⊢
      have Y0_5 := Lib.hid y0
      have Y1_5 := Lib.hid (Y1_4.out.below b5)
      clear hK K' hS b5 y0 z5 Y1_4
      have hS := s5
      clear s5
      simp only [Act.put, List.setIfInBounds_toArray, List.set_cons_zero, List.set_cons_succ]
      refine regS_do (i := 2) rfl (by kernel_rfl) (fun K' hK => ?_)
      go_simp
      have y2 : BytesAt (w5.alloc (.cells #[.int .u8 0] 5)) (.slice (some ⟨w5.heap.size, 0, none⟩) 1 1) [0] := BytesAt.lit w5 [0] _ rfl
      have b6 : Below w5.heap.size w5 (w5.alloc (.cells #[.int .u8 0] 5)) := (Below.refl _ _).alloc (Nat.le_refl _) _
      have s6 := hS.trans (b6.mono hS.size)
      refine hK.out _ _ s6 ?_
      generalize w5.alloc (.cells #[.int .u8 0] 5) = w6 at *
      generalize w5.heap.size = g2 at y2 ⊢
      have Y2_6 := Lib.hid y2
      have Y1_6 := Lib.hid (Y1_5.out.below b6)
      have Y0_6 := Lib.hid (Y0_5.out.below b6)
      clear hK K' hS b6 y2 Y1_5 Y0_5
      have hS := s6
      clear s6
      refine regS_do (i := 3) rfl (by kernel_rfl) (fun K' hK => ?_)
      go_simp
      refine (H.xor _ _ _ 1 32 12 1 _ _ [0] 0 (by decide) (by decide) w6 Y0_6.out Y1_6.out Y2_6.out).mono ?_
      rintro e w7 ⟨v7, rfl, y7, b7⟩
      rw [EX.out] at y7
      have s7 := hS.trans (b7.mono hS.size)
      refine hK.out _ _ s7 ?_
      clear hK K' hS b7 Y0_6 Y1_6 Y2_6
      have hS := s7
      clear s7
      have Y7 := Lib.hid y7
      obtain ⟨A7, cap7, rfl, -, -⟩ := y7
      obtain ⟨bb, ob, rfl, hlb, hcb⟩ := Y7.out.spots (by simp)
      have c7 := hcb 0 118 rfl
      rw [Nat.add_zero] at c7
      have C7 := Lib.hid c7
      clear hcb c7 Y7
      refine regS_take (i := 4) (v := ?_) rfl (by kernel_rfl) (by kernel_rfl) (by kernel_rfl) (fun _ _ _ h => h) (by rfl) hS ?hy4 ?_
      case hy4 => intro w' hw'; go_simp; (try with_reducible rfl)
      simp only [Act.put, List.setIfInBounds_toArray, List.set_cons_zero, List.set_cons_succ]
      refine regS_take (i := 5) (v := ?_) rfl (by kernel_rfl) (by kernel_rfl) (by kernel_rfl) (fun _ _ _ h => h) (by rfl) hS ?hy5 ?_
      case hy5 => intro w' hw'; go_simp; (try with_reducible rfl)
      simp only [Act.put, List.setIfInBounds_toArray, List.set_cons_zero, List.set_cons_succ]
      refine regS_take (i := 6) (v := ?_) rfl (by kernel_rfl) (by kernel_rfl) (by kernel_rfl) (fun _ _ _ h => h) (by rfl) hS ?hy6 ?_
      case hy6 => intro w' hw'; go_simp; (try with_reducible rfl)
      simp only [Act.put, List.setIfInBounds_toArray, List.set_cons_zero, List.set_cons_succ]
      refine regS_take (i := 7) (v := ?_) rfl (by kernel_rfl) (by kernel_rfl) (by kernel_rfl) (fun _ _ _ h => h) (by rfl) hS ?hy7 ?_
      case hy7 => intro w' hw'; go_simp; (try with_reducible rfl)
      simp only [Act.put, List.setIfInBounds_toArray, List.set_cons_zero, List.set_cons_succ]
      refine regS_take (i := 8) (v := ?_) rfl (by kernel_rfl) (by kernel_rfl) (by kernel_rfl) (fun _ _ _ h => h) (by rfl) hS ?hy8 ?_
      case hy8 => intro w' hw'; go_simp; (try with_reducible rfl)
      simp only [Act.put, List.setIfInBounds_toArray, List.set_cons_zero, List.set_cons_succ]
      refine regS_end (by kernel_rfl) ?_
      have B7 := Lib.hid hS
      have c7 := C7.out
      clear hS C7
      go_wp2
      go_ret
      exact ⟨rfl, B7.out⟩
    · skip
      go_simp
      have y2 : BytesAt (w4.alloc (.cells #[.int .u8 0] 5)) (.slice (some ⟨w4.heap.size, 0, none⟩) 1 1) [0] := BytesAt.lit w4 [0] _ rfl
      have b5 : Below w4.heap.size w4 (w4.alloc (.cells #[.int .u8 0] 5)) := (Below.refl _ _).alloc (Nat.le_refl _) _
      have s5 := hS.trans (b5.mono hS.size)
      refine hK.out _ _ s5 ?_
      generalize w4.alloc (.cells #[.int .u8 0] 5) = w5 at *
      generalize w4.heap.size = g2 at y2 ⊢
      have Y2_5 := Lib.hid y2
      have Y1_5 := Lib.hid (Y1_4.out.below b5)
      clear hK K' hS b5 y2 Y1_4
      have hS := s5
      clear s5
      refine regS_do (i := 0) rfl (by kernel_rfl) (fun K' hK => ?_)
      rw [if_pos (by rfl)]
      refine wp_make_bytes _ _ rfl 32 rfl rfl (by decide) ?_
      intro w6 y0 b6 z6
      have s6 := hS.trans (b6.mono hS.size)
      refine hK.out _ _ s6 ?_
      generalize w5.heap.size = g0 at y0 ⊢
      have Y0_6 := Lib.hid y0
      have Y1_6 := Lib.hid (Y1_5.out.below b6)
      have Y2_6 := Lib.hid (Y2_5.out.below b6)
      clear hK K' hS b6 y0 z6 Y1_5 Y2_5
      have hS := s6
      clear s6
      simp only [Act.put, List.setIfInBounds_toArray, List.set_cons_zero, List.set_cons_succ]
      refine regS_do (i := 3) rfl (by kernel_rfl) (fun K' hK => ?_)
      go_simp
      refine (H.xor _ _ _ 1 32 12 1 _ _ [0] 0 (by decide) (by decide) w6 Y0_6.out Y1_6.out Y2_6.out).mono ?_
      rintro e w7 ⟨v7, rfl, y7, b7⟩
      rw [EX.out] at y7
      have s7 := hS.trans (b7.mono hS.size)
      refine hK.out _ _ s7 ?_
      clear hK K' hS b7 Y0_6 Y1_6 Y2_6
      have hS := s7
      clear s7
      have Y7 := Lib.hid y7
      obtain ⟨A7, cap7, rfl, -, -⟩ := y7
      obtain ⟨bb, ob, rfl, hlb, hcb⟩ := Y7.out.spots (by simp)
      have c7 := hcb 0 118 rfl
      rw [Nat.add_zero] at c7
      have C7 := Lib.hid c7
      clear hcb c7 Y7
      refine regS_take (i := 4) (v := ?_) rfl (by kernel_rfl) (by kernel_rfl) (by kernel_rfl) (fun _ _ _ h => h) (by rfl) hS ?hy4 ?_
      case hy4 => intro w' hw'; go_simp; (try with_reducible rfl)
      simp only [Act.put, List.setIfInBounds_toArray, List.set_cons_zero, List.set_cons_succ]
      refine regS_take (i := 5) (v := ?_) rfl (by kernel_rfl) (by kernel_rfl) (by kernel_rfl) (fun _ _ _ h => h) (by rfl) hS ?hy5 ?_
      case hy5 => intro w' hw'; go_simp; (try with_reducible rfl)
      simp only [Act.put, List.setIfInBounds_toArray, List.set_cons_zero, List.set_cons_succ]
      refine regS_take (i := 6) (v := ?_) rfl (by kernel_rfl) (by kernel_rfl) (by kernel_rfl) (fun _ _ _ h => h) (by rfl) hS ?hy6 ?_
      case hy6 => intro w' hw'; go_simp; (try with_reducible rfl)
      simp only [Act.put, List.setIfInBounds_toArray, List.set_cons_zero, List.set_cons_succ]
      refine regS_take (i := 7) (v := ?_) rfl (by kernel_rfl) (by kernel_rfl) (by kernel_rfl) (fun _ _ _ h => h) (by rfl) hS ?hy7 ?_
      case hy7 => intro w' hw'; go_simp; (try with_reducible rfl)
      simp only [Act.put, List.setIfInBounds_toArray, List.set_cons_zero, List.set_cons_succ]
      refine regS_take (i := 8) (v := ?_) rfl (by kernel_rfl) (by kernel_rfl) (by kernel_rfl) (fun _ _ _ h => h) (by rfl) hS ?hy8 ?_
      case hy8 => intro w' hw'; go_simp; (try with_reducible rfl)
      simp only [Act.put, List.setIfInBounds_toArray, List.set_cons_zero, List.set_cons_succ]
      refine regS_end (by kernel_rfl) ?_
      have B7 := Lib.hid hS
      have c7 := C7.out
      clear hS C7
      go_wp2
      go_ret
      exact ⟨rfl, B7.out⟩
  · skip
    go_simp
    have y2 : BytesAt (w3.alloc (.cells #[.int .u8 0] 5)) (.slice (some ⟨w3.heap.size, 0, none⟩) 1 1) [0] := BytesAt.lit w3 [0] _ rfl
    have b4 : Below w3.heap.size w3 (w3.alloc (.cells #[.int .u8 0] 5)) := (Below.refl _ _).alloc (Nat.le_refl _) _
    have s4 := hS.trans (b4.mono hS.size)
    refine hK.out _ _ s4 ?_
    generalize w3.alloc (.cells #[.int .u8 0] 5) = w4 at *
    generalize w3.heap.size = g2 at y2 ⊢
    have Y2_4 := Lib.hid y2
    clear hK K' hS b4 y2
    have hS := s4
    clear s4
    refine regS_two (i := 0) (j := 1) rfl rfl (by kernel_rfl) (fun K' hK => ?_) (fun K' hK => ?_)
    · skip
      rw [if_pos (by rfl)]
      refine wp_make_bytes _ _ rfl 32 rfl rfl (by decide) ?_
      intro w5 y0 b5 z5
      have s5 := hS.trans (b5.mono hS.size)
      refine hK.out _ _ s5 ?_
      generalize w4.heap.size = g0 at y0 ⊢
      have Y0_5 := Lib.hid y0
      have Y2_5 := Lib.hid (Y2_4.out.below b5)
      clear hK K' hS b5 y0 z5 Y2_4
      have hS := s5
      clear s5
      simp only [Act.put, List.setIfInBounds_toArray, List.set_cons_zero, List.set_cons_succ]
      refine regS_do (i := 1) rfl (by kernel_rfl) (fun K' hK => ?_)
      rw [if_pos (by rfl)]
      refine wp_make_bytes _ _ rfl 12 rfl rfl (by decide) ?_
      intro w6 y1 b6 z6
      have s6 := hS.trans (b6.mono hS.size)
      refine hK.out _ _ s6 ?_
      generalize w5.heap.size = g1 at y1 ⊢
      have Y1_6 := Lib.hid y1
      have Y2_6 := Lib.hid (Y2_5.out.below b6)
      have Y0_6 := Lib.hid (Y0_5.out.below b6)
      clear hK K' hS b6 y1 z6 Y2_5 Y0_5
      have hS := s6
      clear s6
      simp only [Act.put, List.setIfInBounds_toArray, List.set_cons_zero, List.set_cons_succ]
      refine regS_do (i := 3) rfl (by kernel_rfl) (fun K' hK => ?_)
      go_simp
      refine (H.xor _ _ _ 1 32 12 1 _ _ [0] 0 (by decide) (by decide) w6 Y0_6.out Y1_6.out Y2_6.out).mono ?_
      rintro e w7 ⟨v7, rfl, y7, b7⟩
      rw [EX.out] at y7
      have s7 := hS.trans (b7.mono hS.size)
      refine hK.out _ _ s7 ?_
      clear hK K' hS b7 Y0_6 Y1_6 Y2_6
      have hS := s7
      clear s7
      have Y7 := Lib.hid y7
      obtain ⟨A7, cap7, rfl, -, -⟩ := y7
      obtain ⟨bb, ob, rfl, hlb, hcb⟩ := Y7.out.spots (by simp)
      have c7 := hcb 0 118 rfl
      rw [Nat.add_zero] at c7
      have C7 := Lib.hid c7
      clear hcb c7 Y7
      refine regS_take (i := 4) (v := ?_) rfl (by kernel_rfl) (by kernel_rfl) (by kernel_rfl) (fun _ _ _ h => h) (by rfl) hS ?hy4 ?_
      case hy4 => intro w' hw'; go_simp; (try with_reducible rfl)
      simp only [Act.put, List.setIfInBounds_toArray, List.set_cons_zero, List.set_cons_succ]
      refine regS_take (i := 5) (v := ?_) rfl (by kernel_rfl) (by kernel_rfl) (by kernel_rfl) (fun _ _ _ h => h) (by rfl) hS ?hy5 ?_
      case hy5 => intro w' hw'; go_simp; (try with_reducible rfl)
      simp only [Act.put, List.setIfInBounds_toArray, List.set_cons_zero, List.set_cons_succ]
      refine regS_take (i := 6) (v := ?_) rfl (by kernel_rfl) (by kernel_rfl) (by kernel_rfl) (fun _ _ _ h => h) (by rfl) hS ?hy6 ?_
      case hy6 => intro w' hw'; go_simp; (try with_reducible rfl)
      simp only [Act.put, List.setIfInBounds_toArray, List.set_cons_zero, List.set_cons_succ]
      refine regS_take (i := 7) (v := ?_) rfl (by kernel_rfl) (by kernel_rfl) (by kernel_rfl) (fun _ _ _ h => h) (by rfl) hS ?hy7 ?_
      case hy7 => intro w' hw'; go_simp; (try with_reducible rfl)
      simp only [Act.put, List.setIfInBounds_toArray, List.set_cons_zero, List.set_cons_succ]
      refine regS_take (i := 8) (v := ?_) rfl (by kernel_rfl) (by kernel_rfl) (by kernel_rfl) (fun _ _ _ h => h) (by rfl) hS ?hy8 ?_
      case hy8 => intro w' hw'; go_simp; (try with_reducible rfl)
      simp only [Act.put, List.setIfInBounds_toArray, List.set_cons_zero, List.set_cons_succ]
      refine regS_end (by kernel_rfl) ?_
      have B7 := Lib.hid hS
      have c7 := C7.out
      clear hS C7
      go_wp2
      go_ret
      exact ⟨rfl, B7.out⟩
    · skip
      rw [if_pos (by rfl)]
      refine wp_make_bytes _ _ rfl 12 rfl rfl (by decide) ?_
      intro w5 y1 b5 z5
      have s5 := hS.trans (b5.mono hS.size)
      refine hK.out _ _ s5 ?_
      generalize w4.heap.size = g1 at y1 ⊢
      have Y1_5 := Lib.hid y1
      have Y2_5 := Lib.hid (Y2_4.out.below b5)
      clear hK K' hS b5 y1 z5 Y2_4
      have hS := s5
      clear s5
      simp only [Act.put, List.setIfInBounds_toArray, List.set_cons_zero, List.set_cons_succ]
      refine regS_do (i := 0) rfl (by kernel_rfl) (fun K' hK => ?_)
      rw [if_pos (by rfl)]
      refine wp_make_bytes _ _ rfl 32 rfl rfl (by decide) ?_
      intro w6 y0 b6 z6
      have s6 := hS.trans (b6.mono hS.size)
      refine hK.out _ _ s6 ?_
      generalize w5.heap.size = g0 at y0 ⊢
      have Y0_6 := Lib.hid y0
      have Y2_6 := Lib.hid (Y2_5.out.below b6)
      have Y1_6 := Lib.hid (Y1_5.out.below b6)
      clear hK K' hS b6 y0 z6 Y2_5 Y1_5
      have hS := s6
      clear s6
      simp only [Act.put, List.setIfInBounds_toArray, List.set_cons_zero, List.set_cons_succ]
      refine regS_do (i := 3) rfl (by kernel_rfl) (fun K' hK => ?_)
      go_simp
      refine (H.xor _ _ _ 1 32 12 1 _ _ [0] 0 (by decide) (by decide) w6 Y0_6.out Y1_6.out Y2_6.out).mono ?_
      rintro e w7 ⟨v7, rfl, y7, b7⟩
      rw [EX.out] at y7
      have s7 := hS.trans (b7.mono hS.size)
      refine hK.out _ _ s7 ?_
      clear hK K' hS b7 Y0_6 Y1_6 Y2_6
      have hS := s7
      clear s7
      have Y7 := Lib.hid y7
      obtain ⟨A7, cap7, rfl, -, -⟩ := y7
      obtain ⟨bb, ob, rfl, hlb, hcb⟩ := Y7.out.spots (by simp)
      have c7 := hcb 0 118 rfl
      rw [Nat.add_zero] at c7
      have C7 := Lib.hid c7
      clear hcb c7 Y7
      refine regS_take (i := 4) (v := ?_) rfl (by kernel_rfl) (by kernel_rfl) (by kernel_rfl) (fun _ _ _ h => h) (by rfl) hS ?hy4 ?_
      case hy4 => intro w' hw'; go_simp; (try with_reducible rfl)
      simp only [Act.put, List.setIfInBounds_toArray, List.set_cons_zero, List.set_cons_succ]
      refine regS_take (i := 5) (v := ?_) rfl (by kernel_rfl) (by kernel_rfl) (by kernel_rfl) (fun _ _ _ h => h) (by rfl) hS ?hy5 ?_
      case hy5 => intro w' hw'; go_simp; (try with_reducible rfl)
      simp only [Act.put, List.setIfInBounds_toArray, List.set_cons_zero, List.set_cons_succ]
      refine regS_take (i := 6) (v := ?_) rfl (by kernel_rfl) (by kernel_rfl) (by kernel_rfl) (fun _ _ _ h => h) (by rfl) hS ?hy6 ?_
      case hy6 => intro w' hw'; go_simp; (try with_reducible rfl)
      simp only [Act.put, List.setIfInBounds_toArray, List.set_cons_zero, List.set_cons_succ]
      refine regS_take (i := 7) (v := ?_) rfl (by kernel_rfl) (by kernel_rfl) (by kernel_rfl) (fun _ _ _ h => h) (by rfl) hS ?hy7 ?_
      case hy7 => intro w' hw'; go_simp; (try with_reducible rfl)
      simp only [Act.put, List.setIfInBounds_toArray, List.set_cons_zero, List.set_cons_succ]
      refine regS_take (i := 8) (v := ?_) rfl (by kernel_rfl) (by kernel_rfl) (by kernel_rfl) (fun _ _ _ h => h) (by rfl) hS ?hy8 ?_
      case hy8 => intro w' hw'; go_simp; (try with_reducible rfl)
      simp only [Act.put, List.setIfInBounds_toArray, List.set_cons_zero, List.set_cons_succ]
      refine regS_end (by kernel_rfl) ?_
      have B7 := Lib.hid hS
      have c7 := C7.out
      clear hS C7
      go_wp2
      go_ret
      exact ⟨rfl, B7.out⟩
end Go.Proofs.Ythphneiecihkiaa
