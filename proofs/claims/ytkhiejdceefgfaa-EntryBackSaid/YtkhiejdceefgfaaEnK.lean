/- The chapter's example, as the statements of layer 11 ask for it (works). -/
import Derived.Test.YtkhiejdceefgfaaEnA
import Derived.Test.YtkhiejdceefgfaaRow
namespace Go.Proofs.Ytkhiejdceefgfaa
open Go.RowKit

theorem ents_one (w : World) (e : Ent) : EntsAt (w.alloc (.cells e.cells 24)) (.slice (some ⟨w.heap.size, 0, none⟩) 1 1) [e] := by
  have h := Whole.new w 24 e.cells
  refine ⟨_, _, rfl, Nat.le_refl _, fun _ => ⟨_, rfl, fun k e' hk j u hj => ?_⟩⟩
  have hk0 : k = 0 := by
    have := (List.getElem?_eq_some_iff.1 hk).1
    simp at this
    exact this
  subst hk0
  obtain rfl : e = e' := by simpa using hk
  have ha : (⟨w.heap.size, 0, none⟩ : Addr).add (0 * 6 + j) = ⟨w.heap.size, j, none⟩ := by unfold Addr.add; split <;> simp_all
  rw [ha, h.at_ j]
  exact hj

set_option maxRecDepth 100000 in
set_option maxHeartbeats 2000000 in
theorem works11 (H : EntryIs) (w : World) :
    Calls Try.prog 8 #[] w fun e w' => e = .returned (.bool true) ∧ Below w.heap.size w w' := by
  have HH := Lib.hid H
  clear H
  go_enter Try.func8, Try.ntmps8
  go_wp2_with (at_make; refine wpList_make_row rfl _ _ rfl 32 rfl rfl (by decide) ?_)
  intro w1 o1 b1 z1
  have r1 := conv_bytes (BytesAt.of_own (l := List.replicate 32 0) o1)
  have B1 := Lib.hid b1
  clear o1 b1 z1
  go_wp2_with (refine wpList_alloc_row rfl 24 rfl ent0.cells ent_zero ?_)
  intro w2 b2 x2 z2
  have X2 : Hid (Whole w2 w1.heap.size 24 ent0.cells) := Lib.hid x2
  have B2 := Lib.hid (B1.out.trans (b2.mono B1.out.size))
  have Z1 := Lib.hid B1.out.size
  obtain ⟨g, hg⟩ : ∃ g, g = w1.heap.size := ⟨_, rfl⟩
  rw [← hg] at X2 Z1 ⊢
  clear r1 b2 x2 z2 B1 hg
  go_wp2_with (with_reducible refine wpList_store_whole rfl 24 _ _ rfl g exE.cells (by with_unfolding_all exact rfl) (by with_unfolding_all exact rfl) _ _ X2.out (ent_size' _) rfl (Ent.cells_one _) ?_)
  intro w3 g3 x3 z3
  have E3 : Hid (EntAt w3 g exE) := Lib.hid x3
  have B3 := Lib.hid (B2.out.grown g3 B2.out.size (fun k hk => by injection hk with hk; have := Z1.out; omega))
  clear g3 x3 z3 X2 B2
  have EB := Lib.hid ex_body
  have ER := Lib.hid ex_right
  have EX := Lib.hid ex_read
  have E1 : Hid (exE.name.length ≤ 1000 ∧ exE.tag.length ≤ 1000 ∧ exE.id < 18446744073709551616) := Lib.hid (by decide)
  have E4 : Hid (∀ (E : Ent), E = exE → E.name = [97]) := Lib.hid (fun E h => by rw [h]; rfl)
  obtain ⟨E, hE⟩ : ∃ E, E = exE := ⟨_, rfl⟩
  have EN := Lib.hid (E4.out E hE)
  rw [← hE] at E3 EB ER EX E1
  clear hE E4
  go_wp2_with (with_reducible refine wpList_load_ent rfl _ rfl g (by with_unfolding_all exact rfl) E E3.out ?_)
  refine (HH.out.bytes E w3 E1.out.1 E1.out.2.1 E1.out.2.2).mono ?_
  rintro e w4 ⟨v4, rfl, y4, b4⟩
  obtain ⟨A4, c4, rfl, -, -⟩ := id y4
  have CR := Lib.hid (HH.out.read _ _ _ (bytesE E) w4 (by rw [bytesE, List.length_append, bodyL_length]; have := E1.out; omega) y4)
  rw [EX.out.1, EX.out.2] at CR
  have E4 : Hid (EntAt w4 g E) := Lib.hid (Whole.below E3.out b4 E3.out.lt)
  have B4 := Lib.hid (B3.out.trans (b4.mono B3.out.size))
  clear y4 b4 E3 B3
  go_wp2_with fail
  refine CR.out.mono ?_
  rintro e w5 ⟨rfl, b5⟩
  have E5 : Hid (EntAt w5 g E) := Lib.hid (Whole.below E4.out b5 E4.out.lt)
  have B5 := Lib.hid (B4.out.trans (b5.mono B4.out.size))
  clear b5 E4 B4 CR
  go_wp2_with (refine wpList_alloc_row rfl 24 rfl ent0.cells ent_zero ?_)
  intro w6 b6 x6 z6
  have X6 : Hid (Whole w6 w5.heap.size 24 ent0.cells) := Lib.hid x6
  have E6 : Hid (EntAt w6 g E) := Lib.hid (Whole.below E5.out b6 E5.out.lt)
  have B6 := Lib.hid (B5.out.trans (b6.mono B5.out.size))
  have Z6 := Lib.hid (And.intro B5.out.size E5.out.lt)
  obtain ⟨x, hx⟩ : ∃ x, x = w5.heap.size := ⟨_, rfl⟩
  rw [← hx] at X6 Z6 ⊢
  clear b6 x6 z6 E5 B5 hx
  go_wp2_with (with_reducible refine wpList_store_whole rfl 24 _ _ rfl x E.cells (by with_unfolding_all exact rfl) (by with_unfolding_all exact rfl) _ _ X6.out (ent_size' _) rfl (Ent.cells_one _) ?_)
  intro w7 g7 x7 z7
  have X7 : Hid (EntAt w7 x E) := Lib.hid x7
  have E7 : Hid (EntAt w7 g E) := Lib.hid (Whole.grown E6.out g7 (fun k => by injection k with k; have := Z6.out; omega))
  have B7 := Lib.hid (B6.out.grown g7 B6.out.size (fun k hk => by injection hk with hk; have := Z6.out; omega))
  clear g7 x7 z7 X6 E6 B6
  obtain ⟨a0, a1, a2, a3, a4, a5⟩ := E7.out.six
  go_wp2_with fail
  refine (HH.out.body E w7 E1.out.1 E1.out.2.2).mono ?_
  rintro e w8 ⟨v8, rfl, y8, b8⟩
  have r8 : (convert 27 9 v8).run Try.prog w8 = .ok (.string ⟨#[0, 1, 97, 0, 0, 0, 0, 0, 0, 1, 2, 0, 0, 0, 1, 0, 0, 0, 2, 0, 3]⟩) w8 := by
    have q := conv_bytes y8
    rw [EB.out] at q
    exact q
  have X8 : Hid (EntAt w8 x E) := Lib.hid (Whole.below X7.out b8 X7.out.lt)
  have E8 : Hid (EntAt w8 g E) := Lib.hid (Whole.below E7.out b8 E7.out.lt)
  have B8 := Lib.hid (B7.out.trans (b8.mono B7.out.size))
  clear y8 b8 X7 E7 B7 a0 a1 a2 a3 a4 a5
  obtain ⟨a0, a1, a2, a3, a4, a5⟩ := E8.out.six
  have CR := Lib.hid (HH.out.right E w8)
  rw [ER.out] at CR
  go_wp2_with fail
  refine CR.out.mono ?_
  rintro e w9 ⟨rfl, b9⟩
  have X9 : Hid (EntAt w9 x E) := Lib.hid (Whole.below X8.out b9 X8.out.lt)
  have E9 : Hid (EntAt w9 g E) := Lib.hid (Whole.below E8.out b9 E8.out.lt)
  have B9 := Lib.hid (B8.out.trans (b9.mono B8.out.size))
  clear b9 X8 E8 B8 a0 a1 a2 a3 a4 a5 CR r8
  obtain ⟨a0, a1, a2, a3, a4, a5⟩ := E9.out.six
  obtain ⟨c0, c1, c2, c3, c4, c5⟩ := X9.out.six
  have b10 : Below w9.heap.size w9 (w9.alloc (.cells E.cells 24)) := (Below.refl _ _).alloc (Nat.le_refl _) _
  have X10 : Hid (EntAt (w9.alloc (.cells E.cells 24)) x E) := Lib.hid (Whole.below X9.out b10 X9.out.lt)
  have E10 : Hid (EntAt (w9.alloc (.cells E.cells 24)) g E) := Lib.hid (Whole.below E9.out b10 E9.out.lt)
  have B10 := Lib.hid (B9.out.trans (b10.mono B9.out.size))
  have CF := Lib.hid (HH.out.find _ 1 1 [E] [98] _ (by decide) (ents_one w9 E))
  have hF : findE [98] [E] 0 = -1 := by simp [findE, EN.out]
  rw [hF] at CF
  clear b10 hF
  go_wp2_with fail
  refine CF.out.mono ?_
  rintro e w11 ⟨rfl, b11⟩
  have X11 : Hid (EntAt w11 x E) := Lib.hid (Whole.below X10.out b11 X10.out.lt)
  have E11 : Hid (EntAt w11 g E) := Lib.hid (Whole.below E10.out b11 E10.out.lt)
  have B11 := Lib.hid (B10.out.trans (b11.mono B10.out.size))
  clear b11 X10 E10 B10 X9 E9 B9 a0 a1 a2 a3 a4 a5 c0 c1 c2 c3 c4 c5 CF
  obtain ⟨a0, a1, a2, a3, a4, a5⟩ := E11.out.six
  obtain ⟨c0, c1, c2, c3, c4, c5⟩ := X11.out.six
  have CW := Lib.hid (HH.out.who E E w11)
  have hW : entW E E = true := by simp [entW]
  rw [hW] at CW
  clear hW
  go_wp2_with fail
  refine CW.out.mono ?_
  rintro e w12 ⟨rfl, b12⟩
  have B12 := Lib.hid (B11.out.trans (b12.mono B11.out.size))
  clear b12 X11 E11 B11 a0 a1 a2 a3 a4 a5 c0 c1 c2 c3 c4 c5 CW
  go_wp2
  go_ret
  exact ⟨rfl, B12.out⟩
end Go.Proofs.Ytkhiejdceefgfaa
