/- MsgPuts' core: what is put, whether a message may be, and what is kept, is as the document has it. -/
import Derived.Test.YtnjeopgcpffkcaaGbi
import Derived.Test.YtnjeopgcpffkcaaMMrV
import Derived.Test.YtnjeopgcpffkcaaMMrB
import Derived.Test.YtnjeopgcpffkcaaGb
namespace Go.Proofs.Ytnjeopgcpffkcaa
set_option maxRecDepth 100000
open Go.RowKit

set_option maxRecDepth 100000 in
set_option maxHeartbeats 2000000 in
theorem msgPuts_core (m : Mg) (e t : Row) (i : Item) (w : World) (h : Lists w e t m) (ok : m.Ok) :
    Calls Try.prog 3 #[(m.raw e t).val, i.val] w fun x w' => x = .returned (.bool true) ∧ Below w.heap.size w w' := by
  have H := Lib.hid h
  have CG := fun w1 (b : Below w.heap.size w w1) => Lib.hid (greatM_any m e t w1 (h.below b))
  cases hg : greatM m with
  | true =>
    rw [hg] at CG
    clear h ok hg
    go_enter Try.func3, Try.ntmps3
    go_wp2_with (refine wpList_box_row rfl 27 _ rfl (m.raw e t).enc.toArray (by with_unfolding_all exact rfl) ?_)
    intro w1 b1 x1 z1
    obtain ⟨gM, hgM⟩ : ∃ g, g = w.heap.size := ⟨_, rfl⟩
    have M_M := Lib.hid (show w.heap.size ≤ gM from by rw [hgM]; exact Nat.le_refl _)
    have B1 := Lib.hid b1
    rw [← hgM] at x1 ⊢
    have M1 : Hid (Mr.At w1 gM (m.raw e t)) := Lib.hid x1
    clear b1 x1 z1 hgM 
    go_wp2_with (first | (with_reducible refine wpList_load_whole_st Mr.isRec rfl _ rfl gM (by with_unfolding_all exact rfl) _ _ (Mr.len _) M1.out ?_) | (refine wpList_box_row rfl 29 _ rfl i.enc.toArray (by with_unfolding_all exact rfl) ?_))
    intro w2 b2 x2 z2
    obtain ⟨gI, hgI⟩ : ∃ g, g = w1.heap.size := ⟨_, rfl⟩
    have N_M_I := Lib.hid (show gM < gI from by rw [hgI]; exact M1.out.lt)
    have M_I := Lib.hid (show w.heap.size ≤ gI from by rw [hgI]; exact B1.out.size)
    have M2 : Hid (Mr.At w2 gM (m.raw e t)) := Lib.hid (Whole.below M1.out b2 M1.out.lt)
    have B2 := Lib.hid (B1.out.trans (b2.mono B1.out.size))
    rw [← hgI] at x2 ⊢
    have I2 : Hid (Item.At w2 gI i) := Lib.hid x2
    clear b2 x2 z2 hgI M1 B1
    go_wp2_with (first | (with_reducible refine wpList_load_whole_st Mr.isRec rfl _ rfl gM (by with_unfolding_all exact rfl) _ _ (Mr.len _) M2.out ?_) | (with_reducible refine wpList_load_whole Item.isRec rfl _ rfl gI (by with_unfolding_all exact rfl) _ _ (Item.len _) I2.out ?_))
    refine ((CG w2 B2.out).out).mono ?_
    rintro e3 w3 ⟨rfl, b3⟩
    have M3 : Hid (Mr.At w3 gM (m.raw e t)) := Lib.hid (Whole.below M2.out b3 M2.out.lt)
    have I3 : Hid (Item.At w3 gI i) := Lib.hid (Whole.below I2.out b3 I2.out.lt)
    have B3 := Lib.hid (B2.out.trans (b3.mono B2.out.size))
    clear b3 M2 I2 B2
    go_wp2_with (first | (with_reducible refine wpList_load_whole_st Mr.isRec rfl _ rfl gM (by with_unfolding_all exact rfl) _ _ (Mr.len _) M3.out ?_) | (with_reducible refine wpList_load_whole Item.isRec rfl _ rfl gI (by with_unfolding_all exact rfl) _ _ (Item.len _) I3.out ?_))
    refine (works16 w3).mono ?_
    rintro e4 w4 ⟨rfl, b4⟩
    have M4 : Hid (Mr.At w4 gM (m.raw e t)) := Lib.hid (Whole.below M3.out b4 M3.out.lt)
    have I4 : Hid (Item.At w4 gI i) := Lib.hid (Whole.below I3.out b4 I3.out.lt)
    have B4 := Lib.hid (B3.out.trans (b4.mono B3.out.size))
    clear b4 M3 I3 B3
    go_wp2
    go_ret
    exact ⟨rfl, B4.out⟩
  | false =>
    have hs := (great_small hg).1
    rw [hg] at CG
    by_cases k0 : 300 < i.key.length
    · have x0 : decide ((300 : Int) < (i.key.length : Int)) = true := by simp; omega
      clear h ok hg hs k0
      go_enter Try.func3, Try.ntmps3
      go_wp2_with (refine wpList_box_row rfl 27 _ rfl (m.raw e t).enc.toArray (by with_unfolding_all exact rfl) ?_)
      intro w1 b1 x1 z1
      obtain ⟨gM, hgM⟩ : ∃ g, g = w.heap.size := ⟨_, rfl⟩
      have M_M := Lib.hid (show w.heap.size ≤ gM from by rw [hgM]; exact Nat.le_refl _)
      have B1 := Lib.hid b1
      rw [← hgM] at x1 ⊢
      have M1 : Hid (Mr.At w1 gM (m.raw e t)) := Lib.hid x1
      clear b1 x1 z1 hgM 
      go_wp2_with (first | (with_reducible refine wpList_load_whole_st Mr.isRec rfl _ rfl gM (by with_unfolding_all exact rfl) _ _ (Mr.len _) M1.out ?_) | (refine wpList_box_row rfl 29 _ rfl i.enc.toArray (by with_unfolding_all exact rfl) ?_))
      intro w2 b2 x2 z2
      obtain ⟨gI, hgI⟩ : ∃ g, g = w1.heap.size := ⟨_, rfl⟩
      have N_M_I := Lib.hid (show gM < gI from by rw [hgI]; exact M1.out.lt)
      have M_I := Lib.hid (show w.heap.size ≤ gI from by rw [hgI]; exact B1.out.size)
      have M2 : Hid (Mr.At w2 gM (m.raw e t)) := Lib.hid (Whole.below M1.out b2 M1.out.lt)
      have B2 := Lib.hid (B1.out.trans (b2.mono B1.out.size))
      rw [← hgI] at x2 ⊢
      have I2 : Hid (Item.At w2 gI i) := Lib.hid x2
      clear b2 x2 z2 hgI M1 B1
      go_wp2_with (first | (with_reducible refine wpList_load_whole_st Mr.isRec rfl _ rfl gM (by with_unfolding_all exact rfl) _ _ (Mr.len _) M2.out ?_) | (with_reducible refine wpList_load_whole Item.isRec rfl _ rfl gI (by with_unfolding_all exact rfl) _ _ (Item.len _) I2.out ?_))
      refine ((CG w2 B2.out).out).mono ?_
      rintro e3 w3 ⟨rfl, b3⟩
      have M3 : Hid (Mr.At w3 gM (m.raw e t)) := Lib.hid (Whole.below M2.out b3 M2.out.lt)
      have I3 : Hid (Item.At w3 gI i) := Lib.hid (Whole.below I2.out b3 I2.out.lt)
      have B3 := Lib.hid (B2.out.trans (b3.mono B2.out.size))
      clear b3 M2 I2 B2
      have i0 := Item.At.at_key I3.out
      go_wp2_with (first | (with_reducible refine wpList_load_whole_st Mr.isRec rfl _ rfl gM (by with_unfolding_all exact rfl) _ _ (Mr.len _) M3.out ?_) | (with_reducible refine wpList_load_whole Item.isRec rfl _ rfl gI (by with_unfolding_all exact rfl) _ _ (Item.len _) I3.out ?_))
      refine (works16 w3).mono ?_
      rintro e4 w4 ⟨rfl, b4⟩
      have M4 : Hid (Mr.At w4 gM (m.raw e t)) := Lib.hid (Whole.below M3.out b4 M3.out.lt)
      have I4 : Hid (Item.At w4 gI i) := Lib.hid (Whole.below I3.out b4 I3.out.lt)
      have B4 := Lib.hid (B3.out.trans (b4.mono B3.out.size))
      clear b4 M3 I3 B3
      go_wp2
      go_ret
      exact ⟨rfl, B4.out⟩
    · have x0 : decide ((300 : Int) < (i.key.length : Int)) = false := by simp; omega
      by_cases k1 : 300 < i.text.length
      · have x1 : decide ((300 : Int) < (i.text.length : Int)) = true := by simp; omega
        clear h ok hg hs k0 k1
        go_enter Try.func3, Try.ntmps3
        go_wp2_with (refine wpList_box_row rfl 27 _ rfl (m.raw e t).enc.toArray (by with_unfolding_all exact rfl) ?_)
        intro w1 b1 x1 z1
        obtain ⟨gM, hgM⟩ : ∃ g, g = w.heap.size := ⟨_, rfl⟩
        have M_M := Lib.hid (show w.heap.size ≤ gM from by rw [hgM]; exact Nat.le_refl _)
        have B1 := Lib.hid b1
        rw [← hgM] at x1 ⊢
        have M1 : Hid (Mr.At w1 gM (m.raw e t)) := Lib.hid x1
        clear b1 x1 z1 hgM 
        go_wp2_with (first | (with_reducible refine wpList_load_whole_st Mr.isRec rfl _ rfl gM (by with_unfolding_all exact rfl) _ _ (Mr.len _) M1.out ?_) | (refine wpList_box_row rfl 29 _ rfl i.enc.toArray (by with_unfolding_all exact rfl) ?_))
        intro w2 b2 x2 z2
        obtain ⟨gI, hgI⟩ : ∃ g, g = w1.heap.size := ⟨_, rfl⟩
        have N_M_I := Lib.hid (show gM < gI from by rw [hgI]; exact M1.out.lt)
        have M_I := Lib.hid (show w.heap.size ≤ gI from by rw [hgI]; exact B1.out.size)
        have M2 : Hid (Mr.At w2 gM (m.raw e t)) := Lib.hid (Whole.below M1.out b2 M1.out.lt)
        have B2 := Lib.hid (B1.out.trans (b2.mono B1.out.size))
        rw [← hgI] at x2 ⊢
        have I2 : Hid (Item.At w2 gI i) := Lib.hid x2
        clear b2 x2 z2 hgI M1 B1
        go_wp2_with (first | (with_reducible refine wpList_load_whole_st Mr.isRec rfl _ rfl gM (by with_unfolding_all exact rfl) _ _ (Mr.len _) M2.out ?_) | (with_reducible refine wpList_load_whole Item.isRec rfl _ rfl gI (by with_unfolding_all exact rfl) _ _ (Item.len _) I2.out ?_))
        refine ((CG w2 B2.out).out).mono ?_
        rintro e3 w3 ⟨rfl, b3⟩
        have M3 : Hid (Mr.At w3 gM (m.raw e t)) := Lib.hid (Whole.below M2.out b3 M2.out.lt)
        have I3 : Hid (Item.At w3 gI i) := Lib.hid (Whole.below I2.out b3 I2.out.lt)
        have B3 := Lib.hid (B2.out.trans (b3.mono B2.out.size))
        clear b3 M2 I2 B2
        have i0 := Item.At.at_key I3.out
        have i1 := Item.At.at_text I3.out
        go_wp2_with (first | (with_reducible refine wpList_load_whole_st Mr.isRec rfl _ rfl gM (by with_unfolding_all exact rfl) _ _ (Mr.len _) M3.out ?_) | (with_reducible refine wpList_load_whole Item.isRec rfl _ rfl gI (by with_unfolding_all exact rfl) _ _ (Item.len _) I3.out ?_))
        refine (works16 w3).mono ?_
        rintro e4 w4 ⟨rfl, b4⟩
        have M4 : Hid (Mr.At w4 gM (m.raw e t)) := Lib.hid (Whole.below M3.out b4 M3.out.lt)
        have I4 : Hid (Item.At w4 gI i) := Lib.hid (Whole.below I3.out b4 I3.out.lt)
        have B4 := Lib.hid (B3.out.trans (b4.mono B3.out.size))
        clear b4 M3 I3 B3
        go_wp2
        go_ret
        exact ⟨rfl, B4.out⟩
      · have x1 : decide ((300 : Int) < (i.text.length : Int)) = false := by simp; omega
        have hb1 := (bareM_len m)
        have C1 := fun w1 (b : Below w.heap.size w w1) => Lib.hid (msCopy_any m e t hs.1 hs.2 w1 (h.below b))
        have C2 := fun e1 t1 w1 hl => Lib.hid (msPut_any m e1 t1 hs.1 hs.2 w1 hl)
        have C3 := fun w1 (b : Below w.heap.size w w1) => Lib.hid (refMsPut_any m e t ok hs.1 hs.2 w1 (h.below b))
        have C4 := fun w1 (b : Below w.heap.size w w1) => Lib.hid (msRight_any m e t hs.1 hs.2 w1 (h.below b))
        have C5 := fun w1 (b : Below w.heap.size w w1) => Lib.hid (refMsRight_any m e t hs.1 hs.2 w1 (h.below b))
        have C6 := fun w1 (b : Below w.heap.size w w1) => Lib.hid (msBare_any m e t hs.1 hs.2 w1 (h.below b))
        have C7 := fun w1 (b : Below w.heap.size w w1) => Lib.hid (refBare_any m e t w1 (h.below b))
        have C8 := fun e1 t1 e2 t2 w1 ha hb => Lib.hid (refSame_self (bareM m) e1 t1 e2 t2 (by have := hs.1; omega) (by have := hs.2; omega) w1 ha hb)
        have C9 := fun w => Lib.hid (msItem_any i w)
        have C10 := fun w => Lib.hid (refItem_any i w)
        have C11 := fun e1 t1 w1 hl (b : Below w.heap.size w w1) => Lib.hid (refSame_self m e1 t1 e t hs.1 hs.2 w1 hl (h.below b))
        clear h ok hg hs k0 k1 hb1
        generalize (if RightM m then putB m else []) = l at *
        generalize (if RightM m then (0 : Int) else 2) = c at *
        generalize rightM m = q at *
        generalize itemB i = qi at *
        go_enter Try.func3, Try.ntmps3
        go_wp2_with (refine wpList_box_row rfl 27 _ rfl (m.raw e t).enc.toArray (by with_unfolding_all exact rfl) ?_)
        intro w1 b1 x1 z1
        obtain ⟨gM, hgM⟩ : ∃ g, g = w.heap.size := ⟨_, rfl⟩
        have M_M := Lib.hid (show w.heap.size ≤ gM from by rw [hgM]; exact Nat.le_refl _)
        have B1 := Lib.hid b1
        rw [← hgM] at x1 ⊢
        have M1 : Hid (Mr.At w1 gM (m.raw e t)) := Lib.hid x1
        clear b1 x1 z1 hgM 
        go_wp2_with (first | (with_reducible refine wpList_load_whole_st Mr.isRec rfl _ rfl gM (by with_unfolding_all exact rfl) _ _ (Mr.len _) M1.out ?_) | (refine wpList_box_row rfl 29 _ rfl i.enc.toArray (by with_unfolding_all exact rfl) ?_))
        intro w2 b2 x2 z2
        obtain ⟨gI, hgI⟩ : ∃ g, g = w1.heap.size := ⟨_, rfl⟩
        have N_M_I := Lib.hid (show gM < gI from by rw [hgI]; exact M1.out.lt)
        have M_I := Lib.hid (show w.heap.size ≤ gI from by rw [hgI]; exact B1.out.size)
        have M2 : Hid (Mr.At w2 gM (m.raw e t)) := Lib.hid (Whole.below M1.out b2 M1.out.lt)
        have B2 := Lib.hid (B1.out.trans (b2.mono B1.out.size))
        rw [← hgI] at x2 ⊢
        have I2 : Hid (Item.At w2 gI i) := Lib.hid x2
        clear b2 x2 z2 hgI M1 B1
        go_wp2_with (first | (with_reducible refine wpList_load_whole_st Mr.isRec rfl _ rfl gM (by with_unfolding_all exact rfl) _ _ (Mr.len _) M2.out ?_) | (with_reducible refine wpList_load_whole Item.isRec rfl _ rfl gI (by with_unfolding_all exact rfl) _ _ (Item.len _) I2.out ?_))
        refine ((CG w2 B2.out).out).mono ?_
        rintro e3 w3 ⟨rfl, b3⟩
        have M3 : Hid (Mr.At w3 gM (m.raw e t)) := Lib.hid (Whole.below M2.out b3 M2.out.lt)
        have I3 : Hid (Item.At w3 gI i) := Lib.hid (Whole.below I2.out b3 I2.out.lt)
        have B3 := Lib.hid (B2.out.trans (b3.mono B2.out.size))
        clear b3 M2 I2 B2
        have i0 := Item.At.at_key I3.out
        have i1 := Item.At.at_text I3.out
        go_wp2_with (first | (with_reducible refine wpList_load_whole_st Mr.isRec rfl _ rfl gM (by with_unfolding_all exact rfl) _ _ (Mr.len _) M3.out ?_) | (with_reducible refine wpList_load_whole Item.isRec rfl _ rfl gI (by with_unfolding_all exact rfl) _ _ (Item.len _) I3.out ?_))
        refine ((C1 w3 B3.out).out).mono ?_
        rintro e4 w4 ⟨e1, t1, rfl, o1, b4⟩
        have M4 : Hid (Mr.At w4 gM (m.raw e t)) := Lib.hid (Whole.below M3.out b4 M3.out.lt)
        have I4 : Hid (Item.At w4 gI i) := Lib.hid (Whole.below I3.out b4 I3.out.lt)
        have B4 := Lib.hid (B3.out.trans (b4.mono B3.out.size))
        clear b4 M3 I3 B3
        have L0 := Lib.hid o1.lists
        clear o1 i0 i1
        have D4 : Hid (Since w4 w4) := Lib.hid (⟨Below.refl _ _⟩)
        go_wp2_with (first | (with_reducible refine wpList_load_whole_st Mr.isRec rfl _ rfl gM (by with_unfolding_all exact rfl) _ _ (Mr.len _) M4.out ?_) | (with_reducible refine wpList_load_whole Item.isRec rfl _ rfl gI (by with_unfolding_all exact rfl) _ _ (Item.len _) I4.out ?_) | (refine wpList_alloc_row rfl 27 rfl Mr.zero.enc.toArray Mr.zero_is ?_))
        intro w5 b5 x5 z5
        obtain ⟨gO, hgO⟩ : ∃ g, g = w4.heap.size := ⟨_, rfl⟩
        have N_M_O := Lib.hid (show gM < gO from by rw [hgO]; exact M4.out.lt)
        have N_I_O := Lib.hid (show gI < gO from by rw [hgO]; exact I4.out.lt)
        have L_D_O := Lib.hid (show w4.heap.size ≤ gO from by rw [hgO]; exact D4.out.b.size)
        have M_O := Lib.hid (show w.heap.size ≤ gO from by rw [hgO]; exact B4.out.size)
        have M5 : Hid (Mr.At w5 gM (m.raw e t)) := Lib.hid (Whole.below M4.out b5 M4.out.lt)
        have I5 : Hid (Item.At w5 gI i) := Lib.hid (Whole.below I4.out b5 I4.out.lt)
        have D5 : Hid (Since w4 w5) := Lib.hid (D4.out.below b5)
        have B5 := Lib.hid (B4.out.trans (b5.mono B4.out.size))
        rw [← hgO] at x5 ⊢
        have O5 : Hid (Mr.At w5 gO Mr.zero) := Lib.hid x5
        clear b5 x5 z5 hgO M4 I4 D4 B4
        go_wp2_with (first | (with_reducible refine wpList_load_whole_st Mr.isRec rfl _ rfl gM (by with_unfolding_all exact rfl) _ _ (Mr.len _) M5.out ?_) | (with_reducible refine wpList_load_whole Item.isRec rfl _ rfl gI (by with_unfolding_all exact rfl) _ _ (Item.len _) I5.out ?_) | (with_reducible refine wpList_load_whole_st Mr.isRec rfl _ rfl gO (by with_unfolding_all exact rfl) _ _ (Mr.len _) O5.out ?_) | (with_reducible refine wpList_store_whole rfl 27 _ _ rfl gO (m.raw e1 t1).enc.toArray (by with_unfolding_all exact rfl) (by with_unfolding_all exact rfl) _ _ O5.out (Mr.size _) rfl (Mr.one _) ?_))
        intro w6 q6 x6 z6
        have O6 : Hid (Mr.At w6 gO (m.raw e1 t1)) := Lib.hid x6
        have M6 : Hid (Mr.At w6 gM (m.raw e t)) := Lib.hid (grown_far M5.out q6 (by have := N_M_O.out; omega))
        have I6 : Hid (Item.At w6 gI i) := Lib.hid (grown_far I5.out q6 (by have := N_I_O.out; omega))
        have D6 : Hid (Since w4 w6) := Lib.hid (D5.out.far q6 L_D_O.out)
        have B6 := Lib.hid (B5.out.grown q6 B5.out.size (fun k hk => by injection hk with hk; have := M_O.out; omega))
        clear q6 x6 z6 O5 M5 I5 D5 B5
        have L1 := Lib.hid (L0.out.below D6.out.b)
        clear D6
        have L6 : Hid (Lists w6 e1 t1 m) := Lib.hid (L1.out)
        clear L1
        go_wp2_with (first | (with_reducible refine wpList_load_whole_st Mr.isRec rfl _ rfl gM (by with_unfolding_all exact rfl) _ _ (Mr.len _) M6.out ?_) | (with_reducible refine wpList_load_whole Item.isRec rfl _ rfl gI (by with_unfolding_all exact rfl) _ _ (Item.len _) I6.out ?_) | (with_reducible refine wpList_load_whole_st Mr.isRec rfl _ rfl gO (by with_unfolding_all exact rfl) _ _ (Mr.len _) O6.out ?_))
        refine ((C2 e1 t1 w6 L6.out).out).mono ?_
        rintro e7 w7 ⟨v1, rfl, y1, b7⟩
        have M7 : Hid (Mr.At w7 gM (m.raw e t)) := Lib.hid (Whole.below M6.out b7 M6.out.lt)
        have I7 : Hid (Item.At w7 gI i) := Lib.hid (Whole.below I6.out b7 I6.out.lt)
        have O7 : Hid (Mr.At w7 gO (m.raw e1 t1)) := Lib.hid (Whole.below O6.out b7 O6.out.lt)
        have L7 : Hid (Lists w7 e1 t1 m) := Lib.hid (L6.out.below b7)
        have B7 := Lib.hid (B6.out.trans (b7.mono B6.out.size))
        have Y7 : Hid (BytesAt w7 v1 l) := Lib.hid y1
        clear b7 M6 I6 O6 L6 B6 y1
        go_wp2_with (first | (with_reducible refine wpList_load_whole_st Mr.isRec rfl _ rfl gM (by with_unfolding_all exact rfl) _ _ (Mr.len _) M7.out ?_) | (with_reducible refine wpList_load_whole Item.isRec rfl _ rfl gI (by with_unfolding_all exact rfl) _ _ (Item.len _) I7.out ?_) | (with_reducible refine wpList_load_whole_st Mr.isRec rfl _ rfl gO (by with_unfolding_all exact rfl) _ _ (Mr.len _) O7.out ?_))
        refine ((C3 w7 B7.out).out).mono ?_
        rintro e8 w8 ⟨v2, rfl, y2, b8⟩
        have M8 : Hid (Mr.At w8 gM (m.raw e t)) := Lib.hid (Whole.below M7.out b8 M7.out.lt)
        have I8 : Hid (Item.At w8 gI i) := Lib.hid (Whole.below I7.out b8 I7.out.lt)
        have O8 : Hid (Mr.At w8 gO (m.raw e1 t1)) := Lib.hid (Whole.below O7.out b8 O7.out.lt)
        have L8 : Hid (Lists w8 e1 t1 m) := Lib.hid (L7.out.below b8)
        have Y8 : Hid (BytesAt w8 v1 l) := Lib.hid (Y7.out.below b8)
        have B8 := Lib.hid (B7.out.trans (b8.mono B7.out.size))
        have Z8 : Hid (BytesAt w8 v2 l) := Lib.hid y2
        clear b8 M7 I7 O7 L7 Y7 B7 y2
        go_wp2_with (first | (with_reducible refine wpList_load_whole_st Mr.isRec rfl _ rfl gM (by with_unfolding_all exact rfl) _ _ (Mr.len _) M8.out ?_) | (with_reducible refine wpList_load_whole Item.isRec rfl _ rfl gI (by with_unfolding_all exact rfl) _ _ (Item.len _) I8.out ?_) | (with_reducible refine wpList_load_whole_st Mr.isRec rfl _ rfl gO (by with_unfolding_all exact rfl) _ _ (Mr.len _) O8.out ?_))
        refine reg_begin (by kernel_rfl) fun w9 b9 z9 => ?_
        have M9 : Hid (Mr.At w9 gM (m.raw e t)) := Lib.hid (Whole.below M8.out b9 M8.out.lt)
        have I9 : Hid (Item.At w9 gI i) := Lib.hid (Whole.below I8.out b9 I8.out.lt)
        have O9 : Hid (Mr.At w9 gO (m.raw e1 t1)) := Lib.hid (Whole.below O8.out b9 O8.out.lt)
        have L9 : Hid (Lists w9 e1 t1 m) := Lib.hid (L8.out.below b9)
        have Y9 : Hid (BytesAt w9 v1 l) := Lib.hid (Y8.out.below b9)
        have Z9 : Hid (BytesAt w9 v2 l) := Lib.hid (Z8.out.below b9)
        have B9 := Lib.hid (B8.out.trans (b9.mono B8.out.size))
        clear b9 z9 M8 I8 O8 L8 Y8 Z8 B8
        refine reg_take (i := 0) (v := ?_) rfl (by kernel_rfl) (by kernel_rfl) (by kernel_rfl) (fun _ _ _ h => h) (by rfl) ?hy0 ?_
        case hy0 => intro w' hw'; go_simp; (try with_reducible rfl)
        simp only [Act.put, List.setIfInBounds_toArray, List.set_cons_zero, List.set_cons_succ]
        refine reg_take (i := 1) (v := .string ⟨l.toArray⟩) rfl (by kernel_rfl) (by kernel_rfl) (by kernel_rfl) (fun _ _ _ h => h) (by rfl) ?hy1 ?_
        case hy1 => intro w' hw'; exact (by have r := conv_bytes (Y9.out.below hw'); go_simp; (try with_reducible rfl))
        simp only [Act.put, List.setIfInBounds_toArray, List.set_cons_zero, List.set_cons_succ]
        refine reg_take (i := 2) (v := ?_) rfl (by kernel_rfl) (by kernel_rfl) (by kernel_rfl) (fun _ _ _ h => h) (by rfl) ?hy2 ?_
        case hy2 => intro w' hw'; go_simp; (try with_reducible rfl)
        simp only [Act.put, List.setIfInBounds_toArray, List.set_cons_zero, List.set_cons_succ]
        refine reg_take (i := 3) (v := .string ⟨l.toArray⟩) rfl (by kernel_rfl) (by kernel_rfl) (by kernel_rfl) (fun _ _ _ h => h) (by rfl) ?hy3 ?_
        case hy3 => intro w' hw'; exact (by have r := conv_bytes (Z9.out.below hw'); go_simp; (try with_reducible rfl))
        simp only [Act.put, List.setIfInBounds_toArray, List.set_cons_zero, List.set_cons_succ]
        refine reg_take (i := 4) (v := ?_) rfl (by kernel_rfl) (by kernel_rfl) (by kernel_rfl) (fun _ _ _ h => h) (by rfl) ?hy4 ?_
        case hy4 => intro w' hw'; go_simp; (try with_reducible rfl)
        simp only [Act.put, List.setIfInBounds_toArray, List.set_cons_zero, List.set_cons_succ]
        refine reg_take (i := 5) (v := ?_) rfl (by kernel_rfl) (by kernel_rfl) (by kernel_rfl) (fun _ _ _ h => h) (by rfl) ?hy5 ?_
        case hy5 => intro w' hw'; go_simp; (try with_reducible rfl)
        simp only [Act.put, List.setIfInBounds_toArray, List.set_cons_zero, List.set_cons_succ]
        refine reg_take (i := 6) (v := ?_) rfl (by kernel_rfl) (by kernel_rfl) (by kernel_rfl) (fun _ _ _ h => h) (by rfl) ?hy6 ?_
        case hy6 => intro w' hw'; go_simp; (try with_reducible rfl)
        simp only [Act.put, List.setIfInBounds_toArray, List.set_cons_zero, List.set_cons_succ]
        refine reg_take (i := 7) (v := ?_) rfl (by kernel_rfl) (by kernel_rfl) (by kernel_rfl) (fun _ _ _ h => h) (by rfl) ?hy7 ?_
        case hy7 => intro w' hw'; go_simp; (try with_reducible rfl)
        simp only [Act.put, List.setIfInBounds_toArray, List.set_cons_zero, List.set_cons_succ]
        refine reg_take (i := 8) (v := ?_) rfl (by kernel_rfl) (by kernel_rfl) (by kernel_rfl) (fun _ _ _ h => h) (by rfl) ?hy8 ?_
        case hy8 => intro w' hw'; go_simp; (try with_reducible rfl)
        simp only [Act.put, List.setIfInBounds_toArray, List.set_cons_zero, List.set_cons_succ]
        refine reg_take (i := 9) (v := ?_) rfl (by kernel_rfl) (by kernel_rfl) (by kernel_rfl) (fun _ _ _ h => h) (by rfl) ?hy9 ?_
        case hy9 => intro w' hw'; go_simp; (try with_reducible rfl)
        simp only [Act.put, List.setIfInBounds_toArray, List.set_cons_zero, List.set_cons_succ]
        refine reg_take (i := 10) (v := ?_) rfl (by kernel_rfl) (by kernel_rfl) (by kernel_rfl) (fun _ _ _ h => h) (by rfl) ?hy10 ?_
        case hy10 => intro w' hw'; go_simp; (try with_reducible rfl)
        simp only [Act.put, List.setIfInBounds_toArray, List.set_cons_zero, List.set_cons_succ]
        refine reg_take (i := 11) (v := Mr.val ((m.raw e t))) rfl (by kernel_rfl) (by kernel_rfl) (by kernel_rfl) (fun _ _ _ h => h) (by rfl) ?hy11 ?_
        case hy11 => intro w' hw'; exact exec_load_whole_st Mr.isRec _ rfl gM rfl _ _ (Mr.len _) w' (Whole.below M9.out hw' M9.out.lt)
        simp only [Act.put, List.setIfInBounds_toArray, List.set_cons_zero, List.set_cons_succ]
        refine reg_take (i := 13) (v := Mr.val ((m.raw e t))) rfl (by kernel_rfl) (by kernel_rfl) (by kernel_rfl) (fun _ _ _ h => h) (by rfl) ?hy13 ?_
        case hy13 => intro w' hw'; exact exec_load_whole_st Mr.isRec _ rfl gM rfl _ _ (Mr.len _) w' (Whole.below M9.out hw' M9.out.lt)
        simp only [Act.put, List.setIfInBounds_toArray, List.set_cons_zero, List.set_cons_succ]
        refine reg_call (i := 12) rfl (by kernel_rfl) (fun K' hK => ?_)
        go_simp
        refine ((C4 w9 B9.out).out).mono ?_
        rintro e10 w10 ⟨rfl, b10⟩
        have M10 : Hid (Mr.At w10 gM (m.raw e t)) := Lib.hid (Whole.below M9.out b10 M9.out.lt)
        have I10 : Hid (Item.At w10 gI i) := Lib.hid (Whole.below I9.out b10 I9.out.lt)
        have O10 : Hid (Mr.At w10 gO (m.raw e1 t1)) := Lib.hid (Whole.below O9.out b10 O9.out.lt)
        have L10 : Hid (Lists w10 e1 t1 m) := Lib.hid (L9.out.below b10)
        have Y10 : Hid (BytesAt w10 v1 l) := Lib.hid (Y9.out.below b10)
        have Z10 : Hid (BytesAt w10 v2 l) := Lib.hid (Z9.out.below b10)
        have B10 := Lib.hid (B9.out.trans (b10.mono B9.out.size))
        refine hK.out _ _ b10 ?_
        clear hK K' b10 M9 I9 O9 L9 Y9 Z9 B9
        refine reg_call (i := 14) rfl (by kernel_rfl) (fun K' hK => ?_)
        go_simp
        refine ((C5 w10 B10.out).out).mono ?_
        rintro e11 w11 ⟨rfl, b11⟩
        have M11 : Hid (Mr.At w11 gM (m.raw e t)) := Lib.hid (Whole.below M10.out b11 M10.out.lt)
        have I11 : Hid (Item.At w11 gI i) := Lib.hid (Whole.below I10.out b11 I10.out.lt)
        have O11 : Hid (Mr.At w11 gO (m.raw e1 t1)) := Lib.hid (Whole.below O10.out b11 O10.out.lt)
        have L11 : Hid (Lists w11 e1 t1 m) := Lib.hid (L10.out.below b11)
        have Y11 : Hid (BytesAt w11 v1 l) := Lib.hid (Y10.out.below b11)
        have Z11 : Hid (BytesAt w11 v2 l) := Lib.hid (Z10.out.below b11)
        have B11 := Lib.hid (B10.out.trans (b11.mono B10.out.size))
        refine hK.out _ _ b11 ?_
        clear hK K' b11 M10 I10 O10 L10 Y10 Z10 B10
        refine reg_take (i := 15) (v := ?_) rfl (by kernel_rfl) (by kernel_rfl) (by kernel_rfl) (fun _ _ _ h => h) (by rfl) ?hy15 ?_
        case hy15 => intro w' hw'; go_simp; (try with_reducible rfl)
        simp only [Act.put, List.setIfInBounds_toArray, List.set_cons_zero, List.set_cons_succ]
        refine reg_take (i := 16) (v := ?_) rfl (by kernel_rfl) (by kernel_rfl) (by kernel_rfl) (fun _ _ _ h => h) (by rfl) ?hy16 ?_
        case hy16 => intro w' hw'; go_simp; (try with_reducible rfl)
        simp only [Act.put, List.setIfInBounds_toArray, List.set_cons_zero, List.set_cons_succ]
        refine reg_take (i := 17) (v := ?_) rfl (by kernel_rfl) (by kernel_rfl) (by kernel_rfl) (fun _ _ _ h => h) (by rfl) ?hy17 ?_
        case hy17 => intro w' hw'; go_simp; (try with_reducible rfl)
        simp only [Act.put, List.setIfInBounds_toArray, List.set_cons_zero, List.set_cons_succ]
        refine reg_take (i := 18) (v := Mr.val ((m.raw e t))) rfl (by kernel_rfl) (by kernel_rfl) (by kernel_rfl) (fun _ _ _ h => h) (by rfl) ?hy18 ?_
        case hy18 => intro w' hw'; exact exec_load_whole_st Mr.isRec _ rfl gM rfl _ _ (Mr.len _) w' (Whole.below M11.out hw' M11.out.lt)
        simp only [Act.put, List.setIfInBounds_toArray, List.set_cons_zero, List.set_cons_succ]
        refine reg_take (i := 20) (v := Mr.val ((m.raw e t))) rfl (by kernel_rfl) (by kernel_rfl) (by kernel_rfl) (fun _ _ _ h => h) (by rfl) ?hy20 ?_
        case hy20 => intro w' hw'; exact exec_load_whole_st Mr.isRec _ rfl gM rfl _ _ (Mr.len _) w' (Whole.below M11.out hw' M11.out.lt)
        simp only [Act.put, List.setIfInBounds_toArray, List.set_cons_zero, List.set_cons_succ]
        refine reg_call (i := 19) rfl (by kernel_rfl) (fun K' hK => ?_)
        go_simp
        refine ((C6 w11 B11.out).out).mono ?_
        rintro e12 w12 ⟨e6, t6, rfl, l6, b12⟩
        have M12 : Hid (Mr.At w12 gM (m.raw e t)) := Lib.hid (Whole.below M11.out b12 M11.out.lt)
        have I12 : Hid (Item.At w12 gI i) := Lib.hid (Whole.below I11.out b12 I11.out.lt)
        have O12 : Hid (Mr.At w12 gO (m.raw e1 t1)) := Lib.hid (Whole.below O11.out b12 O11.out.lt)
        have L12 : Hid (Lists w12 e1 t1 m) := Lib.hid (L11.out.below b12)
        have Y12 : Hid (BytesAt w12 v1 l) := Lib.hid (Y11.out.below b12)
        have Z12 : Hid (BytesAt w12 v2 l) := Lib.hid (Z11.out.below b12)
        have B12 := Lib.hid (B11.out.trans (b12.mono B11.out.size))
        have P12 : Hid (Lists w12 e6 t6 (bareM m)) := Lib.hid l6
        refine hK.out _ _ b12 ?_
        clear hK K' b12 M11 I11 O11 L11 Y11 Z11 B11 l6
        refine reg_call (i := 21) rfl (by kernel_rfl) (fun K' hK => ?_)
        go_simp
        refine ((C7 w12 B12.out).out).mono ?_
        rintro e13 w13 ⟨e7, t7, rfl, l7, b13⟩
        have M13 : Hid (Mr.At w13 gM (m.raw e t)) := Lib.hid (Whole.below M12.out b13 M12.out.lt)
        have I13 : Hid (Item.At w13 gI i) := Lib.hid (Whole.below I12.out b13 I12.out.lt)
        have O13 : Hid (Mr.At w13 gO (m.raw e1 t1)) := Lib.hid (Whole.below O12.out b13 O12.out.lt)
        have L13 : Hid (Lists w13 e1 t1 m) := Lib.hid (L12.out.below b13)
        have Y13 : Hid (BytesAt w13 v1 l) := Lib.hid (Y12.out.below b13)
        have Z13 : Hid (BytesAt w13 v2 l) := Lib.hid (Z12.out.below b13)
        have P13 : Hid (Lists w13 e6 t6 (bareM m)) := Lib.hid (P12.out.below b13)
        have B13 := Lib.hid (B12.out.trans (b13.mono B12.out.size))
        have Q13 : Hid (Lists w13 e7 t7 (bareM m)) := Lib.hid l7
        refine hK.out _ _ b13 ?_
        clear hK K' b13 M12 I12 O12 L12 Y12 Z12 P12 B12 l7
        refine reg_call (i := 22) rfl (by kernel_rfl) (fun K' hK => ?_)
        go_simp
        refine ((C8 e6 t6 e7 t7 w13 P13.out Q13.out).out).mono ?_
        rintro e14 w14 ⟨rfl, b14⟩
        have M14 : Hid (Mr.At w14 gM (m.raw e t)) := Lib.hid (Whole.below M13.out b14 M13.out.lt)
        have I14 : Hid (Item.At w14 gI i) := Lib.hid (Whole.below I13.out b14 I13.out.lt)
        have O14 : Hid (Mr.At w14 gO (m.raw e1 t1)) := Lib.hid (Whole.below O13.out b14 O13.out.lt)
        have L14 : Hid (Lists w14 e1 t1 m) := Lib.hid (L13.out.below b14)
        have Y14 : Hid (BytesAt w14 v1 l) := Lib.hid (Y13.out.below b14)
        have Z14 : Hid (BytesAt w14 v2 l) := Lib.hid (Z13.out.below b14)
        have P14 : Hid (Lists w14 e6 t6 (bareM m)) := Lib.hid (P13.out.below b14)
        have Q14 : Hid (Lists w14 e7 t7 (bareM m)) := Lib.hid (Q13.out.below b14)
        have B14 := Lib.hid (B13.out.trans (b14.mono B13.out.size))
        refine hK.out _ _ b14 ?_
        clear hK K' b14 M13 I13 O13 L13 Y13 Z13 P13 Q13 B13
        refine reg_take (i := 23) (v := ?_) rfl (by kernel_rfl) (by kernel_rfl) (by kernel_rfl) (fun _ _ _ h => h) (by rfl) ?hy23 ?_
        case hy23 => intro w' hw'; go_simp; (try with_reducible rfl)
        simp only [Act.put, List.setIfInBounds_toArray, List.set_cons_zero, List.set_cons_succ]
        refine reg_take (i := 24) (v := ?_) rfl (by kernel_rfl) (by kernel_rfl) (by kernel_rfl) (fun _ _ _ h => h) (by rfl) ?hy24 ?_
        case hy24 => intro w' hw'; go_simp; (try with_reducible rfl)
        simp only [Act.put, List.setIfInBounds_toArray, List.set_cons_zero, List.set_cons_succ]
        refine reg_take (i := 25) (v := Item.val (i)) rfl (by kernel_rfl) (by kernel_rfl) (by kernel_rfl) (fun _ _ _ h => h) (by rfl) ?hy25 ?_
        case hy25 => intro w' hw'; exact exec_load_whole Item.isRec _ rfl gI rfl _ _ (Item.len _) w' (Whole.below I14.out hw' I14.out.lt)
        simp only [Act.put, List.setIfInBounds_toArray, List.set_cons_zero, List.set_cons_succ]
        refine reg_take (i := 27) (v := Item.val (i)) rfl (by kernel_rfl) (by kernel_rfl) (by kernel_rfl) (fun _ _ _ h => h) (by rfl) ?hy27 ?_
        case hy27 => intro w' hw'; exact exec_load_whole Item.isRec _ rfl gI rfl _ _ (Item.len _) w' (Whole.below I14.out hw' I14.out.lt)
        simp only [Act.put, List.setIfInBounds_toArray, List.set_cons_zero, List.set_cons_succ]
        refine reg_call (i := 26) rfl (by kernel_rfl) (fun K' hK => ?_)
        go_simp
        refine ((C9 w14).out).mono ?_
        rintro e15 w15 ⟨rfl, b15⟩
        have M15 : Hid (Mr.At w15 gM (m.raw e t)) := Lib.hid (Whole.below M14.out b15 M14.out.lt)
        have I15 : Hid (Item.At w15 gI i) := Lib.hid (Whole.below I14.out b15 I14.out.lt)
        have O15 : Hid (Mr.At w15 gO (m.raw e1 t1)) := Lib.hid (Whole.below O14.out b15 O14.out.lt)
        have L15 : Hid (Lists w15 e1 t1 m) := Lib.hid (L14.out.below b15)
        have Y15 : Hid (BytesAt w15 v1 l) := Lib.hid (Y14.out.below b15)
        have Z15 : Hid (BytesAt w15 v2 l) := Lib.hid (Z14.out.below b15)
        have P15 : Hid (Lists w15 e6 t6 (bareM m)) := Lib.hid (P14.out.below b15)
        have Q15 : Hid (Lists w15 e7 t7 (bareM m)) := Lib.hid (Q14.out.below b15)
        have B15 := Lib.hid (B14.out.trans (b15.mono B14.out.size))
        refine hK.out _ _ b15 ?_
        clear hK K' b15 M14 I14 O14 L14 Y14 Z14 P14 Q14 B14
        refine reg_call (i := 28) rfl (by kernel_rfl) (fun K' hK => ?_)
        go_simp
        refine ((C10 w15).out).mono ?_
        rintro e16 w16 ⟨rfl, b16⟩
        have M16 : Hid (Mr.At w16 gM (m.raw e t)) := Lib.hid (Whole.below M15.out b16 M15.out.lt)
        have I16 : Hid (Item.At w16 gI i) := Lib.hid (Whole.below I15.out b16 I15.out.lt)
        have O16 : Hid (Mr.At w16 gO (m.raw e1 t1)) := Lib.hid (Whole.below O15.out b16 O15.out.lt)
        have L16 : Hid (Lists w16 e1 t1 m) := Lib.hid (L15.out.below b16)
        have Y16 : Hid (BytesAt w16 v1 l) := Lib.hid (Y15.out.below b16)
        have Z16 : Hid (BytesAt w16 v2 l) := Lib.hid (Z15.out.below b16)
        have P16 : Hid (Lists w16 e6 t6 (bareM m)) := Lib.hid (P15.out.below b16)
        have Q16 : Hid (Lists w16 e7 t7 (bareM m)) := Lib.hid (Q15.out.below b16)
        have B16 := Lib.hid (B15.out.trans (b16.mono B15.out.size))
        refine hK.out _ _ b16 ?_
        clear hK K' b16 M15 I15 O15 L15 Y15 Z15 P15 Q15 B15
        refine reg_take (i := 29) (v := ?_) rfl (by kernel_rfl) (by kernel_rfl) (by kernel_rfl) (fun _ _ _ h => h) (by rfl) ?hy29 ?_
        case hy29 => intro w' hw'; go_simp; (try with_reducible rfl)
        simp only [Act.put, List.setIfInBounds_toArray, List.set_cons_zero, List.set_cons_succ]
        refine reg_take (i := 30) (v := ?_) rfl (by kernel_rfl) (by kernel_rfl) (by kernel_rfl) (fun _ _ _ h => h) (by rfl) ?hy30 ?_
        case hy30 => intro w' hw'; go_simp; (try with_reducible rfl)
        simp only [Act.put, List.setIfInBounds_toArray, List.set_cons_zero, List.set_cons_succ]
        refine reg_take (i := 31) (v := ?_) rfl (by kernel_rfl) (by kernel_rfl) (by kernel_rfl) (fun _ _ _ h => h) (by rfl) ?hy31 ?_
        case hy31 => intro w' hw'; go_simp; (try with_reducible rfl)
        simp only [Act.put, List.setIfInBounds_toArray, List.set_cons_zero, List.set_cons_succ]
        refine reg_take (i := 32) (v := Mr.val ((m.raw e1 t1))) rfl (by kernel_rfl) (by kernel_rfl) (by kernel_rfl) (fun _ _ _ h => h) (by rfl) ?hy32 ?_
        case hy32 => intro w' hw'; exact exec_load_whole_st Mr.isRec _ rfl gO rfl _ _ (Mr.len _) w' (Whole.below O16.out hw' O16.out.lt)
        simp only [Act.put, List.setIfInBounds_toArray, List.set_cons_zero, List.set_cons_succ]
        refine reg_take (i := 33) (v := Mr.val ((m.raw e t))) rfl (by kernel_rfl) (by kernel_rfl) (by kernel_rfl) (fun _ _ _ h => h) (by rfl) ?hy33 ?_
        case hy33 => intro w' hw'; exact exec_load_whole_st Mr.isRec _ rfl gM rfl _ _ (Mr.len _) w' (Whole.below M16.out hw' M16.out.lt)
        simp only [Act.put, List.setIfInBounds_toArray, List.set_cons_zero, List.set_cons_succ]
        refine reg_call (i := 34) rfl (by kernel_rfl) (fun K' hK => ?_)
        go_simp
        refine ((C11 e1 t1 w16 L16.out B16.out).out).mono ?_
        rintro e17 w17 ⟨rfl, b17⟩
        have M17 : Hid (Mr.At w17 gM (m.raw e t)) := Lib.hid (Whole.below M16.out b17 M16.out.lt)
        have I17 : Hid (Item.At w17 gI i) := Lib.hid (Whole.below I16.out b17 I16.out.lt)
        have O17 : Hid (Mr.At w17 gO (m.raw e1 t1)) := Lib.hid (Whole.below O16.out b17 O16.out.lt)
        have L17 : Hid (Lists w17 e1 t1 m) := Lib.hid (L16.out.below b17)
        have Y17 : Hid (BytesAt w17 v1 l) := Lib.hid (Y16.out.below b17)
        have Z17 : Hid (BytesAt w17 v2 l) := Lib.hid (Z16.out.below b17)
        have P17 : Hid (Lists w17 e6 t6 (bareM m)) := Lib.hid (P16.out.below b17)
        have Q17 : Hid (Lists w17 e7 t7 (bareM m)) := Lib.hid (Q16.out.below b17)
        have B17 := Lib.hid (B16.out.trans (b17.mono B16.out.size))
        refine hK.out _ _ b17 ?_
        clear hK K' b17 M16 I16 O16 L16 Y16 Z16 P16 Q16 B16
        refine reg_take (i := 35) (v := ?_) rfl (by kernel_rfl) (by kernel_rfl) (by kernel_rfl) (fun _ _ _ h => h) (by rfl) ?hy35 ?_
        case hy35 => intro w' hw'; go_simp; (try with_reducible rfl)
        simp only [Act.put, List.setIfInBounds_toArray, List.set_cons_zero, List.set_cons_succ]
        refine reg_take (i := 36) (v := ?_) rfl (by kernel_rfl) (by kernel_rfl) (by kernel_rfl) (fun _ _ _ h => h) (by rfl) ?hy36 ?_
        case hy36 => intro w' hw'; go_simp; (try with_reducible rfl)
        simp only [Act.put, List.setIfInBounds_toArray, List.set_cons_zero, List.set_cons_succ]
        refine reg_call (i := 37) rfl (by kernel_rfl) (fun K' hK => ?_)
        go_simp
        refine (works16 w17).mono ?_
        rintro e18 w18 ⟨rfl, b18⟩
        have M18 : Hid (Mr.At w18 gM (m.raw e t)) := Lib.hid (Whole.below M17.out b18 M17.out.lt)
        have I18 : Hid (Item.At w18 gI i) := Lib.hid (Whole.below I17.out b18 I17.out.lt)
        have O18 : Hid (Mr.At w18 gO (m.raw e1 t1)) := Lib.hid (Whole.below O17.out b18 O17.out.lt)
        have L18 : Hid (Lists w18 e1 t1 m) := Lib.hid (L17.out.below b18)
        have Y18 : Hid (BytesAt w18 v1 l) := Lib.hid (Y17.out.below b18)
        have Z18 : Hid (BytesAt w18 v2 l) := Lib.hid (Z17.out.below b18)
        have P18 : Hid (Lists w18 e6 t6 (bareM m)) := Lib.hid (P17.out.below b18)
        have Q18 : Hid (Lists w18 e7 t7 (bareM m)) := Lib.hid (Q17.out.below b18)
        have B18 := Lib.hid (B17.out.trans (b18.mono B17.out.size))
        refine hK.out _ _ b18 ?_
        clear hK K' b18 M17 I17 O17 L17 Y17 Z17 P17 Q17 B17
        refine reg_take (i := 38) (v := ?_) rfl (by kernel_rfl) (by kernel_rfl) (by kernel_rfl) (fun _ _ _ h => h) (by rfl) ?hy38 ?_
        case hy38 => intro w' hw'; go_simp; (try with_reducible rfl)
        simp only [Act.put, List.setIfInBounds_toArray, List.set_cons_zero, List.set_cons_succ]
        refine reg_take (i := 39) (v := ?_) rfl (by kernel_rfl) (by kernel_rfl) (by kernel_rfl) (fun _ _ _ h => h) (by rfl) ?hy39 ?_
        case hy39 => intro w' hw'; go_simp; (try with_reducible rfl)
        simp only [Act.put, List.setIfInBounds_toArray, List.set_cons_zero, List.set_cons_succ]
        refine reg_end (by kernel_rfl) ?_
        go_wp2
        go_ret
        exact ⟨rfl, B18.out⟩
end Go.Proofs.Ytnjeopgcpffkcaa
