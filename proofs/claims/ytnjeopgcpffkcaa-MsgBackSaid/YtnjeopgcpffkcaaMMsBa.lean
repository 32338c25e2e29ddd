/- MsgBack's core: what is put is read as it was; what is read may be, and is put as it was. (Written by tools/mkmsback.py.) -/
import Derived.Test.YtnjeopgcpffkcaaGbi
import Derived.Test.YtnjeopgcpffkcaaGbe
namespace Go.Proofs.Ytnjeopgcpffkcaa
set_option maxRecDepth 100000
open Go.RowKit

set_option maxRecDepth 100000 in
set_option maxHeartbeats 4000000 in
theorem msgBack_core (m : Mg) (e t : Row) (A : Option Addr) (N cap : Nat) (b : List UInt8) (w : World) (h : Lists w e t m) (ok : m.Ok) (hb : BytesAt w (.slice A N cap) b) :
    Calls Try.prog 6 #[(m.raw e t).val, .slice A N cap] w fun x w' => x = .returned (.bool true) ∧ Below w.heap.size w w' := by
  have H := Lib.hid hb
  have CG := fun w1 (b : Below w.heap.size w w1) => Lib.hid (greatM_any m e t w1 (h.below b))
  cases hg : greatM m with
  | true =>
    rw [hg] at CG
    clear h ok hb hg
    go_enter Try.func6, Try.ntmps6
    go_wp2_with (refine wpList_box_row rfl 27 _ rfl (m.raw e t).enc.toArray (by with_unfolding_all exact rfl) ?_)
    intro w1 b1 x1 z1
    obtain ⟨gM, hgM⟩ : ∃ g, g = w.heap.size := ⟨_, rfl⟩
    have M_M := Lib.hid (show w.heap.size ≤ gM from by rw [hgM]; exact Nat.le_refl _)
    have B1 := Lib.hid b1
    rw [← hgM] at x1 ⊢
    have M1 : Hid (Mr.At w1 gM (m.raw e t)) := Lib.hid x1
    clear b1 x1 z1 hgM 
    go_wp2_with (with_reducible refine wpList_load_whole_st Mr.isRec rfl _ rfl gM (by with_unfolding_all exact rfl) _ _ (Mr.len _) M1.out ?_)
    refine (works16 w1).mono ?_
    rintro e2 w2 ⟨rfl, b2⟩
    have M2 : Hid (Mr.At w2 gM (m.raw e t)) := Lib.hid (Whole.below M1.out b2 M1.out.lt)
    have B2 := Lib.hid (B1.out.trans (b2.mono B1.out.size))
    clear b2 M1 B1
    go_wp2_with (with_reducible refine wpList_load_whole_st Mr.isRec rfl _ rfl gM (by with_unfolding_all exact rfl) _ _ (Mr.len _) M2.out ?_)
    refine ((CG w2 B2.out).out).mono ?_
    rintro e3 w3 ⟨rfl, b3⟩
    have M3 : Hid (Mr.At w3 gM (m.raw e t)) := Lib.hid (Whole.below M2.out b3 M2.out.lt)
    have B3 := Lib.hid (B2.out.trans (b3.mono B2.out.size))
    clear b3 M2 B2
    go_wp2
    go_ret
    exact ⟨rfl, B3.out⟩
  | false =>
    have hs := (great_small hg).1
    rw [hg] at CG
    by_cases hn : 4000 < N
    · have d : decide ((4000 : Int) < (N : Int)) = true := by simp; omega
      clear h ok hb hg hs hn
      go_enter Try.func6, Try.ntmps6
      go_wp2_with (refine wpList_box_row rfl 27 _ rfl (m.raw e t).enc.toArray (by with_unfolding_all exact rfl) ?_)
      intro w1 b1 x1 z1
      obtain ⟨gM, hgM⟩ : ∃ g, g = w.heap.size := ⟨_, rfl⟩
      have M_M := Lib.hid (show w.heap.size ≤ gM from by rw [hgM]; exact Nat.le_refl _)
      have B1 := Lib.hid b1
      rw [← hgM] at x1 ⊢
      have M1 : Hid (Mr.At w1 gM (m.raw e t)) := Lib.hid x1
      clear b1 x1 z1 hgM 
      go_wp2_with (with_reducible refine wpList_load_whole_st Mr.isRec rfl _ rfl gM (by with_unfolding_all exact rfl) _ _ (Mr.len _) M1.out ?_)
      refine (works16 w1).mono ?_
      rintro e2 w2 ⟨rfl, b2⟩
      have M2 : Hid (Mr.At w2 gM (m.raw e t)) := Lib.hid (Whole.below M1.out b2 M1.out.lt)
      have B2 := Lib.hid (B1.out.trans (b2.mono B1.out.size))
      clear b2 M1 B1
      go_wp2_with (with_reducible refine wpList_load_whole_st Mr.isRec rfl _ rfl gM (by with_unfolding_all exact rfl) _ _ (Mr.len _) M2.out ?_)
      refine ((CG w2 B2.out).out).mono ?_
      rintro e3 w3 ⟨rfl, b3⟩
      have M3 : Hid (Mr.At w3 gM (m.raw e t)) := Lib.hid (Whole.below M2.out b3 M2.out.lt)
      have B3 := Lib.hid (B2.out.trans (b3.mono B2.out.size))
      clear b3 M2 B2
      go_wp2
      go_ret
      exact ⟨rfl, B3.out⟩
    · have d : decide ((4000 : Int) < (N : Int)) = false := by simp; omega
      obtain ⟨n, c, hT⟩ : ∃ n c, takeM b = (n, c) := ⟨_, _, rfl⟩
      have CT := fun w1 (bb : Below w.heap.size w w1) => Lib.hid (msTake_is hT A N cap w1 (hb.below bb))
      have HW : Hid (c = 0 → RightM n ∧ putB n = b ∧ n.Ok) := Lib.hid (by have q := takeM_was b; rw [hT] at q; exact q)
      have HZ : Hid (c ≠ 0 → n = Mg.zero) := Lib.hid (by have q := takeM_zero b; rw [hT] at q; exact q)
      by_cases hR : RightM m
      · have C1 := fun w1 (bb : Below w.heap.size w w1) => Lib.hid (msPut_right hR e t w1 (h.below bb))
        have HP := Lib.hid (takeM_put hR ok)
        have C2 := fun e1 t1 w1 (bb : Below w.heap.size w w1) hl => Lib.hid (msSame_self m e t e1 t1 hs.1 hs.2 w1 (h.below bb) hl)
        generalize putB m = p at *
        clear h ok hb hg hs hn hT hR
        go_enter Try.func6, Try.ntmps6
        go_wp2_with (refine wpList_box_row rfl 27 _ rfl (m.raw e t).enc.toArray (by with_unfolding_all exact rfl) ?_)
        intro w1 b1 x1 z1
        obtain ⟨gM, hgM⟩ : ∃ g, g = w.heap.size := ⟨_, rfl⟩
        have M_M := Lib.hid (show w.heap.size ≤ gM from by rw [hgM]; exact Nat.le_refl _)
        have B1 := Lib.hid b1
        rw [← hgM] at x1 ⊢
        have M1 : Hid (Mr.At w1 gM (m.raw e t)) := Lib.hid x1
        clear b1 x1 z1 hgM 
        go_wp2_with (with_reducible refine wpList_load_whole_st Mr.isRec rfl _ rfl gM (by with_unfolding_all exact rfl) _ _ (Mr.len _) M1.out ?_)
        refine (works16 w1).mono ?_
        rintro e2 w2 ⟨rfl, b2⟩
        have M2 : Hid (Mr.At w2 gM (m.raw e t)) := Lib.hid (Whole.below M1.out b2 M1.out.lt)
        have B2 := Lib.hid (B1.out.trans (b2.mono B1.out.size))
        clear b2 M1 B1
        go_wp2_with (with_reducible refine wpList_load_whole_st Mr.isRec rfl _ rfl gM (by with_unfolding_all exact rfl) _ _ (Mr.len _) M2.out ?_)
        refine ((CG w2 B2.out).out).mono ?_
        rintro e3 w3 ⟨rfl, b3⟩
        have M3 : Hid (Mr.At w3 gM (m.raw e t)) := Lib.hid (Whole.below M2.out b3 M2.out.lt)
        have B3 := Lib.hid (B2.out.trans (b3.mono B2.out.size))
        clear b3 M2 B2
        generalize p.length = pn at *
        go_wp2_with (with_reducible refine wpList_load_whole_st Mr.isRec rfl _ rfl gM (by with_unfolding_all exact rfl) _ _ (Mr.len _) M3.out ?_)
        refine ((C1 w3 B3.out).out).mono ?_
        rintro e4 w4 ⟨A1, cap1, rfl, y1, b4⟩
        have M4 : Hid (Mr.At w4 gM (m.raw e t)) := Lib.hid (Whole.below M3.out b4 M3.out.lt)
        have B4 := Lib.hid (B3.out.trans (b4.mono B3.out.size))
        clear b4 M3 B3
        have C3 := Lib.hid (msTake_is HP.out A1 pn cap1 w4 y1)
        clear y1
        go_wp2_with (with_reducible refine wpList_load_whole_st Mr.isRec rfl _ rfl gM (by with_unfolding_all exact rfl) _ _ (Mr.len _) M4.out ?_)
        refine (C3.out).mono ?_
        rintro e5 w5 ⟨e3, t3, rfl, l3, b5⟩
        have M5 : Hid (Mr.At w5 gM (m.raw e t)) := Lib.hid (Whole.below M4.out b5 M4.out.lt)
        have B5 := Lib.hid (B4.out.trans (b5.mono B4.out.size))
        clear b5 M4 B4
        have L3 := Lib.hid l3
        clear l3 C3
        have D5 : Hid (Since w5 w5) := Lib.hid (⟨Below.refl _ _⟩)
        go_wp2_with (first | (with_reducible refine wpList_load_whole_st Mr.isRec rfl _ rfl gM (by with_unfolding_all exact rfl) _ _ (Mr.len _) M5.out ?_) | (refine wpList_alloc_row rfl 27 rfl Mr.zero.enc.toArray Mr.zero_is ?_))
        intro w6 b6 x6 z6
        obtain ⟨gX, hgX⟩ : ∃ g, g = w5.heap.size := ⟨_, rfl⟩
        have N_M_X := Lib.hid (show gM < gX from by rw [hgX]; exact M5.out.lt)
        have L_D_X := Lib.hid (show w5.heap.size ≤ gX from by rw [hgX]; exact D5.out.b.size)
        have M_X := Lib.hid (show w.heap.size ≤ gX from by rw [hgX]; exact B5.out.size)
        have M6 : Hid (Mr.At w6 gM (m.raw e t)) := Lib.hid (Whole.below M5.out b6 M5.out.lt)
        have D6 : Hid (Since w5 w6) := Lib.hid (D5.out.below b6)
        have B6 := Lib.hid (B5.out.trans (b6.mono B5.out.size))
        rw [← hgX] at x6 ⊢
        have X6 : Hid (Mr.At w6 gX Mr.zero) := Lib.hid x6
        clear b6 x6 z6 hgX M5 D5 B5
        go_wp2_with (first | (with_reducible refine wpList_load_whole_st Mr.isRec rfl _ rfl gM (by with_unfolding_all exact rfl) _ _ (Mr.len _) M6.out ?_) | (with_reducible refine wpList_load_whole_st Mr.isRec rfl _ rfl gX (by with_unfolding_all exact rfl) _ _ (Mr.len _) X6.out ?_) | (with_reducible refine wpList_store_whole rfl 27 _ _ rfl gX (m.raw e3 t3).enc.toArray (by with_unfolding_all exact rfl) (by with_unfolding_all exact rfl) _ _ X6.out (Mr.size _) rfl (Mr.one _) ?_))
        intro w7 q7 x7 z7
        have X7 : Hid (Mr.At w7 gX (m.raw e3 t3)) := Lib.hid x7
        have M7 : Hid (Mr.At w7 gM (m.raw e t)) := Lib.hid (grown_far M6.out q7 (by have := N_M_X.out; omega))
        have D7 : Hid (Since w5 w7) := Lib.hid (D6.out.far q7 L_D_X.out)
        have B7 := Lib.hid (B6.out.grown q7 B6.out.size (fun k hk => by injection hk with hk; have := M_X.out; omega))
        clear q7 x7 z7 X6 M6 D6 B6
        go_wp2_with (first | (with_reducible refine wpList_load_whole_st Mr.isRec rfl _ rfl gM (by with_unfolding_all exact rfl) _ _ (Mr.len _) M7.out ?_) | (with_reducible refine wpList_load_whole_st Mr.isRec rfl _ rfl gX (by with_unfolding_all exact rfl) _ _ (Mr.len _) X7.out ?_) | (first | (with_reducible refine wpList_load_whole_w_st Mr.isRec (by kernel_rfl) _ rfl gM (by with_unfolding_all exact rfl) _ _ (Mr.len _) M7.out ?_) | (with_reducible refine wpList_load_whole_w_st Mr.isRec (by kernel_rfl) _ rfl gX (by with_unfolding_all exact rfl) _ _ (Mr.len _) X7.out ?_)))
        refine ((C2 e3 t3 w7 B7.out (L3.out.below D7.out.b)).out).mono ?_
        rintro e8 w8 ⟨rfl, b8⟩
        have M8 : Hid (Mr.At w8 gM (m.raw e t)) := Lib.hid (Whole.below M7.out b8 M7.out.lt)
        have D8 : Hid (Since w5 w8) := Lib.hid (D7.out.below b8)
        have X8 : Hid (Mr.At w8 gX (m.raw e3 t3)) := Lib.hid (Whole.below X7.out b8 X7.out.lt)
        have B8 := Lib.hid (B7.out.trans (b8.mono B7.out.size))
        clear b8 M7 D7 X7 B7
        clear L3
        clear D8 X8 M8
        go_wp2_with fail
        refine ((CT w8 B8.out).out).mono ?_
        rintro e9 w9 ⟨e9, t9, rfl, l9, b9⟩
        have B9 := Lib.hid (B8.out.trans (b9.mono B8.out.size))
        clear b9 B8
        have L9 := Lib.hid l9
        clear l9
        have E9 : Hid (Since w9 w9) := Lib.hid (⟨Below.refl _ _⟩)
        go_wp2_with (refine wpList_alloc_row rfl 27 rfl Mr.zero.enc.toArray Mr.zero_is ?_)
        intro w10 b10 x10 z10
        obtain ⟨gY, hgY⟩ : ∃ g, g = w9.heap.size := ⟨_, rfl⟩
        have L_E_Y := Lib.hid (show w9.heap.size ≤ gY from by rw [hgY]; exact E9.out.b.size)
        have M_Y := Lib.hid (show w.heap.size ≤ gY from by rw [hgY]; exact B9.out.size)
        have E10 : Hid (Since w9 w10) := Lib.hid (E9.out.below b10)
        have B10 := Lib.hid (B9.out.trans (b10.mono B9.out.size))
        rw [← hgY] at x10 ⊢
        have Y10 : Hid (Mr.At w10 gY Mr.zero) := Lib.hid x10
        clear b10 x10 z10 hgY E9 B9
        go_wp2_with (first | (with_reducible refine wpList_load_whole_st Mr.isRec rfl _ rfl gY (by with_unfolding_all exact rfl) _ _ (Mr.len _) Y10.out ?_) | (with_reducible refine wpList_store_whole rfl 27 _ _ rfl gY (n.raw e9 t9).enc.toArray (by with_unfolding_all exact rfl) (by with_unfolding_all exact rfl) _ _ Y10.out (Mr.size _) rfl (Mr.one _) ?_))
        intro w11 q11 x11 z11
        have Y11 : Hid (Mr.At w11 gY (n.raw e9 t9)) := Lib.hid x11
        have E11 : Hid (Since w9 w11) := Lib.hid (E10.out.far q11 L_E_Y.out)
        have B11 := Lib.hid (B10.out.grown q11 B10.out.size (fun k hk => by injection hk with hk; have := M_Y.out; omega))
        clear q11 x11 z11 Y10 E10 B10
        have LY := Lib.hid (L9.out.below E11.out.b)
        clear L9
        clear E11
        by_cases hc : c = 0
        · obtain ⟨hR9, hP9, hO9⟩ := HW.out hc
          subst hc
          have CP := Lib.hid (msPut_right hR9 e9 t9 w11 LY.out)
          rw [hP9] at CP
          have CR := fun w1 h1 => Lib.hid (show Calls Try.prog 12 #[(n.raw e9 t9).val] w1 fun x w' => x = .returned (.bool true) ∧ Below w1.heap.size w1 w' from by have q := msRight_any n e9 t9 (Nat.le_trans hR9.many (by decide)) (Nat.le_trans hR9.items (by decide)) w1 h1; rw [show rightM n = true from decide_eq_true hR9] at q; exact q)
          clear hR9 hP9 hO9
          have L11 : Hid (Lists w11 e9 t9 n) := Lib.hid (LY.out)
          clear LY
          generalize b.length = bn at *
          go_wp2_with (with_reducible refine wpList_load_whole_st Mr.isRec rfl _ rfl gY (by with_unfolding_all exact rfl) _ _ (Mr.len _) Y11.out ?_)
          refine (CP.out).mono ?_
          rintro e12 w12 ⟨A2, cap2, rfl, y2, b12⟩
          have Y12 : Hid (Mr.At w12 gY (n.raw e9 t9)) := Lib.hid (Whole.below Y11.out b12 Y11.out.lt)
          have L12 : Hid (Lists w12 e9 t9 n) := Lib.hid (L11.out.below b12)
          have B12 := Lib.hid (B11.out.trans (b12.mono B11.out.size))
          have P12 : Hid (BytesAt w12 (.slice A2 bn cap2) b) := Lib.hid y2
          clear b12 Y11 L11 B11 y2
          clear CP
          go_wp2_with (first | (with_reducible refine wpList_load_whole_st Mr.isRec rfl _ rfl gY (by with_unfolding_all exact rfl) _ _ (Mr.len _) Y12.out ?_) | (with_reducible refine wpList_load_whole_w_st Mr.isRec (by kernel_rfl) _ rfl gY (by with_unfolding_all exact rfl) _ _ (Mr.len _) Y12.out ?_))
          refine ((CR w12 L12.out).out).mono ?_
          rintro e13 w13 ⟨rfl, b13⟩
          have Y13 : Hid (Mr.At w13 gY (n.raw e9 t9)) := Lib.hid (Whole.below Y12.out b13 Y12.out.lt)
          have L13 : Hid (Lists w13 e9 t9 n) := Lib.hid (L12.out.below b13)
          have P13 : Hid (BytesAt w13 (.slice A2 bn cap2) b) := Lib.hid (P12.out.below b13)
          have B13 := Lib.hid (B12.out.trans (b13.mono B12.out.size))
          clear b13 Y12 L12 P12 B12
          have r2 := conv_bytes P13.out
          have r3 := conv_bytes (H.out.below B13.out)
          go_wp2
          go_ret
          exact ⟨rfl, B13.out⟩
        · have hz := HZ.out hc
          have dc : decide (c = 0) = false := decide_eq_false hc
          have CS := Lib.hid (show Calls Try.prog 21 #[(n.raw e9 t9).val, (Mg.zero.raw Row.nil Row.nil).val] w11 fun x w' => x = .returned (.bool true) ∧ Below w11.heap.size w11 w' from by have ly := LY.out; rw [hz] at ly ⊢; exact msSame_self Mg.zero e9 t9 Row.nil Row.nil (by decide) (by decide) _ ly ⟨rows_nil _ 6, rows_nil _ 4⟩)
          clear LY hz
          go_wp2_with (first | (with_reducible refine wpList_load_whole_st Mr.isRec rfl _ rfl gY (by with_unfolding_all exact rfl) _ _ (Mr.len _) Y11.out ?_) | (with_reducible refine wpList_build_rec rfl 27 _ rfl #[] (by with_unfolding_all exact rfl) (Mg.zero.raw Row.nil Row.nil).enc.toArray (by kernel_rfl) ?_))
          refine (CS.out).mono ?_
          rintro e12 w12 ⟨rfl, b12⟩
          have Y12 : Hid (Mr.At w12 gY (n.raw e9 t9)) := Lib.hid (Whole.below Y11.out b12 Y11.out.lt)
          have B12 := Lib.hid (B11.out.trans (b12.mono B11.out.size))
          clear b12 Y11 B11
          go_wp2
          go_ret
          exact ⟨rfl, B12.out⟩
      · have C1 := fun w1 (bb : Below w.heap.size w w1) => Lib.hid (show Calls Try.prog 10 #[(m.raw e t).val] w1 fun x w' => ∃ v, x = .returned (.tuple #[v, .int .i64 2]) ∧ BytesAt w' v [] ∧ Below w1.heap.size w1 w' from by have q := msPut_any m e t hs.1 hs.2 w1 (h.below bb); rw [if_neg hR, if_neg hR] at q; exact q)
        clear h ok hb hg hs hn hT hR
        go_enter Try.func6, Try.ntmps6
        go_wp2_with (refine wpList_box_row rfl 27 _ rfl (m.raw e t).enc.toArray (by with_unfolding_all exact rfl) ?_)
        intro w1 b1 x1 z1
        obtain ⟨gM, hgM⟩ : ∃ g, g = w.heap.size := ⟨_, rfl⟩
        have M_M := Lib.hid (show w.heap.size ≤ gM from by rw [hgM]; exact Nat.le_refl _)
        have B1 := Lib.hid b1
        rw [← hgM] at x1 ⊢
        have M1 : Hid (Mr.At w1 gM (m.raw e t)) := Lib.hid x1
        clear b1 x1 z1 hgM 
        go_wp2_with (with_reducible refine wpList_load_whole_st Mr.isRec rfl _ rfl gM (by with_unfolding_all exact rfl) _ _ (Mr.len _) M1.out ?_)
        refine (works16 w1).mono ?_
        rintro e2 w2 ⟨rfl, b2⟩
        have M2 : Hid (Mr.At w2 gM (m.raw e t)) := Lib.hid (Whole.below M1.out b2 M1.out.lt)
        have B2 := Lib.hid (B1.out.trans (b2.mono B1.out.size))
        clear b2 M1 B1
        go_wp2_with (with_reducible refine wpList_load_whole_st Mr.isRec rfl _ rfl gM (by with_unfolding_all exact rfl) _ _ (Mr.len _) M2.out ?_)
        refine ((CG w2 B2.out).out).mono ?_
        rintro e3 w3 ⟨rfl, b3⟩
        have M3 : Hid (Mr.At w3 gM (m.raw e t)) := Lib.hid (Whole.below M2.out b3 M2.out.lt)
        have B3 := Lib.hid (B2.out.trans (b3.mono B2.out.size))
        clear b3 M2 B2
        go_wp2_with (with_reducible refine wpList_load_whole_st Mr.isRec rfl _ rfl gM (by with_unfolding_all exact rfl) _ _ (Mr.len _) M3.out ?_)
        refine ((C1 w3 B3.out).out).mono ?_
        rintro e4 w4 ⟨v1, rfl, y1, b4⟩
        have M4 : Hid (Mr.At w4 gM (m.raw e t)) := Lib.hid (Whole.below M3.out b4 M3.out.lt)
        have B4 := Lib.hid (B3.out.trans (b4.mono B3.out.size))
        clear b4 M3 B3
        clear y1
        clear M4
        go_wp2_with fail
        refine ((CT w4 B4.out).out).mono ?_
        rintro e5 w5 ⟨e9, t9, rfl, l9, b5⟩
        have B5 := Lib.hid (B4.out.trans (b5.mono B4.out.size))
        clear b5 B4
        have L9 := Lib.hid l9
        clear l9
        have E5 : Hid (Since w5 w5) := Lib.hid (⟨Below.refl _ _⟩)
        go_wp2_with (refine wpList_alloc_row rfl 27 rfl Mr.zero.enc.toArray Mr.zero_is ?_)
        intro w6 b6 x6 z6
        obtain ⟨gY, hgY⟩ : ∃ g, g = w5.heap.size := ⟨_, rfl⟩
        have L_E_Y := Lib.hid (show w5.heap.size ≤ gY from by rw [hgY]; exact E5.out.b.size)
        have M_Y := Lib.hid (show w.heap.size ≤ gY from by rw [hgY]; exact B5.out.size)
        have E6 : Hid (Since w5 w6) := Lib.hid (E5.out.below b6)
        have B6 := Lib.hid (B5.out.trans (b6.mono B5.out.size))
        rw [← hgY] at x6 ⊢
        have Y6 : Hid (Mr.At w6 gY Mr.zero) := Lib.hid x6
        clear b6 x6 z6 hgY E5 B5
        go_wp2_with (first | (with_reducible refine wpList_load_whole_st Mr.isRec rfl _ rfl gY (by with_unfolding_all exact rfl) _ _ (Mr.len _) Y6.out ?_) | (with_reducible refine wpList_store_whole rfl 27 _ _ rfl gY (n.raw e9 t9).enc.toArray (by with_unfolding_all exact rfl) (by with_unfolding_all exact rfl) _ _ Y6.out (Mr.size _) rfl (Mr.one _) ?_))
        intro w7 q7 x7 z7
        have Y7 : Hid (Mr.At w7 gY (n.raw e9 t9)) := Lib.hid x7
        have E7 : Hid (Since w5 w7) := Lib.hid (E6.out.far q7 L_E_Y.out)
        have B7 := Lib.hid (B6.out.grown q7 B6.out.size (fun k hk => by injection hk with hk; have := M_Y.out; omega))
        clear q7 x7 z7 Y6 E6 B6
        have LY := Lib.hid (L9.out.below E7.out.b)
        clear L9
        clear E7
        by_cases hc : c = 0
        · obtain ⟨hR9, hP9, hO9⟩ := HW.out hc
          subst hc
          have CP := Lib.hid (msPut_right hR9 e9 t9 w7 LY.out)
          rw [hP9] at CP
          have CR := fun w1 h1 => Lib.hid (show Calls Try.prog 12 #[(n.raw e9 t9).val] w1 fun x w' => x = .returned (.bool true) ∧ Below w1.heap.size w1 w' from by have q := msRight_any n e9 t9 (Nat.le_trans hR9.many (by decide)) (Nat.le_trans hR9.items (by decide)) w1 h1; rw [show rightM n = true from decide_eq_true hR9] at q; exact q)
          clear hR9 hP9 hO9
          have L7 : Hid (Lists w7 e9 t9 n) := Lib.hid (LY.out)
          clear LY
          generalize b.length = bn at *
          go_wp2_with (with_reducible refine wpList_load_whole_st Mr.isRec rfl _ rfl gY (by with_unfolding_all exact rfl) _ _ (Mr.len _) Y7.out ?_)
          refine (CP.out).mono ?_
          rintro e8 w8 ⟨A2, cap2, rfl, y2, b8⟩
          have Y8 : Hid (Mr.At w8 gY (n.raw e9 t9)) := Lib.hid (Whole.below Y7.out b8 Y7.out.lt)
          have L8 : Hid (Lists w8 e9 t9 n) := Lib.hid (L7.out.below b8)
          have B8 := Lib.hid (B7.out.trans (b8.mono B7.out.size))
          have P8 : Hid (BytesAt w8 (.slice A2 bn cap2) b) := Lib.hid y2
          clear b8 Y7 L7 B7 y2
          clear CP
          go_wp2_with (first | (with_reducible refine wpList_load_whole_st Mr.isRec rfl _ rfl gY (by with_unfolding_all exact rfl) _ _ (Mr.len _) Y8.out ?_) | (with_reducible refine wpList_load_whole_w_st Mr.isRec (by kernel_rfl) _ rfl gY (by with_unfolding_all exact rfl) _ _ (Mr.len _) Y8.out ?_))
          refine ((CR w8 L8.out).out).mono ?_
          rintro e9 w9 ⟨rfl, b9⟩
          have Y9 : Hid (Mr.At w9 gY (n.raw e9 t9)) := Lib.hid (Whole.below Y8.out b9 Y8.out.lt)
          have L9 : Hid (Lists w9 e9 t9 n) := Lib.hid (L8.out.below b9)
          have P9 : Hid (BytesAt w9 (.slice A2 bn cap2) b) := Lib.hid (P8.out.below b9)
          have B9 := Lib.hid (B8.out.trans (b9.mono B8.out.size))
          clear b9 Y8 L8 P8 B8
          have r2 := conv_bytes P9.out
          have r3 := conv_bytes (H.out.below B9.out)
          go_wp2
          go_ret
          exact ⟨rfl, B9.out⟩
        · have hz := HZ.out hc
          have dc : decide (c = 0) = false := decide_eq_false hc
          have CS := Lib.hid (show Calls Try.prog 21 #[(n.raw e9 t9).val, (Mg.zero.raw Row.nil Row.nil).val] w7 fun x w' => x = .returned (.bool true) ∧ Below w7.heap.size w7 w' from by have ly := LY.out; rw [hz] at ly ⊢; exact msSame_self Mg.zero e9 t9 Row.nil Row.nil (by decide) (by decide) _ ly ⟨rows_nil _ 6, rows_nil _ 4⟩)
          clear LY hz
          go_wp2_with (first | (with_reducible refine wpList_load_whole_st Mr.isRec rfl _ rfl gY (by with_unfolding_all exact rfl) _ _ (Mr.len _) Y7.out ?_) | (with_reducible refine wpList_build_rec rfl 27 _ rfl #[] (by with_unfolding_all exact rfl) (Mg.zero.raw Row.nil Row.nil).enc.toArray (by kernel_rfl) ?_))
          refine (CS.out).mono ?_
          rintro e8 w8 ⟨rfl, b8⟩
          have Y8 : Hid (Mr.At w8 gY (n.raw e9 t9)) := Lib.hid (Whole.below Y7.out b8 Y7.out.lt)
          have B8 := Lib.hid (B7.out.trans (b8.mono B7.out.size))
          clear b8 Y7 B7
          go_wp2
          go_ret
          exact ⟨rfl, B8.out⟩
end Go.Proofs.Ytnjeopgcpffkcaa
