/- MsgTakes' core: which message any bytes are, or why none, is as the document has it. -/
import Derived.Test.YtnjeopgcpffkcaaGbi
import Derived.Test.YtnjeopgcpffkcaaMMrU
namespace Go.Proofs.Ytnjeopgcpffkcaa
set_option maxRecDepth 100000
open Go.RowKit

set_option maxRecDepth 100000 in
set_option maxHeartbeats 2000000 in
theorem msgTakes_core (A : Option Addr) (n cap : Nat) (b : List UInt8) (w : World) (h : BytesAt w (.slice A n cap) b) :
    Calls Try.prog 4 #[.slice A n cap] w fun x w' => x = .returned (.bool true) ∧ Below w.heap.size w w' := by
  by_cases hn : 4000 < n
  · have d : decide ((4000 : Int) < (n : Int)) = true := by simp; omega
    clear hn h
    go_enter Try.func4, Try.ntmps4
    go_wp2_with fail
    refine (works16 w).mono ?_
    rintro e1 w1 ⟨rfl, b1⟩
    have B1 := Lib.hid b1
    clear b1 
    go_wp2
    go_ret
    exact ⟨rfl, B1.out⟩
  · have d : decide ((4000 : Int) < (n : Int)) = false := by simp; omega
    have hl := takeM_len b
    have H := Lib.hid h
    have C1 := Lib.hid (msTake_any A n cap b w h)
    have C2 := fun w1 (hb : Below w.heap.size w w1) => Lib.hid (refMsTake_any A n cap b w1 (h.below hb) (by omega))
    have C3 := fun e1 t1 e2 t2 w1 ha hb => Lib.hid (refSame_self (takeM b).1 e1 t1 e2 t2 hl.1 hl.2 w1 ha hb)
    clear hn h hl
    generalize (takeM b).1 = m at *
    generalize (takeM b).2 = c at *
    go_enter Try.func4, Try.ntmps4
    go_wp2_with fail
    refine (C1.out).mono ?_
    rintro e1 w1 ⟨e1, t1, rfl, l1, b1⟩
    have B1 := Lib.hid b1
    clear b1 
    have L1 := Lib.hid l1
    clear l1 C1
    have D1 : Hid (Since w1 w1) := Lib.hid (⟨Below.refl _ _⟩)
    go_wp2_with (refine wpList_alloc_row rfl 27 rfl Mr.zero.enc.toArray Mr.zero_is ?_)
    intro w2 b2 x2 z2
    obtain ⟨gX, hgX⟩ : ∃ g, g = w1.heap.size := ⟨_, rfl⟩
    have L_D_X := Lib.hid (show w1.heap.size ≤ gX from by rw [hgX]; exact D1.out.b.size)
    have M_X := Lib.hid (show w.heap.size ≤ gX from by rw [hgX]; exact B1.out.size)
    have D2 : Hid (Since w1 w2) := Lib.hid (D1.out.below b2)
    have B2 := Lib.hid (B1.out.trans (b2.mono B1.out.size))
    rw [← hgX] at x2 ⊢
    have X2 : Hid (Mr.At w2 gX Mr.zero) := Lib.hid x2
    clear b2 x2 z2 hgX D1 B1
    go_wp2_with (first | (with_reducible refine wpList_load_whole_st Mr.isRec rfl _ rfl gX (by with_unfolding_all exact rfl) _ _ (Mr.len _) X2.out ?_) | (with_reducible refine wpList_store_whole rfl 27 _ _ rfl gX (m.raw e1 t1).enc.toArray (by with_unfolding_all exact rfl) (by with_unfolding_all exact rfl) _ _ X2.out (Mr.size _) rfl (Mr.one _) ?_))
    intro w3 q3 x3 z3
    have X3 : Hid (Mr.At w3 gX (m.raw e1 t1)) := Lib.hid x3
    have D3 : Hid (Since w1 w3) := Lib.hid (D2.out.far q3 L_D_X.out)
    have B3 := Lib.hid (B2.out.grown q3 B2.out.size (fun k hk => by injection hk with hk; have := M_X.out; omega))
    clear q3 x3 z3 X2 D2 B2
    go_wp2_with (with_reducible refine wpList_load_whole_st Mr.isRec rfl _ rfl gX (by with_unfolding_all exact rfl) _ _ (Mr.len _) X3.out ?_)
    refine ((C2 w3 B3.out).out).mono ?_
    rintro e4 w4 ⟨e2, t2, rfl, l2, b4⟩
    have D4 : Hid (Since w1 w4) := Lib.hid (D3.out.below b4)
    have X4 : Hid (Mr.At w4 gX (m.raw e1 t1)) := Lib.hid (Whole.below X3.out b4 X3.out.lt)
    have B4 := Lib.hid (B3.out.trans (b4.mono B3.out.size))
    clear b4 D3 X3 B3
    have L2 := Lib.hid l2
    clear l2 C2
    have E4 : Hid (Since w4 w4) := Lib.hid (⟨Below.refl _ _⟩)
    go_wp2_with (first | (with_reducible refine wpList_load_whole_st Mr.isRec rfl _ rfl gX (by with_unfolding_all exact rfl) _ _ (Mr.len _) X4.out ?_) | (refine wpList_alloc_row rfl 27 rfl Mr.zero.enc.toArray Mr.zero_is ?_))
    intro w5 b5 x5 z5
    obtain ⟨gY, hgY⟩ : ∃ g, g = w4.heap.size := ⟨_, rfl⟩
    have L_D_Y := Lib.hid (show w1.heap.size ≤ gY from by rw [hgY]; exact D4.out.b.size)
    have N_X_Y := Lib.hid (show gX < gY from by rw [hgY]; exact X4.out.lt)
    have L_E_Y := Lib.hid (show w4.heap.size ≤ gY from by rw [hgY]; exact E4.out.b.size)
    have M_Y := Lib.hid (show w.heap.size ≤ gY from by rw [hgY]; exact B4.out.size)
    have D5 : Hid (Since w1 w5) := Lib.hid (D4.out.below b5)
    have X5 : Hid (Mr.At w5 gX (m.raw e1 t1)) := Lib.hid (Whole.below X4.out b5 X4.out.lt)
    have E5 : Hid (Since w4 w5) := Lib.hid (E4.out.below b5)
    have B5 := Lib.hid (B4.out.trans (b5.mono B4.out.size))
    rw [← hgY] at x5 ⊢
    have Y5 : Hid (Mr.At w5 gY Mr.zero) := Lib.hid x5
    clear b5 x5 z5 hgY D4 X4 E4 B4
    go_wp2_with (first | (with_reducible refine wpList_load_whole_st Mr.isRec rfl _ rfl gX (by with_unfolding_all exact rfl) _ _ (Mr.len _) X5.out ?_) | (with_reducible refine wpList_load_whole_st Mr.isRec rfl _ rfl gY (by with_unfolding_all exact rfl) _ _ (Mr.len _) Y5.out ?_) | (with_reducible refine wpList_store_whole rfl 27 _ _ rfl gY (m.raw e2 t2).enc.toArray (by with_unfolding_all exact rfl) (by with_unfolding_all exact rfl) _ _ Y5.out (Mr.size _) rfl (Mr.one _) ?_))
    intro w6 q6 x6 z6
    have Y6 : Hid (Mr.At w6 gY (m.raw e2 t2)) := Lib.hid x6
    have D6 : Hid (Since w1 w6) := Lib.hid (D5.out.far q6 L_D_Y.out)
    have X6 : Hid (Mr.At w6 gX (m.raw e1 t1)) := Lib.hid (grown_far X5.out q6 (by have := N_X_Y.out; omega))
    have E6 : Hid (Since w4 w6) := Lib.hid (E5.out.far q6 L_E_Y.out)
    have B6 := Lib.hid (B5.out.grown q6 B5.out.size (fun k hk => by injection hk with hk; have := M_Y.out; omega))
    clear q6 x6 z6 Y5 D5 X5 E5 B5
    go_wp2_with (first | (with_reducible refine wpList_load_whole_st Mr.isRec rfl _ rfl gX (by with_unfolding_all exact rfl) _ _ (Mr.len _) X6.out ?_) | (with_reducible refine wpList_load_whole_st Mr.isRec rfl _ rfl gY (by with_unfolding_all exact rfl) _ _ (Mr.len _) Y6.out ?_))
    refine ((C3 e1 t1 e2 t2 w6 (L1.out.below D6.out.b) (L2.out.below E6.out.b)).out).mono ?_
    rintro e7 w7 ⟨rfl, b7⟩
    have D7 : Hid (Since w1 w7) := Lib.hid (D6.out.below b7)
    have X7 : Hid (Mr.At w7 gX (m.raw e1 t1)) := Lib.hid (Whole.below X6.out b7 X6.out.lt)
    have E7 : Hid (Since w4 w7) := Lib.hid (E6.out.below b7)
    have Y7 : Hid (Mr.At w7 gY (m.raw e2 t2)) := Lib.hid (Whole.below Y6.out b7 Y6.out.lt)
    have B7 := Lib.hid (B6.out.trans (b7.mono B6.out.size))
    clear b7 D6 X6 E6 Y6 B6
    go_wp2_with (first | (with_reducible refine wpList_load_whole_st Mr.isRec rfl _ rfl gX (by with_unfolding_all exact rfl) _ _ (Mr.len _) X7.out ?_) | (with_reducible refine wpList_load_whole_st Mr.isRec rfl _ rfl gY (by with_unfolding_all exact rfl) _ _ (Mr.len _) Y7.out ?_))
    refine (works16 w7).mono ?_
    rintro e8 w8 ⟨rfl, b8⟩
    have D8 : Hid (Since w1 w8) := Lib.hid (D7.out.below b8)
    have X8 : Hid (Mr.At w8 gX (m.raw e1 t1)) := Lib.hid (Whole.below X7.out b8 X7.out.lt)
    have E8 : Hid (Since w4 w8) := Lib.hid (E7.out.below b8)
    have Y8 : Hid (Mr.At w8 gY (m.raw e2 t2)) := Lib.hid (Whole.below Y7.out b8 Y7.out.lt)
    have B8 := Lib.hid (B7.out.trans (b8.mono B7.out.size))
    clear b8 D7 X7 E7 Y7 B7
    go_wp2
    go_ret
    exact ⟨rfl, B8.out⟩
end Go.Proofs.Ytnjeopgcpffkcaa
