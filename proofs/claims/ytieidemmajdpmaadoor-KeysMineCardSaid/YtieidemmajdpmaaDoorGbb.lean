/- Layer 18's statements: the chapter's example (works), and both cores. -/
import Derived.Test.YtieidemmajdpmaaDoorGba
namespace Go.Proofs.YtieidemmajdpmaaDoor
set_option maxRecDepth 100000
open Go.RowKit

theorem greatB_small {a : Ent} (h : greatB a = false) : a.name.length ≤ 1000 ∧ a.tag.length ≤ 1000 := by
  simp only [greatB, Bool.or_eq_false_iff, decide_eq_false_iff_not] at h
  omega

def rootW : List UInt8 := [114, 111, 111, 116]

set_option maxRecDepth 100000 in
set_option maxHeartbeats 1000000 in
theorem works18 (w : World) (T : Tab w) (PW : PowT w) :
    Calls Tryd.prog 6 #[] w fun e w' => e = .returned (.bool true) ∧ Below w.heap.size w w' := by
  have T0 := Lib.hid T
  have P0 := Lib.hid PW
  have C1 := fun w => Lib.hid (show Calls Tryd.prog 11 #[.int .i64 2, .string ⟨#[120]⟩, .string ⟨#[121]⟩] w fun e w' => e = .returned (.tuple #[.string ⟨#[121]⟩, .string ⟨#[120]⟩]) ∧ Below w.heap.size w w' from keMine_any 2 [120] [121] w)
  have C2 := fun w => Lib.hid (show Calls Tryd.prog 11 #[.int .i64 3, .string ⟨#[120]⟩, .string ⟨#[121]⟩] w fun e w' => e = .returned (.tuple #[.string ⟨#[]⟩, .string ⟨#[]⟩]) ∧ Below w.heap.size w w' from keMine_any 3 [120] [121] w)
  have CE := fun w T PW => Lib.hid (keEpoch_any rootW 0 (by decide) (by decide) w (by decide) T PW)
  have EL := epochK_length rootW 0
  generalize epochK rootW 0 = G at *
  clear T PW
  go_enter Tryd.func6, Tryd.ntmps6
  go_wp2_with fail
  refine ((C1 w).out).mono ?_
  rintro e1 w1 ⟨rfl, b1⟩
  have B1 := Lib.hid b1
  clear b1 
  go_wp2_with fail
  refine ((C2 w1).out).mono ?_
  rintro e2 w2 ⟨rfl, b2⟩
  have B2 := Lib.hid (B1.out.trans (b2.mono B1.out.size))
  clear b2 B1
  clear C1 C2
  have e1 : ((G.length : Int) == 32) = true := by rw [EL]; rfl
  have e2 : (G.length == 32) = true := by rw [EL]; rfl
  have e3 : decide ((G.length : Int) = 32) = true := by rw [EL]; rfl
  go_wp2_with fail
  refine ((CE w2 (T0.out.below B2.out T0.out.pos) (P0.out.below B2.out)).out).mono ?_
  rintro e3 w3 ⟨rfl, b3⟩
  have B3 := Lib.hid (B2.out.trans (b3.mono B2.out.size))
  clear b3 B2
  go_wp2
  go_ret
  exact ⟨rfl, B3.out⟩

set_option maxRecDepth 100000 in
set_option maxHeartbeats 2000000 in
theorem keysRoots_core (k : List UInt8) (f s : Nat) (a b : Ent) (n : Int) (hf : f < 18446744073709551616) (hs : s < 18446744073709551616) (ao : a.id < 18446744073709551616) (bo : b.id < 18446744073709551616) (h1 : -9223372036854775808 ≤ n) (h2 : n < 9223372036854775808) (w : World) (T : Tab w) (PW : PowT w) :
    Calls Tryd.prog 3 #[.string ⟨k.toArray⟩, .int .u64 (f : Int), .int .u64 (s : Int), a.val, b.val, .int .i64 n] w fun e w' => e = .returned (.bool true) ∧ Below w.heap.size w w' := by
  have T0 := Lib.hid T
  have P0 := Lib.hid PW
  have C0 := fun w => Lib.hid (great_any a w)
  have C1 := fun w => Lib.hid (great_any b w)
  have CW := fun w T P => Lib.hid (works18 w T P)
  have SA := fun h => Lib.hid (greatB_small (a := a) h)
  have SB := fun h => Lib.hid (greatB_small (a := b) h)
  obtain ⟨b0, h0⟩ : ∃ q, q = decide (300 < k.length) := ⟨_, rfl⟩
  obtain ⟨b1, h3⟩ : ∃ q, q = greatB a := ⟨_, rfl⟩
  obtain ⟨b2, h4⟩ : ∃ q, q = greatB b := ⟨_, rfl⟩
  simp only [← h3] at C0
  simp only [← h4] at C1
  have p0 : decide ((300 : Int) < (k.length : Int)) = b0 := by rw [h0, Bool.eq_iff_iff, decide_eq_true_eq, decide_eq_true_eq]; omega
  have HB := Lib.hid (And.intro h0 (And.intro h3 h4))
  have HN := Lib.hid (And.intro (And.intro hf hs) (And.intro (And.intro ao bo) (And.intro h1 h2)))
  clear T PW h0 h3 h4 hf hs ao bo h1 h2
  go_enter Tryd.func3, Tryd.ntmps3
  go_wp2_with (refine wpList_box_row rfl 24 _ rfl a.enc.toArray (by with_unfolding_all exact rfl) ?_)
  intro w1 b1 x1 z1
  obtain ⟨gX, hgX⟩ : ∃ g, g = w.heap.size := ⟨_, rfl⟩
  have M_X := Lib.hid (show w.heap.size ≤ gX from by rw [hgX]; exact Nat.le_refl _)
  have B1 := Lib.hid b1
  rw [← hgX] at x1 ⊢
  have X1 : Hid (Ent.At w1 gX a) := Lib.hid x1
  clear b1 x1 z1 hgX 
  go_wp2_with (first | (with_reducible refine wpList_load_whole Ent.isRec rfl _ rfl gX (by with_unfolding_all exact rfl) _ _ (Ent.len _) X1.out ?_) | (refine wpList_box_row rfl 24 _ rfl b.enc.toArray (by with_unfolding_all exact rfl) ?_))
  intro w2 b2 x2 z2
  obtain ⟨gY, hgY⟩ : ∃ g, g = w1.heap.size := ⟨_, rfl⟩
  have N_X_Y := Lib.hid (show gX < gY from by rw [hgY]; exact X1.out.lt)
  have M_Y := Lib.hid (show w.heap.size ≤ gY from by rw [hgY]; exact B1.out.size)
  have X2 : Hid (Ent.At w2 gX a) := Lib.hid (Whole.below X1.out b2 X1.out.lt)
  have B2 := Lib.hid (B1.out.trans (b2.mono B1.out.size))
  rw [← hgY] at x2 ⊢
  have Y2 : Hid (Ent.At w2 gY b) := Lib.hid x2
  clear b2 x2 z2 hgY X1 B1
  cases b0 with
  | true =>
    go_wp2_with (first | (with_reducible refine wpList_load_whole Ent.isRec rfl _ rfl gX (by with_unfolding_all exact rfl) _ _ (Ent.len _) X2.out ?_) | (with_reducible refine wpList_load_whole Ent.isRec rfl _ rfl gY (by with_unfolding_all exact rfl) _ _ (Ent.len _) Y2.out ?_))
    refine ((CW w2 (T0.out.below B2.out T0.out.pos) (P0.out.below B2.out)).out).mono ?_
    rintro e3 w3 ⟨rfl, b3⟩
    have X3 : Hid (Ent.At w3 gX a) := Lib.hid (Whole.below X2.out b3 X2.out.lt)
    have Y3 : Hid (Ent.At w3 gY b) := Lib.hid (Whole.below Y2.out b3 Y2.out.lt)
    have B3 := Lib.hid (B2.out.trans (b3.mono B2.out.size))
    clear b3 X2 Y2 B2
    go_wp2
    go_ret
    exact ⟨rfl, B3.out⟩
  | false =>
    go_wp2_with (first | (with_reducible refine wpList_load_whole Ent.isRec rfl _ rfl gX (by with_unfolding_all exact rfl) _ _ (Ent.len _) X2.out ?_) | (with_reducible refine wpList_load_whole Ent.isRec rfl _ rfl gY (by with_unfolding_all exact rfl) _ _ (Ent.len _) Y2.out ?_) | (with_reducible refine wpList_load_whole_w Ent.isRec (by kernel_rfl) _ rfl gX (by with_unfolding_all exact rfl) _ _ (Ent.len _) X2.out ?_))
    refine ((C0 w2).out).mono ?_
    rintro e3 w3 ⟨rfl, b3⟩
    have X3 : Hid (Ent.At w3 gX a) := Lib.hid (Whole.below X2.out b3 X2.out.lt)
    have Y3 : Hid (Ent.At w3 gY b) := Lib.hid (Whole.below Y2.out b3 Y2.out.lt)
    have B3 := Lib.hid (B2.out.trans (b3.mono B2.out.size))
    clear b3 X2 Y2 B2
    clear C0
    cases b1 with
    | true =>
      go_wp2_with (first | (with_reducible refine wpList_load_whole Ent.isRec rfl _ rfl gX (by with_unfolding_all exact rfl) _ _ (Ent.len _) X3.out ?_) | (with_reducible refine wpList_load_whole Ent.isRec rfl _ rfl gY (by with_unfolding_all exact rfl) _ _ (Ent.len _) Y3.out ?_))
      refine ((CW w3 (T0.out.below B3.out T0.out.pos) (P0.out.below B3.out)).out).mono ?_
      rintro e4 w4 ⟨rfl, b4⟩
      have X4 : Hid (Ent.At w4 gX a) := Lib.hid (Whole.below X3.out b4 X3.out.lt)
      have Y4 : Hid (Ent.At w4 gY b) := Lib.hid (Whole.below Y3.out b4 Y3.out.lt)
      have B4 := Lib.hid (B3.out.trans (b4.mono B3.out.size))
      clear b4 X3 Y3 B3
      go_wp2
      go_ret
      exact ⟨rfl, B4.out⟩
    | false =>
      go_wp2_with (first | (with_reducible refine wpList_load_whole Ent.isRec rfl _ rfl gX (by with_unfolding_all exact rfl) _ _ (Ent.len _) X3.out ?_) | (with_reducible refine wpList_load_whole Ent.isRec rfl _ rfl gY (by with_unfolding_all exact rfl) _ _ (Ent.len _) Y3.out ?_) | (with_reducible refine wpList_load_whole_w Ent.isRec (by kernel_rfl) _ rfl gY (by with_unfolding_all exact rfl) _ _ (Ent.len _) Y3.out ?_))
      refine ((C1 w3).out).mono ?_
      rintro e4 w4 ⟨rfl, b4⟩
      have X4 : Hid (Ent.At w4 gX a) := Lib.hid (Whole.below X3.out b4 X3.out.lt)
      have Y4 : Hid (Ent.At w4 gY b) := Lib.hid (Whole.below Y3.out b4 Y3.out.lt)
      have B4 := Lib.hid (B3.out.trans (b4.mono B3.out.size))
      clear b4 X3 Y3 B3
      clear C1
      cases b2 with
      | true =>
        go_wp2_with (first | (with_reducible refine wpList_load_whole Ent.isRec rfl _ rfl gX (by with_unfolding_all exact rfl) _ _ (Ent.len _) X4.out ?_) | (with_reducible refine wpList_load_whole Ent.isRec rfl _ rfl gY (by with_unfolding_all exact rfl) _ _ (Ent.len _) Y4.out ?_))
        refine ((CW w4 (T0.out.below B4.out T0.out.pos) (P0.out.below B4.out)).out).mono ?_
        rintro e5 w5 ⟨rfl, b5⟩
        have X5 : Hid (Ent.At w5 gX a) := Lib.hid (Whole.below X4.out b5 X4.out.lt)
        have Y5 : Hid (Ent.At w5 gY b) := Lib.hid (Whole.below Y4.out b5 Y4.out.lt)
        have B5 := Lib.hid (B4.out.trans (b5.mono B4.out.size))
        clear b5 X4 Y4 B4
        go_wp2
        go_ret
        exact ⟨rfl, B5.out⟩
      | false =>
        have kl : k.length ≤ 300 := by have := HB.out.1; simpa using this.symm
        obtain ⟨an, at_⟩ := (SA HB.out.2.1.symm).out
        obtain ⟨bn, bt⟩ := (SB HB.out.2.2.symm).out
        obtain ⟨⟨hf, hs⟩, ⟨ao, bo⟩, h1, h2⟩ := HN.out
        have CR := fun w T => Lib.hid (keRoots_any k f s a b w (by omega) an at_ bn bt T)
        have CF := fun w => Lib.hid (kfRoots_any k f s a b w (by omega) hf hs an at_ ao bn bt bo)
        have CE := fun w T P => Lib.hid (keEpoch_any k n h1 h2 w (by omega) T P)
        have CG := fun w => Lib.hid (kfEpoch_any k n h1 h2 w (by omega))
        generalize rootT k f s a b = RT at *
        generalize rootB k f s a b = RB at *
        generalize epochK k n = G at *
        clear kl an at_ bn bt hf hs ao bo h1 h2 HB HN SA SB p0
        go_wp2_with (first | (with_reducible refine wpList_load_whole Ent.isRec rfl _ rfl gX (by with_unfolding_all exact rfl) _ _ (Ent.len _) X4.out ?_) | (with_reducible refine wpList_load_whole Ent.isRec rfl _ rfl gY (by with_unfolding_all exact rfl) _ _ (Ent.len _) Y4.out ?_))
        refine ((CR w4 (T0.out.below B4.out T0.out.pos)).out).mono ?_
        rintro e5 w5 ⟨rfl, b5⟩
        have X5 : Hid (Ent.At w5 gX a) := Lib.hid (Whole.below X4.out b5 X4.out.lt)
        have Y5 : Hid (Ent.At w5 gY b) := Lib.hid (Whole.below Y4.out b5 Y4.out.lt)
        have B5 := Lib.hid (B4.out.trans (b5.mono B4.out.size))
        clear b5 X4 Y4 B4
        go_wp2_with (first | (with_reducible refine wpList_load_whole Ent.isRec rfl _ rfl gX (by with_unfolding_all exact rfl) _ _ (Ent.len _) X5.out ?_) | (with_reducible refine wpList_load_whole Ent.isRec rfl _ rfl gY (by with_unfolding_all exact rfl) _ _ (Ent.len _) Y5.out ?_))
        refine ((CF w5).out).mono ?_
        rintro e6 w6 ⟨rfl, b6⟩
        have X6 : Hid (Ent.At w6 gX a) := Lib.hid (Whole.below X5.out b6 X5.out.lt)
        have Y6 : Hid (Ent.At w6 gY b) := Lib.hid (Whole.below Y5.out b6 Y5.out.lt)
        have B6 := Lib.hid (B5.out.trans (b6.mono B5.out.size))
        clear b6 X5 Y5 B5
        clear CR CF
        go_wp2_with (first | (with_reducible refine wpList_load_whole Ent.isRec rfl _ rfl gX (by with_unfolding_all exact rfl) _ _ (Ent.len _) X6.out ?_) | (with_reducible refine wpList_load_whole Ent.isRec rfl _ rfl gY (by with_unfolding_all exact rfl) _ _ (Ent.len _) Y6.out ?_))
        refine ((CE w6 (T0.out.below B6.out T0.out.pos) (P0.out.below B6.out)).out).mono ?_
        rintro e7 w7 ⟨rfl, b7⟩
        have X7 : Hid (Ent.At w7 gX a) := Lib.hid (Whole.below X6.out b7 X6.out.lt)
        have Y7 : Hid (Ent.At w7 gY b) := Lib.hid (Whole.below Y6.out b7 Y6.out.lt)
        have B7 := Lib.hid (B6.out.trans (b7.mono B6.out.size))
        clear b7 X6 Y6 B6
        go_wp2_with (first | (with_reducible refine wpList_load_whole Ent.isRec rfl _ rfl gX (by with_unfolding_all exact rfl) _ _ (Ent.len _) X7.out ?_) | (with_reducible refine wpList_load_whole Ent.isRec rfl _ rfl gY (by with_unfolding_all exact rfl) _ _ (Ent.len _) Y7.out ?_))
        refine ((CG w7).out).mono ?_
        rintro e8 w8 ⟨rfl, b8⟩
        have X8 : Hid (Ent.At w8 gX a) := Lib.hid (Whole.below X7.out b8 X7.out.lt)
        have Y8 : Hid (Ent.At w8 gY b) := Lib.hid (Whole.below Y7.out b8 Y7.out.lt)
        have B8 := Lib.hid (B7.out.trans (b8.mono B7.out.size))
        clear b8 X7 Y7 B7
        go_wp2_with (first | (with_reducible refine wpList_load_whole Ent.isRec rfl _ rfl gX (by with_unfolding_all exact rfl) _ _ (Ent.len _) X8.out ?_) | (with_reducible refine wpList_load_whole Ent.isRec rfl _ rfl gY (by with_unfolding_all exact rfl) _ _ (Ent.len _) Y8.out ?_))
        refine ((CW w8 (T0.out.below B8.out T0.out.pos) (P0.out.below B8.out)).out).mono ?_
        rintro e9 w9 ⟨rfl, b9⟩
        have X9 : Hid (Ent.At w9 gX a) := Lib.hid (Whole.below X8.out b9 X8.out.lt)
        have Y9 : Hid (Ent.At w9 gY b) := Lib.hid (Whole.below Y8.out b9 Y8.out.lt)
        have B9 := Lib.hid (B8.out.trans (b9.mono B8.out.size))
        clear b9 X8 Y8 B8
        go_wp2
        go_ret
        exact ⟨rfl, B9.out⟩

set_option maxRecDepth 100000 in
set_option maxHeartbeats 2000000 in
theorem keysMine_core (k : List UInt8) (f s : Nat) (a b : Ent) (role : Int) (w : World) (T : Tab w) (PW : PowT w) :
    Calls Tryd.prog 4 #[.string ⟨k.toArray⟩, .int .u64 (f : Int), .int .u64 (s : Int), a.val, b.val, .int .i64 role] w fun e w' => e = .returned (.bool true) ∧ Below w.heap.size w w' := by
  have T0 := Lib.hid T
  have P0 := Lib.hid PW
  have C0 := fun w => Lib.hid (great_any a w)
  have C1 := fun w => Lib.hid (great_any b w)
  have CW := fun w T P => Lib.hid (works18 w T P)
  have SA := fun h => Lib.hid (greatB_small (a := a) h)
  have SB := fun h => Lib.hid (greatB_small (a := b) h)
  obtain ⟨b0, h0⟩ : ∃ q, q = decide (300 < k.length) := ⟨_, rfl⟩
  obtain ⟨b1, h3⟩ : ∃ q, q = greatB a := ⟨_, rfl⟩
  obtain ⟨b2, h4⟩ : ∃ q, q = greatB b := ⟨_, rfl⟩
  simp only [← h3] at C0
  simp only [← h4] at C1
  have p0 : decide ((300 : Int) < (k.length : Int)) = b0 := by rw [h0, Bool.eq_iff_iff, decide_eq_true_eq, decide_eq_true_eq]; omega
  have HB := Lib.hid (And.intro h0 (And.intro h3 h4))
  clear T PW h0 h3 h4
  go_enter Tryd.func4, Tryd.ntmps4
  go_wp2_with (refine wpList_box_row rfl 24 _ rfl a.enc.toArray (by with_unfolding_all exact rfl) ?_)
  intro w1 b1 x1 z1
  obtain ⟨gX, hgX⟩ : ∃ g, g = w.heap.size := ⟨_, rfl⟩
  have M_X := Lib.hid (show w.heap.size ≤ gX from by rw [hgX]; exact Nat.le_refl _)
  have B1 := Lib.hid b1
  rw [← hgX] at x1 ⊢
  have X1 : Hid (Ent.At w1 gX a) := Lib.hid x1
  clear b1 x1 z1 hgX 
  go_wp2_with (first | (with_reducible refine wpList_load_whole Ent.isRec rfl _ rfl gX (by with_unfolding_all exact rfl) _ _ (Ent.len _) X1.out ?_) | (refine wpList_box_row rfl 24 _ rfl b.enc.toArray (by with_unfolding_all exact rfl) ?_))
  intro w2 b2 x2 z2
  obtain ⟨gY, hgY⟩ : ∃ g, g = w1.heap.size := ⟨_, rfl⟩
  have N_X_Y := Lib.hid (show gX < gY from by rw [hgY]; exact X1.out.lt)
  have M_Y := Lib.hid (show w.heap.size ≤ gY from by rw [hgY]; exact B1.out.size)
  have X2 : Hid (Ent.At w2 gX a) := Lib.hid (Whole.below X1.out b2 X1.out.lt)
  have B2 := Lib.hid (B1.out.trans (b2.mono B1.out.size))
  rw [← hgY] at x2 ⊢
  have Y2 : Hid (Ent.At w2 gY b) := Lib.hid x2
  clear b2 x2 z2 hgY X1 B1
  cases b0 with
  | true =>
    go_wp2_with (first | (with_reducible refine wpList_load_whole Ent.isRec rfl _ rfl gX (by with_unfolding_all exact rfl) _ _ (Ent.len _) X2.out ?_) | (with_reducible refine wpList_load_whole Ent.isRec rfl _ rfl gY (by with_unfolding_all exact rfl) _ _ (Ent.len _) Y2.out ?_))
    refine ((CW w2 (T0.out.below B2.out T0.out.pos) (P0.out.below B2.out)).out).mono ?_
    rintro e3 w3 ⟨rfl, b3⟩
    have X3 : Hid (Ent.At w3 gX a) := Lib.hid (Whole.below X2.out b3 X2.out.lt)
    have Y3 : Hid (Ent.At w3 gY b) := Lib.hid (Whole.below Y2.out b3 Y2.out.lt)
    have B3 := Lib.hid (B2.out.trans (b3.mono B2.out.size))
    clear b3 X2 Y2 B2
    go_wp2
    go_ret
    exact ⟨rfl, B3.out⟩
  | false =>
    go_wp2_with (first | (with_reducible refine wpList_load_whole Ent.isRec rfl _ rfl gX (by with_unfolding_all exact rfl) _ _ (Ent.len _) X2.out ?_) | (with_reducible refine wpList_load_whole Ent.isRec rfl _ rfl gY (by with_unfolding_all exact rfl) _ _ (Ent.len _) Y2.out ?_) | (with_reducible refine wpList_load_whole_w Ent.isRec (by kernel_rfl) _ rfl gX (by with_unfolding_all exact rfl) _ _ (Ent.len _) X2.out ?_))
    refine ((C0 w2).out).mono ?_
    rintro e3 w3 ⟨rfl, b3⟩
    have X3 : Hid (Ent.At w3 gX a) := Lib.hid (Whole.below X2.out b3 X2.out.lt)
    have Y3 : Hid (Ent.At w3 gY b) := Lib.hid (Whole.below Y2.out b3 Y2.out.lt)
    have B3 := Lib.hid (B2.out.trans (b3.mono B2.out.size))
    clear b3 X2 Y2 B2
    clear C0
    cases b1 with
    | true =>
      go_wp2_with (first | (with_reducible refine wpList_load_whole Ent.isRec rfl _ rfl gX (by with_unfolding_all exact rfl) _ _ (Ent.len _) X3.out ?_) | (with_reducible refine wpList_load_whole Ent.isRec rfl _ rfl gY (by with_unfolding_all exact rfl) _ _ (Ent.len _) Y3.out ?_))
      refine ((CW w3 (T0.out.below B3.out T0.out.pos) (P0.out.below B3.out)).out).mono ?_
      rintro e4 w4 ⟨rfl, b4⟩
      have X4 : Hid (Ent.At w4 gX a) := Lib.hid (Whole.below X3.out b4 X3.out.lt)
      have Y4 : Hid (Ent.At w4 gY b) := Lib.hid (Whole.below Y3.out b4 Y3.out.lt)
      have B4 := Lib.hid (B3.out.trans (b4.mono B3.out.size))
      clear b4 X3 Y3 B3
      go_wp2
      go_ret
      exact ⟨rfl, B4.out⟩
    | false =>
      go_wp2_with (first | (with_reducible refine wpList_load_whole Ent.isRec rfl _ rfl gX (by with_unfolding_all exact rfl) _ _ (Ent.len _) X3.out ?_) | (with_reducible refine wpList_load_whole Ent.isRec rfl _ rfl gY (by with_unfolding_all exact rfl) _ _ (Ent.len _) Y3.out ?_) | (with_reducible refine wpList_load_whole_w Ent.isRec (by kernel_rfl) _ rfl gY (by with_unfolding_all exact rfl) _ _ (Ent.len _) Y3.out ?_))
      refine ((C1 w3).out).mono ?_
      rintro e4 w4 ⟨rfl, b4⟩
      have X4 : Hid (Ent.At w4 gX a) := Lib.hid (Whole.below X3.out b4 X3.out.lt)
      have Y4 : Hid (Ent.At w4 gY b) := Lib.hid (Whole.below Y3.out b4 Y3.out.lt)
      have B4 := Lib.hid (B3.out.trans (b4.mono B3.out.size))
      clear b4 X3 Y3 B3
      clear C1
      cases b2 with
      | true =>
        go_wp2_with (first | (with_reducible refine wpList_load_whole Ent.isRec rfl _ rfl gX (by with_unfolding_all exact rfl) _ _ (Ent.len _) X4.out ?_) | (with_reducible refine wpList_load_whole Ent.isRec rfl _ rfl gY (by with_unfolding_all exact rfl) _ _ (Ent.len _) Y4.out ?_))
        refine ((CW w4 (T0.out.below B4.out T0.out.pos) (P0.out.below B4.out)).out).mono ?_
        rintro e5 w5 ⟨rfl, b5⟩
        have X5 : Hid (Ent.At w5 gX a) := Lib.hid (Whole.below X4.out b5 X4.out.lt)
        have Y5 : Hid (Ent.At w5 gY b) := Lib.hid (Whole.below Y4.out b5 Y4.out.lt)
        have B5 := Lib.hid (B4.out.trans (b5.mono B4.out.size))
        clear b5 X4 Y4 B4
        go_wp2
        go_ret
        exact ⟨rfl, B5.out⟩
      | false =>
        have kl : k.length ≤ 300 := by have := HB.out.1; simpa using this.symm
        obtain ⟨an, at_⟩ := (SA HB.out.2.1.symm).out
        obtain ⟨bn, bt⟩ := (SB HB.out.2.2.symm).out
        have CR := fun w T => Lib.hid (keRoots_any k f s a b w (by omega) an at_ bn bt T)
        have LT := rootT_length k f s a b
        have LB := rootB_length k f s a b
        generalize rootT k f s a b = RT at *
        generalize rootB k f s a b = RB at *
        have M1 := fun w => Lib.hid (show Calls Tryd.prog 11 #[.int .i64 1, .string ⟨RT.toArray⟩, .string ⟨RB.toArray⟩] w fun e w' => e = .returned (.tuple #[.string ⟨RT.toArray⟩, .string ⟨RB.toArray⟩]) ∧ Below w.heap.size w w' from keMine_any 1 RT RB w)
        have M2 := fun w => Lib.hid (show Calls Tryd.prog 11 #[.int .i64 2, .string ⟨RT.toArray⟩, .string ⟨RB.toArray⟩] w fun e w' => e = .returned (.tuple #[.string ⟨RB.toArray⟩, .string ⟨RT.toArray⟩]) ∧ Below w.heap.size w w' from keMine_any 2 RT RB w)
        have M3 := fun w => Lib.hid (keMine_any role RT RB w)
        have M4 := fun w => Lib.hid (kfMine_any role RT RB w)
        generalize mineA role RT RB = MA at *
        generalize mineB role RT RB = MB at *
        clear kl an at_ bn bt HB SA SB p0
        have e1 : ((RT.length : Int) == 32) = true := by rw [LT]; rfl
        have e2 : (RT.length == 32) = true := by rw [LT]; rfl
        have e3 : ((RB.length : Int) == 32) = true := by rw [LB]; rfl
        have e4 : (RB.length == 32) = true := by rw [LB]; rfl
        clear LT LB
        go_wp2_with (first | (with_reducible refine wpList_load_whole Ent.isRec rfl _ rfl gX (by with_unfolding_all exact rfl) _ _ (Ent.len _) X4.out ?_) | (with_reducible refine wpList_load_whole Ent.isRec rfl _ rfl gY (by with_unfolding_all exact rfl) _ _ (Ent.len _) Y4.out ?_))
        refine ((CR w4 (T0.out.below B4.out T0.out.pos)).out).mono ?_
        rintro e5 w5 ⟨rfl, b5⟩
        have X5 : Hid (Ent.At w5 gX a) := Lib.hid (Whole.below X4.out b5 X4.out.lt)
        have Y5 : Hid (Ent.At w5 gY b) := Lib.hid (Whole.below Y4.out b5 Y4.out.lt)
        have B5 := Lib.hid (B4.out.trans (b5.mono B4.out.size))
        clear b5 X4 Y4 B4
        go_wp2_with (first | (with_reducible refine wpList_load_whole Ent.isRec rfl _ rfl gX (by with_unfolding_all exact rfl) _ _ (Ent.len _) X5.out ?_) | (with_reducible refine wpList_load_whole Ent.isRec rfl _ rfl gY (by with_unfolding_all exact rfl) _ _ (Ent.len _) Y5.out ?_))
        refine ((M1 w5).out).mono ?_
        rintro e6 w6 ⟨rfl, b6⟩
        have X6 : Hid (Ent.At w6 gX a) := Lib.hid (Whole.below X5.out b6 X5.out.lt)
        have Y6 : Hid (Ent.At w6 gY b) := Lib.hid (Whole.below Y5.out b6 Y5.out.lt)
        have B6 := Lib.hid (B5.out.trans (b6.mono B5.out.size))
        clear b6 X5 Y5 B5
        go_wp2_with (first | (with_reducible refine wpList_load_whole Ent.isRec rfl _ rfl gX (by with_unfolding_all exact rfl) _ _ (Ent.len _) X6.out ?_) | (with_reducible refine wpList_load_whole Ent.isRec rfl _ rfl gY (by with_unfolding_all exact rfl) _ _ (Ent.len _) Y6.out ?_))
        refine ((M2 w6).out).mono ?_
        rintro e7 w7 ⟨rfl, b7⟩
        have X7 : Hid (Ent.At w7 gX a) := Lib.hid (Whole.below X6.out b7 X6.out.lt)
        have Y7 : Hid (Ent.At w7 gY b) := Lib.hid (Whole.below Y6.out b7 Y6.out.lt)
        have B7 := Lib.hid (B6.out.trans (b7.mono B6.out.size))
        clear b7 X6 Y6 B6
        go_wp2_with (first | (with_reducible refine wpList_load_whole Ent.isRec rfl _ rfl gX (by with_unfolding_all exact rfl) _ _ (Ent.len _) X7.out ?_) | (with_reducible refine wpList_load_whole Ent.isRec rfl _ rfl gY (by with_unfolding_all exact rfl) _ _ (Ent.len _) Y7.out ?_))
        refine ((M3 w7).out).mono ?_
        rintro e8 w8 ⟨rfl, b8⟩
        have X8 : Hid (Ent.At w8 gX a) := Lib.hid (Whole.below X7.out b8 X7.out.lt)
        have Y8 : Hid (Ent.At w8 gY b) := Lib.hid (Whole.below Y7.out b8 Y7.out.lt)
        have B8 := Lib.hid (B7.out.trans (b8.mono B7.out.size))
        clear b8 X7 Y7 B7
        go_wp2_with (first | (with_reducible refine wpList_load_whole Ent.isRec rfl _ rfl gX (by with_unfolding_all exact rfl) _ _ (Ent.len _) X8.out ?_) | (with_reducible refine wpList_load_whole Ent.isRec rfl _ rfl gY (by with_unfolding_all exact rfl) _ _ (Ent.len _) Y8.out ?_))
        refine ((M4 w8).out).mono ?_
        rintro e9 w9 ⟨rfl, b9⟩
        have X9 : Hid (Ent.At w9 gX a) := Lib.hid (Whole.below X8.out b9 X8.out.lt)
        have Y9 : Hid (Ent.At w9 gY b) := Lib.hid (Whole.below Y8.out b9 Y8.out.lt)
        have B9 := Lib.hid (B8.out.trans (b9.mono B8.out.size))
        clear b9 X8 Y8 B8
        clear CR M1 M2 M3 M4
        go_wp2_with (first | (with_reducible refine wpList_load_whole Ent.isRec rfl _ rfl gX (by with_unfolding_all exact rfl) _ _ (Ent.len _) X9.out ?_) | (with_reducible refine wpList_load_whole Ent.isRec rfl _ rfl gY (by with_unfolding_all exact rfl) _ _ (Ent.len _) Y9.out ?_))
        refine ((CW w9 (T0.out.below B9.out T0.out.pos) (P0.out.below B9.out)).out).mono ?_
        rintro e10 w10 ⟨rfl, b10⟩
        have X10 : Hid (Ent.At w10 gX a) := Lib.hid (Whole.below X9.out b10 X9.out.lt)
        have Y10 : Hid (Ent.At w10 gY b) := Lib.hid (Whole.below Y9.out b10 Y9.out.lt)
        have B10 := Lib.hid (B9.out.trans (b10.mono B9.out.size))
        clear b10 X9 Y9 B9
        go_wp2
        go_ret
        exact ⟨rfl, B10.out⟩
end Go.Proofs.YtieidemmajdpmaaDoor
