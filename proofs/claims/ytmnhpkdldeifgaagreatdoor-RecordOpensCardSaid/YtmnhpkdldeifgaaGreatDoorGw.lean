/- Package record, as landed: Right, Put. A packet's kind: package hello's Kind, as landed, and the document's. -/
import Derived.Test.YtmnhpkdldeifgaaGreatDoorGu
import Derived.Test.YtmnhpkdldeifgaaGreatDoorGv
import Derived.Test.YtmnhpkdldeifgaaGreatDoorGf
import Derived.Test.YtmnhpkdldeifgaaGreatDoorGb
namespace Go.Proofs.YtmnhpkdldeifgaaGreatDoor
set_option maxRecDepth 100000
open Go.RowKit

def upB (a b : Head) : Bool := decide (a.id ≤ b.id) && decide (a.role ≤ b.role) && decide (a.epoch ≤ b.epoch) && decide (a.seq ≤ b.seq)
def leastH : Head := ⟨1, 1, 0, 1⟩
def mostH : Head := ⟨18446744073709551615, 2, 65535, 4096⟩
theorem right_up {h : Head} (hi : h.id < 18446744073709551616) : (upB leastH h && upB h mostH) = headR h := by
  obtain ⟨i, r, e, s⟩ := h
  have hi' : i < 18446744073709551616 := hi
  clear hi
  rw [Bool.eq_iff_iff]
  simp only [upB, headR, Bool.and_eq_true, decide_eq_true_eq]
  simp only [leastH, mostH]
  constructor <;> (intro k; omega)

set_option maxRecDepth 100000 in
set_option maxHeartbeats 1000000 in
theorem rcUpTo_any (a b : Head) (w : World) :
    Calls Tryz.prog 26 #[a.val, b.val] w fun e w' => e = .returned (.bool (upB a b)) ∧ Below w.heap.size w w' := by
  have HE : Hid (upB a b = (decide (a.id ≤ b.id) && decide (a.role ≤ b.role) && decide (a.epoch ≤ b.epoch) && decide (a.seq ≤ b.seq))) := Lib.hid rfl
  obtain ⟨X, hX⟩ : ∃ X, X = upB a b := ⟨_, rfl⟩
  rw [← hX] at HE ⊢
  clear hX
  go_enter Tryz.func26, Tryz.ntmps26
  go_wp2_with (refine wpList_box_row rfl 24 _ rfl a.enc.toArray (by with_unfolding_all exact rfl) ?_)
  intro w1 b1 x1 z1
  obtain ⟨gX, hgX⟩ : ∃ g, g = w.heap.size := ⟨_, rfl⟩
  have M_X := Lib.hid (show w.heap.size ≤ gX from by rw [hgX]; exact Nat.le_refl _)
  have B1 := Lib.hid b1
  rw [← hgX] at x1 ⊢
  have X1 : Hid (Head.At w1 gX a) := Lib.hid x1
  clear b1 x1 z1 hgX 
  go_wp2_with (first | (with_reducible refine wpList_load_whole Head.isRec rfl _ rfl gX (by with_unfolding_all exact rfl) _ _ (Head.len _) X1.out ?_) | (refine wpList_box_row rfl 24 _ rfl b.enc.toArray (by with_unfolding_all exact rfl) ?_))
  intro w2 b2 x2 z2
  obtain ⟨gY, hgY⟩ : ∃ g, g = w1.heap.size := ⟨_, rfl⟩
  have N_X_Y := Lib.hid (show gX < gY from by rw [hgY]; exact X1.out.lt)
  have M_Y := Lib.hid (show w.heap.size ≤ gY from by rw [hgY]; exact B1.out.size)
  have X2 : Hid (Head.At w2 gX a) := Lib.hid (Whole.below X1.out b2 X1.out.lt)
  have B2 := Lib.hid (B1.out.trans (b2.mono B1.out.size))
  rw [← hgY] at x2 ⊢
  have Y2 : Hid (Head.At w2 gY b) := Lib.hid x2
  clear b2 x2 z2 hgY X1 B1
  obtain ⟨c0, c1, c2, c3⟩ := Head.At.cells X2.out
  obtain ⟨d0, d1, d2, d3⟩ := Head.At.cells Y2.out
  by_cases h0 : a.id ≤ b.id
  · by_cases h1 : a.role ≤ b.role
    · by_cases h2 : a.epoch ≤ b.epoch
      · by_cases h3 : a.seq ≤ b.seq
        · have HF : Hid (X = true) := Lib.hid (by rw [HE.out]; simp [h0, h1, h2, h3])
          clear HE
          go_wp2
          go_ret
          exact ⟨by rw [HF.out]; rfl, B2.out⟩
        · have HF : Hid (X = false) := Lib.hid (by rw [HE.out]; simp [h0, h1, h2, h3])
          clear HE
          go_wp2
          go_ret
          exact ⟨by rw [HF.out]; rfl, B2.out⟩
      · have HF : Hid (X = false) := Lib.hid (by rw [HE.out]; simp [h0, h1, h2])
        clear HE
        go_wp2
        go_ret
        exact ⟨by rw [HF.out]; rfl, B2.out⟩
    · have HF : Hid (X = false) := Lib.hid (by rw [HE.out]; simp [h0, h1])
      clear HE
      go_wp2
      go_ret
      exact ⟨by rw [HF.out]; rfl, B2.out⟩
  · have HF : Hid (X = false) := Lib.hid (by rw [HE.out]; simp [h0])
    clear HE
    go_wp2
    go_ret
    exact ⟨by rw [HF.out]; rfl, B2.out⟩

set_option maxRecDepth 100000 in
set_option maxHeartbeats 1000000 in
theorem rcDownTo_any (a b : Head) (w : World) :
    Calls Tryz.prog 27 #[a.val, b.val] w fun e w' => e = .returned (.bool (upB b a)) ∧ Below w.heap.size w w' := by
  have C := fun w => Lib.hid (rcUpTo_any b a w)
  generalize upB b a = X at *
  go_enter Tryz.func27, Tryz.ntmps27
  go_wp2_with (refine wpList_box_row rfl 24 _ rfl a.enc.toArray (by with_unfolding_all exact rfl) ?_)
  intro w1 b1 x1 z1
  obtain ⟨gX, hgX⟩ : ∃ g, g = w.heap.size := ⟨_, rfl⟩
  have M_X := Lib.hid (show w.heap.size ≤ gX from by rw [hgX]; exact Nat.le_refl _)
  have B1 := Lib.hid b1
  rw [← hgX] at x1 ⊢
  have X1 : Hid (Head.At w1 gX a) := Lib.hid x1
  clear b1 x1 z1 hgX 
  go_wp2_with (first | (with_reducible refine wpList_load_whole Head.isRec rfl _ rfl gX (by with_unfolding_all exact rfl) _ _ (Head.len _) X1.out ?_) | (refine wpList_box_row rfl 24 _ rfl b.enc.toArray (by with_unfolding_all exact rfl) ?_))
  intro w2 b2 x2 z2
  obtain ⟨gY, hgY⟩ : ∃ g, g = w1.heap.size := ⟨_, rfl⟩
  have N_X_Y := Lib.hid (show gX < gY from by rw [hgY]; exact X1.out.lt)
  have M_Y := Lib.hid (show w.heap.size ≤ gY from by rw [hgY]; exact B1.out.size)
  have X2 : Hid (Head.At w2 gX a) := Lib.hid (Whole.below X1.out b2 X1.out.lt)
  have B2 := Lib.hid (B1.out.trans (b2.mono B1.out.size))
  rw [← hgY] at x2 ⊢
  have Y2 : Hid (Head.At w2 gY b) := Lib.hid x2
  clear b2 x2 z2 hgY X1 B1
  go_wp2_with (first | (with_reducible refine wpList_load_whole Head.isRec rfl _ rfl gX (by with_unfolding_all exact rfl) _ _ (Head.len _) X2.out ?_) | (with_reducible refine wpList_load_whole Head.isRec rfl _ rfl gY (by with_unfolding_all exact rfl) _ _ (Head.len _) Y2.out ?_))
  refine ((C w2).out).mono ?_
  rintro e3 w3 ⟨rfl, b3⟩
  have X3 : Hid (Head.At w3 gX a) := Lib.hid (Whole.below X2.out b3 X2.out.lt)
  have Y3 : Hid (Head.At w3 gY b) := Lib.hid (Whole.below Y2.out b3 Y2.out.lt)
  have B3 := Lib.hid (B2.out.trans (b3.mono B2.out.size))
  clear b3 X2 Y2 B2
  go_wp2
  go_ret
  exact ⟨rfl, B3.out⟩

theorem Head.At.under {w w' : World} {g : Nat} {h : Head} (x : Head.At w g h) (b : Below w.heap.size w w') : Head.At w' g h := Whole.below x b x.lt

abbrev upF (h : Head) : Value := .func (.func 26) #[h.val] #[]
abbrev downF (h : Head) : Value := .func (.func 27) #[h.val] #[]

set_option maxRecDepth 100000 in
set_option maxHeartbeats 1000000 in
/-- Two bounds, held against a head. -/
theorem rcLies_any (h lo hi : Head) (g : Nat) (w : World) (hg : g < w.heap.size) (e0 : w.cell? ⟨g, 0, none⟩ = some (upF lo)) (e1 : w.cell? ⟨g, 1, none⟩ = some (downF hi)) :
    Calls Tryz.prog 25 #[h.val, .slice (some ⟨g, 0, none⟩) 2 2] w fun e w' => e = .returned (.bool (upB lo h && upB h hi)) ∧ Below w.heap.size w w' := by
  have C0 := fun w => Lib.hid (rcUpTo_any lo h w)
  have C1 := fun w => Lib.hid (rcDownTo_any hi h w)
  have E0 := fun w' (b : Below w.heap.size w w') => Lib.hid ((b.cell (p := ⟨g, 0, none⟩) hg).trans e0)
  have E1 := fun w' (b : Below w.heap.size w w') => Lib.hid ((b.cell (p := ⟨g, 1, none⟩) hg).trans e1)
  obtain ⟨x, hx⟩ : ∃ x, x = upB lo h := ⟨_, rfl⟩
  obtain ⟨y, hy⟩ : ∃ y, y = upB h hi := ⟨_, rfl⟩
  simp only [← hx] at C0 ⊢
  simp only [← hy] at C1 ⊢
  clear hx hy e0 e1 hg
  go_enter Tryz.func25, Tryz.ntmps25
  go_wp2_with (refine wpList_box_row rfl 24 _ rfl h.enc.toArray (by with_unfolding_all exact rfl) ?_)
  intro w1 b1 x1 z1
  obtain ⟨gX, hgX⟩ : ∃ g, g = w.heap.size := ⟨_, rfl⟩
  have M_X := Lib.hid (show w.heap.size ≤ gX from by rw [hgX]; exact Nat.le_refl _)
  have B1 := Lib.hid b1
  rw [← hgX] at x1 ⊢
  have X1 : Hid (Head.At w1 gX h) := Lib.hid x1
  clear b1 x1 z1 hgX 
  have hw1 := Lib.hid (show Below w1.heap.size w1 w1 from Below.refl _ _)
  go_wp2_with fail
  go_loopw [6, 9] (fun _ i wr => ∃ k : Nat, k ≤ 2 ∧ i = .int .i64 (k : Int) ∧ (1 ≤ k → x = true) ∧ (2 ≤ k → y = true) ∧ Head.At wr gX h ∧ Below w.heap.size w wr) (fun _ i _ => 2 - (intOf i).toNat)
  case atStart => exact ⟨0, by decide, rfl, fun h => absurd h (by decide), fun h => absurd h (by decide), X1.out, B1.out⟩
  case round =>
    obtain ⟨k, hk, rfl, q0, q1, hX, hb⟩ := hrel
    have K0 := (E0 wr hb).out
    have K1 := (E1 wr hb).out
    have XX := Lib.hid hX
    have BB := Lib.hid hb
    clear hX hb E0 E1
    rcases (show k = 0 ∨ k = 1 ∨ k = 2 by omega) with rfl | rfl | rfl
    · clear q0 q1
      go_wp2_with (with_reducible refine wpList_load_whole Head.isRec rfl _ rfl gX (by with_unfolding_all exact rfl) _ _ (Head.len _) XX.out ?_)
      refine (C0 wr).out.mono ?_
      rintro e w2 ⟨rfl, b2⟩
      have X2 := Lib.hid (Head.At.under XX.out b2)
      have B2 := Lib.hid (BB.out.trans (b2.mono BB.out.size))
      clear b2 K0 K1 XX BB C0 C1
      cases x with
      | false =>
        go_wp2
        go_ret
        exact ⟨rfl, B2.out⟩
      | true =>
        go_wp2_with fail
        exact ⟨⟨1, by decide, rfl, fun _ => by first | trivial | rfl, fun h => absurd h (by decide), X2.out, B2.out⟩, by simp [intOf]⟩
    · obtain rfl := q0 (by decide)
      clear q0 q1
      go_wp2_with (with_reducible refine wpList_load_whole Head.isRec rfl _ rfl gX (by with_unfolding_all exact rfl) _ _ (Head.len _) XX.out ?_)
      refine (C1 wr).out.mono ?_
      rintro e w2 ⟨rfl, b2⟩
      have X2 := Lib.hid (Head.At.under XX.out b2)
      have B2 := Lib.hid (BB.out.trans (b2.mono BB.out.size))
      clear b2 K0 K1 XX BB C0 C1
      cases y with
      | false =>
        go_wp2
        go_ret
        exact ⟨rfl, B2.out⟩
      | true =>
        go_wp2_with fail
        exact ⟨⟨2, by decide, rfl, fun _ => by first | trivial | rfl, fun _ => by first | trivial | rfl, X2.out, B2.out⟩, by simp [intOf]⟩
    · obtain rfl := q0 (by decide)
      obtain rfl := q1 (by decide)
      clear q0 q1 K0 K1 C0 C1
      go_wp2
      go_ret
      exact ⟨rfl, BB.out⟩

set_option maxRecDepth 100000 in
set_option maxHeartbeats 1000000 in
theorem rcRight_any (h : Head) (hi : h.id < 18446744073709551616) (w : World) :
    Calls Tryz.prog 11 #[h.val] w fun e w' => e = .returned (.bool (headR h)) ∧ Below w.heap.size w w' := by
  have C := fun w => Lib.hid (rcLies_any h leastH mostH w.heap.size (w.alloc (.cells #[upF leastH, downF mostH] 40)) (Whole.new w _ _).lt ((Whole.new w 40 #[upF leastH, downF mostH]).at_ 0) ((Whole.new w 40 #[upF leastH, downF mostH]).at_ 1))
  simp only [right_up hi] at C
  generalize headR h = X at *
  have hmf : ∀ (fn : Fn) (first cap : Array Value) (w : World), (Instr.makeFunc fn first cap).run Tryz.prog w = .ok (.func fn first cap) w := fun _ _ _ _ => rfl
  go_enter Tryz.func11, Tryz.ntmps11
  go_wp2_with (refine wpList_box_row rfl 24 _ rfl h.enc.toArray (by with_unfolding_all exact rfl) ?_)
  intro w1 b1 x1 z1
  obtain ⟨gX, hgX⟩ : ∃ g, g = w.heap.size := ⟨_, rfl⟩
  have M_X := Lib.hid (show w.heap.size ≤ gX from by rw [hgX]; exact Nat.le_refl _)
  have B1 := Lib.hid b1
  rw [← hgX] at x1 ⊢
  have X1 : Hid (Head.At w1 gX h) := Lib.hid x1
  clear b1 x1 z1 hgX 
  go_wp2_with (first | (with_reducible refine wpList_load_whole Head.isRec rfl _ rfl gX (by with_unfolding_all exact rfl) _ _ (Head.len _) X1.out ?_) | (refine wpList_alloc_row rfl 24 rfl Head.zero.enc.toArray Head.zero_is ?_))
  intro w2 b2 x2 z2
  obtain ⟨gL, hgL⟩ : ∃ g, g = w1.heap.size := ⟨_, rfl⟩
  have N_X_L := Lib.hid (show gX < gL from by rw [hgL]; exact X1.out.lt)
  have M_L := Lib.hid (show w.heap.size ≤ gL from by rw [hgL]; exact B1.out.size)
  have X2 : Hid (Head.At w2 gX h) := Lib.hid (Whole.below X1.out b2 X1.out.lt)
  have B2 := Lib.hid (B1.out.trans (b2.mono B1.out.size))
  rw [← hgL] at x2 ⊢
  have L2 : Hid (Head.At w2 gL Head.zero) := Lib.hid x2
  clear b2 x2 z2 hgL X1 B1
  go_wp2_with (first | (with_reducible refine wpList_load_whole Head.isRec rfl _ rfl gX (by with_unfolding_all exact rfl) _ _ (Head.len _) X2.out ?_) | (with_reducible refine wpList_load_whole Head.isRec rfl _ rfl gL (by with_unfolding_all exact rfl) _ _ (Head.len _) L2.out ?_) | (with_reducible refine wpList_store_whole rfl 24 _ _ rfl gL leastH.enc.toArray (by with_unfolding_all exact rfl) (by with_unfolding_all exact rfl) _ _ L2.out (Head.size _) rfl (Head.one _) ?_))
  intro w3 q3 x3 z3
  have L3 : Hid (Head.At w3 gL leastH) := Lib.hid x3
  have X3 : Hid (Head.At w3 gX h) := Lib.hid (grown_far X2.out q3 (by have := N_X_L.out; omega))
  have B3 := Lib.hid (B2.out.grown q3 B2.out.size (fun k hk => by injection hk with hk; have := M_L.out; omega))
  clear q3 x3 z3 L2 X2 B2
  go_wp2_with (first | (with_reducible refine wpList_load_whole Head.isRec rfl _ rfl gX (by with_unfolding_all exact rfl) _ _ (Head.len _) X3.out ?_) | (with_reducible refine wpList_load_whole Head.isRec rfl _ rfl gL (by with_unfolding_all exact rfl) _ _ (Head.len _) L3.out ?_) | (refine wpList_alloc_row rfl 24 rfl Head.zero.enc.toArray Head.zero_is ?_))
  intro w4 b4 x4 z4
  obtain ⟨gM, hgM⟩ : ∃ g, g = w3.heap.size := ⟨_, rfl⟩
  have N_X_M := Lib.hid (show gX < gM from by rw [hgM]; exact X3.out.lt)
  have N_L_M := Lib.hid (show gL < gM from by rw [hgM]; exact L3.out.lt)
  have M_M := Lib.hid (show w.heap.size ≤ gM from by rw [hgM]; exact B3.out.size)
  have X4 : Hid (Head.At w4 gX h) := Lib.hid (Whole.below X3.out b4 X3.out.lt)
  have L4 : Hid (Head.At w4 gL leastH) := Lib.hid (Whole.below L3.out b4 L3.out.lt)
  have B4 := Lib.hid (B3.out.trans (b4.mono B3.out.size))
  rw [← hgM] at x4 ⊢
  have M4 : Hid (Head.At w4 gM Head.zero) := Lib.hid x4
  clear b4 x4 z4 hgM X3 L3 B3
  go_wp2_with (first | (with_reducible refine wpList_load_whole Head.isRec rfl _ rfl gX (by with_unfolding_all exact rfl) _ _ (Head.len _) X4.out ?_) | (with_reducible refine wpList_load_whole Head.isRec rfl _ rfl gL (by with_unfolding_all exact rfl) _ _ (Head.len _) L4.out ?_) | (with_reducible refine wpList_load_whole Head.isRec rfl _ rfl gM (by with_unfolding_all exact rfl) _ _ (Head.len _) M4.out ?_) | (with_reducible refine wpList_store_whole rfl 24 _ _ rfl gM mostH.enc.toArray (by with_unfolding_all exact rfl) (by with_unfolding_all exact rfl) _ _ M4.out (Head.size _) rfl (Head.one _) ?_))
  intro w5 q5 x5 z5
  have M5 : Hid (Head.At w5 gM mostH) := Lib.hid x5
  have X5 : Hid (Head.At w5 gX h) := Lib.hid (grown_far X4.out q5 (by have := N_X_M.out; omega))
  have L5 : Hid (Head.At w5 gL leastH) := Lib.hid (grown_far L4.out q5 (by have := N_L_M.out; omega))
  have B5 := Lib.hid (B4.out.grown q5 B4.out.size (fun k hk => by injection hk with hk; have := M_M.out; omega))
  clear q5 x5 z5 M4 X4 L4 B4
  go_wp2_with (first | (with_reducible refine wpList_load_whole Head.isRec rfl _ rfl gX (by with_unfolding_all exact rfl) _ _ (Head.len _) X5.out ?_) | (with_reducible refine wpList_load_whole Head.isRec rfl _ rfl gL (by with_unfolding_all exact rfl) _ _ (Head.len _) L5.out ?_) | (with_reducible refine wpList_load_whole Head.isRec rfl _ rfl gM (by with_unfolding_all exact rfl) _ _ (Head.len _) M5.out ?_))
  refine (C w5).out.mono ?_
  rintro e wz ⟨rfl, bz⟩
  have BZ := Lib.hid (B5.out.trans ((((Below.refl w5.heap.size w5).alloc (Nat.le_refl _) _).trans (bz.mono (by simp))).mono B5.out.size))
  clear bz C
  go_wp2
  go_ret
  exact ⟨rfl, BZ.out⟩

theorem nput_own (v : Value) (l : List UInt8) (x size base : Nat) (w : World) (h : w.ownsRow base 5 1 v l.length (bv l)) (h1 : 1 ≤ size) (h8 : size ≤ 8) (hl : l.length ≤ 3000) (hB : base ≤ w.heap.size) :
    Calls Tryz.prog 24 #[v, .int .u64 (x : Int), .int .i64 (size : Int)] w fun e w' =>
      ∃ v', e = .returned v' ∧ w'.ownsRow base 5 1 v' (l ++ be size x).length (bv (l ++ be size x)) ∧ Below base w w' := by
  refine (put_num base v l x size w h1 h8 h hB (by omega)).mono ?_
  rintro e w' ⟨v', rfl, o, b⟩
  exact ⟨v', rfl, by rw [List.length_append, be_length]; exact o, b⟩
theorem be_one3 : be 1 3 = [3] := by decide

set_option maxRecDepth 100000 in
set_option maxHeartbeats 1000000 in
theorem rcPut_any (h : Head) (w : World) :
    Calls Tryz.prog 10 #[h.val] w fun e w' => ∃ v', e = .returned v' ∧ BytesAt w' v' (headB h) ∧ Below w.heap.size w w' := by
  have r1 := uN_wrap h.role
  have r2 := uN_wrap h.epoch
  have r3 := uN_wrap h.seq
  have HD : Hid ([3] ++ be 8 h.id ++ be 1 (uN h.role) ++ be 2 (uN h.epoch) ++ be 4 (uN h.seq) = headB h) := Lib.hid rfl
  generalize uN h.role = n1 at *
  generalize uN h.epoch = n2 at *
  generalize uN h.seq = n3 at *
  generalize headB h = H at *
  go_enter Tryz.func10, Tryz.ntmps10
  go_wp2_with (refine wpList_box_row rfl 24 _ rfl h.enc.toArray (by with_unfolding_all exact rfl) ?_)
  intro w1 b1 x1 z1
  obtain ⟨gX, hgX⟩ : ∃ g, g = w.heap.size := ⟨_, rfl⟩
  have M_X := Lib.hid (show w.heap.size ≤ gX from by rw [hgX]; exact Nat.le_refl _)
  have B1 := Lib.hid b1
  rw [← hgX] at x1 ⊢
  have X1 : Hid (Head.At w1 gX h) := Lib.hid x1
  clear b1 x1 z1 hgX 
  obtain ⟨B, hB⟩ : ∃ B, B = w1.heap.size := ⟨_, rfl⟩
  have XB := Lib.hid (show gX < B by rw [hB]; exact X1.out.lt)
  have S1 := Lib.hid (Nat.le_of_eq hB)
  have WB := Lib.hid (show w.heap.size ≤ B by rw [hB]; exact B1.out.size)
  clear hB
  have C := nput_own (.slice none 0 0) [] 3 1 B w1 (World.ownsRow_nil _ B _ _) (by decide) (by decide) (by decide) S1.out
  rw [List.nil_append, be_one3] at C
  have C := Lib.hid C
  go_wp2_with fail
  refine C.out.mono ?_
  rintro e v1 ⟨s1, rfl, o1, b1⟩
  have O1 := Lib.hid o1
  have Y1 := Lib.hid (show Head.At v1 gX h from Whole.below X1.out b1 XB.out)
  have D1 := Lib.hid (B1.out.trans (b1.mono WB.out))
  have S2 := Lib.hid (Nat.le_trans S1.out b1.size)
  obtain ⟨c0, c1, c2, c3⟩ := Head.At.cells Y1.out
  clear o1 b1 C S1 X1 B1 c1 c2 c3
  go_wp2_with fail
  refine (nput_own s1 [3] h.id 8 B v1 O1.out (by decide) (by decide) (by decide) S2.out).mono ?_
  rintro e v2 ⟨s2, rfl, o2, b2⟩
  have O2 := Lib.hid o2
  have Y2 := Lib.hid (show Head.At v2 gX h from Whole.below Y1.out b2 XB.out)
  have D2 := Lib.hid (D1.out.trans (b2.mono WB.out))
  have S3 := Lib.hid (Nat.le_trans S2.out b2.size)
  clear c0
  obtain ⟨c0, c1, c2, c3⟩ := Head.At.cells Y2.out
  clear o2 b2 S2 Y1 D1 O1 c0 c2 c3
  go_wp2_with fail
  refine (nput_own s2 ([3] ++ be 8 h.id) n1 1 B v2 O2.out (by decide) (by decide) (by simp [be_length]) S3.out).mono ?_
  rintro e v3 ⟨s3, rfl, o3, b3⟩
  have O3 := Lib.hid o3
  have Y3 := Lib.hid (show Head.At v3 gX h from Whole.below Y2.out b3 XB.out)
  have D3 := Lib.hid (D2.out.trans (b3.mono WB.out))
  have S4 := Lib.hid (Nat.le_trans S3.out b3.size)
  clear c1
  obtain ⟨c0, c1, c2, c3⟩ := Head.At.cells Y3.out
  clear o3 b3 S3 Y2 D2 O2 c0 c1 c3
  go_wp2_with fail
  refine (nput_own s3 ([3] ++ be 8 h.id ++ be 1 n1) n2 2 B v3 O3.out (by decide) (by decide) (by simp [be_length]) S4.out).mono ?_
  rintro e v4 ⟨s4, rfl, o4, b4⟩
  have O4 := Lib.hid o4
  have Y4 := Lib.hid (show Head.At v4 gX h from Whole.below Y3.out b4 XB.out)
  have D4 := Lib.hid (D3.out.trans (b4.mono WB.out))
  have S5 := Lib.hid (Nat.le_trans S4.out b4.size)
  clear c2
  obtain ⟨c0, c1, c2, c3⟩ := Head.At.cells Y4.out
  clear o4 b4 S4 Y3 D3 O3 c0 c1 c2
  go_wp2_with fail
  refine (nput_own s4 ([3] ++ be 8 h.id ++ be 1 n1 ++ be 2 n2) n3 4 B v4 O4.out (by decide) (by decide) (by simp [be_length]) S5.out).mono ?_
  rintro e v5 ⟨s5, rfl, o5, b5⟩
  rw [HD.out] at o5
  have O5 := Lib.hid (BytesAt.of_own o5)
  have D5 := Lib.hid (D4.out.trans (b5.mono WB.out))
  clear o5 b5 S5 Y4 D4 O4 c3
  go_wp2
  go_ret
  exact ⟨_, rfl, O5.out, D5.out⟩
end Go.Proofs.YtmnhpkdldeifgaaGreatDoor

namespace Go.Proofs.YtmnhpkdldeifgaaGreatDoor
set_option maxRecDepth 100000
open Go.RowKit

set_option maxRecDepth 100000 in
set_option maxHeartbeats 1000000 in
theorem heKindOf_any (v : Value) (b : List UInt8) (w : World) (h : BytesAt w v b) :
    Calls Tryz.prog 40 #[v] w fun e w' => e = .returned (.int .i64 (kindB b)) ∧ Below w.heap.size w w' := by
  cases b with
  | nil =>
    obtain ⟨A, cap, rfl, -, -⟩ := h
    go_enter Tryz.func40, Tryz.ntmps40
    go_wp2
    go_ret
    exact ⟨rfl, Below.refl _ _⟩
  | cons c r =>
    have h0 := h
    obtain ⟨A, cap, rfl, -, -⟩ := h
    obtain ⟨g, off, rfl, -, hc⟩ := h0.spots (by simp)
    have c0 := hc 0 c rfl
    have HK : Hid (kindB (c :: r) = if 1 ≤ c.toNat ∧ c.toNat ≤ 4 then (c.toNat : Int) else 0) := Lib.hid rfl
    obtain ⟨z, hz⟩ : ∃ z, z = c.toNat := ⟨_, rfl⟩
    obtain ⟨K, hK⟩ : ∃ K, K = kindB (c :: r) := ⟨_, rfl⟩
    have hz8 : z < 256 := by rw [hz]; exact c.toNat_lt
    rw [← hz] at c0 HK
    rw [← hK] at HK ⊢
    simp at c0
    have L0 : ((r.length : Int) + 1 == 0) = false := by rw [beq_eq_false_iff_ne]; omega
    have L1 : decide ((r.length : Int) + 1 = 0) = false := by simp; omega
    have ew : IntKind.i64.wrap (z : Int) = (z : Int) := IntWalk.i64_in _ (by omega)
    clear h0 hc hz hK
    by_cases h1 : z < 1
    · have d1 : decide ((z : Int) < 1) = true := by simp; omega
      have HF : Hid (K = 0) := Lib.hid (by rw [HK.out, if_neg (by omega)])
      clear h1 HK
      go_enter Tryz.func40, Tryz.ntmps40
      go_wp2
      go_ret
      exact ⟨by rw [HF.out]; rfl, Below.refl _ _⟩
    · have d1 : decide ((z : Int) < 1) = false := by simp; omega
      by_cases h4 : 4 < z
      · have d4 : decide ((4 : Int) < (z : Int)) = true := by simp; omega
        have HF : Hid (K = 0) := Lib.hid (by rw [HK.out, if_neg (by omega)])
        clear h1 h4 HK
        go_enter Tryz.func40, Tryz.ntmps40
        go_wp2
        go_ret
        exact ⟨by rw [HF.out]; rfl, Below.refl _ _⟩
      · have d4 : decide ((4 : Int) < (z : Int)) = false := by simp; omega
        have HF : Hid (K = (z : Int)) := Lib.hid (by rw [HK.out, if_pos (by omega)])
        clear h1 h4 HK
        go_enter Tryz.func40, Tryz.ntmps40
        go_wp2
        go_ret
        exact ⟨by rw [HF.out]; rfl, Below.refl _ _⟩

set_option maxRecDepth 100000 in
set_option maxHeartbeats 1000000 in
theorem hfKindOf_any (v : Value) (b : List UInt8) (w : World) (h : BytesAt w v b) :
    Calls Tryz.prog 43 #[v] w fun e w' => e = .returned (.int .i64 (kindB b)) ∧ Below w.heap.size w w' := by
  cases b with
  | nil =>
    obtain ⟨A, cap, rfl, -, -⟩ := h
    go_enter Tryz.func43, Tryz.ntmps43
    go_wp2
    go_ret
    exact ⟨rfl, Below.refl _ _⟩
  | cons c r =>
    have h0 := h
    obtain ⟨A, cap, rfl, -, -⟩ := h
    obtain ⟨g, off, rfl, -, hc⟩ := h0.spots (by simp)
    have c0 := hc 0 c rfl
    have HK : Hid (kindB (c :: r) = if 1 ≤ c.toNat ∧ c.toNat ≤ 4 then (c.toNat : Int) else 0) := Lib.hid rfl
    obtain ⟨z, hz⟩ : ∃ z, z = c.toNat := ⟨_, rfl⟩
    obtain ⟨K, hK⟩ : ∃ K, K = kindB (c :: r) := ⟨_, rfl⟩
    have hz8 : z < 256 := by rw [hz]; exact c.toNat_lt
    rw [← hz] at c0 HK
    rw [← hK] at HK ⊢
    simp at c0
    have L0 : decide ((0 : Int) < (r.length : Int) + 1) = true := decide_eq_true (by omega)
    have ew : IntKind.i64.wrap (z : Int) = (z : Int) := IntWalk.i64_in _ (by omega)
    clear h0 hc hz hK
    by_cases h1 : 1 ≤ z
    · have d1 : decide ((1 : Int) ≤ (z : Int)) = true := by simp; omega
      by_cases h4 : z ≤ 4
      · have d4 : decide ((z : Int) ≤ 4) = true := by simp; omega
        have HF : Hid (K = (z : Int)) := Lib.hid (by rw [HK.out, if_pos (by omega)])
        clear h1 h4 HK
        go_enter Tryz.func43, Tryz.ntmps43
        go_wp2
        go_ret
        exact ⟨by rw [HF.out]; rfl, Below.refl _ _⟩
      · have d4 : decide ((z : Int) ≤ 4) = false := by simp; omega
        have HF : Hid (K = 0) := Lib.hid (by rw [HK.out, if_neg (by omega)])
        clear h1 h4 HK
        go_enter Tryz.func43, Tryz.ntmps43
        go_wp2
        go_ret
        exact ⟨by rw [HF.out]; rfl, Below.refl _ _⟩
    · have d1 : decide ((1 : Int) ≤ (z : Int)) = false := by simp; omega
      have HF : Hid (K = 0) := Lib.hid (by rw [HK.out, if_neg (by omega)])
      clear h1 HK
      go_enter Tryz.func43, Tryz.ntmps43
      go_wp2
      go_ret
      exact ⟨by rw [HF.out]; rfl, Below.refl _ _⟩
end Go.Proofs.YtmnhpkdldeifgaaGreatDoor
