/- The document's layer 19: Right, Put. -/
import Derived.Test.YtmnhpkdldeifgaaDoorGm
import Derived.Test.YtmnhpkdldeifgaaDoorMRecHg
namespace Go.Proofs.YtmnhpkdldeifgaaDoor
set_option maxRecDepth 100000
open Go.RowKit

set_option maxRecDepth 100000 in
set_option maxHeartbeats 2000000 in
theorem rgRight_any (h : Head) (w : World) :
    Calls Tryd.prog 9 #[Heaf.val h] w fun e w' => e = .returned (.bool (headR h)) ∧ Below w.heap.size w w' := by
  have HE := Lib.hid (fun q => headR_true (h := h) q)
  have HE2 := Lib.hid (fun q => headR_false (h := h) q)
  obtain ⟨X, hX⟩ : ∃ X, X = headR h := ⟨_, rfl⟩
  rw [← hX] at HE HE2 ⊢
  clear hX
  go_enter Tryd.func9, Tryd.ntmps9
  go_wp2_with (refine wpList_box_row rfl 30 _ rfl (Heaf.enc h).toArray (by with_unfolding_all exact rfl) ?_)
  intro w1 b1 x1 z1
  obtain ⟨gX, hgX⟩ : ∃ g, g = w.heap.size := ⟨_, rfl⟩
  have M_X := Lib.hid (show w.heap.size ≤ gX from by rw [hgX]; exact Nat.le_refl _)
  have B1 := Lib.hid b1
  rw [← hgX] at x1 ⊢
  have X1 : Hid (Heaf.At w1 gX h) := Lib.hid x1
  clear b1 x1 z1 hgX 
  obtain ⟨c0, c1, c2, c3⟩ := Heaf.At.cells X1.out
  by_cases i0 : 0 < h.id
  · by_cases r1 : h.role = 1
    · have e1 : (h.role == 1) = true := by simpa using r1
      by_cases k0 : 0 ≤ h.epoch
      · by_cases k1 : h.epoch < 65536
        · by_cases k2 : 0 < h.seq
          · by_cases k3 : h.seq ≤ 4096
            · have HF : Hid (X = true) := Lib.hid (by cases X with | true => rfl | false => exact absurd (show _ by omega) (HE2.out rfl))
              clear HE HE2
              go_wp2
              go_ret
              exact ⟨by rw [HF.out]; rfl, B1.out⟩
            · have HF : Hid (X = false) := Lib.hid (by cases X with | false => rfl | true => exact absurd (HE.out rfl) (by omega))
              clear HE HE2
              go_wp2
              go_ret
              exact ⟨by rw [HF.out]; rfl, B1.out⟩
          · have HF : Hid (X = false) := Lib.hid (by cases X with | false => rfl | true => exact absurd (HE.out rfl) (by omega))
            clear HE HE2
            go_wp2
            go_ret
            exact ⟨by rw [HF.out]; rfl, B1.out⟩
        · have HF : Hid (X = false) := Lib.hid (by cases X with | false => rfl | true => exact absurd (HE.out rfl) (by omega))
          clear HE HE2
          go_wp2
          go_ret
          exact ⟨by rw [HF.out]; rfl, B1.out⟩
      · have HF : Hid (X = false) := Lib.hid (by cases X with | false => rfl | true => exact absurd (HE.out rfl) (by omega))
        clear HE HE2
        go_wp2
        go_ret
        exact ⟨by rw [HF.out]; rfl, B1.out⟩
    · have e1 : (h.role == 1) = false := by simpa using r1
      by_cases r2 : h.role = 2
      · have e2 : (h.role == 2) = true := by simpa using r2
        by_cases k0 : 0 ≤ h.epoch
        · by_cases k1 : h.epoch < 65536
          · by_cases k2 : 0 < h.seq
            · by_cases k3 : h.seq ≤ 4096
              · have HF : Hid (X = true) := Lib.hid (by cases X with | true => rfl | false => exact absurd (show _ by omega) (HE2.out rfl))
                clear HE HE2
                go_wp2
                go_ret
                exact ⟨by rw [HF.out]; rfl, B1.out⟩
              · have HF : Hid (X = false) := Lib.hid (by cases X with | false => rfl | true => exact absurd (HE.out rfl) (by omega))
                clear HE HE2
                go_wp2
                go_ret
                exact ⟨by rw [HF.out]; rfl, B1.out⟩
            · have HF : Hid (X = false) := Lib.hid (by cases X with | false => rfl | true => exact absurd (HE.out rfl) (by omega))
              clear HE HE2
              go_wp2
              go_ret
              exact ⟨by rw [HF.out]; rfl, B1.out⟩
          · have HF : Hid (X = false) := Lib.hid (by cases X with | false => rfl | true => exact absurd (HE.out rfl) (by omega))
            clear HE HE2
            go_wp2
            go_ret
            exact ⟨by rw [HF.out]; rfl, B1.out⟩
        · have HF : Hid (X = false) := Lib.hid (by cases X with | false => rfl | true => exact absurd (HE.out rfl) (by omega))
          clear HE HE2
          go_wp2
          go_ret
          exact ⟨by rw [HF.out]; rfl, B1.out⟩
      · have e2 : (h.role == 2) = false := by simpa using r2
        have HF : Hid (X = false) := Lib.hid (by cases X with | false => rfl | true => exact absurd (HE.out rfl) (by omega))
        clear HE HE2
        go_wp2
        go_ret
        exact ⟨by rw [HF.out]; rfl, B1.out⟩
  · have HF : Hid (X = false) := Lib.hid (by cases X with | false => rfl | true => exact absurd (HE.out rfl) (by omega))
    clear HE HE2
    go_wp2
    go_ret
    exact ⟨by rw [HF.out]; rfl, B1.out⟩

theorem rgNum_b (v : Value) (l : List UInt8) (x size : Nat) (w : World) (h : BytesAt w v l) (h1 : 1 ≤ size) (h8 : size ≤ 8) (hl : l.length ≤ 3000) (hx : x < 18446744073709551616) :
    Calls Tryd.prog 23 #[v, .int .u64 (x : Int), .int .i64 (size : Int)] w fun e w' => ∃ v', e = .returned v' ∧ w'.ownsRow w.heap.size 5 1 v' (l ++ be size x).length (bv (l ++ be size x)) ∧ Below w.heap.size w w' := by
  have h0 := h
  obtain ⟨A, cap, rfl, -, -⟩ := h0
  exact ref_num_put A l cap x size w h h1 h8 hl hx
theorem rgNum_at (v : Value) (l : List UInt8) (x size : Nat) (w : World) (h : BytesAt w v l) (h1 : 1 ≤ size) (h8 : size ≤ 8) (hl : l.length ≤ 3000) (hx : x < 18446744073709551616) :
    Calls Tryd.prog 23 #[v, .int .u64 (x : Int), .int .i64 (size : Int)] w fun e w' => ∃ v', e = .returned v' ∧ BytesAt w' v' (l ++ be size x) ∧ Below w.heap.size w w' :=
  (rgNum_b v l x size w h h1 h8 hl hx).mono fun _ _ ⟨v', he, ho, hb⟩ => ⟨v', he, BytesAt.of_own ho, hb⟩

set_option maxRecDepth 100000 in
set_option maxHeartbeats 1000000 in
theorem rgPut_any (h : Head) (hi : h.id < 18446744073709551616) (w : World) :
    Calls Tryd.prog 11 #[Heaf.val h] w fun e w' => ∃ v', e = .returned v' ∧ w'.ownsRow w.heap.size 5 1 v' (headB h).length (bv (headB h)) ∧ Below w.heap.size w w' := by
  have r1 := uN_wrap h.role
  have r2 := uN_wrap h.epoch
  have r3 := uN_wrap h.seq
  have HI := Lib.hid (And.intro hi (And.intro (uN_lt h.role) (And.intro (uN_lt h.epoch) (uN_lt h.seq))))
  have HD : Hid ([3] ++ be 8 h.id ++ be 1 (uN h.role) ++ be 2 (uN h.epoch) ++ be 4 (uN h.seq) = headB h) := Lib.hid rfl
  generalize uN h.role = n1 at *
  generalize uN h.epoch = n2 at *
  generalize uN h.seq = n3 at *
  generalize headB h = H at *
  clear hi
  go_enter Tryd.func11, Tryd.ntmps11
  go_wp2_with (refine wpList_box_row rfl 30 _ rfl (Heaf.enc h).toArray (by with_unfolding_all exact rfl) ?_)
  intro w1 b1 x1 z1
  obtain ⟨gX, hgX⟩ : ∃ g, g = w.heap.size := ⟨_, rfl⟩
  have M_X := Lib.hid (show w.heap.size ≤ gX from by rw [hgX]; exact Nat.le_refl _)
  have B1 := Lib.hid b1
  rw [← hgX] at x1 ⊢
  have X1 : Hid (Heaf.At w1 gX h) := Lib.hid x1
  clear b1 x1 z1 hgX 
  have bl : Below w1.heap.size w1 (w1.alloc (.cells #[.int .u8 3] 5)) := (Below.refl _ _).alloc (Nat.le_refl _) _
  obtain ⟨c0, c1, c2, c3⟩ := Heaf.At.cells (show Heaf.At (w1.alloc (.cells #[.int .u8 3] 5)) gX h from Whole.below X1.out bl X1.out.lt)
  have C := Lib.hid (rgNum_b _ [3] h.id 8 _ (BytesAt.lit w1 [3] #[.int .u8 3] rfl) (by decide) (by decide) (by decide) HI.out.1)
  have XL := Lib.hid (show Heaf.At (w1.alloc (.cells #[.int .u8 3] 5)) gX h from Whole.below X1.out bl X1.out.lt)
  have BL := Lib.hid (B1.out.trans (bl.mono B1.out.size))
  clear bl c1 c2 c3
  go_wp2_with fail
  refine C.out.mono ?_
  rintro e v1 ⟨s1, rfl, o1, b1⟩
  have Y1 := Lib.hid (BytesAt.of_own o1)
  have XX1 := Lib.hid (show Heaf.At v1 gX h from Whole.below XL.out b1 XL.out.lt)
  have D1 := Lib.hid (BL.out.trans (b1.mono BL.out.size))
  clear o1 b1 C XL BL c0 X1 B1
  have c1 := Heaf.At.at_role XX1.out
  go_wp2_with (with_reducible refine wpList_load_whole Heaf.isRec rfl _ rfl gX (by with_unfolding_all exact rfl) _ _ (Heaf.len _) XX1.out ?_)
  refine ((rgNum_at s1 ([3] ++ be 8 h.id) n1 1 v1 Y1.out (by decide) (by decide) (by simp [be_length]) HI.out.2.1)).mono ?_
  rintro e2 w2 ⟨s2, rfl, o2, b2⟩
  have X2 : Hid (Heaf.At w2 gX h) := Lib.hid (Whole.below XX1.out b2 XX1.out.lt)
  have B2 := Lib.hid (D1.out.trans (b2.mono D1.out.size))
  have Y2 : Hid (BytesAt w2 s2 ([3] ++ be 8 h.id ++ be 1 n1)) := Lib.hid o2
  clear b2 XX1 D1 o2
  clear c1 Y1
  have c2 := Heaf.At.at_epoch X2.out
  go_wp2_with (with_reducible refine wpList_load_whole Heaf.isRec rfl _ rfl gX (by with_unfolding_all exact rfl) _ _ (Heaf.len _) X2.out ?_)
  refine ((rgNum_at s2 ([3] ++ be 8 h.id ++ be 1 n1) n2 2 w2 Y2.out (by decide) (by decide) (by simp [be_length]) HI.out.2.2.1)).mono ?_
  rintro e3 w3 ⟨s3, rfl, o3, b3⟩
  have X3 : Hid (Heaf.At w3 gX h) := Lib.hid (Whole.below X2.out b3 X2.out.lt)
  have Y3 : Hid (BytesAt w3 s2 ([3] ++ be 8 h.id ++ be 1 n1)) := Lib.hid (Y2.out.below b3)
  have B3 := Lib.hid (B2.out.trans (b3.mono B2.out.size))
  have Z3 : Hid (BytesAt w3 s3 ([3] ++ be 8 h.id ++ be 1 n1 ++ be 2 n2)) := Lib.hid o3
  clear b3 X2 Y2 B2 o3
  clear Y3
  clear c2
  have c3 := Heaf.At.at_seq X3.out
  have SB := Lib.hid B3.out.size
  go_wp2_with fail
  refine (rgNum_b s3 ([3] ++ be 8 h.id ++ be 1 n1 ++ be 2 n2) n3 4 w3 Z3.out (by decide) (by decide) (by simp [be_length]) HI.out.2.2.2).mono ?_
  rintro e v5 ⟨s5, rfl, o5, b5⟩
  rw [HD.out] at o5
  have O5 := Lib.hid (own_less o5 SB.out)
  have D5 := Lib.hid (B3.out.trans (b5.mono B3.out.size))
  clear o5 b5 c3
  go_wp2
  go_ret
  exact ⟨_, rfl, O5.out, D5.out⟩
end Go.Proofs.YtmnhpkdldeifgaaDoor
