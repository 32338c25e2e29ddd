/- What the document's Pad answers. -/
import Derived.Test.YtieidemmajdpmaaDoorGo
namespace Go.Proofs.YtieidemmajdpmaaDoor
set_option maxRecDepth 100000
open Go.RowKit

theorem refPad_neg (n : Int) (hn : n < 0) (w : World) : Calls Tryd.prog 44 #[.int .i64 n] w fun e w' => e = .returned (.slice none 0 0) ∧ w = w' := by
  have d : decide (n < 0) = true := by simp; omega
  go_enter Tryd.func44, Tryd.ntmps44
  go_wp2
  go_ret
  exact ⟨rfl, rfl⟩

theorem lit1 (w : World) (a : UInt8) : BytesAt (w.alloc (.cells #[.int .u8 (a.toNat : Int)] 5)) (.slice (some ⟨w.heap.size, 0, none⟩) 1 1) [a] := BytesAt.lit w [a] _ rfl
theorem lit0 (w : World) : BytesAt (w.alloc (.cells #[.int .u8 0] 5)) (.slice (some ⟨w.heap.size, 0, none⟩) 1 1) [0] := lit1 w 0
/-- What 2^56 is divided by, once a round. -/
def pw (i : Nat) : Nat := if i = 8 then 0 else 256 ^ (7 - i)
theorem pw_next (i : Nat) (hi : i < 8) : pw i / 256 = pw (i + 1) := by
  have h : i = 0 ∨ i = 1 ∨ i = 2 ∨ i = 3 ∨ i = 4 ∨ i = 5 ∨ i = 6 ∨ i = 7 := by omega
  rcases h with rfl | rfl | rfl | rfl | rfl | rfl | rfl | rfl <;> rfl
theorem pw_pos (i : Nat) (hi : i < 8) : 0 < pw i ∧ pw i ≤ 72057594037927936 := by
  have h : i = 0 ∨ i = 1 ∨ i = 2 ∨ i = 3 ∨ i = 4 ∨ i = 5 ∨ i = 6 ∨ i = 7 := by omega
  rcases h with rfl | rfl | rfl | rfl | rfl | rfl | rfl | rfl <;> decide
theorem pw_byte (n i B : Nat) (hi : i < 8) (hB : B = n * 8 % 18446744073709551616) : (be8 (n * 8))[i]? = some (UInt8.ofNat (B / pw i)) := by
  have e : 7 - (7 - i) = i := by omega
  have q := be8_at (n * 8) (7 - i) (by omega)
  rw [e] at q
  rw [q]
  congr 1
  apply UInt8.toNat_inj.1
  subst hB
  have h : i = 0 ∨ i = 1 ∨ i = 2 ∨ i = 3 ∨ i = 4 ∨ i = 5 ∨ i = 6 ∨ i = 7 := by omega
  rcases h with rfl | rfl | rfl | rfl | rfl | rfl | rfl | rfl <;> simp [pw] <;> omega

set_option maxHeartbeats 1000000 in
theorem refPad_any (n : Nat) (hn : n < 9223372036854775808) (w : World) :
    Calls Tryd.prog 44 #[.int .i64 (n : Int)] w fun e w' => ∃ v, e = .returned v ∧ BytesAt w' v (padL n) ∧ Below w.heap.size w w' := by
  have d0 : decide ((n : Int) < 0) = false := by simp
  go_enter Tryd.func44, Tryd.ntmps44
  go_wp2_with fail
  go_loopw [3] (fun v wr => ∃ j : Nat, j ≤ zerosFor n ∧ wr.ownsRow w.heap.size 5 1 v (1 + j) (bv (128 :: List.replicate j 0)) ∧ Below w.heap.size w wr) (fun v _ => match v with | .slice _ k _ => 100 - k | _ => 0)
  case atStart => exact ⟨0, Nat.zero_le _, World.ownsRow_lit w #[.int .u8 128] 1 (Nat.le_refl _) (by simp [maxLen]) rfl, (Below.refl _ _).alloc (Nat.le_refl _) _⟩
  case round =>
    obtain ⟨j, hj, ho, hb⟩ := hrel
    have HO := Lib.hid ho
    have HB := Lib.hid hb
    obtain ⟨g, cap, hv, -⟩ := ho.form (by omega)
    subst hv
    have hz : zerosFor n < 64 := by rw [zerosFor]; omega
    by_cases hlt : j < zerosFor n
    · have d1 : (((n : Int) % 64 + ((1 + j : Nat) : Int) + 8) % 64 != 0) = true := by
        rw [bne_iff_ne]
        simp only [zerosFor] at hlt
        omega
      clear ho hb
      go_wp2_with (with_reducible refine wpList_append_bytes rfl _ _ rfl w.heap.size _ _ _ ?hv (HO.out.alloc _) _ _ ?hx (lit0 wr) ?hlen ?hbase ?_)
      case hv => exact rfl
      case hx => exact rfl
      case hlen => simp; omega
      case hbase => simp; have := HB.out.size; omega
      intro v' w2 ho2 hg2
      have hlt2 := HO.out.lt
      have HB2 := Lib.hid ((HB.out.alloc HB.out.size (.cells #[.int .u8 0] 5)).grown hg2 (by simp; have := HB.out.size; omega) (fun k hk => (hlt2 k hk).1))
      have e2 : (128 :: List.replicate j 0 : List UInt8) ++ [0] = 128 :: List.replicate (j + 1) 0 := by rw [List.replicate_succ']; rfl
      rw [← bv_append, e2] at ho2
      obtain ⟨g2, cap2, hv2, -⟩ := ho2.form (by omega)
      subst hv2
      have HO2 := Lib.hid ho2
      clear ho2 hg2 hlt2 d1 e2
      go_wp2_with fail
      refine ⟨⟨j + 1, by omega, HO2.out, HB2.out⟩, ?_⟩
      show 100 - (1 + j + 1) < 100 - (1 + j)
      omega
    · have hjz : j = zerosFor n := by omega
      have d1 : ((((n : Int) % 64 + (1 + (j : Int)) + 8) % 64) != 0) = false := by
        rw [bne_eq_false_iff_eq]
        simp only [zerosFor] at hjz
        omega
      obtain ⟨B, hB⟩ : ∃ B, B = n * 8 % 18446744073709551616 := ⟨_, rfl⟩
      have hBi : IntKind.u64.wrap ((n : Int) * 8) = (B : Int) := by
        rw [hB]
        simp [IntKind.wrap, IntKind.bits, IntKind.signed]
      have hB64 : B < 18446744073709551616 := by omega
      have PB : Hid (∀ i, i < 8 → (be8 (n * 8))[i]? = some (UInt8.ofNat (B / pw i))) := fun i hi => pw_byte n i B hi hB
      have PL : Hid (padL n = 128 :: List.replicate j 0 ++ be8 (n * 8)) := by rw [hjz]; exact rfl
      have PE := Lib.hid (be8_length (n * 8))
      generalize be8 (n * 8) = E at *
      have hj64 : j < 64 := by omega
      clear ho hb hlt hj hz hB hjz
      go_wp2_with fail
      go_loopw [3, 5] (fun v u wr => ∃ i : Nat, i ≤ 8 ∧ u = .int .u64 (pw i : Int) ∧ wr.ownsRow w.heap.size 5 1 v (1 + j + i) (bv (128 :: List.replicate j 0 ++ E.take i)) ∧ Below w.heap.size w wr) (fun v _ _ => match v with | .slice _ k _ => 1 + j + 9 - k | _ => 0)
      case atStart => exact ⟨0, Nat.zero_le _, rfl, by simpa using HO.out, HB.out⟩
      case round =>
        obtain ⟨i, hi, rfl, ho, hb⟩ := hrel
        clear HO HB
        have HO := Lib.hid ho
        have HB := Lib.hid hb
        obtain ⟨g', cap', hv, -⟩ := ho.form (by omega)
        subst hv
        by_cases hlt : i < 8
        · have hp := pw_pos i hlt
          have hnx := pw_next i hlt
          have hE := PB.out i hlt
          have HN := Lib.hid hnx
          generalize pw i = p at *
          have d2 : decide ((0 : Int) < (p : Int)) = true := by simp; omega
          have hp1 := hp.1
          have hp2 := hp.2
          obtain ⟨D, hD⟩ : ∃ D, D = B / p := ⟨_, rfl⟩
          have hDB : D ≤ B := by rw [hD]; exact Nat.div_le_self _ _
          have hDw : IntKind.u64.wrap ((B : Int) / (p : Int)) = (D : Int) := by
            rw [hD, ← Int.natCast_ediv, IntWalk.u64_in _ (by rw [← hD]; omega)]
          rw [← hD] at hE
          obtain ⟨c, hc⟩ : ∃ c : UInt8, c = UInt8.ofNat D := ⟨_, rfl⟩
          have hcb : (D : Int) % 256 = (c.toNat : Int) := by
            rw [hc]
            simp
          rw [← hc] at hE
          have HT := Lib.hid (take_at hE)
          have HC := Lib.hid hc
          clear ho hb hnx hE hc hp hD
          go_wp2_with (with_reducible refine wpList_append_bytes rfl _ _ rfl w.heap.size _ _ _ ?hv (HO.out.alloc _) _ _ ?hx (lit1 wr c) ?hlen ?hbase ?_)
          case hv => exact rfl
          case hx => exact rfl
          case hlen => simp; omega
          case hbase => simp; have := HB.out.size; omega
          intro v' w2 ho2 hg2
          have hlt2 := HO.out.lt
          have HB2 := Lib.hid ((HB.out.alloc HB.out.size (.cells #[.int .u8 (c.toNat : Int)] 5)).grown hg2 (by simp; have := HB.out.size; omega) (fun k hk => (hlt2 k hk).1))
          have e2 : (128 :: (List.replicate j 0 ++ E.take i) : List UInt8) ++ [c] = 128 :: (List.replicate j 0 ++ E.take (i + 1)) := by rw [HT.out]; simp
          rw [← bv_append, e2] at ho2
          obtain ⟨g2, cap2, hv2, -⟩ := ho2.form (by omega)
          subst hv2
          have HO2 := Lib.hid ho2
          clear ho2 hg2 hlt2
          go_wp2_with fail
          refine ⟨⟨i + 1, by omega, ?_, HO2.out, HB2.out⟩, ?_⟩
          · rw [← HN.out]
            go_num
          · show 1 + j + 9 - (1 + j + i + 1) < 1 + j + 9 - (1 + j + i)
            omega
        · have hi8 : i = 8 := by omega
          subst hi8
          have d2 : decide ((0 : Int) < (pw 8 : Int)) = false := by decide
          have HY : Hid (BytesAt wr (.slice (some ⟨g', 0, none⟩) (1 + j + 8) cap') (padL n)) := by
            apply BytesAt.of_own (base := w.heap.size)
            have e : E.take 8 = E := List.take_of_length_le (by rw [PE.out]; omega)
            rw [e] at ho
            have el : (padL n).length = 1 + j + 8 := by rw [PL.out]; simp [PE.out]; omega
            rw [el, PL.out]
            exact ho
          clear ho hb HO
          go_wp2
          go_ret
          exact ⟨_, rfl, HY.out, HB.out⟩
end Go.Proofs.YtieidemmajdpmaaDoor
