/- What the document's Hex and ReadHex of layer 10 answer. -/
import Derived.Test.YtgldelgeaajgpaaDoorLbD
import Derived.Test.YtgldelgeaajgpaaDoorStr
namespace Go.Proofs.YtgldelgeaajgpaaDoor
open Go.RowKit

theorem hex_extract (z : Nat) (h : z < 16) : (⟨#[48, 49, 50, 51, 52, 53, 54, 55, 56, 57, 97, 98, 99, 100, 101, 102]⟩ : ByteArray).extract z (z + 1) = ⟨#[hexC z]⟩ := by
  match z, h with
  | 0, _ | 1, _ | 2, _ | 3, _ | 4, _ | 5, _ | 6, _ | 7, _ | 8, _ | 9, _ | 10, _ | 11, _ | 12, _ | 13, _ | 14, _ | 15, _ => rfl
  | n + 16, h => exact absurd h (by omega)

set_option maxHeartbeats 1000000 in
theorem refHex_any (n : Nat) (hn : n < 18446744073709551616) (w : World) :
    Calls Tryd.prog 16 #[.int .u64 (n : Int)] w fun e w' => e = .returned (.string ⟨(hexL n).toArray⟩) ∧ w = w' := by
  have HN := Lib.hid hn
  clear hn
  go_enter Tryd.func16, Tryd.ntmps16
  go_wp2_with fail
  go_loop [0, 3, 4] (fun y s i => ∃ k : Nat, k ≤ 16 ∧ i = .int .i64 (k : Int) ∧ y = .int .u64 ((n / 16 ^ k : Nat) : Int) ∧ s = .string ⟨(hexTo n k).toArray⟩) (fun _ _ i => 16 - (intOf i).toNat)
  case atStart => exact ⟨0, by decide, rfl, by simp, rfl⟩
  case round =>
    obtain ⟨k, hk, rfl, rfl, rfl⟩ := hrel
    by_cases hlt : k < 16
    · have dk : decide ((k : Int) < 16) = true := by simp; omega
      have HS : Hid (hexTo n (k + 1) = hexC (n / 16 ^ k % 16) :: hexTo n k) := Lib.hid rfl
      obtain ⟨y, hy⟩ : ∃ y, y = n / 16 ^ k := ⟨_, rfl⟩
      have hy1 : n / 16 ^ (k + 1) = y / 16 := by rw [hy, Nat.div_div_eq_div_mul, Nat.pow_succ]
      have yl : y < 18446744073709551616 := by rw [hy]; exact Nat.lt_of_le_of_lt (Nat.div_le_self _ _) HN.out
      rw [← hy] at HS ⊢
      obtain ⟨z, hz⟩ : ∃ z, z = y % 16 := ⟨_, rfl⟩
      rw [← hz] at HS
      have r1 : (y : Int) % 16 = (z : Int) := by omega
      have r2 : IntKind.i64.wrap (z : Int) = (z : Int) := by rw [IntWalk.i64_in _ (by omega)]
      have r3 : IntKind.i64.wrap ((z : Int) + 1) = ((z + 1 : Nat) : Int) := by rw [IntWalk.i64_in _ (by omega)]; omega
      have r4 : IntKind.u64.wrap ((y : Int) / 16) = ((y / 16 : Nat) : Int) := by rw [IntWalk.u64_in _ (by omega)]; omega
      have z16 : (z : Int) < 16 := by omega
      have HY1 := Lib.hid hy1
      have rx := hex_extract z (by omega)
      have tl := hexTo_length n k
      have j16 : 1 + k < 9223372036854775807 := by omega
      obtain ⟨T, hT⟩ : ∃ T, T = hexTo n k := ⟨_, rfl⟩
      rw [← hT] at HS tl ⊢
      have TL := Lib.hid tl
      have HZ := Lib.hid (show z < 16 by omega)
      have tl2 : T.length ≤ 16 := by omega
      clear hy hy1 hz hT tl
      go_wp2
      exact ⟨⟨k + 1, by omega, by go_num, by rw [HY1.out]; simp, by rw [HS.out, str_cons]⟩, by simp [intOf]; omega⟩
    · obtain rfl : k = 16 := by omega
      go_wp2
      go_ret
      exact ⟨rfl, rfl⟩

set_option maxHeartbeats 2000000 in
theorem refReadHex_any (l : List UInt8) (w : World) :
    Calls Tryd.prog 22 #[.string ⟨l.toArray⟩] w fun e w' => e = .returned (.tuple #[.int .u64 (rhA l : Int), .bool (rhB l)]) ∧ w = w' := by
  by_cases hl : l.length = 16
  · have d : ((l.length : Int) != 16) = false := by simp; omega
    have d2 : (l.length != 16) = false := by simp; omega
    have HL := Lib.hid hl
    go_enter Tryd.func22, Tryd.ntmps22
    go_wp2_with fail
    go_loop [4, 5] (fun y i => ∃ k : Nat, k ≤ 16 ∧ i = .int .i64 (k : Int) ∧ y = .int .u64 (ofHex (l.take k) : Int) ∧ allHex (l.take k) = true) (fun _ i => 16 - (intOf i).toNat)
    case atStart => exact ⟨0, by decide, rfl, rfl, rfl⟩
    case round =>
      obtain ⟨k, hk, rfl, rfl, ha⟩ := hrel
      have HA := Lib.hid ha
      clear ha
      by_cases hlt : k < 16
      · have dk : decide ((k : Int) < 16) = true := by simp; omega
        obtain ⟨c, hc⟩ : ∃ c, l[k]? = some c := ⟨_, List.getElem?_eq_getElem (by omega)⟩
        have r := str_at l k c hc
        have jk : (k : Int) < (l.length : Int) := by omega
        have jk2 : k < l.length := by omega
        have CD := fun w => Lib.hid (refDigit_any c w)
        have HC := Lib.hid hc
        have dle := digN_le c
        have hof := ofHex_lt (l.take k) HA.out
        have htk : (l.take k).length = k := by rw [List.length_take]; omega
        have hpk : 16 ^ k ≤ 16 ^ 15 := Nat.pow_le_pow_right (by decide) (by omega)
        rw [htk] at hof
        have HT := Lib.hid (ofHex_take l k c hc)
        have HA2 := Lib.hid (allHex_take l k c hc)
        by_cases h16 : digN c = 16
        · have HB : Hid (rhB l = false ∧ rhA l = 0) := Lib.hid (by
            have e : rhB l = false := by rw [rhB, allHex_not l k c hc h16]; simp
            exact ⟨e, by rw [rhA, e]; rfl⟩)
          simp only [h16] at CD
          clear hc h16 dle hof htk hpk
          go_wp2_with fail
          refine (CD w).out.mono ?_
          rintro e w1 ⟨rfl, rfl⟩
          go_wp2
          go_ret2
          exact ⟨by rw [HB.out.1, HB.out.2]; rfl, rfl⟩
        · obtain ⟨z, hz⟩ : ∃ z, z = digN c := ⟨_, rfl⟩
          rw [← hz] at dle h16 HT HA2
          simp only [← hz] at CD
          obtain ⟨o, ho⟩ : ∃ o, o = ofHex (l.take k) := ⟨_, rfl⟩
          rw [← ho] at hof HT ⊢
          have e16 : ((z : Int) == 16) = false := by rw [beq_eq_false_iff_ne]; omega
          have e17 : (z == 16) = false := by rw [beq_eq_false_iff_ne]; omega
          have r1 : IntKind.u64.wrap ((o : Int) * 16) = ((o * 16 : Nat) : Int) := by rw [IntWalk.u64_in _ (by omega)]; omega
          have r2 : IntKind.u64.wrap (z : Int) = (z : Int) := by rw [IntWalk.u64_in _ (by omega)]
          have r3 : IntKind.u64.wrap (((o * 16 : Nat) : Int) + (z : Int)) = ((o * 16 + z : Nat) : Int) := by rw [IntWalk.u64_in _ (by omega)]; omega
          have r3' : IntKind.u64.wrap ((o : Int) * 16 + (z : Int)) = ((o * 16 + z : Nat) : Int) := by rw [IntWalk.u64_in _ (by omega)]; omega
          have HZ := Lib.hid (show z < 16 by omega)
          clear hc h16 dle hof htk hpk hz ho
          go_wp2_with fail
          refine (CD w).out.mono ?_
          rintro e w1 ⟨rfl, rfl⟩
          go_wp2_with fail
          refine (CD w).out.mono ?_
          rintro e w1 ⟨rfl, rfl⟩
          go_wp2
          exact ⟨⟨k + 1, by omega, by go_num, by rw [HT.out]; simp, by rw [HA2.out, HA.out]; simp [HZ.out]⟩, by simp [intOf]; omega⟩
      · obtain rfl : k = 16 := by omega
        have htk : l.take 16 = l := List.take_of_length_le (by omega)
        rw [htk] at HA ⊢
        have HB : Hid (rhB l = true ∧ rhA l = ofHex l) := Lib.hid (by
          have e : rhB l = true := by rw [rhB, HL.out, HA.out]; rfl
          exact ⟨e, by rw [rhA, if_pos e]⟩)
        go_wp2
        go_ret2
        exact ⟨by rw [HB.out.1, HB.out.2]; rfl, rfl⟩
  · have d : ((l.length : Int) != 16) = true := by simp; omega
    have d2 : (l.length != 16) = true := by simp; omega
    have HB : Hid (rhB l = false ∧ rhA l = 0) := Lib.hid (by
      have e : rhB l = false := by rw [rhB]; simp [hl]
      exact ⟨e, by rw [rhA, e]; rfl⟩)
    clear hl
    go_enter Tryd.func22, Tryd.ntmps22
    go_wp2
    go_ret2
    exact ⟨by rw [HB.out.1, HB.out.2]; rfl, rfl⟩
end Go.Proofs.YtgldelgeaajgpaaDoor
