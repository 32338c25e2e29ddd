/- Package label, as landed: readDigits, Hex, ReadHex. -/
import Derived.Test.YtgldelgeaajgpaaDoorLbB
import Derived.Test.YtgldelgeaajgpaaDoorSh
import Derived.Laws.BitsAllLaws
namespace Go.Proofs.YtgldelgeaajgpaaDoor
open Go.RowKit

/-- The place of a digit among them. -/
theorem index_hex (c : UInt8) : Lib.indexByte hexD c = if digN c < 16 then (digN c : Int) else -1 := by
  have : ∀ i : Fin 256, Lib.indexByte hexD (UInt8.ofNat i.val) = if digN (UInt8.ofNat i.val) < 16 then (digN (UInt8.ofNat i.val) : Int) else -1 := by decide +kernel
  have h := this ⟨c.toNat, c.toNat_lt⟩
  simpa using h
theorem look_any (c : UInt8) (w : World) :
    Calls Tryd.prog 39 #[.string ⟨#[48, 49, 50, 51, 52, 53, 54, 55, 56, 57, 97, 98, 99, 100, 101, 102]⟩, .int .u8 (c.toNat : Int)] w fun e w' => e = .returned (.int .i64 (if digN c < 16 then (digN c : Int) else -1)) ∧ w = w' := by
  refine (Tryd.strings_IndexByte ⟨#[48, 49, 50, 51, 52, 53, 54, 55, 56, 57, 97, 98, 99, 100, 101, 102]⟩ (c.toNat : Int) w).mono ?_
  rintro e w' ⟨rfl, rfl⟩
  refine ⟨?_, rfl⟩
  have e : ((c.toNat : Int)).toNat.toUInt8 = c := by simp
  rw [← index_hex, e]
  rfl

/-- The number that digits are; 0, if one is none. -/
def rdA (l : List UInt8) : Nat := if allHex l = true then ofHex l else 0
theorem or_low (o z y m : Nat) (hy : y = o * 16) (hm : m = y + z) (hz : z < 16) (hs : m < 18446744073709551616) : bits .or .u64 (y : Int) (z : Int) = (m : Int) := by
  subst hy
  have h := u64_or_nat (o * 16) z (by omega) (by omega)
  have e2 : o * 16 ||| z = o * 16 + z := by
    have := Nat.shiftLeft_add_eq_or_of_lt (show z < 2 ^ 4 from hz) o
    rw [Nat.shiftLeft_eq] at this
    exact this.symm
  rw [h, e2, hm]

set_option maxHeartbeats 2000000 in
theorem readDigits_any (l : List UInt8) (hl : l.length ≤ 16) (w : World) :
    Calls Tryd.prog 32 #[.string ⟨l.toArray⟩] w fun e w' => e = .returned (.tuple #[.int .u64 (rdA l : Int), .bool (allHex l)]) ∧ w = w' := by
  have HL := Lib.hid hl
  clear hl
  go_enter Tryd.func32, Tryd.ntmps32
  go_wp2_with fail
  go_loop [4, 9] (fun y i => ∃ k : Nat, k ≤ l.length ∧ i = .int .i64 (k : Int) ∧ y = .int .u64 (ofHex (l.take k) : Int) ∧ allHex (l.take k) = true) (fun _ i => l.length - (intOf i).toNat)
  case atStart => exact ⟨0, Nat.zero_le _, rfl, rfl, rfl⟩
  case round =>
    obtain ⟨k, hk, rfl, rfl, ha⟩ := hrel
    have HA := Lib.hid ha
    clear ha
    by_cases hlt : k < l.length
    · have dk : decide ((k : Int) < (l.length : Int)) = true := by simp; omega
      have dkn : decide (k < l.length) = true := by simp; omega
      obtain ⟨c, hc⟩ : ∃ c, l[k]? = some c := ⟨_, List.getElem?_eq_getElem (by omega)⟩
      have r := str_at l k c hc
      have jk : (k : Int) < (l.length : Int) := by omega
      have CD := fun w => Lib.hid (look_any c w)
      have dle := digN_le c
      have hof := ofHex_lt (l.take k) HA.out
      have htk : (l.take k).length = k := by rw [List.length_take]; omega
      have hpk : 16 ^ k ≤ 16 ^ 15 := Nat.pow_le_pow_right (by decide) (by have := HL.out; omega)
      rw [htk] at hof
      have HT := Lib.hid (ofHex_take l k c hc)
      have HA2 := Lib.hid (allHex_take l k c hc)
      have r9 : IntKind.i64.wrap ((k : Int) + 1) = ((k + 1 : Nat) : Int) := by have := HL.out; rw [IntWalk.i64_in _ (by omega)]; omega
      by_cases h16 : digN c = 16
      · have HB : Hid (allHex l = false ∧ rdA l = 0) := Lib.hid (by
          have e := allHex_not l k c hc h16
          exact ⟨e, by rw [rdA, e]; rfl⟩)
        have e1 : (if digN c < 16 then (digN c : Int) else -1) = -1 := if_neg (by omega)
        rw [e1] at CD
        clear hc h16 dle hof htk hpk e1
        go_wp2_with fail
        refine (CD w).out.mono ?_
        rintro e w1 ⟨rfl, rfl⟩
        go_wp2
        go_ret2
        exact ⟨by rw [HB.out.1, HB.out.2]; rfl, rfl⟩
      · obtain ⟨z, hz⟩ : ∃ z, z = digN c := ⟨_, rfl⟩
        rw [← hz] at dle h16 HT HA2
        have e1 : (if digN c < 16 then (digN c : Int) else -1) = (z : Int) := by rw [if_pos (by omega), hz]
        rw [e1] at CD
        obtain ⟨o, ho⟩ : ∃ o, o = ofHex (l.take k) := ⟨_, rfl⟩
        rw [← ho] at hof HT ⊢
        obtain ⟨y, hy⟩ : ∃ y, y = o * 16 := ⟨_, rfl⟩
        obtain ⟨m, hm⟩ : ∃ m, m = y + z := ⟨_, rfl⟩
        have dz : decide ((z : Int) < 0) = false := by simp
        have r1 : IntKind.u64.wrap ((o : Int) * 16) = (y : Int) := by rw [IntWalk.u64_in _ (by omega)]; omega
        have r2 : IntKind.u64.wrap (z : Int) = (z : Int) := by rw [IntWalk.u64_in _ (by omega)]
        have r3 := or_low o z y m hy hm (by omega) (by omega)
        have HZ := Lib.hid (show z < 16 by omega)
        have HM := Lib.hid (show m = o * 16 + z by omega)
        clear hc h16 dle hof htk hpk hz ho e1 hy hm
        go_wp2_with fail
        refine (CD w).out.mono ?_
        rintro e w1 ⟨rfl, rfl⟩
        go_wp2
        exact ⟨⟨k + 1, by omega, by go_num, by rw [HT.out, HM.out], by rw [HA2.out, HA.out]; simp [HZ.out]⟩, by simp [intOf]; omega⟩
    · obtain rfl : k = l.length := by omega
      have dk : decide ((l.length : Int) < (l.length : Int)) = false := by simp
      rw [List.take_length] at HA ⊢
      have HB : Hid (allHex l = true ∧ rdA l = ofHex l) := Lib.hid ⟨HA.out, by rw [rdA, if_pos HA.out]⟩
      go_wp2
      go_ret2
      exact ⟨by rw [HB.out.1, HB.out.2]; rfl, rfl⟩

set_option maxHeartbeats 1000000 in
theorem labelReadHex_any (l : List UInt8) (w : World) :
    Calls Tryd.prog 21 #[.string ⟨l.toArray⟩] w fun e w' => e = .returned (.tuple #[.int .u64 (rhA l : Int), .bool (rhB l)]) ∧ Below w.heap.size w w' := by
  by_cases hl : l.length = 16
  · have d : ((l.length : Int) != 16) = false := by simp; omega
    have d2 : (l.length != 16) = false := by simp; omega
    have CD := Lib.hid (readDigits_any l (by omega) w)
    have HB : Hid (rhB l = allHex l ∧ rhA l = rdA l) := Lib.hid (by
      have e : rhB l = allHex l := by rw [rhB, decide_eq_true hl]; rfl
      exact ⟨e, by rw [rhA, e]; rfl⟩)
    clear hl
    go_enter Tryd.func21, Tryd.ntmps21
    go_wp2_with fail
    refine CD.out.mono ?_
    rintro e w1 ⟨rfl, rfl⟩
    rw [← HB.out.2, ← HB.out.1]
    go_wp2
    go_ret2
    exact ⟨rfl, Below.refl _ _⟩
  · have d : ((l.length : Int) != 16) = true := by simp; omega
    have d2 : (l.length != 16) = true := by simp; omega
    have HB : Hid (rhB l = false ∧ rhA l = 0) := Lib.hid (by
      have e : rhB l = false := by rw [rhB]; simp [hl]
      exact ⟨e, by rw [rhA, e]; rfl⟩)
    clear hl
    go_enter Tryd.func21, Tryd.ntmps21
    go_wp2
    go_ret2
    exact ⟨by rw [HB.out.1, HB.out.2]; rfl, Below.refl _ _⟩

theorem hexTo_at (n k i : Nat) (h : i < k) : (hexTo n k)[i]? = some (hexC (n / 16 ^ (k - 1 - i) % 16)) := by
  induction k generalizing i with
  | zero => omega
  | succ k ih =>
    rw [hexTo]
    cases i with
    | zero => simp
    | succ i =>
      rw [List.getElem?_cons_succ, ih i (by omega), show k - 1 - i = k + 1 - 1 - (i + 1) by omega]
theorem hex_pow (a : Nat) : 2 ^ (4 * a) = 16 ^ a := by rw [Nat.pow_mul]
theorem lit_hex (z : Nat) (h : z < 16) (hz : z < (⟨#[48, 49, 50, 51, 52, 53, 54, 55, 56, 57, 97, 98, 99, 100, 101, 102]⟩ : ByteArray).size) : (⟨#[48, 49, 50, 51, 52, 53, 54, 55, 56, 57, 97, 98, 99, 100, 101, 102]⟩ : ByteArray)[z]'hz = hexC z :=
  hex_lit z _ (by rw [hexC, List.getD, List.getElem?_eq_getElem (show z < hexD.length from h)]; rfl) hz

set_option maxRecDepth 100000 in
set_option maxHeartbeats 2000000 in
theorem labelHex_any (n : Nat) (hn : n < 18446744073709551616) (w : World) :
    Calls Tryd.prog 15 #[.int .u64 (n : Int)] w fun e w' => e = .returned (.string ⟨(hexL n).toArray⟩) ∧ Below w.heap.size w w' := by
  have PA := fun k hk => Lib.hid (hexTo_at n 16 k hk)
  have PM : Hid ((hexTo n 16).length = 16) := Lib.hid (hexTo_length n 16)
  have e0 : hexL n = hexTo n 16 := rfl
  rw [e0]
  obtain ⟨R, hR⟩ : ∃ R, R = hexTo n 16 := ⟨_, rfl⟩
  simp only [← hR] at PM PA ⊢
  have HN := Lib.hid hn
  clear hn e0 hR
  go_enter Tryd.func15, Tryd.ntmps15
  go_wp2_with (at_make; refine wpList_make_block rfl _ _ rfl 16 rfl rfl (by decide) ?_)
  intro w1 x1 b1' z1
  have X1 : Hid (Whole w1 w.heap.size 5 (bv (doneTo R 16 0)).toArray) := Lib.hid (by
    rw [doneTo_zero]
    exact x1)
  have B1 := Lib.hid b1'
  clear x1 b1' z1
  go_wp2_with fail
  go_loopw [8] (fun i wr => ∃ k : Nat, k ≤ 16 ∧ i = .int .i64 (k : Int) ∧ Whole wr w.heap.size 5 (bv (doneTo R 16 k)).toArray ∧ Below w.heap.size w wr) (fun i _ => 16 - (intOf i).toNat)
  case atStart => exact ⟨0, Nat.zero_le _, rfl, X1.out, B1.out⟩
  case round =>
    obtain ⟨k, hk, rfl, hx, hb⟩ := hrel
    have HX := Lib.hid hx
    have HB := Lib.hid hb
    clear hx hb X1 B1
    by_cases hlt : k < 16
    · have dk : decide ((k : Int) < 16) = true := by simp; omega
      have jk : (k : Int) < 16 := by omega
      have pk := (PA k hlt).out
      obtain ⟨a, ha⟩ : ∃ a, a = 15 - k := ⟨_, rfl⟩
      rw [show 16 - 1 - k = a by omega] at pk
      obtain ⟨d, hd⟩ : ∃ d, d = 4 * a := ⟨_, rfl⟩
      obtain ⟨p, hp⟩ : ∃ p, p = n / 2 ^ d := ⟨_, rfl⟩
      have pl : p < 18446744073709551616 := by rw [hp]; exact Nat.lt_of_le_of_lt (Nat.div_le_self _ _) HN.out
      rw [← hex_pow, ← hd, ← hp] at pk
      obtain ⟨z, hz⟩ : ∃ z, z = p % 16 := ⟨_, rfl⟩
      rw [← hz] at pk
      have r1 : IntKind.i64.wrap (15 - (k : Int)) = (a : Int) := by rw [IntWalk.i64_in _ (by omega)]; omega
      have r2 : IntKind.i64.wrap (4 * (a : Int)) = (d : Int) := by rw [IntWalk.i64_in _ (by omega)]; omega
      have sh : (n : Int) / 2 ^ d = (p : Int) := by rw [hp]; simp
      have md : min d 64 = d := by omega
      have ra : bits .and .u64 (p : Int) 15 = (z : Int) := by
        have h := u64_and_nat p 15 pl (by decide)
        have e : p &&& 15 = p % 16 := Nat.and_two_pow_sub_one_eq_mod p 4
        rw [hz, ← e, ← h]
        rfl
      have e1 : ∀ h, (⟨#[48, 49, 50, 51, 52, 53, 54, 55, 56, 57, 97, 98, 99, 100, 101, 102]⟩ : ByteArray)[z]'h = hexC z := fun h => lit_hex z (by omega) h
      obtain ⟨x, hxz⟩ : ∃ x, x = hexC z := ⟨_, rfl⟩
      simp only [← hxz] at e1
      rw [← hxz] at pk
      have PK := Lib.hid pk
      have jz : (z : Int) < 16 := by omega
      have r4 : IntKind.i64.wrap ((k : Int) + 1) = (k : Int) + 1 := by rw [IntWalk.i64_in _ (by omega)]
      clear ha hd hp hz hxz pk pl
      go_wp2_with (with_reducible refine wpList_put_b rfl _ _ rfl w.heap.size k ?hx x ?hy _ (doneTo R 16 k) HX.out ?hi ?_)
      case hx => exact rfl
      case hy => exact rfl
      case hi => rw [doneTo_length R 16 k PM.out (by omega)]; exact hlt
      intro w2 g2 x2 z2
      rw [doneTo_put R 16 k x PM.out PK.out] at x2
      have X2 := Lib.hid x2
      have B2 := Lib.hid (HB.out.grown g2 HB.out.size (fun k hk => by injection hk; omega))
      clear x2 g2 z2 HB HX e1 ra sh md r1 r2
      go_wp2_with fail
      exact ⟨⟨k + 1, by omega, by go_num, X2.out, B2.out⟩, by simp [intOf]; omega⟩
    · obtain rfl : k = 16 := by omega
      have e : doneTo R 16 16 = R := doneTo_all R 16 PM.out
      rw [e] at HX
      have Y : Hid (BytesAt wr (.slice (some ⟨w.heap.size, 0, none⟩) 16 16) R) := Lib.hid (block_bytes HX.out PM.out.symm (Nat.le_refl _))
      have rc := conv_bytes Y.out
      clear e HX
      go_wp2
      go_ret
      exact ⟨rfl, HB.out⟩
end Go.Proofs.YtgldelgeaajgpaaDoor
