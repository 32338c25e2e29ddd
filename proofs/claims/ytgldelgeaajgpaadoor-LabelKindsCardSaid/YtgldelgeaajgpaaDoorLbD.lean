/- What the document's digit of layer 10 answers. -/
import Derived.Test.YtgldelgeaajgpaaDoorLbM
import Derived.Test.YtgldelgeaajgpaaDoorGenS
import Derived.Test.YtgldelgeaajgpaaDoorGenT
import Derived.IntWalk
import Derived.Deep.DeepCutAuto
import Derived.Deep.LoopGhost
import Derived.ChangeAlike
namespace Go.Proofs.YtgldelgeaajgpaaDoor
open Go.RowKit

theorem digN_at (c : UInt8) (k : Nat) (h : hexD[k]? = some c) (hb : ∀ i, i < k → hexD[i]? ≠ some c) : digN c = k := by
  obtain ⟨h1, h2⟩ := List.getElem?_eq_some_iff.1 h
  rw [digN, List.findIdx_eq h1]
  refine ⟨by simp [h2], fun j hj => ?_⟩
  have := hb j hj
  rw [List.getElem?_eq_getElem (by omega)] at this
  simp only [beq_eq_false_iff_ne, ne_eq]
  intro e
  exact this (by rw [e])
theorem digN_none (c : UInt8) (hb : ∀ i, i < 16 → hexD[i]? ≠ some c) : digN c = 16 := by
  have : hexD.findIdx (· == c) = hexD.length := by
    rw [List.findIdx_eq_length]
    intro x hx
    obtain ⟨i, hi, e⟩ := List.mem_iff_getElem.1 hx
    have := hb i hi
    rw [List.getElem?_eq_getElem hi, e] at this
    simp only [beq_eq_false_iff_ne, ne_eq]
    exact fun e => this (by rw [e])
  exact this

theorem hex_lit (k : Nat) (d : UInt8) (hd : hexD[k]? = some d) (h : k < (⟨#[48, 49, 50, 51, 52, 53, 54, 55, 56, 57, 97, 98, 99, 100, 101, 102]⟩ : ByteArray).size) : (⟨#[48, 49, 50, 51, 52, 53, 54, 55, 56, 57, 97, 98, 99, 100, 101, 102]⟩ : ByteArray)[k]'h = d := by
  obtain ⟨h1, rfl⟩ := List.getElem?_eq_some_iff.1 hd
  rfl

set_option maxHeartbeats 1000000 in
theorem refDigit_any (c : UInt8) (w : World) :
    Calls Tryd.prog 33 #[.int .u8 (c.toNat : Int)] w fun e w' => e = .returned (.int .i64 (digN c : Int)) ∧ w = w' := by
  go_enter Tryd.func33, Tryd.ntmps33
  go_wp2_with fail
  go_loop [3] (fun i => ∃ k : Nat, k ≤ 16 ∧ i = .int .i64 (k : Int) ∧ ∀ i, i < k → hexD[i]? ≠ some c) (fun i => 16 - (intOf i).toNat)
  case atStart => exact ⟨0, by decide, rfl, fun i hi => by omega⟩
  case round =>
    obtain ⟨k, hk, rfl, hb⟩ := hrel
    have HB := Lib.hid hb
    clear hb
    by_cases hlt : k < 16
    · have dk : decide ((k : Int) < 16) = true := by simp; omega
      obtain ⟨d, hd⟩ : ∃ d, hexD[k]? = some d := ⟨_, List.getElem?_eq_getElem hlt⟩
      have HD := Lib.hid hd
      have jk : (k : Int) < 16 := by omega
      clear hd
      have r : ∀ h, (⟨#[48, 49, 50, 51, 52, 53, 54, 55, 56, 57, 97, 98, 99, 100, 101, 102]⟩ : ByteArray)[k]'h = d := fun h => hex_lit k d HD.out h
      by_cases hc : d = c
      · have e : ((d.toNat : Int) == (c.toNat : Int)) = true := by rw [hc]; simp
        have E := Lib.hid (digN_at c k (by rw [HD.out, hc]) HB.out)
        clear hc
        go_wp2
        go_ret
        exact ⟨by rw [E.out]; rfl, rfl⟩
      · have e : ((d.toNat : Int) == (c.toNat : Int)) = false := by
          rw [beq_eq_false_iff_ne]
          exact fun e => hc (UInt8.toNat_inj.1 (by omega))
        have HC := Lib.hid hc
        clear hc
        go_wp2
        refine ⟨⟨k + 1, by omega, by go_num, fun i hi => ?_⟩, by simp [intOf]; omega⟩
        rcases Nat.lt_or_ge i k with h | h
        · exact HB.out i h
        · obtain rfl : i = k := by omega
          rw [HD.out]
          intro e
          injection e with e
          exact HC.out e
    · obtain rfl : k = 16 := by omega
      have E := Lib.hid (digN_none c HB.out)
      go_wp2
      go_ret
      exact ⟨by rw [E.out]; rfl, rfl⟩
end Go.Proofs.YtgldelgeaajgpaaDoor
