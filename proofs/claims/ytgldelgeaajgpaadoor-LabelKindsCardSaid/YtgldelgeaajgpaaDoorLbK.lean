/- What the document's Key of layer 10 answers. -/
import Derived.Test.YtgldelgeaajgpaaDoorLbM
import Derived.Test.YtgldelgeaajgpaaDoorStr
import Derived.Test.YtgldelgeaajgpaaDoorGenS
import Derived.Test.YtgldelgeaajgpaaDoorGenT
namespace Go.Proofs.YtgldelgeaajgpaaDoor
open Go.RowKit

set_option maxHeartbeats 1000000 in
theorem refLbKey_any (l : List UInt8) (w : World) :
    Calls Tryd.prog 11 #[.string ⟨l.toArray⟩] w fun e w' => e = .returned (.bool (keyB l)) ∧ w = w' := by
  by_cases h1 : l.length < 1
  · have HN : Hid (keyB l = false) := Lib.hid (by rw [keyB, decide_eq_false (by omega)]; rfl)
    have y1 : decide ((l.length : Int) < 1) = true := by simp; omega
    go_enter Tryd.func11, Tryd.ntmps11
    go_wp2
    go_ret
    exact ⟨by rw [HN.out]; rfl, rfl⟩
  have y1 : decide ((l.length : Int) < 1) = false := by simp; omega
  by_cases h2 : 24 < l.length
  · have HN : Hid (keyB l = false) := Lib.hid (by rw [keyB, decide_eq_false (show ¬ l.length ≤ 24 by omega)]; simp)
    have y2 : decide (24 < (l.length : Int)) = true := by simp; omega
    have y2n : decide (24 < l.length) = true := by simp; omega
    clear h1
    go_enter Tryd.func11, Tryd.ntmps11
    go_wp2
    go_ret
    exact ⟨by rw [HN.out]; rfl, rfl⟩
  have y2 : decide (24 < (l.length : Int)) = false := by simp; omega
  have y2n : decide (24 < l.length) = false := by simp; omega
  have HB := Lib.hid (show 1 ≤ l.length ∧ l.length ≤ 24 by omega)
  clear h1 h2
  go_enter Tryd.func11, Tryd.ntmps11
  go_wp2_with fail
  go_loop [3] (fun i => ∃ k : Nat, k ≤ l.length ∧ i = .int .i64 (k : Int) ∧ (l.take k).all keyC = true) (fun i => l.length - (intOf i).toNat)
  case atStart => exact ⟨0, Nat.zero_le _, rfl, rfl⟩
  case round =>
    obtain ⟨k, hk, rfl, ha⟩ := hrel
    have HA := Lib.hid ha
    clear ha
    by_cases hlt : k < l.length
    · have dk : decide ((k : Int) < (l.length : Int)) = true := by simp; omega
      have dkn : decide (k < l.length) = true := by simp; omega
      obtain ⟨c, hc⟩ : ∃ c, l[k]? = some c := ⟨_, List.getElem?_eq_getElem hlt⟩
      have jk : (k : Int) < (l.length : Int) := by omega
      have r := str_at l k c hc
      have r4 : IntKind.i64.wrap ((k : Int) + 1) = ((k + 1 : Nat) : Int) := by have := HB.out; rw [IntWalk.i64_in _ (by omega)]; omega
      have HT := Lib.hid (all_take keyC l k c hc)
      have HF := Lib.hid (all_not keyC l k c hc)
      clear hc
      by_cases c1 : c.toNat ≤ 32
      · have z1 : decide ((c.toNat : Int) ≤ 32) = true := by simp; omega
        have z1n : decide (c.toNat ≤ 32) = true := by simp; omega
        have HN : Hid (keyB l = false) := Lib.hid (by rw [keyB, HF.out (by rw [keyC, decide_eq_false (by omega)]; rfl)]; simp)
        clear HF HT
        go_wp2
        go_ret
        exact ⟨by rw [HN.out]; rfl, rfl⟩
      have z1 : decide ((c.toNat : Int) ≤ 32) = false := by simp; omega
      have z1n : decide (c.toNat ≤ 32) = false := by simp; omega
      by_cases c2 : 127 ≤ c.toNat
      · have z2 : decide (127 ≤ (c.toNat : Int)) = true := by simp; omega
        have z2n : decide (127 ≤ c.toNat) = true := by simp; omega
        have HN : Hid (keyB l = false) := Lib.hid (by rw [keyB, HF.out (by rw [keyC, decide_eq_false (show ¬ c.toNat < 127 by omega)]; simp)]; simp)
        clear HF HT c1
        go_wp2
        go_ret
        exact ⟨by rw [HN.out]; rfl, rfl⟩
      have z2 : decide (127 ≤ (c.toNat : Int)) = false := by simp; omega
      have z2n : decide (127 ≤ c.toNat) = false := by simp; omega
      have HK : Hid (keyC c = true) := Lib.hid (by rw [keyC, decide_eq_true (by omega), decide_eq_true (by omega)]; rfl)
      clear c1 c2 HF
      go_wp2
      exact ⟨⟨k + 1, by omega, by go_num, by rw [HT.out, HA.out, HK.out]; rfl⟩, by simp [intOf]; omega⟩
    · obtain rfl : k = l.length := by omega
      have dk : decide ((l.length : Int) < (l.length : Int)) = false := by simp
      have HI : Hid (keyB l = true) := Lib.hid (by
        have e := HA.out
        rw [List.take_length] at e
        rw [keyB, e, decide_eq_true HB.out.1, decide_eq_true HB.out.2]
        rfl)
      go_wp2
      go_ret
      exact ⟨by rw [HI.out]; rfl, rfl⟩
end Go.Proofs.YtgldelgeaajgpaaDoor
