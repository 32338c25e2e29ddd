/- What the document's in of layer 10 answers. -/
import Derived.Test.YtkhiejdceefgfaaLbM
import Derived.Test.YtkhiejdceefgfaaStr
import Derived.Test.YtkhiejdceefgfaaGenS
import Derived.Test.YtkhiejdceefgfaaGenT
namespace Go.Proofs.Ytkhiejdceefgfaa
open Go.RowKit

set_option maxHeartbeats 1000000 in
theorem refIn_any (c : UInt8) (l : List UInt8) (hl : l.length ≤ 100000) (w : World) :
    Calls Try.prog 40 #[.int .u8 (c.toNat : Int), .string ⟨l.toArray⟩] w fun e w' => e = .returned (.bool (inB l c)) ∧ w = w' := by
  have HL := Lib.hid hl
  go_enter Try.func40, Try.ntmps40
  go_wp2_with fail
  go_loop [5] (fun i => ∃ k : Nat, k ≤ l.length ∧ i = .int .i64 (k : Int) ∧ ∀ i, i < k → l[i]? ≠ some c) (fun i => l.length - (intOf i).toNat)
  case atStart => exact ⟨0, Nat.zero_le _, rfl, fun i hi => by omega⟩
  case round =>
    obtain ⟨k, hk, rfl, hb⟩ := hrel
    have HB := Lib.hid hb
    clear hb
    by_cases hlt : k < l.length
    · have dk : decide ((k : Int) < (l.length : Int)) = true := by simp; omega
      have dkn : decide (k < l.length) = true := by simp; omega
      obtain ⟨d, hd⟩ : ∃ d, l[k]? = some d := ⟨_, List.getElem?_eq_getElem hlt⟩
      have HD := Lib.hid hd
      have jk : (k : Int) < (l.length : Int) := by omega
      have r := str_at l k d hd
      have r4 : IntKind.i64.wrap ((k : Int) + 1) = ((k + 1 : Nat) : Int) := by rw [IntWalk.i64_in _ (by omega)]; omega
      clear hd
      by_cases hc : d = c
      · have e : ((d.toNat : Int) == (c.toNat : Int)) = true := by rw [hc]; simp
        have E : Hid (inB l c = true) := Lib.hid (inB_true l c (List.mem_of_getElem? (by rw [HD.out, hc])))
        clear hc
        go_wp2
        go_ret
        exact ⟨by rw [E.out]; rfl, rfl⟩
      · have e : ((d.toNat : Int) == (c.toNat : Int)) = false := by
          rw [beq_eq_false_iff_ne]
          exact fun e => hc (UInt8.toNat_inj.1 (by omega))
        have HC := Lib.hid hc
        clear hc
        go_wp2
        refine ⟨⟨k + 1, by omega, by go_num, fun i hi => ?_⟩, by simp [intOf]; omega⟩
        rcases Nat.lt_or_ge i k with h | h
        · exact HB.out i h
        · obtain rfl : i = k := by omega
          rw [HD.out]
          intro e
          injection e with e
          exact HC.out e
    · obtain rfl : k = l.length := by omega
      have dk : decide ((l.length : Int) < (l.length : Int)) = false := by simp
      have E : Hid (inB l c = false) := Lib.hid (by
        cases h : inB l c with
        | false => rfl
        | true =>
          obtain ⟨i, hi⟩ := List.getElem?_of_mem (inB_mem l c h)
          have hil := (List.getElem?_eq_some_iff.1 hi).1
          exact absurd hi (HB.out i hil))
      go_wp2
      go_ret
      exact ⟨by rw [E.out]; rfl, rfl⟩
end Go.Proofs.Ytkhiejdceefgfaa
