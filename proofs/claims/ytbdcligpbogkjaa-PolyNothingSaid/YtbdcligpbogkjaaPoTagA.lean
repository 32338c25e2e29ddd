/- Plain mathematics of package poly's Tag, and steps of arrays by value in drawn regions. -/
import Derived.Test.YtbdcligpbogkjaaPoRest
import Derived.Test.YtbdcligpbogkjaaPoPlus
import Derived.Test.YtbdcligpbogkjaaPoTimes
import Derived.Test.YtbdcligpbogkjaaPoWrite
import Derived.Test.YtbdcligpbogkjaaPoClamp
import Derived.Test.YtbdcligpbogkjaaGenP
namespace Go.Proofs.Ytbdcligpbogkjaa
open Go.RowKit

theorem clampL_take (l : List UInt8) (h : 16 ≤ l.length) : clampL (l.take 16) = clampL l := by
  match l, h with
  | x0 :: x1 :: x2 :: x3 :: x4 :: x5 :: x6 :: x7 :: x8 :: x9 :: x10 :: x11 :: x12 :: x13 :: x14 :: x15 :: t, _ =>
    have h1 : ¬ (x0 :: x1 :: x2 :: x3 :: x4 :: x5 :: x6 :: x7 :: x8 :: x9 :: x10 :: x11 :: x12 :: x13 :: x14 :: x15 :: t).length < 16 := by simp
    rw [clampL, clampL, if_neg h1]
    rfl
/-- The number that read answers. -/
def readL (b : List UInt8) (x : UInt8) : List Nat := partsL (leNat (roomL b x))
theorem readL_length (b : List UInt8) (x : UInt8) : (readL b x).length = 5 := partsTo_length _ _
theorem readL_under (b : List UInt8) (x : UInt8) : Under (readL b x) (2 ^ 26) := partsTo_under _ _
theorem readL_zero (b : List UInt8) (h : b.length ≤ 16) : vb (2 ^ 26) (readL b 0) 5 = leNat b := by
  rw [readL, partsL_value _ (roomL_lt b 0 h (by decide)), roomL_value]
  exact Nat.add_zero _
theorem readL_one (b : List UInt8) (h : b.length ≤ 16) : vb (2 ^ 26) (readL b 1) 5 = chunkN b := by
  rw [readL, partsL_value _ (roomL_lt b 1 h (by decide)), roomL_value, chunkN]
  show leNat b + 256 ^ b.length * 1 = _
  rw [Nat.mul_one]

/-- What holds of the number behind so many blocks. -/
def SumIs (R : Nat) (msg : List UInt8) (t : Nat) (S : List Nat) : Prop := S.length = 5 ∧ Under S (2 ^ 27) ∧ vb (2 ^ 26) S 5 < 2 ^ 130 ∧ vb (2 ^ 26) S 5 % pP = accN R msg t
theorem SumIs.zero (R : Nat) (msg : List UInt8) : SumIs R msg 0 [0, 0, 0, 0, 0] := by
  refine ⟨rfl, fun i => ?_, ?_, ?_⟩
  · rcases i with _ | _ | _ | _ | _ | i
    all_goals first | exact (by decide : (0 : Nat) < 2 ^ 27)
  · exact (by decide : vb (2 ^ 26) [0, 0, 0, 0, 0] 5 < 2 ^ 130)
  · exact (by decide : vb (2 ^ 26) [0, 0, 0, 0, 0] 5 % pP = 0)
theorem plus_under {a b : List Nat} (ha : a.length = 5) (ua : Under a (2 ^ 27)) (ub : Under b (2 ^ 26)) : Under (plusL a b) (2 ^ 28) :=
  (plusTo_under a b 5 _ _ (by omega) ua ub).mono (by decide)
theorem SumIs.next {R : Nat} {msg : List UInt8} {t : Nat} {S F : List Nat} (h : SumIs R msg t S) (c : List UInt8) (hc : c = (msg.drop (16 * t)).take 16) (hF : Under F (2 ^ 26)) (hR : vb (2 ^ 26) F 5 = R) :
    SumIs R msg (t + 1) (timesL (plusL S (readL c 1)) F) := by
  obtain ⟨h1, h2, h3, h4⟩ := h
  obtain ⟨k1, k2, k3⟩ := timesL_value _ F (plus_under h1 h2 (readL_under c 1)) hF
  refine ⟨timesL_length _ _, k3, k1, ?_⟩
  rw [k2, plusL_value _ _ h1, readL_one _ (by rw [hc, List.length_take]; omega), hR, accN, ← h4, ← hc, Nat.mul_mod, ← Nat.mod_add_mod, ← Nat.mul_mod]
/-- The number that is written at last. -/
def lastL (S b : List Nat) : List Nat := carryL (plusL (restL S) b)
theorem last_length {S : List Nat} (b : List Nat) (h : S.length = 5) : (lastL S b).length = 5 := by rw [lastL, carryL_length, plusL_length, restL_length, h]
theorem tagL_low (key msg : List UInt8) : tagL key msg = lowB 16 (tagN key msg) := rfl
theorem last_bytes {R : Nat} {key msg : List UInt8} {t : Nat} {S : List Nat} (h : SumIs R msg t S) (hR : R = leNat (clampL key)) (ht : t = (msg.length + 15) / 16) (b : List UInt8) (hb : b = (key.drop 16).take 16) :
    lowB 16 (vb (2 ^ 26) (lastL S (readL b 0)) 5) = tagL key msg := by
  obtain ⟨h1, h2, h3, h4⟩ := h
  have hr : (restL S).length = 5 := (restL_length S).trans h1
  have hp : (plusL (restL S) (readL b 0)).length = 5 := (plusL_length _ _).trans hr
  rw [lastL, (carryL_value _ hp).1, plusL_value _ _ hr, restL_value S h1 h3, h4, readL_zero _ (by rw [hb, List.length_take]; omega), tagL_low, tagN, ← hR, ← ht, ← hb]
  exact lowB_mod 16 _ _ (2 ^ 130) (by decide) (Nat.mod_mod _ _)

theorem chunk_facts (msg : List UInt8) (n t n' M : Nat) (hn : n = msg.length) (h : n' = n - 16 * t) (hM : M = min n' 16) :
    (msg.drop (16 * t)).take M = (msg.drop (16 * t)).take 16 ∧ (msg.drop (16 * t)).drop M = msg.drop (16 * (t + 1)) ∧ n' - M = n - 16 * (t + 1) := by
  have hl : (msg.drop (16 * t)).length = n' := by rw [List.length_drop]; omega
  by_cases h16 : n' ≤ 16
  · obtain rfl : M = n' := by omega
    refine ⟨?_, ?_, by omega⟩
    · rw [List.take_of_length_le (by omega), List.take_of_length_le (by omega)]
    · rw [List.drop_eq_nil_of_le (by omega), List.drop_eq_nil_of_le (by omega)]
  · obtain rfl : M = 16 := by omega
    refine ⟨rfl, ?_, by omega⟩
    rw [List.drop_drop, Nat.mul_add]

/-- An array's value, loaded: an operation that only reads. -/
theorem exec_load_q5 {ev : Operand → Value} {o : Oper} (x : Operand) (ho : o.op = .load 36 x) (g : Nat) (hx : ev x = .pointer (some ⟨g, 0, none⟩)) (t : TypeId) (l : List Nat) (w : World) (hg : Whole w g t (uv l)) (hl : l.length = 5) :
    (execOp ev o).run Try.prog w = .ok (.value (.agg (uv l))) w := by
  have h := run_loadVar_row (P := Try.prog) w g t 36 (uv l) (0, 0) _ hg Try.underlying36 rfl (size_of5 l hl)
  unfold execOp
  simp [ho, hx, Instr.loadAt, Instr.sureAddr, h]
theorem Fresh.less {w : World} {B B' : Nat} {v : Value} {l : List UInt8} (h : Fresh w B v l) (hb : B' ≤ B) : Fresh w B' v l := by
  obtain ⟨g, off, cap, t, cs, h1, h2, h3, h4⟩ := h
  exact ⟨g, off, cap, t, cs, h1, h2, Nat.le_trans hb h3, h4⟩
theorem build_q5 (w : World) : (Instr.build 36 #[]).run Try.prog w = .ok (.agg (uv [0, 0, 0, 0, 0])) w :=
  run_build w _ _ _ (by kernel_rfl)
end Go.Proofs.Ytbdcligpbogkjaa
