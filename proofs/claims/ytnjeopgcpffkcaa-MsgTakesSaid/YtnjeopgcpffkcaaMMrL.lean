/- The document's letters of a kind's fields; is a field among them? -/
import Derived.Test.YtnjeopgcpffkcaaGm
import Derived.Test.YtnjeopgcpffkcaaGi
namespace Go.Proofs.Ytnjeopgcpffkcaa
set_option maxRecDepth 100000
open Go.RowKit

/-- A field's letter. -/
def letC (f : Nat) : UInt8 :=
  match f with
  | 0 => 114
  | 1 => 104
  | 2 => 103
  | 3 => 105
  | 4 => 110
  | 5 => 107
  | 6 => 118
  | 7 => 101
  | _ => 116
def lettersK (k : Int) : List UInt8 := if knownK k = true then (fldK k).map letC else [45]
theorem letC_inj {f g : Nat} (hf : f < 9) (hg : g < 9) (h : letC f = letC g) : f = g := by
  have : ∀ f g : Fin 9, letC f.val = letC g.val → f = g := by decide
  exact congrArg Fin.val (this ⟨f, hf⟩ ⟨g, hg⟩ h)
theorem letC_dash (f : Nat) (hf : f < 9) : letC f ≠ 45 := by
  have : ∀ f : Fin 9, letC f.val ≠ 45 := by decide
  exact this ⟨f, hf⟩
theorem letters_in (k : Int) (f : Nat) (hf : f < 9) : inB (lettersK k) (letC f) = inK k f := by
  have hiff : letC f ∈ lettersK k ↔ f ∈ fldK k := by
    rw [lettersK]
    split
    · rw [List.mem_map]
      constructor
      · rintro ⟨g, hg, he⟩
        rw [← letC_inj (fld_lt hg) hf he]
        exact hg
      · exact fun h => ⟨f, h, rfl⟩
    · next h =>
      have hk : k < 1 ∨ 16 < k := by
        simp only [knownK, Bool.and_eq_true, decide_eq_true_eq] at h
        omega
      rw [fld_out hk]
      simp only [List.mem_singleton, List.not_mem_nil, iff_false]
      exact letC_dash f hf
  rw [inK, Bool.eq_iff_iff, decide_eq_true_eq, ← hiff]
  exact ⟨fun h => inB_mem _ _ h, fun h => inB_true _ _ h⟩
theorem letters_len (k : Int) : (lettersK k).length ≤ 5 := by
  rw [lettersK]
  split
  · rw [List.length_map]
    rcases kinds k with rfl | rfl | rfl | rfl | rfl | rfl | rfl | rfl | rfl | rfl | rfl | rfl | rfl | rfl | rfl | rfl | hk
    all_goals first | decide | (rw [fld_out hk]; decide)
  · decide
theorem letters_dash (k : Int) : decide (lettersK k = [45]) = !knownK k := by
  rw [lettersK]
  cases h : knownK k with
  | false => rfl
  | true =>
    rw [if_pos rfl, Bool.not_true, decide_eq_false_iff_not]
    intro e
    have : (45 : UInt8) ∈ (fldK k).map letC := by rw [e]; simp
    obtain ⟨g, hg, he⟩ := List.mem_map.1 this
    exact letC_dash g (fld_lt hg) he

set_option maxHeartbeats 4000000 in
theorem refLetters_any (k : Int) (w : World) : Calls Try.prog 30 #[.int .i64 k] w fun e w' => e = .returned (.string ⟨(lettersK k).toArray⟩) ∧ Below w.heap.size w w' := by
  rcases kinds k with rfl | rfl | rfl | rfl | rfl | rfl | rfl | rfl | rfl | rfl | rfl | rfl | rfl | rfl | rfl | rfl | hk
  case inr.inr.inr.inr.inr.inr.inr.inr.inr.inr.inr.inr.inr.inr.inr.inr =>
    have HF : Hid (lettersK k = [45]) := Lib.hid (by rw [lettersK, if_neg]; simp only [knownK, Bool.and_eq_true, decide_eq_true_eq]; omega)
    rw [HF.out]
    by_cases h1 : k < 1
    · have d1 : decide (k < 1) = true := by simpa using h1
      clear hk
      go_enter Try.func30, Try.ntmps30
      go_wp2
      go_ret
      exact ⟨rfl, (Below.refl _ _).alloc (Nat.le_refl _) _⟩
    · have d1 : decide (k < 1) = false := by simpa using h1
      have d2 : decide (16 < k) = true := by simp; omega
      clear hk
      go_enter Try.func30, Try.ntmps30
      go_wp2
      go_ret
      exact ⟨rfl, (Below.refl _ _).alloc (Nat.le_refl _) _⟩
  all_goals
    go_enter Try.func30, Try.ntmps30
    go_wp2
    go_ret
    exact ⟨rfl, (Below.refl _ _).alloc (Nat.le_refl _) _⟩

set_option maxHeartbeats 1000000 in
theorem refMsIn_any (kd : Int) (c : UInt8) (w : World) :
    Calls Try.prog 39 #[.int .i64 kd, .int .u8 (c.toNat : Int)] w fun e w' => e = .returned (.bool (inB (lettersK kd) c)) ∧ Below w.heap.size w w' := by
  have CL := Lib.hid (refLetters_any kd w)
  obtain ⟨l, hl⟩ : ∃ l, l = lettersK kd := ⟨_, rfl⟩
  have HL : Hid (l.length ≤ 5) := Lib.hid (by rw [hl]; exact letters_len kd)
  rw [← hl] at CL ⊢
  clear hl
  go_enter Try.func39, Try.ntmps39
  go_wp2_with fail
  refine CL.out.mono ?_
  rintro e w1 ⟨rfl, b1⟩
  have B1 := Lib.hid b1
  clear b1 CL
  go_wp2_with fail
  go_loop [6] (fun i => ∃ k : Nat, k ≤ l.length ∧ i = .int .i64 (k : Int) ∧ ∀ i, i < k → l[i]? ≠ some c) (fun i => l.length - (intOf i).toNat)
  case atStart => exact ⟨0, Nat.zero_le _, rfl, fun i hi => by omega⟩
  case round =>
    obtain ⟨k, hk, rfl, hb⟩ := hrel
    have HB := Lib.hid hb
    clear hb
    by_cases hlt : k < l.length
    · have dk : decide ((k : Int) < (l.length : Int)) = true := by simp; omega
      have dkn : decide (k < l.length) = true := by simp; omega
      obtain ⟨d, hd⟩ : ∃ d, l[k]? = some d := ⟨_, List.getElem?_eq_getElem hlt⟩
      have HD := Lib.hid hd
      have jk : (k : Int) < (l.length : Int) := by omega
      have r := str_at l k d hd
      have r4 : IntKind.i64.wrap ((k : Int) + 1) = ((k + 1 : Nat) : Int) := by have := HL.out; rw [IntWalk.i64_in _ (by omega)]; omega
      clear hd
      by_cases hc : d = c
      · have e : ((d.toNat : Int) == (c.toNat : Int)) = true := by rw [hc]; simp
        have E : Hid (inB l c = true) := Lib.hid (inB_true l c (List.mem_of_getElem? (by rw [HD.out, hc])))
        clear hc
        go_wp2
        go_ret
        exact ⟨by rw [E.out]; rfl, B1.out⟩
      · have e : ((d.toNat : Int) == (c.toNat : Int)) = false := by
          rw [beq_eq_false_iff_ne]
          exact fun e => hc (UInt8.toNat_inj.1 (by omega))
        have HC := Lib.hid hc
        clear hc
        go_wp2
        refine ⟨⟨k + 1, by omega, by go_num, fun i hi => ?_⟩, by simp [intOf]; omega⟩
        rcases Nat.lt_or_ge i k with h | h
        · exact HB.out i h
        · obtain rfl : i = k := by omega
          rw [HD.out]
          intro e
          injection e with e
          exact HC.out e
    · obtain rfl : k = l.length := by omega
      have dk : decide ((l.length : Int) < (l.length : Int)) = false := by simp
      have E : Hid (inB l c = false) := Lib.hid (by
        cases h : inB l c with
        | false => rfl
        | true =>
          obtain ⟨i, hi⟩ := List.getElem?_of_mem (inB_mem l c h)
          have hil := (List.getElem?_eq_some_iff.1 hi).1
          exact absurd hi (HB.out i hil))
      go_wp2
      go_ret
      exact ⟨by rw [E.out]; rfl, B1.out⟩
end Go.Proofs.Ytnjeopgcpffkcaa
