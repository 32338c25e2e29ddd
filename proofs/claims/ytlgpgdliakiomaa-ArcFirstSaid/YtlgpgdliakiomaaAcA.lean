/- What the texts of layer 9's statements lean on of package arc, as one thing to prove: each call's answer; the statements' own 'same' and the chapter's example. -/
import Derived.Test.YtlgpgdliakiomaaAcO
namespace Go.Proofs.Ytlgpgdliakiomaa
open Go.RowKit

structure ArcIs : Prop where
  dist : ∀ (a b : Nat) (w : World) (_ : a < 18446744073709551616) (_ : b < 18446744073709551616),
    Calls Try.prog 7 #[.int .u64 (a : Int), .int .u64 (b : Int)] w fun e w' => e = .returned (.int .u64 (distN a b : Int)) ∧ Below w.heap.size w w'
  within : ∀ (a x b : Nat) (w : World) (_ : a < 18446744073709551616) (_ : x < 18446744073709551616) (_ : b < 18446744073709551616),
    Calls Try.prog 9 #[.int .u64 (a : Int), .int .u64 (x : Int), .int .u64 (b : Int)] w fun e w' => e = .returned (.bool (withinB a x b)) ∧ Below w.heap.size w w'
  inside : ∀ (a x b : Nat) (w : World) (_ : a < 18446744073709551616) (_ : x < 18446744073709551616) (_ : b < 18446744073709551616),
    Calls Try.prog 11 #[.int .u64 (a : Int), .int .u64 (x : Int), .int .u64 (b : Int)] w fun e w' => e = .returned (.bool (insideB a x b)) ∧ Below w.heap.size w w'
  start : ∀ (id : Nat) (bit : Int) (w : World) (_ : id < 18446744073709551616) (_ : (Lit.int .i64 bit).wf = true),
    Calls Try.prog 13 #[.int .u64 (id : Int), .int .i64 bit] w fun e w' => e = .returned (.int .u64 (startN id bit : Int)) ∧ Below w.heap.size w w'
  nearest : ∀ (A : Option Addr) (n cap key : Nat) (ids : List Nat) (w : World) (_ : key < 18446744073709551616) (_ : ∀ x ∈ ids, x < 18446744073709551616) (_ : n ≤ 100000) (_ : UsAt w (.slice A n cap) ids),
    Calls Try.prog 19 #[.slice A n cap, .int .u64 (key : Int)] w fun e w' => e = .returned (.int .i64 (nearI key ids)) ∧ Below w.heap.size w w'
  order : ∀ (A : Option Addr) (n cap a : Nat) (ids : List Nat) (w : World) (_ : a < 18446744073709551616) (_ : ∀ x ∈ ids, x < 18446744073709551616) (_ : n ≤ 100000) (_ : UsAt w (.slice A n cap) ids),
    Calls Try.prog 17 #[.int .u64 (a : Int), .slice A n cap] w fun e w' => ∃ v', e = .returned v' ∧ UsAt w' v' (orderL a ids) ∧ Below w.heap.size w w'

set_option maxRecDepth 100000 in
set_option maxHeartbeats 2000000 in
theorem same_any (v0 v1 : Value) (a b : List Nat) (ha : a.length ≤ 100000) (w : World) (h0 : UsAt w v0 a) (h1 : UsAt w v1 b) :
    Calls Try.prog 16 #[v0, v1] w fun e w' => e = .returned (.bool (decide (a = b))) ∧ Below w.heap.size w w' := by
  have H0 := Lib.hid h0
  have H1 := Lib.hid h1
  obtain ⟨A0, c0, rfl, k0, -⟩ := h0
  obtain ⟨A1, c1, rfl, k1, -⟩ := h1
  by_cases hl : a.length = b.length
  · have d : ((a.length : Int) != (b.length : Int)) = false := by simp; omega
    have HL := Lib.hid hl
    clear hl
    go_enter Try.func16, Try.ntmps16
    go_wp2_with fail
    go_loopw [13] (fun i wr => ∃ k : Nat, k ≤ a.length ∧ i = .int .i64 (k : Int) ∧ a.take k = b.take k ∧ Below w.heap.size w wr) (fun i _ => a.length - (intOf i).toNat)
    case atStart => exact ⟨0, Nat.zero_le _, rfl, by simp, Below.refl _ _⟩
    case round =>
      obtain ⟨k, hk, rfl, he, hb⟩ := hrel
      have HE := Lib.hid he
      have HB := Lib.hid hb
      clear he hb
      by_cases hlt : k < a.length
      · have dk : decide ((k : Int) < (a.length : Int)) = true := by simp; omega
        have hlb : k < b.length := by have := HL.out; omega
        obtain ⟨x, hx⟩ : ∃ x, a[k]? = some x := ⟨_, List.getElem?_eq_getElem hlt⟩
        obtain ⟨y, hy⟩ : ∃ y, b[k]? = some y := ⟨_, List.getElem?_eq_getElem hlb⟩
        obtain ⟨b0, o0, rfl, hb0, hc0⟩ := H0.out.spots (by intro e; rw [e] at hlt; simp at hlt)
        obtain ⟨b1, o1, rfl, hb1, hc1⟩ := H1.out.spots (by intro e; rw [e] at hlb; simp at hlb)
        have cx := (HB.out.cell (p := ⟨b0, o0 + k, none⟩) hb0).trans (hc0 k x hx)
        have cy := (HB.out.cell (p := ⟨b1, o1 + k, none⟩) hb1).trans (hc1 k y hy)
        have jk : (k : Int) < (a.length : Int) := by omega
        have jb : (k : Int) < (b.length : Int) := by omega
        have HX := Lib.hid hx
        have HY := Lib.hid hy
        have HKL := Lib.hid hlt
        clear hx hy hb0 hb1 hc0 hc1 hlb
        by_cases hxy : x = y
        · have e1 : ((x : Int) != (y : Int)) = false := by simp; omega
          have HT : Hid (a.take (k + 1) = b.take (k + 1)) := Lib.hid (by rw [take_at HX.out, take_at HY.out, HE.out, hxy])
          have tk : IntKind.i64.wrap ((k : Int) + 1) = (k : Int) + 1 := by rw [IntWalk.i64_in _ (by omega)]
          clear hxy
          go_wp2_with fail
          go_quiet (fail)
          go_wp2
          exact ⟨⟨k + 1, by omega, by go_num, HT.out, below_drewN HB.out _⟩, by have := HKL.out; simp [intOf] <;> omega⟩
        · have e1 : ((x : Int) != (y : Int)) = true := by simp; omega
          have D : Hid (decide (a = b) = false) := Lib.hid (by
            rw [decide_eq_false_iff_not]
            intro e
            have h1 := HX.out
            rw [e, HY.out] at h1
            injection h1 with h1
            exact hxy h1.symm)
          clear hxy
          go_wp2_with fail
          go_quiet (fail)
          go_wp2
          go_ret
          exact ⟨by rw [D.out]; rfl, below_drewN HB.out _⟩
      · obtain rfl : k = a.length := by omega
        have dk : decide ((a.length : Int) < (a.length : Int)) = false := by simp
        have D : Hid (decide (a = b) = true) := Lib.hid (by
          rw [decide_eq_true_eq]
          have h1 := HE.out
          rw [List.take_length, HL.out, List.take_length] at h1
          exact h1)
        go_wp2
        go_ret
        exact ⟨by rw [D.out]; rfl, HB.out⟩
  · have d : ((a.length : Int) != (b.length : Int)) = true := by simp; omega
    have D : Hid (decide (a = b) = false) := Lib.hid (by
      rw [decide_eq_false_iff_not]
      exact fun e => hl (by rw [e]))
    clear hl
    go_enter Try.func16, Try.ntmps16
    go_wp2
    go_ret
    exact ⟨by rw [D.out]; rfl, Below.refl _ _⟩

set_option maxRecDepth 100000 in
set_option maxHeartbeats 2000000 in
theorem works9 (H : ArcIs) (w : World) : Calls Try.prog 15 #[] w fun e w' => e = .returned (.bool true) ∧ Below w.heap.size w w' := by
  have C1 : ∀ w, Hid (Calls Try.prog 7 #[.int .u64 18446744073709551615, .int .u64 1] w fun e w' => e = .returned (.int .u64 2) ∧ Below w.heap.size w w') := fun w => Lib.hid (H.dist 18446744073709551615 1 w (by decide) (by decide))
  have C2 : ∀ w, Hid (Calls Try.prog 11 #[.int .u64 18446744073709551615, .int .u64 0, .int .u64 1] w fun e w' => e = .returned (.bool true) ∧ Below w.heap.size w w') := fun w => Lib.hid (H.inside 18446744073709551615 0 1 w (by decide) (by decide) (by decide))
  have C3 : ∀ w, Hid (Calls Try.prog 9 #[.int .u64 18446744073709551615, .int .u64 1, .int .u64 1] w fun e w' => e = .returned (.bool true) ∧ Below w.heap.size w w') := fun w => Lib.hid (H.within 18446744073709551615 1 1 w (by decide) (by decide) (by decide))
  have C4 : ∀ w, Hid (Calls Try.prog 9 #[.int .u64 5, .int .u64 5, .int .u64 6] w fun e w' => e = .returned (.bool false) ∧ Below w.heap.size w w') := fun w => Lib.hid (H.within 5 5 6 w (by decide) (by decide) (by decide))
  have C5 : ∀ w, Hid (Calls Try.prog 13 #[.int .u64 1, .int .i64 63] w fun e w' => e = .returned (.int .u64 9223372036854775809) ∧ Below w.heap.size w w') := fun w => Lib.hid (H.start 1 63 w (by decide) (by decide))
  have C6 : ∀ w, Hid (Calls Try.prog 19 #[.slice none 0 0, .int .u64 1] w fun e w' => e = .returned (.int .i64 (-1)) ∧ Below w.heap.size w w') := fun w => Lib.hid (H.nearest none 0 0 1 [] w (by decide) (fun x hx => by cases hx) (by decide) (UsAt.nil w))
  go_enter Try.func15, Try.ntmps15
  go_wp2_with fail
  refine (C1 w).out.mono ?_
  rintro e w1 ⟨rfl, b1⟩
  have B1 := Lib.hid b1
  clear b1
  go_wp2_with fail
  refine (C2 w1).out.mono ?_
  rintro e w2 ⟨rfl, b2⟩
  have B2 := Lib.hid (B1.out.trans (b2.mono B1.out.size))
  clear b2 B1
  go_wp2_with fail
  refine (C3 w2).out.mono ?_
  rintro e w3 ⟨rfl, b3⟩
  have B3 := Lib.hid (B2.out.trans (b3.mono B2.out.size))
  clear b3 B2
  go_wp2_with fail
  refine (C4 w3).out.mono ?_
  rintro e w4 ⟨rfl, b4⟩
  have B4 := Lib.hid (B3.out.trans (b4.mono B3.out.size))
  clear b4 B3
  go_wp2_with fail
  refine (C5 w4).out.mono ?_
  rintro e w5 ⟨rfl, b5⟩
  have B5 := Lib.hid (B4.out.trans (b5.mono B4.out.size))
  clear b5 B4
  go_wp2_with fail
  refine (C6 w5).out.mono ?_
  rintro e w6 ⟨rfl, b6⟩
  have B6 := Lib.hid (B5.out.trans (b6.mono B5.out.size))
  clear b6 B5
  go_wp2
  go_ret
  exact ⟨rfl, B6.out⟩
end Go.Proofs.Ytlgpgdliakiomaa
