/- The document's Step, Back, Key and Leads of layer 12. The document's Leads of layer 12; gates in memory. -/
import Derived.Test.YtehalcopkjfdkaaDoorGt
import Derived.Test.YtehalcopkjfdkaaDoorGu
import Derived.Test.YtehalcopkjfdkaaDoorGb
import Derived.Deep.LoopGhost
namespace Go.Proofs.YtehalcopkjfdkaaDoor
set_option maxRecDepth 100000
open Go.RowKit

theorem link_plus (k : List UInt8) : (⟨#[99, 97, 114, 99, 97, 110, 101, 116, 32, 108, 105, 110, 107]⟩ : ByteArray) ++ ⟨k.toArray⟩ = ⟨(linkL ++ k).toArray⟩ := str_plus linkL k

set_option maxHeartbeats 1000000 in
theorem refStep_any (k : List UInt8) (w : World) (hk : k.length ≤ 4000) :
    Calls Tryd.prog 48 #[.string ⟨k.toArray⟩] w fun e w' => e = .returned (.string ⟨(stepL k).toArray⟩) ∧ Below w.heap.size w w' := by
  have r0 := link_plus k
  obtain ⟨vs, w1, r1, y1, b1⟩ := conv_str w ⟨(linkL ++ k).toArray⟩
  have Y1 := Lib.hid y1
  have B1 := Lib.hid b1
  have HL : Hid ((linkL ++ k).length ≤ 5000) := Lib.hid (by simp [linkL]; omega)
  have HS : Hid (sumL (linkL ++ k) = stepL k) := Lib.hid rfl
  obtain ⟨T, hT⟩ : ∃ T, T = linkL ++ k := ⟨_, rfl⟩
  rw [← hT] at r0 r1 Y1 HL HS
  clear y1 b1 hT
  have C := Lib.hid (refSum_any vs T HL.out w1 (by simpa using Y1.out))
  rw [HS.out] at C
  go_enter Tryd.func48, Tryd.ntmps48
  go_wp2_with fail
  refine C.out.mono ?_
  rintro e w2 ⟨v2, rfl, y2, b2⟩
  have r2 := conv_bytes y2
  have B2 := Lib.hid (B1.out.trans (b2.mono B1.out.size))
  clear y2 b2 r1 r0 C
  go_wp2
  go_ret
  exact ⟨rfl, B2.out⟩

set_option maxHeartbeats 1000000 in
theorem refBack_bad (k : List UInt8) (z : Int) (h : z < 0 ∨ 64 < z) (w : World) :
    Calls Tryd.prog 35 #[.string ⟨k.toArray⟩, .int .i64 z] w fun e w' => e = .returned (.tuple #[.string ⟨([] : List UInt8).toArray⟩, .int .i64 2]) ∧ Below w.heap.size w w' := by
  by_cases h0 : z < 0
  · have d : decide (z < 0) = true := by simpa using h0
    go_enter Tryd.func35, Tryd.ntmps35
    go_wp2
    go_ret2
    exact ⟨rfl, Below.refl _ _⟩
  · have d : decide (z < 0) = false := by simpa using h0
    have d2 : decide (64 < z) = true := by simp; omega
    go_enter Tryd.func35, Tryd.ntmps35
    go_wp2
    go_ret2
    exact ⟨rfl, Below.refl _ _⟩

set_option maxHeartbeats 1000000 in
theorem refBack_good (n : Nat) : ∀ (k : List UInt8) (w : World), n ≤ 64 → k.length ≤ 4000 →
    Calls Tryd.prog 35 #[.string ⟨k.toArray⟩, .int .i64 (n : Int)] w fun e w' => e = .returned (.tuple #[.string ⟨(backL k n).toArray⟩, .int .i64 0]) ∧ Below w.heap.size w w' := by
  induction n with
  | zero =>
    intro k w _ _
    have HB : Hid (k = backL k 0) := Lib.hid rfl
    go_enter Tryd.func35, Tryd.ntmps35
    go_wp2
    go_ret2
    exact ⟨by rw [← HB.out]; rfl, Below.refl _ _⟩
  | succ n ih =>
    intro k w hn hk
    have IH := Lib.hid (fun w => ih (stepL k) w (by omega) (by rw [stepL_length]; omega))
    have C := Lib.hid (refStep_any k w hk)
    have HB : Hid (backL (stepL k) n = backL k (n + 1)) := Lib.hid rfl
    have d : decide (((n + 1 : Nat) : Int) < 0) = false := by simp; omega
    have d2 : decide (64 < ((n + 1 : Nat) : Int)) = false := by simp; omega
    have d3 : (((n + 1 : Nat) : Int) == 0) = false := by simp; omega
    have r : IntKind.i64.wrap (((n + 1 : Nat) : Int) - 1) = (n : Int) := by rw [IntWalk.i64_in _ (by omega)]; omega
    obtain ⟨m, hm⟩ : ∃ m, m = n + 1 := ⟨_, rfl⟩
    rw [← hm] at d d2 d3 r HB ⊢
    clear ih hm hn hk
    go_enter Tryd.func35, Tryd.ntmps35
    go_wp2_with fail
    refine C.out.mono ?_
    rintro e w1 ⟨rfl, b1⟩
    have B1 := Lib.hid b1
    clear b1 C
    go_wp2_with fail
    refine (IH.out w1).mono ?_
    rintro e w2 ⟨rfl, b2⟩
    have B2 := Lib.hid (B1.out.trans (b2.mono B1.out.size))
    clear b2
    go_wp2
    go_ret2
    exact ⟨by rw [← HB.out]; rfl, B2.out⟩

theorem refBack_any (k : List UInt8) (z : Int) (w : World) (hk : k.length ≤ 4000) :
    Calls Tryd.prog 35 #[.string ⟨k.toArray⟩, .int .i64 z] w fun e w' => e = .returned (.tuple #[.string ⟨(backA k z).toArray⟩, .int .i64 (backC z)]) ∧ Below w.heap.size w w' := by
  by_cases h : z < 0 ∨ 64 < z
  · rw [backA, backC, if_pos h, if_pos h]
    exact refBack_bad k z h w
  · rw [backA, backC, if_neg h, if_neg h]
    obtain ⟨n, rfl⟩ := Int.eq_ofNat_of_zero_le (show 0 ≤ z by omega)
    exact refBack_good n k w (by omega) hk

end Go.Proofs.YtehalcopkjfdkaaDoor

namespace Go.Proofs.YtehalcopkjfdkaaDoor
set_option maxRecDepth 100000
open Go.RowKit

/-- What Leads answers, in the order in which it asks. -/
theorem leads_no {yi oi : Int} {yk ok : List UInt8} (h : ¬ (0 ≤ oi ∧ oi ≤ yi ∧ yk.length = 32)) : leadsB yi yk oi ok = false := by
  rw [leadsB, decide_eq_false_iff_not]
  intro k
  exact h ⟨k.1, k.2.1, k.2.2.1⟩
theorem leads_yes {yi oi : Int} {yk ok : List UInt8} (h1 : 0 ≤ oi) (h2 : oi ≤ yi) (h3 : yk.length = 32) : leadsB yi yk oi ok = (decide (backC (yi - oi) = 0) && decide (backA yk (yi - oi) = ok)) := by
  rw [leadsB, backC, backA]
  by_cases h : yi - oi < 0 ∨ 64 < yi - oi
  · rw [if_pos h, if_pos h]
    have : ¬ yi - oi ≤ 64 := by omega
    simp [this]
  · rw [if_neg h, if_neg h]
    have : yi - oi ≤ 64 := by omega
    simp [h1, h2, h3, this]

set_option maxRecDepth 100000 in
set_option maxHeartbeats 1000000 in
theorem refLeads_any (yi oi : Int) (yk ok : List UInt8) (hy : yi ≤ 9223372036854775807) (ho : -9223372036854775808 ≤ oi) (w : World) :
    Calls Tryd.prog 26 #[gateV yi yk, gateV oi ok] w fun e w' => e = .returned (.bool (leadsB yi yk oi ok)) ∧ Below w.heap.size w w' := by
  obtain ⟨R, hR⟩ : ∃ R, R = leadsB yi yk oi ok := ⟨_, rfl⟩
  rw [← hR]
  have HR := Lib.hid hR
  clear hR
  simp only [gateV]
  go_enter Tryd.func26, Tryd.ntmps26
  go_wp2_with (refine wpList_box_row rfl 23 (.tmp 0) rfl (gateC yi yk) rfl ?_)
  intro w1 b1 x1 z1
  have X1 : Hid (GateAt w1 w.heap.size yi yk) := Lib.hid x1
  have B1 := Lib.hid b1
  clear b1 x1 z1
  go_wp2_with (refine wpList_box_row rfl 23 _ rfl (gateC oi ok) rfl ?_)
  intro w2 b2 x2 z2
  have X2 : Hid (GateAt w2 w.heap.size yi yk) := Lib.hid (Whole.below X1.out b2 X1.out.lt)
  have Y2 : Hid (GateAt w2 w1.heap.size oi ok) := Lib.hid x2
  have B2 := Lib.hid (B1.out.trans (b2.mono B1.out.size))
  obtain ⟨g, hg⟩ : ∃ g, g = w.heap.size := ⟨_, rfl⟩
  rw [← hg] at X2 ⊢
  obtain ⟨x, hx⟩ : ∃ x, x = w1.heap.size := ⟨_, rfl⟩
  rw [← hx] at Y2 ⊢
  clear b2 x2 z2 X1 B1 hg hx
  obtain ⟨a0, a1⟩ := X2.out.two
  obtain ⟨c0, c1⟩ := Y2.out.two
  by_cases h1 : oi < 0
  · have d1 : decide (oi < 0) = true := by simpa using h1
    have HF : Hid (R = false) := Lib.hid (by rw [HR.out]; exact leads_no (by omega))
    clear h1
    go_wp2
    go_ret
    exact ⟨by rw [HF.out]; rfl, B2.out⟩
  have d1 : decide (oi < 0) = false := by simpa using h1
  by_cases h2 : yi < 0
  · have d2 : decide (yi < 0) = true := by simpa using h2
    have HF : Hid (R = false) := Lib.hid (by rw [HR.out]; exact leads_no (by omega))
    clear h1 h2
    go_wp2
    go_ret
    exact ⟨by rw [HF.out]; rfl, B2.out⟩
  have d2 : decide (yi < 0) = false := by simpa using h2
  by_cases h3 : yk.length = 32
  · by_cases h4 : yi < oi
    · have d3 : ((yk.length : Int) != 32) = false := by rw [h3]; rfl
      have d3n : (yk.length != 32) = false := by rw [h3]; rfl
      have d4 : decide (yi < oi) = true := by simpa using h4
      have HF : Hid (R = false) := Lib.hid (by rw [HR.out]; exact leads_no (by omega))
      clear h1 h2 h3 h4
      go_wp2
      go_ret
      exact ⟨by rw [HF.out]; rfl, B2.out⟩
    · have d3 : ((yk.length : Int) != 32) = false := by rw [h3]; rfl
      have d3n : (yk.length != 32) = false := by rw [h3]; rfl
      have d4 : decide (yi < oi) = false := by simpa using h4
      have HF := Lib.hid (leads_yes (ok := ok) (by omega : 0 ≤ oi) (by omega : oi ≤ yi) h3)
      have C := Lib.hid (refBack_any yk (yi - oi) w2 (by omega))
      obtain ⟨z, hz⟩ : ∃ z, z = yi - oi := ⟨_, rfl⟩
      have r : IntKind.i64.wrap (yi - oi) = z := by rw [hz]; exact IntWalk.i64_in _ (by omega)
      rw [← hz] at HF C
      obtain ⟨ec, hec⟩ : ∃ ec, ec = backC z := ⟨_, rfl⟩
      obtain ⟨ek, hek⟩ : ∃ ek, ek = backA yk z := ⟨_, rfl⟩
      rw [← hec, ← hek] at HF C
      clear h1 h2 h3 h4 hz hec hek
      go_wp2_with fail
      refine C.out.mono ?_
      rintro e w3 ⟨rfl, b3⟩
      have Y3 : Hid (GateAt w3 x oi ok) := Lib.hid (Whole.below Y2.out b3 Y2.out.lt)
      have B3 := Lib.hid (B2.out.trans (b3.mono B2.out.size))
      clear b3 C X2 Y2 B2 a0 a1 c0 c1
      obtain ⟨c0, c1⟩ := Y3.out.two
      by_cases he : ec = 0
      · have de : (ec == 0) = true := by simp [he]
        obtain ⟨q, hq⟩ : ∃ q, q = decide (ek = ok) := ⟨_, rfl⟩
        have dq : (ek == ok) = q := by rw [hq]; by_cases k : ek = ok <;> simp [k]
        have dq2 : decide (ek = ok) = q := hq.symm
        have HQ : Hid (R = q) := Lib.hid (by rw [HR.out, HF.out, ← hq, he]; simp)
        clear he hq
        go_wp2
        go_ret
        exact ⟨by rw [HQ.out]; rfl, B3.out⟩
      · have de : (ec == 0) = false := by simp [he]
        have HQ : Hid (R = false) := Lib.hid (by rw [HR.out, HF.out, decide_eq_false he]; rfl)
        clear he
        go_wp2
        go_ret
        exact ⟨by rw [HQ.out]; rfl, B3.out⟩
  · have d3 : ((yk.length : Int) != 32) = true := by simp; omega
    have d3n : (yk.length != 32) = true := by simp; omega
    have HF : Hid (R = false) := Lib.hid (by rw [HR.out]; exact leads_no (fun k => h3 k.2.2))
    clear h1 h2 h3
    go_wp2
    go_ret
    exact ⟨by rw [HF.out]; rfl, B2.out⟩
end Go.Proofs.YtehalcopkjfdkaaDoor
