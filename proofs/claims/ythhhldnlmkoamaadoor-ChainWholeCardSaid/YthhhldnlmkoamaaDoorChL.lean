/- The document's Leads of layer 12; gates in memory. -/
import Derived.Test.YthhhldnlmkoamaaDoorChR
namespace Go.Proofs.YthhhldnlmkoamaaDoor
open Go.RowKit

/-- What Leads answers, in the order in which it asks. -/
theorem leads_no {yi oi : Int} {yk ok : List UInt8} (h : ¬ (0 ≤ oi ∧ oi ≤ yi ∧ yk.length = 32)) : leadsB yi yk oi ok = false := by
  rw [leadsB, decide_eq_false_iff_not]
  intro k
  exact h ⟨k.1, k.2.1, k.2.2.1⟩
theorem leads_yes {yi oi : Int} {yk ok : List UInt8} (h1 : 0 ≤ oi) (h2 : oi ≤ yi) (h3 : yk.length = 32) : leadsB yi yk oi ok = (decide (backC (yi - oi) = 0) && decide (backA yk (yi - oi) = ok)) := by
  rw [leadsB, backC, backA]
  by_cases h : yi - oi < 0 ∨ 64 < yi - oi
  · rw [if_pos h, if_pos h]
    have : ¬ yi - oi ≤ 64 := by omega
    simp [this]
  · rw [if_neg h, if_neg h]
    have : yi - oi ≤ 64 := by omega
    simp [h1, h2, h3, this]

set_option maxRecDepth 100000 in
set_option maxHeartbeats 1000000 in
theorem refLeads_any (yi oi : Int) (yk ok : List UInt8) (hy : yi ≤ 9223372036854775807) (ho : -9223372036854775808 ≤ oi) (w : World) :
    Calls Tryd.prog 14 #[gateV yi yk, gateV oi ok] w fun e w' => e = .returned (.bool (leadsB yi yk oi ok)) ∧ Below w.heap.size w w' := by
  obtain ⟨R, hR⟩ : ∃ R, R = leadsB yi yk oi ok := ⟨_, rfl⟩
  rw [← hR]
  have HR := Lib.hid hR
  clear hR
  simp only [gateV]
  go_enter Tryd.func14, Tryd.ntmps14
  go_wp2_with (refine wpList_box_row rfl 33 (.tmp 0) rfl (gateC yi yk) rfl ?_)
  intro w1 b1 x1 z1
  have X1 : Hid (GateAt w1 w.heap.size yi yk) := Lib.hid x1
  have B1 := Lib.hid b1
  clear b1 x1 z1
  go_wp2_with (refine wpList_box_row rfl 33 _ rfl (gateC oi ok) rfl ?_)
  intro w2 b2 x2 z2
  have X2 : Hid (GateAt w2 w.heap.size yi yk) := Lib.hid (Whole.below X1.out b2 X1.out.lt)
  have Y2 : Hid (GateAt w2 w1.heap.size oi ok) := Lib.hid x2
  have B2 := Lib.hid (B1.out.trans (b2.mono B1.out.size))
  obtain ⟨g, hg⟩ : ∃ g, g = w.heap.size := ⟨_, rfl⟩
  rw [← hg] at X2 ⊢
  obtain ⟨x, hx⟩ : ∃ x, x = w1.heap.size := ⟨_, rfl⟩
  rw [← hx] at Y2 ⊢
  clear b2 x2 z2 X1 B1 hg hx
  obtain ⟨a0, a1⟩ := X2.out.two
  obtain ⟨c0, c1⟩ := Y2.out.two
  by_cases h1 : oi < 0
  · have d1 : decide (oi < 0) = true := by simpa using h1
    have HF : Hid (R = false) := Lib.hid (by rw [HR.out]; exact leads_no (by omega))
    clear h1
    go_wp2
    go_ret
    exact ⟨by rw [HF.out]; rfl, B2.out⟩
  have d1 : decide (oi < 0) = false := by simpa using h1
  by_cases h2 : yi < 0
  · have d2 : decide (yi < 0) = true := by simpa using h2
    have HF : Hid (R = false) := Lib.hid (by rw [HR.out]; exact leads_no (by omega))
    clear h1 h2
    go_wp2
    go_ret
    exact ⟨by rw [HF.out]; rfl, B2.out⟩
  have d2 : decide (yi < 0) = false := by simpa using h2
  by_cases h3 : yk.length = 32
  · by_cases h4 : yi < oi
    · have d3 : ((yk.length : Int) != 32) = false := by rw [h3]; rfl
      have d3n : (yk.length != 32) = false := by rw [h3]; rfl
      have d4 : decide (yi < oi) = true := by simpa using h4
      have HF : Hid (R = false) := Lib.hid (by rw [HR.out]; exact leads_no (by omega))
      clear h1 h2 h3 h4
      go_wp2
      go_ret
      exact ⟨by rw [HF.out]; rfl, B2.out⟩
    · have d3 : ((yk.length : Int) != 32) = false := by rw [h3]; rfl
      have d3n : (yk.length != 32) = false := by rw [h3]; rfl
      have d4 : decide (yi < oi) = false := by simpa using h4
      have HF := Lib.hid (leads_yes (ok := ok) (by omega : 0 ≤ oi) (by omega : oi ≤ yi) h3)
      have C := Lib.hid (refBack_any yk (yi - oi) w2 (by omega))
      obtain ⟨z, hz⟩ : ∃ z, z = yi - oi := ⟨_, rfl⟩
      have r : IntKind.i64.wrap (yi - oi) = z := by rw [hz]; exact IntWalk.i64_in _ (by omega)
      rw [← hz] at HF C
      obtain ⟨ec, hec⟩ : ∃ ec, ec = backC z := ⟨_, rfl⟩
      obtain ⟨ek, hek⟩ : ∃ ek, ek = backA yk z := ⟨_, rfl⟩
      rw [← hec, ← hek] at HF C
      clear h1 h2 h3 h4 hz hec hek
      go_wp2_with fail
      refine C.out.mono ?_
      rintro e w3 ⟨rfl, b3⟩
      have Y3 : Hid (GateAt w3 x oi ok) := Lib.hid (Whole.below Y2.out b3 Y2.out.lt)
      have B3 := Lib.hid (B2.out.trans (b3.mono B2.out.size))
      clear b3 C X2 Y2 B2 a0 a1 c0 c1
      obtain ⟨c0, c1⟩ := Y3.out.two
      by_cases he : ec = 0
      · have de : (ec == 0) = true := by simp [he]
        obtain ⟨q, hq⟩ : ∃ q, q = decide (ek = ok) := ⟨_, rfl⟩
        have dq : (ek == ok) = q := by rw [hq]; by_cases k : ek = ok <;> simp [k]
        have dq2 : decide (ek = ok) = q := hq.symm
        have HQ : Hid (R = q) := Lib.hid (by rw [HR.out, HF.out, ← hq, he]; simp)
        clear he hq
        go_wp2
        go_ret
        exact ⟨by rw [HQ.out]; rfl, B3.out⟩
      · have de : (ec == 0) = false := by simp [he]
        have HQ : Hid (R = false) := Lib.hid (by rw [HR.out, HF.out, decide_eq_false he]; rfl)
        clear he
        go_wp2
        go_ret
        exact ⟨by rw [HQ.out]; rfl, B3.out⟩
  · have d3 : ((yk.length : Int) != 32) = true := by simp; omega
    have d3n : (yk.length != 32) = true := by simp; omega
    have HF : Hid (R = false) := Lib.hid (by rw [HR.out]; exact leads_no (fun k => h3 k.2.2))
    clear h1 h2 h3
    go_wp2
    go_ret
    exact ⟨by rw [HF.out]; rfl, B2.out⟩
end Go.Proofs.YthhhldnlmkoamaaDoor
