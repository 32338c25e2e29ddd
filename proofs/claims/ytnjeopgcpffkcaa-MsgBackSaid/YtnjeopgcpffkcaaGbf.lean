/- The statements' own: Great, works; the document's Answer. -/
import Derived.Test.YtnjeopgcpffkcaaGbc
import Derived.Test.YtnjeopgcpffkcaaGbe
import Derived.Deep.LoopGhost
namespace Go.Proofs.Ytnjeopgcpffkcaa
set_option maxRecDepth 100000
open Go.RowKit

set_option maxHeartbeats 4000000 in
theorem refAnswer_any (k : Int) (w : World) : Calls Try.prog 23 #[.int .i64 k] w fun e w' => e = .returned (.int .i64 (answerK k)) ∧ Below w.heap.size w w' := by
  rcases kinds k with rfl | rfl | rfl | rfl | rfl | rfl | rfl | rfl | rfl | rfl | rfl | rfl | rfl | rfl | rfl | rfl | hk
  case inr.inr.inr.inr.inr.inr.inr.inr.inr.inr.inr.inr.inr.inr.inr.inr =>
    have HF := Lib.hid (answer_out hk)
    rw [HF.out]
    by_cases h0 : k = 0
    · subst h0
      clear hk
      go_enter Try.func23, Try.ntmps23
      go_wp2
      go_ret
      exact ⟨rfl, (Below.refl _ _).alloc (Nat.le_refl _) _⟩
    · by_cases h1 : k < 0
      · have d1 : decide (k < 0) = true := by simpa using h1
        clear hk
        go_enter Try.func23, Try.ntmps23
        go_wp2
        go_ret
        exact ⟨rfl, (Below.refl _ _).alloc (Nat.le_refl _) _⟩
      · have d1 : decide (k < 0) = false := by simpa using h1
        have d2 : decide (16 < k) = true := by simp; omega
        clear hk
        go_enter Try.func23, Try.ntmps23
        go_wp2
        go_ret
        exact ⟨rfl, (Below.refl _ _).alloc (Nat.le_refl _) _⟩
  all_goals
    go_enter Try.func23, Try.ntmps23
    go_wp2
    go_ret
    exact ⟨rfl, (Below.refl _ _).alloc (Nat.le_refl _) _⟩

/-! ### too great to be asked of -/
def greatI (i : Item) : Bool := decide (300 < i.key.length) || decide (300 < i.text.length)
def greatM (m : Mg) : Bool := decide (300 < m.key.length) || decide (300 < m.val.length) || decide (30 < m.es.length) || decide (30 < m.its.length) || m.es.any greatB || m.its.any greatI
theorem anyTake {α : Type} {f : α → Bool} {l : List α} {k : Nat} {x : α} (h : l[k]? = some x) : (l.take (k + 1)).any f = ((l.take k).any f || f x) := by
  rw [take_at h, List.any_append]
  simp
theorem anyTrue {α : Type} {f : α → Bool} {l : List α} {k : Nat} {x : α} (h : l[k]? = some x) (hx : f x = true) : l.any f = true := by
  rw [List.any_eq_true]
  exact ⟨x, List.mem_of_getElem? h, hx⟩

set_option maxHeartbeats 8000000 in
theorem greatM_any (m : Mg) (e t : Row) (w : World) (h : Lists w e t m) :
    Calls Try.prog 7 #[(m.raw e t).val] w fun x w' => x = .returned (.bool (greatM m)) ∧ Below w.heap.size w w' := by
  obtain ⟨eA, eN, eC⟩ := e
  obtain ⟨tA, tN, tC⟩ := t
  have HEN := Lib.hid (show eN = m.es.length from h.en)
  have HTN := Lib.hid (show tN = m.its.length from h.tn)
  have HES := Lib.hid (show RowsAt w (.slice eA eN eC) 6 (m.es.map Ent.enc) from h.es)
  have HITS := Lib.hid (show RowsAt w (.slice tA tN tC) 4 (m.its.map Item.enc) from h.its)
  obtain ⟨q, hq⟩ : ∃ q, q = greatM m := ⟨_, rfl⟩
  have HQ : Hid (q = (decide (300 < m.key.length) || decide (300 < m.val.length) || decide (30 < m.es.length) || decide (30 < m.its.length) || m.es.any greatB || m.its.any greatI)) := Lib.hid hq
  rw [← hq]
  clear h hq
  go_enter Try.func7, Try.ntmps7
  go_wp2_with (refine wpList_box_row rfl 27 _ rfl (m.raw ⟨eA, eN, eC⟩ ⟨tA, tN, tC⟩).enc.toArray (by with_unfolding_all exact rfl) ?_)
  intro w1 b1 x1 z1
  obtain ⟨gM, hgM⟩ : ∃ g, g = w.heap.size := ⟨_, rfl⟩
  have M_M := Lib.hid (show w.heap.size ≤ gM from by rw [hgM]; exact Nat.le_refl _)
  have B1 := Lib.hid b1
  rw [← hgM] at x1 ⊢
  have M1 : Hid (Mr.At w1 gM (m.raw ⟨eA, eN, eC⟩ ⟨tA, tN, tC⟩)) := Lib.hid x1
  clear b1 x1 z1 hgM 
  obtain ⟨m0, m1, m2, m3, m4, m5, m6, m7, m8, m9, m10⟩ := Mr.At.all M1.out
  by_cases g0 : 300 < m.key.length
  · have d0 : decide ((300 : Int) < (m.key.length : Int)) = true := by simp; omega
    have HV : Hid (q = true) := Lib.hid (by rw [HQ.out, decide_eq_true g0]; simp)
    clear g0
    go_wp2
    go_ret
    exact ⟨by rw [HV.out]; rfl, B1.out⟩
  · have d0 : decide ((300 : Int) < (m.key.length : Int)) = false := by simp; omega
    by_cases g1 : 300 < m.val.length
    · have d1 : decide ((300 : Int) < (m.val.length : Int)) = true := by simp; omega
      have HV : Hid (q = true) := Lib.hid (by rw [HQ.out, decide_eq_true g1]; simp)
      clear g0 g1
      go_wp2
      go_ret
      exact ⟨by rw [HV.out]; rfl, B1.out⟩
    · have d1 : decide ((300 : Int) < (m.val.length : Int)) = false := by simp; omega
      by_cases g2 : 30 < eN
      · have d2 : decide ((30 : Int) < (eN : Int)) = true := by simp; omega
        have HV : Hid (q = true) := Lib.hid (by rw [HQ.out, ← HEN.out, decide_eq_true g2]; simp)
        clear g0 g1
        go_wp2
        go_ret
        exact ⟨by rw [HV.out]; rfl, B1.out⟩
      · have d2 : decide ((30 : Int) < (eN : Int)) = false := by simp; omega
        by_cases g3 : 30 < tN
        · have d3 : decide ((30 : Int) < (tN : Int)) = true := by simp; omega
          have HV : Hid (q = true) := Lib.hid (by rw [HQ.out, ← HTN.out, decide_eq_true g3]; simp)
          clear g0 g1 g2
          go_wp2
          go_ret
          exact ⟨by rw [HV.out]; rfl, B1.out⟩
        · have d3 : decide ((30 : Int) < (tN : Int)) = false := by simp; omega
          have HQ2 : Hid (q = (m.es.any greatB || m.its.any greatI)) := Lib.hid (by rw [HQ.out, ← HEN.out, ← HTN.out, decide_eq_false g0, decide_eq_false g1, decide_eq_false g2, decide_eq_false g3]; simp)
          have HL : Hid (eN ≤ 30 ∧ tN ≤ 30) := Lib.hid (by omega)
          clear g0 g1 g2 g3 HQ
          go_wp2_with fail
          go_loopw [3] (fun i wr => ∃ k : Nat, k ≤ eN ∧ i = .int .i64 (k : Int) ∧ (m.es.take k).any greatB = false ∧ Mr.At wr gM (m.raw ⟨eA, eN, eC⟩ ⟨tA, tN, tC⟩) ∧ Below w.heap.size w wr) (fun i _ => eN - (intOf i).toNat)
          case atStart => exact ⟨0, Nat.zero_le _, rfl, by simp, M1.out, B1.out⟩
          case round =>
            obtain ⟨k, hk, rfl, ht, hm, hb⟩ := hrel
            have T0 := Lib.hid ht
            have M0 := Lib.hid hm
            have B0 := Lib.hid hb
            clear ht hm hb M1 B1 m0 m1 m2 m3 m4 m5 m6 m7 m8 m9 m10
            obtain ⟨m0, m1, m2, m3, m4, m5, m6, m7, m8, m9, m10⟩ := Mr.At.all M0.out
            by_cases hlt : k < eN
            · have dk : decide ((k : Int) < (eN : Int)) = true := by simp; omega
              have dk2 : decide (k < eN) = true := by simp; omega
              have jk : (k : Int) < (eN : Int) := by omega
              obtain ⟨x, hx⟩ : ∃ x, m.es[k]? = some x := ⟨_, List.getElem?_eq_getElem (by rw [← HEN.out]; exact hlt)⟩
              obtain ⟨b, off, rfl, hbl, hc⟩ := HES.out.row (entC_len m.es) (by decide) (map_at hx)
              have HC := Lib.hid (fun j u (hj : x.enc[j]? = some u) => (B0.out.cell (p := ⟨b, off + k * 6 + j, none⟩) hbl).trans (hc j u hj))
              have HU : Hid (greatB x = false → (m.es.take (k + 1)).any greatB = false) := Lib.hid (fun e => by rw [anyTake hx, T0.out, e]; rfl)
              have HV : Hid (greatB x = true → q = true) := Lib.hid (fun e => by rw [HQ2.out, anyTrue hx e]; rfl)
              have CE := fun w => Lib.hid (great_any x w)
              have r4 : IntKind.i64.wrap ((k : Int) + 1) = ((k + 1 : Nat) : Int) := by have := HL.out; rw [IntWalk.i64_in _ (by omega)]; omega
              clear hc hx
              generalize greatB x = qx at *
              go_wp2_with (with_reducible refine wpList_load_rec Ent.isRec rfl _ rfl b (off + k * 6) (by with_unfolding_all exact rfl) x.enc (Ent.len _) HC.out ?_)
              refine (CE _).out.mono ?_
              rintro y u3 ⟨rfl, b3⟩
              have M3 : Hid (Mr.At u3 gM (m.raw ⟨some ⟨b, off, none⟩, eN, eC⟩ ⟨tA, tN, tC⟩)) := Lib.hid (Whole.below M0.out b3 M0.out.lt)
              have B3 := Lib.hid (B0.out.trans (b3.mono B0.out.size))
              clear b3 M0 B0 HC CE m0 m1 m2 m3 m4 m5 m6 m7 m8 m9 m10
              cases qx with
              | false =>
                have HW := Lib.hid (HU.out rfl)
                go_wp2
                exact ⟨⟨k + 1, by omega, by go_num, HW.out, M3.out, B3.out⟩, by simp [intOf]; omega⟩
              | true =>
                have HW := Lib.hid (HV.out rfl)
                go_wp2
                go_ret
                exact ⟨by rw [HW.out]; rfl, B3.out⟩
            · obtain rfl : k = eN := by omega
              have dk : decide ((k : Int) < (k : Int)) = false := by simp
              have HQ3 : Hid (q = m.its.any greatI) := Lib.hid (by have := T0.out; rw [List.take_of_length_le (by rw [← HEN.out]; omega)] at this; rw [HQ2.out, this]; rfl)
              clear T0
              go_wp2_with fail
              go_loopw [4] (fun i wr => ∃ j : Nat, j ≤ tN ∧ i = .int .i64 (j : Int) ∧ (m.its.take j).any greatI = false ∧ Mr.At wr gM (m.raw ⟨eA, k, eC⟩ ⟨tA, tN, tC⟩) ∧ Below w.heap.size w wr) (fun i _ => tN - (intOf i).toNat)
              case atStart => exact ⟨0, Nat.zero_le _, rfl, by simp, M0.out, B0.out⟩
              case round =>
                obtain ⟨j, hj, rfl, ht, hm, hb⟩ := hrel
                have T1 := Lib.hid ht
                have M4 := Lib.hid hm
                have B4 := Lib.hid hb
                clear ht hm hb M0 B0 m0 m1 m2 m3 m4 m5 m6 m7 m8 m9 m10
                obtain ⟨m0, m1, m2, m3, m4, m5, m6, m7, m8, m9, m10⟩ := Mr.At.all M4.out
                by_cases hlt : j < tN
                · have dj : decide ((j : Int) < (tN : Int)) = true := by simp; omega
                  have dj2 : decide (j < tN) = true := by simp; omega
                  have jk : (j : Int) < (tN : Int) := by omega
                  obtain ⟨x, hx⟩ : ∃ x, m.its[j]? = some x := ⟨_, List.getElem?_eq_getElem (by rw [← HTN.out]; exact hlt)⟩
                  obtain ⟨b, off, rfl, hbl, hc⟩ := HITS.out.row (itemC_len m.its) (by decide) (map_at hx)
                  have i0 : wr.cell? ⟨b, off + j * 4, none⟩ = some (.string ⟨x.key.toArray⟩) := (B4.out.cell (p := ⟨b, off + j * 4 + 0, none⟩) hbl).trans (hc 0 _ rfl)
                  have i1 : wr.cell? ⟨b, off + j * 4 + 1, none⟩ = some (.string ⟨x.text.toArray⟩) := (B4.out.cell (p := ⟨b, off + j * 4 + 1, none⟩) hbl).trans (hc 1 _ rfl)
                  have HU : Hid (greatI x = false → (m.its.take (j + 1)).any greatI = false) := Lib.hid (fun e => by rw [anyTake hx, T1.out, e]; rfl)
                  have HV : Hid (greatI x = true → q = true) := Lib.hid (fun e => by rw [HQ3.out, anyTrue hx e])
                  have r4 : IntKind.i64.wrap ((j : Int) + 1) = ((j + 1 : Nat) : Int) := by have := HL.out; rw [IntWalk.i64_in _ (by omega)]; omega
                  clear hc hx
                  by_cases k0 : 300 < x.key.length
                  · have x0 : decide ((300 : Int) < (x.key.length : Int)) = true := by simp; omega
                    have HW := Lib.hid (HV.out (by simp [greatI, k0]))
                    clear k0
                    go_wp2
                    go_ret
                    exact ⟨by rw [HW.out]; rfl, B4.out⟩
                  · have x0 : decide ((300 : Int) < (x.key.length : Int)) = false := by simp; omega
                    by_cases k1 : 300 < x.text.length
                    · have x1 : decide ((300 : Int) < (x.text.length : Int)) = true := by simp; omega
                      have HW := Lib.hid (HV.out (by simp [greatI, k1]))
                      clear k0 k1
                      go_wp2
                      go_ret
                      exact ⟨by rw [HW.out]; rfl, B4.out⟩
                    · have x1 : decide ((300 : Int) < (x.text.length : Int)) = false := by simp; omega
                      have HW := Lib.hid (HU.out (by simp [greatI, k0, k1]))
                      clear k0 k1
                      go_wp2
                      exact ⟨⟨j + 1, by omega, by go_num, HW.out, M4.out, B4.out⟩, by simp [intOf]; omega⟩
                · obtain rfl : j = tN := by omega
                  have dj : decide ((j : Int) < (j : Int)) = false := by simp
                  have HW : Hid (q = false) := Lib.hid (by have := T1.out; rw [List.take_of_length_le (by rw [← HTN.out]; omega)] at this; rw [HQ3.out, this])
                  go_wp2
                  go_ret
                  exact ⟨by rw [HW.out]; rfl, B4.out⟩
theorem great_small {m : Mg} (h : greatM m = false) : Small m ∧ m.key.length ≤ 300 ∧ m.val.length ≤ 300 ∧ (∀ e ∈ m.es, greatB e = false) := by
  simp only [greatM, Bool.or_eq_false_iff, decide_eq_false_iff_not] at h
  obtain ⟨⟨⟨⟨⟨h1, h2⟩, h3⟩, h4⟩, h5⟩, h6⟩ := h
  refine ⟨⟨by omega, by omega⟩, by omega, by omega, fun e he => ?_⟩
  have := List.any_eq_false.1 h5 e he
  simpa using this
end Go.Proofs.Ytnjeopgcpffkcaa
