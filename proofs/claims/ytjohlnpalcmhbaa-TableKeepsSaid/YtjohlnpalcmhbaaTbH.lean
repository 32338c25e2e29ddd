/- Layers 22, 23: the statements' own Great: of a session, and of several. -/
import Derived.Test.YtjohlnpalcmhbaaTbM
import Derived.Test.YtjohlnpalcmhbaaEnG
import Derived.Test.YtjohlnpalcmhbaaGenR
import Derived.BigQuiet
import Derived.Deep.LoopGhost
namespace Go.Proofs.Ytjohlnpalcmhbaa
set_option maxRecDepth 100000
open Go.RowKit

def greatSes (s : Ses) : Bool := decide (300 < s.send.length) || decide (300 < s.hear.length) || greatB s.peer
def greatSs (l : List Ses) : Bool := decide (60 < l.length) || l.any greatSes
theorem greatSs_no {l : List Ses} (h : greatSs l = false) : l.length ≤ 60 := by
  rw [greatSs, Bool.or_eq_false_iff, decide_eq_false_iff_not] at h
  omega
set_option maxRecDepth 100000 in
set_option maxHeartbeats 1000000 in
theorem greatSes_any (s : Ses) (w : World) : Calls Try.prog 18 #[s.val] w fun e w' => e = .returned (.bool (greatSes s)) ∧ Below w.heap.size w w' := by
  obtain ⟨b1, h1⟩ : ∃ b, b = decide (300 < s.send.length) := ⟨_, rfl⟩
  obtain ⟨b2, h2⟩ : ∃ b, b = decide (300 < s.hear.length) := ⟨_, rfl⟩
  have CG := Lib.hid (fun w => great_any s.peer w)
  obtain ⟨b3, h3⟩ : ∃ b, b = greatB s.peer := ⟨_, rfl⟩
  have HB : Hid (greatSes s = (b1 || b2 || b3)) := Lib.hid (by rw [greatSes, ← h1, ← h2, ← h3])
  simp only [← h3] at CG
  have r1 : decide ((300 : Int) < (s.send.length : Int)) = b1 := by rw [h1]; congr 1; apply propext; omega
  have r2 : decide ((300 : Int) < (s.hear.length : Int)) = b2 := by rw [h2]; congr 1; apply propext; omega
  have r3 := h1.symm
  have r4 := h2.symm
  rw [HB.out]
  clear h1 h2 h3 HB
  go_enter Try.func18, Try.ntmps18
  go_wp2_with (refine wpList_box_row rfl 36 _ rfl s.enc.toArray (by with_unfolding_all exact rfl) ?_)
  intro w1 b1 x1 z1
  obtain ⟨gS, hgS⟩ : ∃ g, g = w.heap.size := ⟨_, rfl⟩
  have M_S := Lib.hid (show w.heap.size ≤ gS from by rw [hgS]; exact Nat.le_refl _)
  have B1 := Lib.hid b1
  rw [← hgS] at x1 ⊢
  have S1 : Hid (Ses.At w1 gS s) := Lib.hid x1
  clear b1 x1 z1 hgS 
  have c1 := Ses.At.at_send S1.out
  have c2 := Ses.At.at_hear S1.out
  cases b1 with
  | true =>
    go_wp2
    go_ret
    exact ⟨rfl, B1.out⟩
  | false =>
    cases b2 with
    | true =>
      go_wp2
      go_ret
      exact ⟨rfl, B1.out⟩
    | false =>
      go_wp2_with (first | (with_reducible refine wpList_load_whole Ses.isRec rfl _ rfl gS (by with_unfolding_all exact rfl) _ _ (Ses.len _) S1.out ?_) | (with_reducible refine wpList_load_rec Ent.isRec rfl _ rfl gS 2 (by with_unfolding_all exact rfl) _ (Ent.len _) (Ses.At.part_peer S1.out) ?_) | (with_reducible refine wpList_load_rec Win.isRec rfl _ rfl gS 16 (by with_unfolding_all exact rfl) _ (Win.len _) (Ses.At.part_seen S1.out) ?_) | (with_reducible refine wpList_load_rec_w Ent.isRec (by kernel_rfl) _ rfl gS 2 (by with_unfolding_all exact rfl) _ (Ent.len _) (Ses.At.part_peer S1.out) ?_))
      refine (CG.out w1).mono ?_
      rintro e2 w2 ⟨rfl, b2⟩
      have S2 : Hid (Ses.At w2 gS s) := Lib.hid (Whole.below S1.out b2 S1.out.lt)
      have B2 := Lib.hid (B1.out.trans (b2.mono B1.out.size))
      clear b2 S1 B1
      go_wp2
      go_ret
      exact ⟨rfl, B2.out⟩

set_option maxHeartbeats 1000000 in
theorem greatSs_any (A : Option Addr) (m cap : Nat) (l : List Ses) (w : World) (h : RowsAt w (.slice A m cap) 20 (l.map Ses.enc)) :
    Calls Try.prog 7 #[.slice A m cap] w fun e w' => e = .returned (.bool (greatSs l)) ∧ Below w.heap.size w w' := by
  have hlen := h.size.1
  rw [List.length_map] at hlen
  have H := Lib.hid h
  have HL := Lib.hid hlen
  obtain ⟨R, hR⟩ : ∃ q, q = greatSs l := ⟨_, rfl⟩
  have HR : Hid (R = (decide (60 < m) || l.any greatSes)) := Lib.hid (by rw [hR, greatSs, hlen])
  rw [← hR]
  clear h hlen hR
  by_cases hb : 60 < m
  · have d : decide ((m : Int) > 60) = true := by simp; omega
    have d' : decide ((60 : Int) < (m : Int)) = true := by simp; omega
    have HV : Hid (R = true) := Lib.hid (by rw [HR.out, decide_eq_true hb, Bool.true_or])
    clear hb
    go_enter Try.func7, Try.ntmps7
    go_wp2
    go_ret
    exact ⟨by rw [HV.out]; rfl, Below.refl _ _⟩
  · have d : decide ((m : Int) > 60) = false := by simp; omega
    have d' : decide ((60 : Int) < (m : Int)) = false := by simp; omega
    have HN : Hid (m ≤ 60) := Lib.hid (by omega)
    have HR2 : Hid (R = l.any greatSes) := Lib.hid (by rw [HR.out, decide_eq_false hb, Bool.false_or])
    clear hb
    go_enter Try.func7, Try.ntmps7
    go_wp2_with fail
    go_loopw [3] (fun i wr => ∃ k : Nat, k ≤ m ∧ i = .int .i64 (k : Int) ∧ (∀ e ∈ l.take k, greatSes e = false) ∧ Below w.heap.size w wr) (fun i _ => m - (intOf i).toNat)
    case atStart => exact ⟨0, Nat.zero_le _, rfl, by simp, Below.refl _ _⟩
    case round =>
      obtain ⟨k, hk, rfl, hr, hb⟩ := hrel
      have HK := Lib.hid hr
      have B0 := Lib.hid hb
      clear hr hb
      by_cases hlt : k < m
      · have dk : decide ((k : Int) < (m : Int)) = true := by simp; omega
        have jk : (k : Int) < (m : Int) := by omega
        have r4 : IntKind.i64.wrap ((k : Int) + 1) = ((k + 1 : Nat) : Int) := by have := HN.out; rw [IntWalk.i64_in _ (by omega)]; omega
        obtain ⟨x, hx⟩ : ∃ x, l[k]? = some x := ⟨_, List.getElem?_eq_getElem (by rw [← HL.out]; exact hlt)⟩
        obtain ⟨b, off, rfl, hbl, hc⟩ := H.out.row (fun c hc => by obtain ⟨y, _, rfl⟩ := List.mem_map.1 hc; exact y.len) (by decide) (by rw [List.getElem?_map, hx]; rfl : (l.map Ses.enc)[k]? = some x.enc)
        have HC := Lib.hid (fun j u (hj : x.enc[j]? = some u) => (B0.out.cell (p := ⟨b, off + k * 20 + j, none⟩) hbl).trans (hc j u hj))
        have HT : Hid (l.take (k + 1) = l.take k ++ [x]) := Lib.hid (by rw [List.take_add_one, hx]; rfl)
        have HXM := Lib.hid (List.mem_of_getElem? hx)
        have CG := Lib.hid (fun w => greatSes_any x w)
        obtain ⟨gx, hgx⟩ : ∃ q, q = greatSes x := ⟨_, rfl⟩
        rw [← hgx] at CG
        have HGX := Lib.hid hgx
        clear hc hx hgx
        go_wp2_with (with_reducible refine wpList_load_rec Ses.isRec rfl _ rfl b (off + k * 20) (by with_unfolding_all exact rfl) x.enc (Ses.len _) HC.out ?_)
        refine (CG.out wr).mono ?_
        rintro e w1 ⟨rfl, b1⟩
        have B1 := Lib.hid (B0.out.trans (b1.mono B0.out.size))
        clear b1 HC CG
        cases gx with
        | true =>
          have HV : Hid (R = true) := Lib.hid (by rw [HR2.out, List.any_eq_true]; exact ⟨x, HXM.out, HGX.out.symm⟩)
          go_wp2
          go_ret
          exact ⟨by rw [HV.out]; rfl, B1.out⟩
        | false =>
          have HV : Hid (∀ e ∈ l.take (k + 1), greatSes e = false) := Lib.hid (by
            intro d hd
            rw [HT.out] at hd
            rcases List.mem_append.1 hd with q | q
            · exact HK.out d q
            · rw [List.mem_singleton] at q; subst q; exact HGX.out.symm)
          go_wp2
          exact ⟨⟨k + 1, by omega, by go_num, HV.out, B1.out⟩, by simp [intOf]; omega⟩
      · have dk : decide ((k : Int) < (m : Int)) = false := by simp; omega
        have HV : Hid (R = false) := Lib.hid (by
          have q := HK.out
          rw [List.take_of_length_le (by rw [← HL.out]; omega)] at q
          rw [HR2.out, List.any_eq_false]
          intro d hd
          simpa using q d hd)
        go_wp2
        go_ret
        exact ⟨by rw [HV.out]; rfl, B0.out⟩
end Go.Proofs.Ytjohlnpalcmhbaa
