/- The statements' own great: of several entries. -/
import Derived.Test.YtehalcopkjfdkaaDoorGba
import Derived.Test.YtehalcopkjfdkaaDoorGd
import Derived.BigQuiet
namespace Go.Proofs.YtehalcopkjfdkaaDoor
set_option maxRecDepth 100000
open Go.RowKit

def greatL (l : List Ent) : Bool := decide (50 < l.length) || l.any greatB
theorem cut_great1 {e : Ent} (h : greatB e = false) : e.name.length ≤ 1000 ∧ e.tag.length ≤ 1000 := by
  simp only [greatB, Bool.or_eq_false_iff, decide_eq_false_iff_not] at h
  omega
theorem greatL_no {l : List Ent} (h : greatL l = false) : l.length ≤ 50 ∧ ∀ e ∈ l, e.name.length ≤ 1000 ∧ e.tag.length ≤ 1000 := by
  rw [greatL, Bool.or_eq_false_iff, decide_eq_false_iff_not, List.any_eq_false] at h
  exact ⟨by omega, fun e he => cut_great1 (by simpa using h.2 e he)⟩
set_option maxHeartbeats 1000000 in
theorem greatL_any (A : Option Addr) (m cap : Nat) (l : List Ent) (w : World) (h : RowsAt w (.slice A m cap) 6 (l.map Ent.enc)) :
    Calls Tryd.prog 6 #[.slice A m cap] w fun e w' => e = .returned (.bool (greatL l)) ∧ Below w.heap.size w w' := by
  have hlen := h.size.1
  rw [List.length_map] at hlen
  have H := Lib.hid h
  have HL := Lib.hid hlen
  obtain ⟨R, hR⟩ : ∃ q, q = greatL l := ⟨_, rfl⟩
  have HR : Hid (R = (decide (50 < m) || l.any greatB)) := Lib.hid (by rw [hR, greatL, hlen])
  rw [← hR]
  clear h hlen hR
  by_cases hb : 50 < m
  · have d : decide ((m : Int) > 50) = true := by simp; omega
    have d' : decide ((50 : Int) < (m : Int)) = true := by simp; omega
    have HV : Hid (R = true) := Lib.hid (by rw [HR.out, decide_eq_true hb, Bool.true_or])
    clear hb
    go_enter Tryd.func6, Tryd.ntmps6
    go_wp2
    go_ret
    exact ⟨by rw [HV.out]; rfl, Below.refl _ _⟩
  · have d : decide ((m : Int) > 50) = false := by simp; omega
    have d' : decide ((50 : Int) < (m : Int)) = false := by simp; omega
    have HN : Hid (m ≤ 50) := Lib.hid (by omega)
    have HR2 : Hid (R = l.any greatB) := Lib.hid (by rw [HR.out, decide_eq_false hb, Bool.false_or])
    clear hb
    go_enter Tryd.func6, Tryd.ntmps6
    go_wp2_with fail
    go_loopw [3] (fun i wr => ∃ k : Nat, k ≤ m ∧ i = .int .i64 (k : Int) ∧ (∀ e ∈ l.take k, greatB e = false) ∧ Below w.heap.size w wr) (fun i _ => m - (intOf i).toNat)
    case atStart => exact ⟨0, Nat.zero_le _, rfl, by simp, Below.refl _ _⟩
    case round =>
      obtain ⟨k, hk, rfl, hr, hb⟩ := hrel
      have HK := Lib.hid hr
      have B0 := Lib.hid hb
      clear hr hb
      by_cases hlt : k < m
      · have dk : decide ((k : Int) < (m : Int)) = true := by simp; omega
        have jk : (k : Int) < (m : Int) := by omega
        have r4 : IntKind.i64.wrap ((k : Int) + 1) = ((k + 1 : Nat) : Int) := by have := HN.out; rw [IntWalk.i64_in _ (by omega)]; omega
        obtain ⟨x, hx⟩ : ∃ x, l[k]? = some x := ⟨_, List.getElem?_eq_getElem (by rw [← HL.out]; exact hlt)⟩
        obtain ⟨b, off, rfl, hbl, hc⟩ := H.out.row (fun c hc => by obtain ⟨y, _, rfl⟩ := List.mem_map.1 hc; exact y.len) (by decide) (by rw [List.getElem?_map, hx]; rfl : (l.map Ent.enc)[k]? = some x.enc)
        have HC := Lib.hid (fun j u (hj : x.enc[j]? = some u) => (B0.out.cell (p := ⟨b, off + k * 6 + j, none⟩) hbl).trans (hc j u hj))
        have HT : Hid (l.take (k + 1) = l.take k ++ [x]) := Lib.hid (by rw [List.take_add_one, hx]; rfl)
        have HXM := Lib.hid (List.mem_of_getElem? hx)
        have CG := Lib.hid (fun w => great_any x w)
        obtain ⟨gx, hgx⟩ : ∃ q, q = greatB x := ⟨_, rfl⟩
        rw [← hgx] at CG
        have HGX := Lib.hid hgx
        clear hc hx hgx
        go_wp2_with (with_reducible refine wpList_load_rec Ent.isRec rfl _ rfl b (off + k * 6) (by with_unfolding_all exact rfl) x.enc (Ent.len _) HC.out ?_)
        refine (CG.out wr).mono ?_
        rintro e w1 ⟨rfl, b1⟩
        have B1 := Lib.hid (B0.out.trans (b1.mono B0.out.size))
        clear b1 HC CG
        cases gx with
        | true =>
          have HV : Hid (R = true) := Lib.hid (by rw [HR2.out, List.any_eq_true]; exact ⟨x, HXM.out, HGX.out.symm⟩)
          go_wp2
          go_ret
          exact ⟨by rw [HV.out]; rfl, B1.out⟩
        | false =>
          have HV : Hid (∀ e ∈ l.take (k + 1), greatB e = false) := Lib.hid (by
            intro d hd
            rw [HT.out] at hd
            rcases List.mem_append.1 hd with q | q
            · exact HK.out d q
            · rw [List.mem_singleton] at q; subst q; exact HGX.out.symm)
          go_wp2
          exact ⟨⟨k + 1, by omega, by go_num, HV.out, B1.out⟩, by simp [intOf]; omega⟩
      · have dk : decide ((k : Int) < (m : Int)) = false := by simp; omega
        have HV : Hid (R = false) := Lib.hid (by
          have q := HK.out
          rw [List.take_of_length_le (by rw [← HL.out]; omega)] at q
          rw [HR2.out, List.any_eq_false]
          intro d hd
          simpa using q d hd)
        go_wp2
        go_ret
        exact ⟨by rw [HV.out]; rfl, B0.out⟩
end Go.Proofs.YtehalcopkjfdkaaDoor
