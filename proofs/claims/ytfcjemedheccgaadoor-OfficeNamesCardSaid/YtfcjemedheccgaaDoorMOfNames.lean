/- OfficeNames' core. -/
import Derived.Test.YtfcjemedheccgaaDoorGbg
import Derived.Test.YtfcjemedheccgaaDoorMOfK
import Derived.Test.YtfcjemedheccgaaDoorMEnG
namespace Go.Proofs.YtfcjemedheccgaaDoor
set_option maxRecDepth 100000
open Go.RowKit

set_option maxHeartbeats 2000000 in
theorem offNames_core (A : Option Addr) (m cap : Nat) (l : List Ent) (hid : ∀ e ∈ l, e.id < 18446744073709551616) (w : World) (T : Tab w) (h : RowsAt w (.slice A m cap) 6 (l.map Ent.enc)) :
    Calls Tryd.prog 4 #[.slice A m cap] w fun e w' => e = .returned (.bool true) ∧ Below w.heap.size w w' := by
  have hlen := h.size.1
  rw [List.length_map] at hlen
  have H := Lib.hid h
  have HL := Lib.hid hlen
  have HE := Lib.hid hid
  have T0 := Lib.hid T
  clear h hlen hid T
  by_cases hb : 100 < m
  · have d : decide ((m : Int) > 100) = true := by simp; omega
    have d' : decide ((100 : Int) < (m : Int)) = true := by simp; omega
    go_enter Tryd.func4, Tryd.ntmps4
    go_wp2_with fail
    refine (works14 w T0.out).mono ?_
    rintro e w1 ⟨rfl, b1⟩
    have B1 := Lib.hid b1
    clear b1
    go_wp2
    go_ret
    exact ⟨rfl, B1.out⟩
  · have d : decide ((m : Int) > 100) = false := by simp; omega
    have d' : decide ((100 : Int) < (m : Int)) = false := by simp; omega
    have HN : Hid (m ≤ 100) := Lib.hid (by omega)
    clear hb
    go_enter Tryd.func4, Tryd.ntmps4
    go_wp2_with fail
    go_loopw [3] (fun i wr => ∃ k : Nat, k ≤ m ∧ i = .int .i64 (k : Int) ∧ Below w.heap.size w wr) (fun i _ => m - (intOf i).toNat)
    case atStart => exact ⟨0, Nat.zero_le _, rfl, Below.refl _ _⟩
    case round =>
      obtain ⟨k, hk, rfl, hb⟩ := hrel
      have B0 := Lib.hid hb
      clear hb
      by_cases hlt : k < m
      · have dk : decide ((k : Int) < (m : Int)) = true := by simp; omega
        have jk : (k : Int) < (m : Int) := by omega
        have r4 : IntKind.i64.wrap ((k : Int) + 1) = ((k + 1 : Nat) : Int) := by have := HN.out; rw [IntWalk.i64_in _ (by omega)]; omega
        obtain ⟨x, hx⟩ : ∃ x, l[k]? = some x := ⟨_, List.getElem?_eq_getElem (by rw [← HL.out]; exact hlt)⟩
        obtain ⟨gl, off, rfl, hgl, hc⟩ := H.out.row (fun c hc => (entC_one l c hc).1) (by decide) (by rw [List.getElem?_map, hx]; rfl : (l.map Ent.enc)[k]? = some x.enc)
        have HC := Lib.hid (fun j u (hj : x.enc[j]? = some u) => (B0.out.cell (p := ⟨gl, off + k * 6 + j, none⟩) hgl).trans (hc j u hj))
        have C := Lib.hid (great_any x wr)
        generalize greatB x = q at C
        clear hx hc hgl
        go_wp2_with (with_reducible refine wpList_load_rec Ent.isRec rfl _ rfl gl (off + k * 6) (by with_unfolding_all exact rfl) x.enc (Ent.len _) HC.out ?_)
        refine C.out.mono ?_
        rintro e w1 ⟨rfl, b1⟩
        have B1 := Lib.hid (B0.out.trans (b1.mono B0.out.size))
        clear b1 C HC B0
        cases q with
        | true =>
          go_wp2_with fail
          refine (works14 w1 (T0.out.below B1.out T0.out.pos)).mono ?_
          rintro e w2 ⟨rfl, b2⟩
          have B2 := Lib.hid (B1.out.trans (b2.mono B1.out.size))
          clear b2
          go_wp2
          go_ret
          exact ⟨rfl, B2.out⟩
        | false =>
          go_wp2
          exact ⟨⟨k + 1, by omega, by go_num, B1.out⟩, by simp [intOf]; omega⟩
      · have dk : decide ((k : Int) < (m : Int)) = false := by simp; omega
        have C1 := Lib.hid (injective_any A m cap l (by have := HN.out; omega) HE.out wr (H.out.below B0.out))
        have C2 := fun w2 (b : Below wr.heap.size wr w2) => Lib.hid (refInjective_any A m cap l (by have := HN.out; omega) w2 ((H.out.below B0.out).below b))
        obtain ⟨q, hq⟩ : ∃ q, q = injB l := ⟨_, rfl⟩
        rw [← hq] at C1 C2
        clear hq
        go_wp2_with fail
        refine C1.out.mono ?_
        rintro e w1 ⟨rfl, b1⟩
        have B1 := Lib.hid (B0.out.trans (b1.mono B0.out.size))
        have C3 := Lib.hid (C2 w1 b1).out
        clear b1 C1 C2
        go_wp2_with fail
        refine C3.out.mono ?_
        rintro e w2 ⟨rfl, b2⟩
        have B2 := Lib.hid (B1.out.trans (b2.mono B1.out.size))
        clear b2 C3
        cases q
        all_goals
          go_wp2_with fail
          refine (works14 w2 (T0.out.below B2.out T0.out.pos)).mono ?_
          rintro e w3 ⟨rfl, b3⟩
          have B3 := Lib.hid (B2.out.trans (b3.mono B2.out.size))
          clear b3
          go_wp2
          go_ret
          exact ⟨rfl, B3.out⟩
end Go.Proofs.YtfcjemedheccgaaDoor
