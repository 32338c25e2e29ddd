/- Layer 24: the statements' own Great; Same of what is alike. -/
import Derived.Test.YtknccbdcfpncnaaPnL
import Derived.Test.YtknccbdcfpncnaaEnG
import Derived.Test.YtknccbdcfpncnaaGaQ
import Derived.Test.YtknccbdcfpncnaaEnSm
namespace Go.Proofs.Ytknccbdcfpncnaa
set_option maxRecDepth 100000
open Go.RowKit

theorem refPeersSame_eq (v v' : Value) (l : List Peer) (w : World) (hm : l.length ≤ 1000000) (h : RowsAt w v 8 (l.map Peer.enc)) (h' : RowsAt w v' 8 (l.map Peer.enc)) :
    Calls Try.prog 10 #[v, v'] w fun e w' => e = .returned (.bool true) ∧ Below w.heap.size w w' :=
  (refPeersSame_any_v v v' l l hm w h h').mono fun _ _ q => ⟨by rw [q.1, decide_eq_true rfl], q.2⟩
theorem refEntsSame_eq (v v' : Value) (l : List Ent) (w : World) (hm : l.length ≤ 4000000) (h : RowsAt w v 6 (l.map Ent.enc)) (h' : RowsAt w v' 6 (l.map Ent.enc)) :
    Calls Try.prog 21 #[v, v'] w fun e w' => e = .returned (.bool true) ∧ Below w.heap.size w w' :=
  (refEntsSame_any_v v v' l l hm w h h').mono fun _ _ q => ⟨by rw [q.1, decide_eq_true rfl], q.2⟩
def greatPs (l : List Peer) : Bool := decide (40 < l.length) || l.any fun p => greatB p.entry
theorem greatPs_no {l : List Peer} (h : greatPs l = false) : l.length ≤ 40 ∧ Short l := by
  rw [greatPs, Bool.or_eq_false_iff, decide_eq_false_iff_not, List.any_eq_false] at h
  refine ⟨by omega, fun p hp => ?_⟩
  have q := h.2 p hp
  rw [greatB, Bool.or_eq_true, decide_eq_true_eq, decide_eq_true_eq] at q
  omega
theorem greatB_no {e : Ent} (h : greatB e = false) : e.name.length ≤ 1000000 := by
  rw [greatB, Bool.or_eq_false_iff, decide_eq_false_iff_not] at h
  omega
set_option maxRecDepth 100000 in
set_option maxHeartbeats 1000000 in
theorem greatPs_any (A : Option Addr) (m cap : Nat) (l : List Peer) (w : World) (h : RowsAt w (.slice A m cap) 8 (l.map Peer.enc)) :
    Calls Try.prog 7 #[.slice A m cap] w fun e w' => e = .returned (.bool (greatPs l)) ∧ Below w.heap.size w w' := by
  have hlen := h.size.1
  rw [List.length_map] at hlen
  have H := Lib.hid h
  have HL := Lib.hid hlen
  obtain ⟨R, hR⟩ : ∃ q, q = greatPs l := ⟨_, rfl⟩
  have HR : Hid (R = (decide (40 < m) || l.any fun p => greatB p.entry)) := Lib.hid (by rw [hR, greatPs, hlen])
  rw [← hR]
  clear h hlen hR
  by_cases hb : 40 < m
  · have d : decide ((m : Int) > 40) = true := by simp; omega
    have d' : decide ((40 : Int) < (m : Int)) = true := by simp; omega
    have HV : Hid (R = true) := Lib.hid (by rw [HR.out, decide_eq_true hb, Bool.true_or])
    clear hb
    go_enter Try.func7, Try.ntmps7
    go_wp2
    go_ret
    exact ⟨by rw [HV.out]; rfl, Below.refl _ _⟩
  · have d : decide ((m : Int) > 40) = false := by simp; omega
    have d' : decide ((40 : Int) < (m : Int)) = false := by simp; omega
    have HN : Hid (m ≤ 40) := Lib.hid (by omega)
    have HR2 : Hid (R = l.any fun p => greatB p.entry) := Lib.hid (by rw [HR.out, decide_eq_false hb, Bool.false_or])
    clear hb
    go_enter Try.func7, Try.ntmps7
    go_wp2_with fail
    go_loopw [3] (fun i wr => ∃ k : Nat, k ≤ m ∧ i = .int .i64 (k : Int) ∧ (∀ e ∈ l.take k, greatB e.entry = false) ∧ Below w.heap.size w wr) (fun i _ => m - (intOf i).toNat)
    case atStart => exact ⟨0, Nat.zero_le _, rfl, by simp, Below.refl _ _⟩
    case round =>
      obtain ⟨k, hk, rfl, hr, hb⟩ := hrel
      have HK := Lib.hid hr
      have B0 := Lib.hid hb
      clear hr hb
      by_cases hlt : k < m
      · have dk : decide ((k : Int) < (m : Int)) = true := by simp; omega
        have jk : (k : Int) < (m : Int) := by omega
        have r4 : IntKind.i64.wrap ((k : Int) + 1) = ((k + 1 : Nat) : Int) := by have := HN.out; rw [IntWalk.i64_in _ (by omega)]; omega
        obtain ⟨x, hx⟩ : ∃ x, l[k]? = some x := ⟨_, List.getElem?_eq_getElem (by rw [← HL.out]; exact hlt)⟩
        obtain ⟨b, off, rfl, hc⟩ := row_ofPe H.out hx
        have HC : Hid (∀ q u, x.entry.enc[q]? = some u → wr.cell? ⟨b, off + k * 8 + q, none⟩ = some u) := Lib.hid (fun q u hu => hc wr B0.out q u (entry_cells x hu))
        have HT : Hid (l.take (k + 1) = l.take k ++ [x]) := Lib.hid (by rw [List.take_add_one, hx]; rfl)
        have HXM := Lib.hid (List.mem_of_getElem? hx)
        have CG := Lib.hid (fun w => great_any x.entry w)
        obtain ⟨gx, hgx⟩ : ∃ q, q = greatB x.entry := ⟨_, rfl⟩
        rw [← hgx] at CG
        have HGX := Lib.hid hgx
        clear hc hx hgx
        go_wp2_with (with_reducible refine wpList_load_rec Ent.isRec rfl _ rfl b (off + k * 8) (by with_unfolding_all exact rfl) x.entry.enc (Ent.len _) HC.out ?_)
        refine (CG.out wr).mono ?_
        rintro e w1 ⟨rfl, b1⟩
        have B1 := Lib.hid (B0.out.trans (b1.mono B0.out.size))
        clear b1 HC CG
        cases gx with
        | true =>
          have HV : Hid (R = true) := Lib.hid (by rw [HR2.out, List.any_eq_true]; exact ⟨x, HXM.out, HGX.out.symm⟩)
          go_wp2
          go_ret
          exact ⟨by rw [HV.out]; rfl, B1.out⟩
        | false =>
          have HV : Hid (∀ e ∈ l.take (k + 1), greatB e.entry = false) := Lib.hid (by
            intro d hd
            rw [HT.out] at hd
            rcases List.mem_append.1 hd with q | q
            · exact HK.out d q
            · rw [List.mem_singleton] at q; subst q; exact HGX.out.symm)
          go_wp2
          exact ⟨⟨k + 1, by omega, by go_num, HV.out, B1.out⟩, by simp [intOf]; omega⟩
      · have dk : decide ((k : Int) < (m : Int)) = false := by simp; omega
        have HV : Hid (R = false) := Lib.hid (by
          have q := HK.out
          rw [List.take_of_length_le (by rw [← HL.out]; omega)] at q
          rw [HR2.out, List.any_eq_false]
          intro d hd
          simpa using q d hd)
        go_wp2
        go_ret
        exact ⟨by rw [HV.out]; rfl, B0.out⟩
end Go.Proofs.Ytknccbdcfpncnaa
