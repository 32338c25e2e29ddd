/- What carcanet/carcanetref15.Same answers: are two slices alike? (Written by tools/mksame.py.) -/
import Derived.Test.YtknccbdcfpncnaaRecPe
import Derived.Test.YtknccbdcfpncnaaGenR
import Derived.Deep.LoopGhost
import Derived.StillTailTactics
namespace Go.Proofs.Ytknccbdcfpncnaa
set_option maxRecDepth 100000
open Go.RowKit

set_option maxRecDepth 100000 in
set_option maxHeartbeats 1000000 in
theorem refPeersSame_any (A B : Option Addr) (m n ca cb : Nat) (l r : List Peer) (hm : m ≤ 1000000) (w : World) (h : RowsAt w (.slice A m ca) 8 (l.map Peer.enc)) (h' : RowsAt w (.slice B n cb) 8 (r.map Peer.enc)) :
    Calls Try.prog 10 #[.slice A m ca, .slice B n cb] w fun e w' => e = .returned (.bool (decide (l = r))) ∧ Below w.heap.size w w' := by
  have HA := Lib.hid h
  have HB := Lib.hid h'
  have HL := Lib.hid (show m = l.length by have := h.size.1; simpa using this)
  have HR := Lib.hid (show n = r.length by have := h'.size.1; simpa using this)
  have HM := Lib.hid hm
  obtain ⟨q, hq⟩ : ∃ q, q = decide (l = r) := ⟨_, rfl⟩
  rw [← hq]
  have HQ := Lib.hid hq
  clear h h' hm hq
  go_enter Try.func10, Try.ntmps10
  by_cases hne : m = n
  · subst hne
    have e0 : ((m : Int) != (m : Int)) = false := by simp
    go_wp2_with fail
    go_loopw [5] (fun i wr => ∃ k : Nat, k ≤ m ∧ i = .int .i64 (k : Int) ∧ l.take k = r.take k ∧ Below w.heap.size w wr) (fun i _ => m - (intOf i).toNat)
    case atStart => exact ⟨0, Nat.zero_le _, rfl, by simp, Below.refl _ _⟩
    case round =>
      obtain ⟨k, hk, rfl, ht, hb⟩ := hrel
      have T0 := Lib.hid ht
      have B0 := Lib.hid hb
      clear ht hb
      by_cases hlt : k < m
      · have dk : decide ((k : Int) < (m : Int)) = true := by simp; omega
        have jk : (k : Int) < (m : Int) := by omega
        obtain ⟨x, hx⟩ : ∃ x, l[k]? = some x := ⟨_, List.getElem?_eq_getElem (by rw [← HL.out]; exact hlt)⟩
        obtain ⟨y, hy⟩ : ∃ y, r[k]? = some y := ⟨_, List.getElem?_eq_getElem (by rw [← HR.out]; exact hlt)⟩
        obtain ⟨b, off, rfl, hbl, hc⟩ := HA.out.row (fun c hc => by obtain ⟨y, _, rfl⟩ := List.mem_map.1 hc; exact y.len) (by decide) (by rw [List.getElem?_map, hx]; rfl : (l.map Peer.enc)[k]? = some x.enc)
        obtain ⟨b', off', rfl, hbl', hc'⟩ := HB.out.row (fun c hc => by obtain ⟨y, _, rfl⟩ := List.mem_map.1 hc; exact y.len) (by decide) (by rw [List.getElem?_map, hy]; rfl : (r.map Peer.enc)[k]? = some y.enc)
        have HC := Lib.hid hc
        have HC' := Lib.hid hc'
        have HT : Hid (x = y → l.take (k + 1) = r.take (k + 1)) := Lib.hid (fun e => by rw [List.take_add_one, List.take_add_one, hx, hy, T0.out, e])
        have HF : Hid (x ≠ y → q = false) := Lib.hid (fun e => by rw [HQ.out, decide_eq_false_iff_not]; rintro rfl; rw [hx] at hy; exact e (Option.some.inj hy))
        have r4 : IntKind.i64.wrap ((k : Int) + 1) = ((k + 1 : Nat) : Int) := by have := HM.out; rw [IntWalk.i64_in _ (by omega)]; omega
        clear hc hc' hx hy
        obtain ⟨ne, hne⟩ : ∃ ne, ne = !eqCells x.enc y.enc := ⟨_, rfl⟩
        have HNE := Lib.hid (show ne = !decide (x = y) by rw [hne, Peer.same])
        go_wp2_with fail
        refine still_all (by kernel_rfl) (by kernel_rfl) fun w1 h1 b1 => ?_
        have B1 := Lib.hid (B0.out.trans (b1.mono B0.out.size))
        clear h1 b1 B0
        still_step
        still_step
        still_step
        refine still_load_rec Peer.isRec (by kernel_rfl) _ rfl (b) (off + k * 8) (by with_unfolding_all exact rfl) (Peer.enc (x)) (Peer.len _) (fun j u hj => (B1.out.cell (p := ⟨b, off + k * 8 + j, none⟩) hbl).trans (HC.out j u hj)) ?_
        still_step
        still_step
        still_step
        refine still_load_rec Peer.isRec (by kernel_rfl) _ rfl (b') (off' + k * 8) (by with_unfolding_all exact rfl) (Peer.enc (y)) (Peer.len _) (fun j u hj => (B1.out.cell (p := ⟨b', off' + k * 8 + j, none⟩) hbl').trans (HC'.out j u hj)) ?_
        refine still_neq_rec Peer.isRec (by kernel_rfl) _ _ rfl x.enc y.enc x.fits y.fits (by with_unfolding_all exact rfl) (by with_unfolding_all exact rfl) ne hne ?_
        refine wpStill_nil ?_
        clear hne
        by_cases he : x = y
        · have e1 : ne = false := by rw [HNE.out, decide_eq_true he]; rfl
          subst e1
          have HT2 := Lib.hid (HT.out he)
          clear he
          go_wp2_with fail
          exact ⟨⟨k + 1, by omega, by go_num, HT2.out, B1.out⟩, by simp [intOf]; omega⟩
        · have e1 : ne = true := by rw [HNE.out, decide_eq_false he]; rfl
          subst e1
          have HF2 := Lib.hid (HF.out he)
          clear he
          go_wp2
          go_ret
          exact ⟨by rw [HF2.out]; rfl, B1.out⟩
      · have dk : decide ((k : Int) < (m : Int)) = false := by simp; omega
        have HT : Hid (q = true) := Lib.hid (by rw [HQ.out, decide_eq_true_eq]; have h := T0.out; rw [List.take_of_length_le (by rw [← HL.out]; omega), List.take_of_length_le (by rw [← HR.out]; omega)] at h; exact h)
        go_wp2
        go_ret
        exact ⟨by rw [HT.out]; rfl, B0.out⟩
  · have e0 : ((m : Int) == (n : Int)) = false := by simp; omega
    have e1 : ((m : Int) != (n : Int)) = true := by simp; omega
    have HT : Hid (q = false) := Lib.hid (by rw [HQ.out, decide_eq_false_iff_not]; rintro rfl; exact hne (by rw [HL.out, HR.out]))
    go_wp2
    go_ret
    exact ⟨by rw [HT.out]; rfl, Below.refl _ _⟩

theorem refPeersSame_any_v (v v' : Value) (l r : List Peer) (hm : l.length ≤ 1000000) (w : World) (h : RowsAt w v 8 (l.map Peer.enc)) (h' : RowsAt w v' 8 (r.map Peer.enc)) :
    Calls Try.prog 10 #[v, v'] w fun e w' => e = .returned (.bool (decide (l = r))) ∧ Below w.heap.size w w' := by
  obtain ⟨A, ca, e, -⟩ := id h
  obtain ⟨B, cb, e', -⟩ := id h'
  subst e e'
  exact refPeersSame_any A B _ _ ca cb l r (by simpa using hm) w h h'
end Go.Proofs.Ytknccbdcfpncnaa
