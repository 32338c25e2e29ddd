/- Layer 24: the document's Ahead. -/
import Derived.Test.YtknccbdcfpncnaaPnR
namespace Go.Proofs.Ytknccbdcfpncnaa
set_option maxRecDepth 100000
open Go.RowKit

set_option maxRecDepth 100000
set_option maxHeartbeats 1000000 in
theorem refAhead_any (me : Ent) (x y : Peer) (ha : me.id < 18446744073709551616) (hx : x.entry.id < 18446744073709551616) (hy : y.entry.id < 18446744073709551616) (nx : x.entry.name.length ≤ 1000000) (ny : y.entry.name.length ≤ 1000000) (w : World) :
    Calls Try.prog 32 #[me.val, x.val, y.val] w fun e w' => e = .returned (.bool (aheadE me.id x.entry y.entry)) ∧ Below w.heap.size w w' := by
  have C1 : ∀ w, Hid (Calls Try.prog 39 #[.int .u64 (me.id : Int), .int .u64 (x.entry.id : Int)] w fun e w' => e = .returned (.int .u64 (distN me.id x.entry.id : Int)) ∧ w' = w) := fun w => Lib.hid ((refDist_any _ _ ha hx w).mono fun _ _ h => ⟨h.1, h.2.symm⟩)
  have C2 : ∀ w, Hid (Calls Try.prog 39 #[.int .u64 (me.id : Int), .int .u64 (y.entry.id : Int)] w fun e w' => e = .returned (.int .u64 (distN me.id y.entry.id : Int)) ∧ w' = w) := fun w => Lib.hid ((refDist_any _ _ ha hy w).mono fun _ _ h => ⟨h.1, h.2.symm⟩)
  have CL := Lib.hid (fun w => refLess_any x.entry.name y.entry.name nx ny w)
  obtain ⟨q, hq⟩ : ∃ q, q = aheadE me.id x.entry y.entry := ⟨_, rfl⟩
  have HQ : Hid (q = if distN me.id x.entry.id = distN me.id y.entry.id then Go.Op.bytesLess x.entry.name y.entry.name else decide (distN me.id x.entry.id < distN me.id y.entry.id)) := Lib.hid hq
  rw [← hq]
  generalize distN me.id x.entry.id = p at C1 HQ
  generalize distN me.id y.entry.id = r at C2 HQ
  clear hq ha hx hy nx ny
  go_enter Try.func32, Try.ntmps32
  go_wp2_with (refine wpList_box_row rfl 24 _ rfl me.enc.toArray (by with_unfolding_all exact rfl) ?_)
  intro w1 b1 x1 z1
  obtain ⟨gE, hgE⟩ : ∃ g, g = w.heap.size := ⟨_, rfl⟩
  have M_E := Lib.hid (show w.heap.size ≤ gE from by rw [hgE]; exact Nat.le_refl _)
  have B1 := Lib.hid b1
  rw [← hgE] at x1 ⊢
  have E1 : Hid (Ent.At w1 gE me) := Lib.hid x1
  clear b1 x1 z1 hgE 
  go_wp2_with (first | (with_reducible refine wpList_load_whole Ent.isRec rfl _ rfl gE (by with_unfolding_all exact rfl) _ _ (Ent.len _) E1.out ?_) | (refine wpList_box_row rfl 27 _ rfl x.enc.toArray (by with_unfolding_all exact rfl) ?_))
  intro w2 b2 x2 z2
  obtain ⟨gX, hgX⟩ : ∃ g, g = w1.heap.size := ⟨_, rfl⟩
  have N_E_X := Lib.hid (show gE < gX from by rw [hgX]; exact E1.out.lt)
  have M_X := Lib.hid (show w.heap.size ≤ gX from by rw [hgX]; exact B1.out.size)
  have E2 : Hid (Ent.At w2 gE me) := Lib.hid (Whole.below E1.out b2 E1.out.lt)
  have B2 := Lib.hid (B1.out.trans (b2.mono B1.out.size))
  rw [← hgX] at x2 ⊢
  have X2 : Hid (Peer.At w2 gX x) := Lib.hid x2
  clear b2 x2 z2 hgX E1 B1
  go_wp2_with (first | (with_reducible refine wpList_load_whole Ent.isRec rfl _ rfl gE (by with_unfolding_all exact rfl) _ _ (Ent.len _) E2.out ?_) | (with_reducible refine wpList_load_whole Peer.isRec rfl _ rfl gX (by with_unfolding_all exact rfl) _ _ (Peer.len _) X2.out ?_) | (with_reducible refine wpList_load_rec Ent.isRec rfl _ rfl gX 0 (by with_unfolding_all exact rfl) _ (Ent.len _) (Peer.At.part_entry X2.out) ?_) | (refine wpList_box_row rfl 27 _ rfl y.enc.toArray (by with_unfolding_all exact rfl) ?_))
  intro w3 b3 x3 z3
  obtain ⟨gY, hgY⟩ : ∃ g, g = w2.heap.size := ⟨_, rfl⟩
  have N_E_Y := Lib.hid (show gE < gY from by rw [hgY]; exact E2.out.lt)
  have N_X_Y := Lib.hid (show gX < gY from by rw [hgY]; exact X2.out.lt)
  have M_Y := Lib.hid (show w.heap.size ≤ gY from by rw [hgY]; exact B2.out.size)
  have E3 : Hid (Ent.At w3 gE me) := Lib.hid (Whole.below E2.out b3 E2.out.lt)
  have X3 : Hid (Peer.At w3 gX x) := Lib.hid (Whole.below X2.out b3 X2.out.lt)
  have B3 := Lib.hid (B2.out.trans (b3.mono B2.out.size))
  rw [← hgY] at x3 ⊢
  have Y3 : Hid (Peer.At w3 gY y) := Lib.hid x3
  clear b3 x3 z3 hgY E2 X2 B2
  have c0 := Ent.At.at_id E3.out
  have c1 := Peer.At.at_entry_id X3.out
  have c2 := Peer.At.at_entry_id Y3.out
  have c3 := Peer.At.at_entry_name X3.out
  have c4 := Peer.At.at_entry_name Y3.out
  go_wp2_with fail
  go_quiet (first | (go_at_call 39; first | with_reducible exact Calls.quiet_of_same (C1 _).out | with_reducible exact Calls.quiet_of_same (C2 _).out))
  by_cases e : p = r
  · have d : ((p : Int) == (r : Int)) = true := by simp; omega
    have d2 : decide ((p : Int) < (r : Int)) = false := by simp; omega
    have d2n : decide (p < r) = false := by simp; omega
    have HF := HQ.out
    rw [if_pos e] at HF
    clear e HQ C1 C2
    go_wp2_with fail
    refine (CL.out _).mono ?_
    rintro e w9 ⟨rfl, b9⟩
    have B9 := Lib.hid ((below_drewN B3.out _).trans (b9.mono (below_drewN B3.out _).size))
    clear b9
    go_wp2
    go_ret
    exact ⟨by rw [HF]; rfl, B9.out⟩
  · have d : ((p : Int) == (r : Int)) = false := by simp; omega
    have HF := HQ.out
    rw [if_neg e] at HF
    clear e HQ C1 C2 CL
    obtain ⟨z, hz⟩ : ∃ z, z = decide (p < r) := ⟨_, rfl⟩
    have d2 : decide ((p : Int) < (r : Int)) = z := by rw [hz]; simp
    have d2n : decide (p < r) = z := hz.symm
    rw [← hz] at HF
    clear hz
    cases z with
    | true =>
      go_wp2
      go_ret
      exact ⟨by rw [HF]; rfl, below_drewN B3.out _⟩
    | false =>
      go_wp2
      go_ret
      exact ⟨by rw [HF]; rfl, below_drewN B3.out _⟩
end Go.Proofs.Ytknccbdcfpncnaa
