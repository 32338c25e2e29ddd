/- Layer 24: the chapter's example. -/
import Derived.Test.YtknccbdcfpncnaaPnD
import Derived.Test.YtknccbdcfpncnaaPnO
namespace Go.Proofs.Ytknccbdcfpncnaa
set_option maxRecDepth 100000
open Go.RowKit

def pA : Ent := { Ent.zero with name := [97], id := 3 }
def pB : Peer := { Peer.zero with entry := { Ent.zero with name := [98], id := 9 } }
def pC : Peer := { Peer.zero with entry := { Ent.zero with name := [99], id := 5 } }
theorem pn_ex : addQ pA [] pB = [pB] ∧ addQ pA [pB] pC = [pC, pB] ∧ ownerQ pA [pC, pB] 6 = pB.entry ∧ ownerQ pA [pC, pB] 10 = pA ∧ rightQ pA [pC, pB] = true ∧ beforeQ pA [pC, pB] = 9 ∧ placeQ [pC, pB] [98] = 1 := by decide +kernel
theorem words1 : Words [] := fun p hp => by cases hp
theorem words2 : Words [pB] := fun p hp => by rw [List.mem_singleton] at hp; subst hp; decide
theorem words3 : Words [pC, pB] := fun p hp => by
  rcases List.mem_cons.1 hp with rfl | hp
  · decide
  · rw [List.mem_singleton] at hp; subst hp; decide

set_option maxRecDepth 100000 in
set_option maxHeartbeats 2000000 in
theorem works24 (w : World) : Calls Try.prog 9 #[] w fun e w' => e = .returned (.bool true) ∧ Below w.heap.size w w' := by
  obtain ⟨x1, x2, x3, x4, x5, x6, x7⟩ := pn_ex
  have C1 := Lib.hid (fun w => as_slicePe (add_any none 0 0 [] pA pB w.heap.size w (Nat.le_refl _) (by decide) words1 (by decide) (by decide) ⟨none, 0, rfl, Nat.zero_le _, fun h => absurd rfl h⟩))
  rw [x1] at C1
  have C2 := Lib.hid (fun A c w h => as_slicePe (add_any A 1 c [pB] pA pC w.heap.size w (Nat.le_refl _) (by decide) words2 (by decide) (by decide) h))
  rw [x2] at C2
  have C3 := Lib.hid (fun A c w h => owner_any A 2 c [pC, pB] pA 6 w (by decide) words3 (by decide) (by decide) h)
  rw [x3] at C3
  have C4 := Lib.hid (fun A c w h => owner_any A 2 c [pC, pB] pA 10 w (by decide) words3 (by decide) (by decide) h)
  rw [x4] at C4
  have C5 := Lib.hid (fun A c w h => right_any A 2 c [pC, pB] pA w (by decide) words3 (by decide) h)
  rw [x5] at C5
  have C6 := Lib.hid (fun A c w h => before_any A 2 c [pC, pB] pA w (by decide) h)
  rw [x6] at C6
  have C7 := Lib.hid (fun A c w h => place_any A 2 c [pC, pB] [98] w (by decide) h)
  rw [x7] at C7
  clear x1 x2 x3 x4 x5 x6 x7
  have f1 : ∀ w, (Instr.field 24 pB.entry.val 0).run Try.prog w = .ok (.string ⟨#[98]⟩) w := fun _ => by kernel_rfl
  have f2 : ∀ w, (Instr.field 24 pA.val 0).run Try.prog w = .ok (.string ⟨#[97]⟩) w := fun _ => by kernel_rfl
  go_enter Try.func9, Try.ntmps9
  go_wp2_with (first | (refine wpList_alloc_row rfl 24 rfl Ent.zero.enc.toArray Ent.zero_is ?_) | (with_reducible refine wpList_build_rec rfl 24 _ rfl #[(0, .string ⟨#[97]⟩), (1, .int .u64 3)] (by with_unfolding_all exact rfl) pA.enc.toArray (by kernel_rfl) ?_))
  intro w1 b1 x1 z1
  obtain ⟨gM, hgM⟩ : ∃ g, g = w.heap.size := ⟨_, rfl⟩
  have M_M := Lib.hid (show w.heap.size ≤ gM from by rw [hgM]; exact Nat.le_refl _)
  have B1 := Lib.hid b1
  rw [← hgM] at x1 ⊢
  have M1 : Hid (Ent.At w1 gM Ent.zero) := Lib.hid x1
  clear b1 x1 z1 hgM 
  go_wp2_with (first | (with_reducible refine wpList_load_whole Ent.isRec rfl _ rfl gM (by with_unfolding_all exact rfl) _ _ (Ent.len _) M1.out ?_) | (with_reducible refine wpList_store_whole rfl 24 _ _ rfl gM pA.enc.toArray (by with_unfolding_all exact rfl) (by with_unfolding_all exact rfl) _ _ M1.out (Ent.size _) rfl (Ent.one _) ?_))
  intro w2 q2 x2 z2
  have M2 : Hid (Ent.At w2 gM pA) := Lib.hid x2
  have B2 := Lib.hid (B1.out.grown q2 B1.out.size (fun k hk => by injection hk with hk; have := M_M.out; omega))
  clear q2 x2 z2 M1 B1
  go_wp2_with (first | (with_reducible refine wpList_load_whole Ent.isRec rfl _ rfl gM (by with_unfolding_all exact rfl) _ _ (Ent.len _) M2.out ?_) | (first | (with_reducible refine wpList_build_rec rfl 24 _ rfl #[(0, .string ⟨#[98]⟩), (1, .int .u64 9)] (by with_unfolding_all exact rfl) pB.entry.enc.toArray (by kernel_rfl) ?_) | (with_reducible refine wpList_build_rec rfl 27 _ rfl #[(0, pB.entry.val)] (by with_unfolding_all exact rfl) pB.enc.toArray (by kernel_rfl) ?_)))
  refine (C1.out w2).mono ?_
  rintro e3 w3 ⟨A1, k1, rfl, o1, b3⟩
  have M3 : Hid (Ent.At w3 gM pA) := Lib.hid (Whole.below M2.out b3 M2.out.lt)
  have B3 := Lib.hid (B2.out.trans (b3.mono B2.out.size))
  have L3 : Hid (RowsAt w3 (.slice A1 1 k1) 8 ([pB].map Peer.enc)) := Lib.hid o1
  clear b3 M2 B2 o1
  go_wp2_with (first | (with_reducible refine wpList_load_whole Ent.isRec rfl _ rfl gM (by with_unfolding_all exact rfl) _ _ (Ent.len _) M3.out ?_) | (first | (with_reducible refine wpList_build_rec rfl 24 _ rfl #[(0, .string ⟨#[99]⟩), (1, .int .u64 5)] (by with_unfolding_all exact rfl) pC.entry.enc.toArray (by kernel_rfl) ?_) | (with_reducible refine wpList_build_rec rfl 27 _ rfl #[(0, pC.entry.val)] (by with_unfolding_all exact rfl) pC.enc.toArray (by kernel_rfl) ?_)))
  refine (C2.out A1 k1 w3 L3.out).mono ?_
  rintro e4 w4 ⟨A2, k2, rfl, o2, b4⟩
  have M4 : Hid (Ent.At w4 gM pA) := Lib.hid (Whole.below M3.out b4 M3.out.lt)
  have L4 : Hid (RowsAt w4 (.slice A1 1 k1) 8 ([pB].map Peer.enc)) := Lib.hid (L3.out.below b4)
  have B4 := Lib.hid (B3.out.trans (b4.mono B3.out.size))
  have K4 : Hid (RowsAt w4 (.slice A2 2 k2) 8 ([pC, pB].map Peer.enc)) := Lib.hid o2
  clear b4 M3 L3 B3 o2
  obtain ⟨b, off, hA, hc⟩ := row_ofPe K4.out (show [pC, pB][0]? = some pC from rfl)
  subst hA
  have c0 : w4.cell? ⟨b, off, none⟩ = some (.string ⟨#[99]⟩) := by have q := hc w4 (Below.refl _ _) 0 (.string ⟨#[99]⟩) rfl; simpa using q
  clear hc
  go_wp2_with (first | (with_reducible refine wpList_load_whole Ent.isRec rfl _ rfl gM (by with_unfolding_all exact rfl) _ _ (Ent.len _) M4.out ?_) | (with_reducible refine wpList_load_whole_w Ent.isRec (by kernel_rfl) _ rfl gM (by with_unfolding_all exact rfl) _ _ (Ent.len _) M4.out ?_))
  refine (C3.out _ _ w4 K4.out).mono ?_
  rintro e5 w5 ⟨rfl, b5⟩
  have M5 : Hid (Ent.At w5 gM pA) := Lib.hid (Whole.below M4.out b5 M4.out.lt)
  have L5 : Hid (RowsAt w5 (.slice A1 1 k1) 8 ([pB].map Peer.enc)) := Lib.hid (L4.out.below b5)
  have K5 : Hid (RowsAt w5 (.slice (some ⟨b, off, none⟩) 2 k2) 8 ([pC, pB].map Peer.enc)) := Lib.hid (K4.out.below b5)
  have B5 := Lib.hid (B4.out.trans (b5.mono B4.out.size))
  clear b5 M4 L4 K4 B4
  clear c0
  go_wp2_with (first | (with_reducible refine wpList_load_whole Ent.isRec rfl _ rfl gM (by with_unfolding_all exact rfl) _ _ (Ent.len _) M5.out ?_) | (with_reducible refine wpList_load_whole_w Ent.isRec (by kernel_rfl) _ rfl gM (by with_unfolding_all exact rfl) _ _ (Ent.len _) M5.out ?_))
  refine (C4.out _ _ w5 K5.out).mono ?_
  rintro e6 w6 ⟨rfl, b6⟩
  have M6 : Hid (Ent.At w6 gM pA) := Lib.hid (Whole.below M5.out b6 M5.out.lt)
  have L6 : Hid (RowsAt w6 (.slice A1 1 k1) 8 ([pB].map Peer.enc)) := Lib.hid (L5.out.below b6)
  have K6 : Hid (RowsAt w6 (.slice (some ⟨b, off, none⟩) 2 k2) 8 ([pC, pB].map Peer.enc)) := Lib.hid (K5.out.below b6)
  have B6 := Lib.hid (B5.out.trans (b6.mono B5.out.size))
  clear b6 M5 L5 K5 B5
  go_wp2_with (first | (with_reducible refine wpList_load_whole Ent.isRec rfl _ rfl gM (by with_unfolding_all exact rfl) _ _ (Ent.len _) M6.out ?_) | (with_reducible refine wpList_load_whole_w Ent.isRec (by kernel_rfl) _ rfl gM (by with_unfolding_all exact rfl) _ _ (Ent.len _) M6.out ?_))
  refine (C5.out _ _ w6 K6.out).mono ?_
  rintro e7 w7 ⟨rfl, b7⟩
  have M7 : Hid (Ent.At w7 gM pA) := Lib.hid (Whole.below M6.out b7 M6.out.lt)
  have L7 : Hid (RowsAt w7 (.slice A1 1 k1) 8 ([pB].map Peer.enc)) := Lib.hid (L6.out.below b7)
  have K7 : Hid (RowsAt w7 (.slice (some ⟨b, off, none⟩) 2 k2) 8 ([pC, pB].map Peer.enc)) := Lib.hid (K6.out.below b7)
  have B7 := Lib.hid (B6.out.trans (b7.mono B6.out.size))
  clear b7 M6 L6 K6 B6
  go_wp2_with (first | (with_reducible refine wpList_load_whole Ent.isRec rfl _ rfl gM (by with_unfolding_all exact rfl) _ _ (Ent.len _) M7.out ?_) | (with_reducible refine wpList_load_whole_w Ent.isRec (by kernel_rfl) _ rfl gM (by with_unfolding_all exact rfl) _ _ (Ent.len _) M7.out ?_))
  refine (C6.out _ _ w7 K7.out).mono ?_
  rintro e8 w8 ⟨rfl, b8⟩
  have M8 : Hid (Ent.At w8 gM pA) := Lib.hid (Whole.below M7.out b8 M7.out.lt)
  have L8 : Hid (RowsAt w8 (.slice A1 1 k1) 8 ([pB].map Peer.enc)) := Lib.hid (L7.out.below b8)
  have K8 : Hid (RowsAt w8 (.slice (some ⟨b, off, none⟩) 2 k2) 8 ([pC, pB].map Peer.enc)) := Lib.hid (K7.out.below b8)
  have B8 := Lib.hid (B7.out.trans (b8.mono B7.out.size))
  clear b8 M7 L7 K7 B7
  go_wp2_with (with_reducible refine wpList_load_whole Ent.isRec rfl _ rfl gM (by with_unfolding_all exact rfl) _ _ (Ent.len _) M8.out ?_)
  refine (C7.out _ _ w8 K8.out).mono ?_
  rintro e9 w9 ⟨rfl, b9⟩
  have M9 : Hid (Ent.At w9 gM pA) := Lib.hid (Whole.below M8.out b9 M8.out.lt)
  have L9 : Hid (RowsAt w9 (.slice A1 1 k1) 8 ([pB].map Peer.enc)) := Lib.hid (L8.out.below b9)
  have K9 : Hid (RowsAt w9 (.slice (some ⟨b, off, none⟩) 2 k2) 8 ([pC, pB].map Peer.enc)) := Lib.hid (K8.out.below b9)
  have B9 := Lib.hid (B8.out.trans (b9.mono B8.out.size))
  clear b9 M8 L8 K8 B8
  go_wp2
  go_ret
  exact ⟨rfl, B9.out⟩
end Go.Proofs.Ytknccbdcfpncnaa
