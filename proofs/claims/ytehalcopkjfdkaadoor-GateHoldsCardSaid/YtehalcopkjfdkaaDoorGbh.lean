/- Package gate as landed: the function that gathers, each, Those; Take, Raise, Holds; gate_is. -/
import Derived.Test.YtehalcopkjfdkaaDoorGx
import Derived.Test.YtehalcopkjfdkaaDoorGba
import Derived.Test.YtehalcopkjfdkaaDoorGbb
import Derived.Test.YtehalcopkjfdkaaDoorGbf
import Derived.Test.YtehalcopkjfdkaaDoorGbg
import Derived.Test.YtehalcopkjfdkaaDoorGbe
namespace Go.Proofs.YtehalcopkjfdkaaDoor
set_option maxRecDepth 100000
open Go.RowKit

set_option maxHeartbeats 1000000 in
theorem gaTake_any (g : Gate) (a : Ent) (now : Int) (hk : g.key.length ≤ 4000) (hn : a.name.length ≤ 1000) (ht : a.tag.length ≤ 1000) (w : World) (T : Tab w) :
    Calls Tryd.prog 8 #[g.val, a.val, .int .i64 now] w fun e w' => e = .returned (.tuple #[(takeP g a now).1.val, .int .i64 (takeP g a now).2]) ∧ Below w.heap.size w w' := by
  have T0 := Lib.hid T
  have CV := Lib.hid (fun w T => tkValid_any g.index g.key a now hk hn ht w T)
  have HX : Hid (takeP g a now = if validX g.index g.key a now = 0 then (⟨a, now, g.index⟩, 0) else (Peer.zero, validX g.index g.key a now)) := Lib.hid rfl
  obtain ⟨X, hX⟩ : ∃ X, X = takeP g a now := ⟨_, rfl⟩
  rw [← hX] at HX ⊢
  obtain ⟨q, hq⟩ : ∃ q, q = validX g.index g.key a now := ⟨_, rfl⟩
  simp only [← hq] at CV HX
  clear hX hq hk hn ht T
  go_enter Tryd.func8, Tryd.ntmps8
  go_wp2_with (refine wpList_box_row rfl 23 _ rfl g.enc.toArray (by with_unfolding_all exact rfl) ?_)
  intro w1 b1 x1 z1
  obtain ⟨gG, hgG⟩ : ∃ g, g = w.heap.size := ⟨_, rfl⟩
  have M_G := Lib.hid (show w.heap.size ≤ gG from by rw [hgG]; exact Nat.le_refl _)
  have B1 := Lib.hid b1
  rw [← hgG] at x1 ⊢
  have G1 : Hid (Gate.At w1 gG g) := Lib.hid x1
  clear b1 x1 z1 hgG 
  go_wp2_with (first | (with_reducible refine wpList_load_whole Gate.isRec rfl _ rfl gG (by with_unfolding_all exact rfl) _ _ (Gate.len _) G1.out ?_) | (refine wpList_box_row rfl 29 _ rfl a.enc.toArray (by with_unfolding_all exact rfl) ?_))
  intro w2 b2 x2 z2
  obtain ⟨gE, hgE⟩ : ∃ g, g = w1.heap.size := ⟨_, rfl⟩
  have N_G_E := Lib.hid (show gG < gE from by rw [hgE]; exact G1.out.lt)
  have M_E := Lib.hid (show w.heap.size ≤ gE from by rw [hgE]; exact B1.out.size)
  have G2 : Hid (Gate.At w2 gG g) := Lib.hid (Whole.below G1.out b2 G1.out.lt)
  have B2 := Lib.hid (B1.out.trans (b2.mono B1.out.size))
  rw [← hgE] at x2 ⊢
  have E2 : Hid (Ent.At w2 gE a) := Lib.hid x2
  clear b2 x2 z2 hgE G1 B1
  go_wp2_with (first | (with_reducible refine wpList_load_whole Gate.isRec rfl _ rfl gG (by with_unfolding_all exact rfl) _ _ (Gate.len _) G2.out ?_) | (with_reducible refine wpList_load_whole Ent.isRec rfl _ rfl gE (by with_unfolding_all exact rfl) _ _ (Ent.len _) E2.out ?_) | (refine wpList_alloc_row rfl 31 rfl Peer.zero.enc.toArray Peer.zero_is ?_))
  intro w3 b3 x3 z3
  obtain ⟨gO, hgO⟩ : ∃ g, g = w2.heap.size := ⟨_, rfl⟩
  have N_G_O := Lib.hid (show gG < gO from by rw [hgO]; exact G2.out.lt)
  have N_E_O := Lib.hid (show gE < gO from by rw [hgO]; exact E2.out.lt)
  have M_O := Lib.hid (show w.heap.size ≤ gO from by rw [hgO]; exact B2.out.size)
  have G3 : Hid (Gate.At w3 gG g) := Lib.hid (Whole.below G2.out b3 G2.out.lt)
  have E3 : Hid (Ent.At w3 gE a) := Lib.hid (Whole.below E2.out b3 E2.out.lt)
  have B3 := Lib.hid (B2.out.trans (b3.mono B2.out.size))
  rw [← hgO] at x3 ⊢
  have O3 : Hid (Peer.At w3 gO Peer.zero) := Lib.hid x3
  clear b3 x3 z3 hgO G2 E2 B2
  go_wp2_with (first | (with_reducible refine wpList_load_whole Gate.isRec rfl _ rfl gG (by with_unfolding_all exact rfl) _ _ (Gate.len _) G3.out ?_) | (with_reducible refine wpList_load_whole Ent.isRec rfl _ rfl gE (by with_unfolding_all exact rfl) _ _ (Ent.len _) E3.out ?_) | (with_reducible refine wpList_load_whole Peer.isRec rfl _ rfl gO (by with_unfolding_all exact rfl) _ _ (Peer.len _) O3.out ?_) | (with_reducible refine wpList_load_rec Ent.isRec rfl _ rfl gO 0 (by with_unfolding_all exact rfl) _ (Ent.len _) (Peer.At.part_entry O3.out) ?_))
  refine (CV.out w3 (T0.out.below B3.out T0.out.pos)).mono ?_
  rintro e4 w4 ⟨rfl, b4⟩
  have G4 : Hid (Gate.At w4 gG g) := Lib.hid (Whole.below G3.out b4 G3.out.lt)
  have E4 : Hid (Ent.At w4 gE a) := Lib.hid (Whole.below E3.out b4 E3.out.lt)
  have O4 : Hid (Peer.At w4 gO Peer.zero) := Lib.hid (Whole.below O3.out b4 O3.out.lt)
  have B4 := Lib.hid (B3.out.trans (b4.mono B3.out.size))
  clear b4 G3 E3 O3 B3
  by_cases h0 : q = 0
  · subst h0
    have HF : Hid (X = (⟨a, now, g.index⟩, 0)) := Lib.hid HX.out
    clear HX CV
    have c1 := Gate.At.at_index G4.out
    go_wp2_with (first | (with_reducible refine wpList_load_whole Gate.isRec rfl _ rfl gG (by with_unfolding_all exact rfl) _ _ (Gate.len _) G4.out ?_) | (with_reducible refine wpList_load_whole Ent.isRec rfl _ rfl gE (by with_unfolding_all exact rfl) _ _ (Ent.len _) E4.out ?_) | (with_reducible refine wpList_load_whole Peer.isRec rfl _ rfl gO (by with_unfolding_all exact rfl) _ _ (Peer.len _) O4.out ?_) | (with_reducible refine wpList_load_rec Ent.isRec rfl _ rfl gO 0 (by with_unfolding_all exact rfl) _ (Ent.len _) (Peer.At.part_entry O4.out) ?_) | (with_reducible refine wpList_store_whole rfl 31 _ _ rfl gO (Peer.enc ⟨a, now, g.index⟩).toArray (by with_unfolding_all exact rfl) (by with_unfolding_all exact rfl) _ _ O4.out (Peer.size _) rfl (Peer.one _) ?_) | (with_reducible refine wpList_build_rec rfl 31 _ rfl #[(0, a.val), (1, .int .i64 now), (2, .int .i64 g.index)] (by with_unfolding_all exact rfl) (Peer.enc ⟨a, now, g.index⟩).toArray (by kernel_rfl) ?_))
    intro w5 q5 x5 z5
    have O5 : Hid (Peer.At w5 gO ⟨a, now, g.index⟩) := Lib.hid x5
    have G5 : Hid (Gate.At w5 gG g) := Lib.hid (grown_far G4.out q5 (by have := N_G_O.out; omega))
    have E5 : Hid (Ent.At w5 gE a) := Lib.hid (grown_far E4.out q5 (by have := N_E_O.out; omega))
    have B5 := Lib.hid (B4.out.grown q5 B4.out.size (fun k hk => by injection hk with hk; have := M_O.out; omega))
    clear q5 x5 z5 O4 G4 E4 B4
    go_wp2
    exact bodyPost_ret (results_rec_tmp Peer.isRec rfl _ _ _ _ _ rfl rfl O5.out) rfl ⟨by rw [HF.out]; rfl, B5.out⟩
  · have HF : Hid (X = (Peer.zero, q)) := Lib.hid (by rw [HX.out, if_neg h0])
    have e1 : (q == 0) = false := by simpa using h0
    have e2 : (q != 0) = true := by simpa using h0
    clear HX CV h0
    go_wp2_with (first | (with_reducible refine wpList_load_whole Gate.isRec rfl _ rfl gG (by with_unfolding_all exact rfl) _ _ (Gate.len _) G4.out ?_) | (with_reducible refine wpList_load_whole Ent.isRec rfl _ rfl gE (by with_unfolding_all exact rfl) _ _ (Ent.len _) E4.out ?_) | (with_reducible refine wpList_load_whole Peer.isRec rfl _ rfl gO (by with_unfolding_all exact rfl) _ _ (Peer.len _) O4.out ?_) | (with_reducible refine wpList_load_rec Ent.isRec rfl _ rfl gO 0 (by with_unfolding_all exact rfl) _ (Ent.len _) (Peer.At.part_entry O4.out) ?_) | (with_reducible refine wpList_store_whole rfl 31 _ _ rfl gO Peer.zero.enc.toArray (by with_unfolding_all exact rfl) (by with_unfolding_all exact rfl) _ _ O4.out (Peer.size _) rfl (Peer.one _) ?_))
    intro w5 q5 x5 z5
    have O5 : Hid (Peer.At w5 gO Peer.zero) := Lib.hid x5
    have G5 : Hid (Gate.At w5 gG g) := Lib.hid (grown_far G4.out q5 (by have := N_G_O.out; omega))
    have E5 : Hid (Ent.At w5 gE a) := Lib.hid (grown_far E4.out q5 (by have := N_E_O.out; omega))
    have B5 := Lib.hid (B4.out.grown q5 B4.out.size (fun k hk => by injection hk with hk; have := M_O.out; omega))
    clear q5 x5 z5 O4 G4 E4 B4
    go_wp2
    exact bodyPost_ret (results_rec_tmp Peer.isRec rfl _ _ _ _ _ rfl rfl O5.out) rfl ⟨by rw [HF.out]; rfl, B5.out⟩

set_option maxHeartbeats 1000000 in
theorem gaRaise_any (g y : Gate) (hy : y.index ≤ 9223372036854775807) (hg : -9223372036854775808 ≤ g.index) (hg2 : g.index ≤ 9223372036854775807) (w : World) (T : Tab w) :
    Calls Tryd.prog 14 #[g.val, y.val] w fun e w' => e = .returned (.tuple #[(raiseG g y).1.val, .int .i64 (raiseG g y).2]) ∧ Below w.heap.size w w' := by
  have T0 := Lib.hid T
  have CV := Lib.hid (fun w T => chLeads_any y.index g.index y.key g.key hy hg hg2 w T)
  have HX : Hid (raiseG g y = if y.index ≤ g.index then (Gate.zero, 26) else if leadsB y.index y.key g.index g.key = false then (Gate.zero, 36) else (y, 0)) := Lib.hid rfl
  obtain ⟨X, hX⟩ : ∃ X, X = raiseG g y := ⟨_, rfl⟩
  rw [← hX] at HX ⊢
  obtain ⟨q, hq⟩ : ∃ q, q = leadsB y.index y.key g.index g.key := ⟨_, rfl⟩
  simp only [← hq] at CV HX
  clear hX hq hy hg hg2 T
  go_enter Tryd.func14, Tryd.ntmps14
  go_wp2_with (refine wpList_box_row rfl 23 _ rfl g.enc.toArray (by with_unfolding_all exact rfl) ?_)
  intro w1 b1 x1 z1
  obtain ⟨gG, hgG⟩ : ∃ g, g = w.heap.size := ⟨_, rfl⟩
  have M_G := Lib.hid (show w.heap.size ≤ gG from by rw [hgG]; exact Nat.le_refl _)
  have B1 := Lib.hid b1
  rw [← hgG] at x1 ⊢
  have G1 : Hid (Gate.At w1 gG g) := Lib.hid x1
  clear b1 x1 z1 hgG 
  go_wp2_with (first | (with_reducible refine wpList_load_whole Gate.isRec rfl _ rfl gG (by with_unfolding_all exact rfl) _ _ (Gate.len _) G1.out ?_) | (refine wpList_box_row rfl 23 _ rfl y.enc.toArray (by with_unfolding_all exact rfl) ?_))
  intro w2 b2 x2 z2
  obtain ⟨gY, hgY⟩ : ∃ g, g = w1.heap.size := ⟨_, rfl⟩
  have N_G_Y := Lib.hid (show gG < gY from by rw [hgY]; exact G1.out.lt)
  have M_Y := Lib.hid (show w.heap.size ≤ gY from by rw [hgY]; exact B1.out.size)
  have G2 : Hid (Gate.At w2 gG g) := Lib.hid (Whole.below G1.out b2 G1.out.lt)
  have B2 := Lib.hid (B1.out.trans (b2.mono B1.out.size))
  rw [← hgY] at x2 ⊢
  have Y2 : Hid (Gate.At w2 gY y) := Lib.hid x2
  clear b2 x2 z2 hgY G1 B1
  go_wp2_with (first | (with_reducible refine wpList_load_whole Gate.isRec rfl _ rfl gG (by with_unfolding_all exact rfl) _ _ (Gate.len _) G2.out ?_) | (with_reducible refine wpList_load_whole Gate.isRec rfl _ rfl gY (by with_unfolding_all exact rfl) _ _ (Gate.len _) Y2.out ?_) | (refine wpList_alloc_row rfl 23 rfl Gate.zero.enc.toArray Gate.zero_is ?_))
  intro w3 b3 x3 z3
  obtain ⟨gO, hgO⟩ : ∃ g, g = w2.heap.size := ⟨_, rfl⟩
  have N_G_O := Lib.hid (show gG < gO from by rw [hgO]; exact G2.out.lt)
  have N_Y_O := Lib.hid (show gY < gO from by rw [hgO]; exact Y2.out.lt)
  have M_O := Lib.hid (show w.heap.size ≤ gO from by rw [hgO]; exact B2.out.size)
  have G3 : Hid (Gate.At w3 gG g) := Lib.hid (Whole.below G2.out b3 G2.out.lt)
  have Y3 : Hid (Gate.At w3 gY y) := Lib.hid (Whole.below Y2.out b3 Y2.out.lt)
  have B3 := Lib.hid (B2.out.trans (b3.mono B2.out.size))
  rw [← hgO] at x3 ⊢
  have O3 : Hid (Gate.At w3 gO Gate.zero) := Lib.hid x3
  clear b3 x3 z3 hgO G2 Y2 B2
  have c1 := Gate.At.at_index G3.out
  have c2 := Gate.At.at_index Y3.out
  by_cases h0 : y.index ≤ g.index
  · have HF : Hid (X = (Gate.zero, 26)) := Lib.hid (by rw [HX.out, if_pos h0])
    clear HX CV
    go_wp2_with (first | (with_reducible refine wpList_load_whole Gate.isRec rfl _ rfl gG (by with_unfolding_all exact rfl) _ _ (Gate.len _) G3.out ?_) | (with_reducible refine wpList_load_whole Gate.isRec rfl _ rfl gY (by with_unfolding_all exact rfl) _ _ (Gate.len _) Y3.out ?_) | (with_reducible refine wpList_load_whole Gate.isRec rfl _ rfl gO (by with_unfolding_all exact rfl) _ _ (Gate.len _) O3.out ?_) | (with_reducible refine wpList_store_whole rfl 23 _ _ rfl gO Gate.zero.enc.toArray (by with_unfolding_all exact rfl) (by with_unfolding_all exact rfl) _ _ O3.out (Gate.size _) rfl (Gate.one _) ?_))
    intro w4 q4 x4 z4
    have O4 : Hid (Gate.At w4 gO Gate.zero) := Lib.hid x4
    have G4 : Hid (Gate.At w4 gG g) := Lib.hid (grown_far G3.out q4 (by have := N_G_O.out; omega))
    have Y4 : Hid (Gate.At w4 gY y) := Lib.hid (grown_far Y3.out q4 (by have := N_Y_O.out; omega))
    have B4 := Lib.hid (B3.out.grown q4 B3.out.size (fun k hk => by injection hk with hk; have := M_O.out; omega))
    clear q4 x4 z4 O3 G3 Y3 B3
    go_wp2
    exact bodyPost_ret (results_rec_tmp Gate.isRec rfl _ _ _ _ _ rfl rfl O4.out) rfl ⟨by rw [HF.out]; rfl, B4.out⟩
  · have HF : Hid (X = if q = false then (Gate.zero, 36) else (y, 0)) := Lib.hid (by rw [HX.out, if_neg h0])
    clear HX
    go_wp2_with (first | (with_reducible refine wpList_load_whole Gate.isRec rfl _ rfl gG (by with_unfolding_all exact rfl) _ _ (Gate.len _) G3.out ?_) | (with_reducible refine wpList_load_whole Gate.isRec rfl _ rfl gY (by with_unfolding_all exact rfl) _ _ (Gate.len _) Y3.out ?_) | (with_reducible refine wpList_load_whole Gate.isRec rfl _ rfl gO (by with_unfolding_all exact rfl) _ _ (Gate.len _) O3.out ?_))
    refine (CV.out w3 (T0.out.below B3.out T0.out.pos)).mono ?_
    rintro e4 w4 ⟨rfl, b4⟩
    have G4 : Hid (Gate.At w4 gG g) := Lib.hid (Whole.below G3.out b4 G3.out.lt)
    have Y4 : Hid (Gate.At w4 gY y) := Lib.hid (Whole.below Y3.out b4 Y3.out.lt)
    have O4 : Hid (Gate.At w4 gO Gate.zero) := Lib.hid (Whole.below O3.out b4 O3.out.lt)
    have B4 := Lib.hid (B3.out.trans (b4.mono B3.out.size))
    clear b4 G3 Y3 O3 B3
    clear c1 c2 h0
    cases q with
    | false =>
      go_wp2_with (first | (with_reducible refine wpList_load_whole Gate.isRec rfl _ rfl gG (by with_unfolding_all exact rfl) _ _ (Gate.len _) G4.out ?_) | (with_reducible refine wpList_load_whole Gate.isRec rfl _ rfl gY (by with_unfolding_all exact rfl) _ _ (Gate.len _) Y4.out ?_) | (with_reducible refine wpList_load_whole Gate.isRec rfl _ rfl gO (by with_unfolding_all exact rfl) _ _ (Gate.len _) O4.out ?_) | (with_reducible refine wpList_store_whole rfl 23 _ _ rfl gO Gate.zero.enc.toArray (by with_unfolding_all exact rfl) (by with_unfolding_all exact rfl) _ _ O4.out (Gate.size _) rfl (Gate.one _) ?_))
      intro w5 q5 x5 z5
      have O5 : Hid (Gate.At w5 gO Gate.zero) := Lib.hid x5
      have G5 : Hid (Gate.At w5 gG g) := Lib.hid (grown_far G4.out q5 (by have := N_G_O.out; omega))
      have Y5 : Hid (Gate.At w5 gY y) := Lib.hid (grown_far Y4.out q5 (by have := N_Y_O.out; omega))
      have B5 := Lib.hid (B4.out.grown q5 B4.out.size (fun k hk => by injection hk with hk; have := M_O.out; omega))
      clear q5 x5 z5 O4 G4 Y4 B4
      go_wp2
      exact bodyPost_ret (results_rec_tmp Gate.isRec rfl _ _ _ _ _ rfl rfl O5.out) rfl ⟨by rw [HF.out]; rfl, B5.out⟩
    | true =>
      go_wp2_with (first | (with_reducible refine wpList_load_whole Gate.isRec rfl _ rfl gG (by with_unfolding_all exact rfl) _ _ (Gate.len _) G4.out ?_) | (with_reducible refine wpList_load_whole Gate.isRec rfl _ rfl gY (by with_unfolding_all exact rfl) _ _ (Gate.len _) Y4.out ?_) | (with_reducible refine wpList_load_whole Gate.isRec rfl _ rfl gO (by with_unfolding_all exact rfl) _ _ (Gate.len _) O4.out ?_) | (with_reducible refine wpList_store_whole rfl 23 _ _ rfl gO y.enc.toArray (by with_unfolding_all exact rfl) (by with_unfolding_all exact rfl) _ _ O4.out (Gate.size _) rfl (Gate.one _) ?_))
      intro w5 q5 x5 z5
      have O5 : Hid (Gate.At w5 gO y) := Lib.hid x5
      have G5 : Hid (Gate.At w5 gG g) := Lib.hid (grown_far G4.out q5 (by have := N_G_O.out; omega))
      have Y5 : Hid (Gate.At w5 gY y) := Lib.hid (grown_far Y4.out q5 (by have := N_Y_O.out; omega))
      have B5 := Lib.hid (B4.out.grown q5 B4.out.size (fun k hk => by injection hk with hk; have := M_O.out; omega))
      clear q5 x5 z5 O4 G4 Y4 B4
      go_wp2
      exact bodyPost_ret (results_rec_tmp Gate.isRec rfl _ _ _ _ _ rfl rfl O5.out) rfl ⟨by rw [HF.out]; rfl, B5.out⟩

set_option maxHeartbeats 1000000 in
theorem gaHolds_any (p : Peer) (w : World) : Calls Tryd.prog 16 #[p.val] w fun e w' => e = .returned (.bool (holdsP p)) ∧ Below w.heap.size w w' := by
  have CV := Lib.hid (fun w => right_any p.entry w)
  have HX : Hid (holdsP p = (entR p.entry && decide (p.entry.since ≤ p.since) && decide (p.since ≤ p.entry.till) && decide (p.entry.index = p.under))) := Lib.hid rfl
  obtain ⟨X, hX⟩ : ∃ X, X = holdsP p := ⟨_, rfl⟩
  rw [← hX] at HX ⊢
  obtain ⟨q, hq⟩ : ∃ q, q = entR p.entry := ⟨_, rfl⟩
  simp only [← hq] at CV HX
  clear hX hq
  go_enter Tryd.func16, Tryd.ntmps16
  go_wp2_with (refine wpList_box_row rfl 31 _ rfl p.enc.toArray (by with_unfolding_all exact rfl) ?_)
  intro w1 b1 x1 z1
  obtain ⟨gP, hgP⟩ : ∃ g, g = w.heap.size := ⟨_, rfl⟩
  have M_P := Lib.hid (show w.heap.size ≤ gP from by rw [hgP]; exact Nat.le_refl _)
  have B1 := Lib.hid b1
  rw [← hgP] at x1 ⊢
  have P1 : Hid (Peer.At w1 gP p) := Lib.hid x1
  clear b1 x1 z1 hgP 
  go_wp2_with (first | (with_reducible refine wpList_load_whole Peer.isRec rfl _ rfl gP (by with_unfolding_all exact rfl) _ _ (Peer.len _) P1.out ?_) | (with_reducible refine wpList_load_rec Ent.isRec rfl _ rfl gP 0 (by with_unfolding_all exact rfl) _ (Ent.len _) (Peer.At.part_entry P1.out) ?_) | (refine wpList_alloc_row rfl 29 rfl Ent.zero.enc.toArray Ent.zero_is ?_))
  intro w2 b2 x2 z2
  obtain ⟨gE, hgE⟩ : ∃ g, g = w1.heap.size := ⟨_, rfl⟩
  have N_P_E := Lib.hid (show gP < gE from by rw [hgE]; exact P1.out.lt)
  have M_E := Lib.hid (show w.heap.size ≤ gE from by rw [hgE]; exact B1.out.size)
  have P2 : Hid (Peer.At w2 gP p) := Lib.hid (Whole.below P1.out b2 P1.out.lt)
  have B2 := Lib.hid (B1.out.trans (b2.mono B1.out.size))
  rw [← hgE] at x2 ⊢
  have E2 : Hid (Ent.At w2 gE Ent.zero) := Lib.hid x2
  clear b2 x2 z2 hgE P1 B1
  go_wp2_with (first | (with_reducible refine wpList_load_whole Peer.isRec rfl _ rfl gP (by with_unfolding_all exact rfl) _ _ (Peer.len _) P2.out ?_) | (with_reducible refine wpList_load_rec Ent.isRec rfl _ rfl gP 0 (by with_unfolding_all exact rfl) _ (Ent.len _) (Peer.At.part_entry P2.out) ?_) | (with_reducible refine wpList_load_whole Ent.isRec rfl _ rfl gE (by with_unfolding_all exact rfl) _ _ (Ent.len _) E2.out ?_) | (with_reducible refine wpList_store_whole rfl 29 _ _ rfl gE p.entry.enc.toArray (by with_unfolding_all exact rfl) (by with_unfolding_all exact rfl) _ _ E2.out (Ent.size _) rfl (Ent.one _) ?_))
  intro w3 q3 x3 z3
  have E3 : Hid (Ent.At w3 gE p.entry) := Lib.hid x3
  have P3 : Hid (Peer.At w3 gP p) := Lib.hid (grown_far P2.out q3 (by have := N_P_E.out; omega))
  have B3 := Lib.hid (B2.out.grown q3 B2.out.size (fun k hk => by injection hk with hk; have := M_E.out; omega))
  clear q3 x3 z3 E2 P2 B2
  go_wp2_with (first | (with_reducible refine wpList_load_whole Peer.isRec rfl _ rfl gP (by with_unfolding_all exact rfl) _ _ (Peer.len _) P3.out ?_) | (with_reducible refine wpList_load_rec Ent.isRec rfl _ rfl gP 0 (by with_unfolding_all exact rfl) _ (Ent.len _) (Peer.At.part_entry P3.out) ?_) | (with_reducible refine wpList_load_whole Ent.isRec rfl _ rfl gE (by with_unfolding_all exact rfl) _ _ (Ent.len _) E3.out ?_))
  refine (CV.out w3).mono ?_
  rintro e4 w4 ⟨rfl, b4⟩
  have P4 : Hid (Peer.At w4 gP p) := Lib.hid (Whole.below P3.out b4 P3.out.lt)
  have E4 : Hid (Ent.At w4 gE p.entry) := Lib.hid (Whole.below E3.out b4 E3.out.lt)
  have B4 := Lib.hid (B3.out.trans (b4.mono B3.out.size))
  clear b4 P3 E3 B3
  have c1 := Ent.At.at_since E4.out
  have c2 := Ent.At.at_till E4.out
  have c3 := Ent.At.at_index E4.out
  have c4 := Peer.At.at_since P4.out
  have c5 := Peer.At.at_under P4.out
  clear CV
  have fin : ∀ x : Bool, x = X → Ending.returned (Value.bool x) = Ending.returned (Value.bool X) := fun x h => by rw [h]
  cases q with
  | false =>
    go_wp2
    go_ret
    exact ⟨fin _ (by rw [HX.out]; simp), B4.out⟩
  | true =>
    by_cases h1 : p.entry.since ≤ p.since
    · by_cases h2 : p.since ≤ p.entry.till
      · go_wp2
        go_ret
        exact ⟨fin _ (by rw [HX.out, Bool.eq_iff_iff]; simp [h1, h2]; omega), B4.out⟩
      · go_wp2
        go_ret
        exact ⟨fin _ (by rw [HX.out, Bool.eq_iff_iff]; simp; omega), B4.out⟩
    · go_wp2
      go_ret
      exact ⟨fin _ (by rw [HX.out, Bool.eq_iff_iff]; simp; omega), B4.out⟩

/-- What was gathered: a variable of its own, and the rows that it holds. -/
structure TkAt (w : World) (base g : Nat) (v : Value) (l : List Peer) : Prop where
  var : Whole w g 38 #[v]
  rows : OwnRows w base 31 8 v (l.map Peer.enc)
  apart : v.ownBlock ≠ some g
abbrev TFoot (g : Nat) (v : Value) : Nat → Prop := fun i => i = g ∨ v.ownBlock = some i
theorem TkAt.below {w w' : World} {base g : Nat} {v : Value} {l : List Peer} (h : TkAt w base g v l) (b : Below w.heap.size w w') : TkAt w' base g v l := ⟨h.var.below b h.var.lt, h.rows.below b rfl, h.apart⟩
theorem TkAt.low {w w' : World} {base g : Nat} {v : Value} {l : List Peer} (h : TkAt w base g v l) (hg : base ≤ g) (k : Keeps (TFoot g v) w w') : Below base w w' :=
  k.below (fun i hi => hi.elim (fun e => e ▸ hg) (fun e => (h.rows.lt i e).1)) (Nat.le_trans hg (Nat.le_of_lt h.var.lt))
theorem TkAt.cell {w : World} {base g : Nat} {v : Value} {l : List Peer} (h : TkAt w base g v l) : w.cell? ⟨g, 0, none⟩ = some v := h.var.at_ 0

set_option maxHeartbeats 1000000 in
theorem gaGather_any (p : Peer) (g base : Nat) (v : Value) (l : List Peer) (hl : l.length ≤ 1000) (w : World) (hb : base ≤ w.heap.size) (h : TkAt w base g v l) :
    Calls Tryd.prog 24 #[p.val, .pointer (some ⟨g, 0, none⟩)] w fun e w' => e = .returned (.tuple #[]) ∧ ∃ v', TkAt w' base g v' (l ++ [p]) ∧ Moves (TFoot g v) (TFoot g v') w w' := by
  have V0 := Lib.hid h
  have HL : Hid ((l.map Peer.enc).length + [Peer.enc p].length ≤ 10000000) := Lib.hid (by simp; omega)
  have HB := Lib.hid hb
  have c0 := h.cell
  clear hl hb h
  go_enter Tryd.func24, Tryd.ntmps24
  go_wp2_with (refine wpList_box_row rfl 31 _ rfl p.enc.toArray (by with_unfolding_all exact rfl) ?_)
  intro w1 b1 x1 z1
  have X1 : Hid (Peer.At w1 w.heap.size p) := Lib.hid x1
  have V1 := Lib.hid (V0.out.below b1)
  have M1 := Lib.hid (Moves.of_below (TFoot g v) b1)
  have HB1 := Lib.hid (Nat.le_trans HB.out b1.size)
  clear b1 x1 z1 c0 V0 HB
  have c0 := TkAt.cell V1.out
  go_wp2_with (first | (with_reducible refine wpList_load_whole Peer.isRec rfl _ rfl w.heap.size (by with_unfolding_all exact rfl) _ _ (Peer.len _) X1.out ?_) | (with_reducible refine Peer.wpList_one rfl _ rfl p (by with_unfolding_all exact rfl) ?_))
  intro w2 b2 y2 z2
  have Y2 := Lib.hid y2
  have V2 := Lib.hid (V1.out.below b2)
  have M2 := Lib.hid (M1.out.trans (Moves.of_below (TFoot g v) b2))
  have HB2 := Lib.hid (Nat.le_trans HB1.out b2.size)
  clear b2 y2 z2 c0 V1 HB1 M1 X1
  go_wp2_with (with_reducible refine wpList_append_rows_at Peer.isElem.z rfl _ _ rfl v (by with_unfolding_all exact rfl) V2.out.rows _ [Peer.enc p] (by with_unfolding_all exact rfl) Y2.out (fun c hc => by rw [List.mem_singleton] at hc; subst hc; exact ⟨rfl, fun u hu => (Peer.fits p).one u hu⟩) HL.out HB2.out ?_)
  intro v' w3 o3 q3 h3
  have VW : Hid (Whole w3 g 38 #[v]) := Lib.hid (V2.out.var.grown_own q3 V2.out.apart)
  obtain ⟨A, cap, hv⟩ := o3.form
  rw [show (List.map Peer.enc l ++ [p.enc]).length = l.length + 1 by simp] at hv
  have O3 := Lib.hid o3
  have Q3 := Lib.hid q3
  have H3 := Lib.hid h3
  subst hv
  clear o3 q3 h3
  go_wp2_with (with_reducible refine wpList_put_cell 38 ⟨by kernel_rfl, by kernel_rfl⟩ rfl _ _ rfl g 0 (by with_unfolding_all exact rfl) _ (by with_unfolding_all exact rfl) (by with_unfolding_all exact rfl) (by with_unfolding_all exact rfl) _ _ VW.out _ (by with_unfolding_all exact rfl) ?_)
  intro w4 q4 x4 z4
  obtain ⟨v', hv'⟩ : ∃ q, q = Value.slice A (l.length + 1) cap := ⟨_, rfl⟩
  rw [← hv'] at x4 O3 H3
  have hne : v'.ownBlock ≠ some g := H3.out.elim (fun e => e ▸ V2.out.apart) (fun e => by rw [e]; intro k; injection k with k; have := V2.out.var.lt; omega)
  have hT : TkAt w4 base g v' (l ++ [p]) := ⟨x4, by rw [List.map_append]; exact O3.out.far q4 hne, hne⟩
  have hk : Keeps (TFoot g v) w2 w4 := (Keeps.of_grown (F := TFoot g v) Q3.out (fun k e => .inl (.inr e))).then (Keeps.of_grown (F := fun i => i = g) q4 (fun k e => .inl (by injection e with e; exact e.symm))) (fun i e => .inl (.inl e))
  have hm : Moves (TFoot g v) (TFoot g v') w2 w4 := ⟨hk, fun i hi => hi.elim (fun e => .inl (.inl e)) (fun e => H3.out.elim (fun k => .inl (.inr (k ▸ e))) (fun k => .inr (by rw [k] at e; injection e with e; omega)))⟩
  have E := Lib.hid (show TkAt w4 base g v' (l ++ [p]) ∧ Moves (TFoot g v) (TFoot g v') w w4 from ⟨hT, M2.out.trans hm⟩)
  clear q4 x4 z4 VW O3 Q3 H3 hne hT hk hm hv' V2 Y2 M2 HB2
  go_wp2
  go_end0
  exact ⟨rfl, v', E.out.1, E.out.2⟩

set_option maxHeartbeats 2000000 in
theorem each_any (W : World) (g : Gate) (A : Option Addr) (m cap : Nat) (l : List Ent) (now : Int) (hk : g.key.length ≤ 4000) (hl : ∀ e ∈ l, e.name.length ≤ 1000 ∧ e.tag.length ≤ 1000) (hm : m ≤ 1000) (h : RowsAt W (.slice A m cap) 6 (l.map Ent.enc)) (T : Tab W) (gT : Nat) (hgT : W.heap.size ≤ gT) (w : World) (v : Value) (hv : TkAt w W.heap.size gT v []) (hb : Below W.heap.size W w) :
    Calls Tryd.prog 23 #[g.val, .slice A m cap, .int .i64 now, .func (.func 24) #[] #[.pointer (some ⟨gT, 0, none⟩)]] w fun e w' => e = .returned (.tuple #[]) ∧ ∃ v', TkAt w' W.heap.size gT v' (thoseP g now l) ∧ Below W.heap.size W w' := by
  have HA := Lib.hid h
  have HLn : m = l.length := by have := h.size.1; simpa using this
  have HL := Lib.hid HLn
  have HI := Lib.hid hl
  have HK := Lib.hid hk
  have HM := Lib.hid hm
  have T0 := Lib.hid T
  have HG := Lib.hid hgT
  have V0 := Lib.hid hv
  have B0 := Lib.hid hb
  clear h hl hk hm HLn T hgT hv hb
  go_enter Tryd.func23, Tryd.ntmps23
  go_wp2_with (refine wpList_box_row rfl 23 _ rfl g.enc.toArray (by with_unfolding_all exact rfl) ?_)
  intro w1 b1 x1 z1
  obtain ⟨gG, hgG⟩ : ∃ q, q = w.heap.size := ⟨_, rfl⟩
  rw [← hgG] at x1 ⊢
  have X1 : Hid (Gate.At w1 gG g) := Lib.hid x1
  have V1 := Lib.hid (V0.out.below b1)
  have B1 := Lib.hid (B0.out.trans (b1.mono B0.out.size))
  have N1 : Hid (¬ TFoot gT v gG) := Lib.hid (fun k => k.elim (fun e => by have := V0.out.var.lt; omega) (fun e => by have := (V0.out.rows.lt _ e).2; omega))
  clear b1 x1 z1 V0 B0 hgG
  go_wp2_with fail
  go_loopw [14] (fun i wr => ∃ (k : Nat) (u : Value), k ≤ m ∧ i = .int .i64 (k : Int) ∧ TkAt wr W.heap.size gT u (thoseP g now (l.take k)) ∧ Gate.At wr gG g ∧ (¬ TFoot gT u gG) ∧ Below W.heap.size W wr) (fun i _ => m - (intOf i).toNat)
  case atStart => exact ⟨0, v, Nat.zero_le _, rfl, V1.out, X1.out, N1.out, B1.out⟩
  case round =>
    obtain ⟨k, u, hk, rfl, hv, hg, hn, hb⟩ := hrel
    have V0 := Lib.hid hv
    have G0 := Lib.hid hg
    have N0 := Lib.hid hn
    have B0 := Lib.hid hb
    clear hv hg hn hb X1 V1 B1 N1
    by_cases hlt : k < m
    · have dk : decide ((k : Int) < (m : Int)) = true := by simp; omega
      obtain ⟨x, hx⟩ : ∃ x, l[k]? = some x := ⟨_, List.getElem?_eq_getElem (by rw [← HL.out]; exact hlt)⟩
      obtain ⟨hxn, hxi⟩ := HI.out x (List.mem_of_getElem? hx)
      obtain ⟨b, off, rfl, hbl, hc⟩ := HA.out.row (fun c hc => by obtain ⟨y, _, rfl⟩ := List.mem_map.1 hc; exact y.len) (by decide) (map_at hx)
      have HC := Lib.hid (fun j u (hj : x.enc[j]? = some u) => (B0.out.cell (p := ⟨b, off + k * 6 + j, none⟩) hbl).trans (hc j u hj))
      have HT : Hid (thoseP g now (l.take (k + 1)) = thoseP g now (l.take k) ++ if (takeP g x now).2 = 0 then [(takeP g x now).1] else []) := Lib.hid (by rw [take_snoc hx, thoseP_append]; congr 1; exact those_one g now x)
      have HN : Hid ((thoseP g now (l.take k)).length ≤ 1000) := Lib.hid (by have h1 := thoseP_length g now (l.take k); have h2 := HM.out; rw [List.length_take] at h1; omega)
      have CT := Lib.hid (fun w T => gaTake_any g x now HK.out hxn hxi w T)
      have jk : (k : Int) < (m : Int) := by omega
      clear hc hx hxn hxi
      have r4 : IntKind.i64.wrap ((k : Int) + 1) = ((k + 1 : Nat) : Int) := by have := HM.out; rw [IntWalk.i64_in _ (by omega)]; omega
      generalize takeP g x now = pq at *
      obtain ⟨p, q⟩ := pq
      simp only at CT HT
      go_wp2_with (first | (with_reducible refine wpList_load_rec Ent.isRec rfl _ rfl b (off + k * 6) (by with_unfolding_all exact rfl) x.enc (Ent.len _) HC.out ?_) | (refine wpList_alloc_row rfl 29 rfl Ent.zero.enc.toArray Ent.zero_is ?_))
      intro w2 b2 x2 z2
      obtain ⟨gE, hgE⟩ : ∃ q, q = wr.heap.size := ⟨_, rfl⟩
      have NG2 := Lib.hid (show gG < gE from by rw [hgE]; exact G0.out.lt)
      have NT2 := Lib.hid (show gT < gE from by rw [hgE]; exact V0.out.var.lt)
      have NO2 := Lib.hid (show ∀ i, u.ownBlock = some i → i < gE from fun i e => by rw [hgE]; exact (V0.out.rows.lt i e).2)
      have ND2 := Lib.hid (show W.heap.size ≤ gE from by rw [hgE]; exact B0.out.size)
      rw [← hgE] at x2 ⊢
      have X2 : Hid (Ent.At w2 gE Ent.zero) := Lib.hid x2
      have V2 := Lib.hid (V0.out.below b2)
      have G2 : Hid (Gate.At w2 gG g) := Lib.hid (Whole.below G0.out b2 G0.out.lt)
      have B2 := Lib.hid (B0.out.trans (b2.mono B0.out.size))
      clear b2 x2 z2 V0 G0 B0 HC hgE
      go_wp2_with (with_reducible refine wpList_store_whole rfl 29 _ _ rfl gE x.enc.toArray (by with_unfolding_all exact rfl) (by with_unfolding_all exact rfl) _ _ X2.out (Ent.size _) rfl (Ent.one _) ?_)
      intro w3 q3 x3 z3
      have X3 : Hid (Ent.At w3 gE x) := Lib.hid x3
      have V3 : Hid (TkAt w3 W.heap.size gT u (thoseP g now (l.take k))) := Lib.hid ⟨grown_far V2.out.var q3 (by have := NT2.out; omega), V2.out.rows.far q3 (fun e => by have := NO2.out _ e; omega), V2.out.apart⟩
      have G3 : Hid (Gate.At w3 gG g) := Lib.hid (grown_far G2.out q3 (by have := NG2.out; omega))
      have B3 := Lib.hid (B2.out.grown q3 B2.out.size (fun k hk => by injection hk with hk; have := ND2.out; omega))
      clear q3 x3 z3 X2 V2 G2 B2
      go_wp2_with (first | (with_reducible refine wpList_load_whole Gate.isRec rfl _ rfl gG (by with_unfolding_all exact rfl) _ _ (Gate.len _) G3.out ?_) | (with_reducible refine wpList_load_whole Ent.isRec rfl _ rfl gE (by with_unfolding_all exact rfl) _ _ (Ent.len _) X3.out ?_))
      refine (CT.out w3 (T0.out.below B3.out T0.out.pos)).mono ?_
      rintro e w4 ⟨rfl, b4⟩
      have V4 := Lib.hid (V3.out.below b4)
      have G4 : Hid (Gate.At w4 gG g) := Lib.hid (Whole.below G3.out b4 G3.out.lt)
      have B4 := Lib.hid (B3.out.trans (b4.mono B3.out.size))
      clear b4 V3 G3 B3 X3 CT
      go_wp2_with (refine wpList_alloc_row rfl 31 rfl Peer.zero.enc.toArray Peer.zero_is ?_)
      intro w5 b5 x5 z5
      obtain ⟨gP, hgP⟩ : ∃ q, q = w4.heap.size := ⟨_, rfl⟩
      have NG5 := Lib.hid (show gG < gP from by rw [hgP]; exact G4.out.lt)
      have NT5 := Lib.hid (show gT < gP from by rw [hgP]; exact V4.out.var.lt)
      have NO5 := Lib.hid (show ∀ i, u.ownBlock = some i → i < gP from fun i e => by rw [hgP]; exact (V4.out.rows.lt i e).2)
      have ND5 := Lib.hid (show W.heap.size ≤ gP from by rw [hgP]; exact B4.out.size)
      rw [← hgP] at x5 ⊢
      have X5 : Hid (Peer.At w5 gP Peer.zero) := Lib.hid x5
      have V5 := Lib.hid (V4.out.below b5)
      have G5 : Hid (Gate.At w5 gG g) := Lib.hid (Whole.below G4.out b5 G4.out.lt)
      have B5 := Lib.hid (B4.out.trans (b5.mono B4.out.size))
      clear b5 x5 z5 V4 G4 B4 hgP
      go_wp2_with (with_reducible refine wpList_store_whole rfl 31 _ _ rfl gP p.enc.toArray (by with_unfolding_all exact rfl) (by with_unfolding_all exact rfl) _ _ X5.out (Peer.size _) rfl (Peer.one _) ?_)
      intro w6 q6 x6 z6
      have X6 : Hid (Peer.At w6 gP p) := Lib.hid x6
      have V6 : Hid (TkAt w6 W.heap.size gT u (thoseP g now (l.take k))) := Lib.hid ⟨grown_far V5.out.var q6 (by have := NT5.out; omega), V5.out.rows.far q6 (fun e => by have := NO5.out _ e; omega), V5.out.apart⟩
      have G6 : Hid (Gate.At w6 gG g) := Lib.hid (grown_far G5.out q6 (by have := NG5.out; omega))
      have B6 := Lib.hid (B5.out.grown q6 B5.out.size (fun k hk => by injection hk with hk; have := ND5.out; omega))
      clear q6 x6 z6 X5 V5 G5 B5
      by_cases h0 : q = 0
      · subst h0
        have CG := Lib.hid (gaGather_any p gT W.heap.size u _ HN.out w6 B6.out.size V6.out)
        go_wp2_with (with_reducible refine wpList_load_whole Peer.isRec rfl _ rfl gP (by with_unfolding_all exact rfl) _ _ (Peer.len _) X6.out ?_)
        refine CG.out.mono ?_
        rintro e w7 ⟨rfl, u', hv7, hm7⟩
        have V7 := Lib.hid hv7
        have G7 : Hid (Gate.At w7 gG g) := Lib.hid (Whole.keeps G6.out hm7.keeps N0.out)
        have N7 : Hid (¬ TFoot gT u' gG) := Lib.hid (fun e => (hm7.foot _ e).elim N0.out (fun e => by have := G6.out.lt; omega))
        have B7 := Lib.hid (B6.out.trans (V6.out.low HG.out hm7.keeps))
        clear hv7 hm7 V6 G6 B6 N0 X6 CG
        go_wp2_with fail
        exact ⟨⟨k + 1, u', by omega, by go_num, by rw [HT.out, if_pos trivial]; exact V7.out, G7.out, N7.out, B7.out⟩, by simp [intOf]; omega⟩
      · have e1 : (q == 0) = false := by simpa using h0
        go_wp2_with fail
        exact ⟨⟨k + 1, u, by omega, by go_num, by rw [HT.out, if_neg h0, List.append_nil]; exact V6.out, G6.out, N0.out, B6.out⟩, by simp [intOf]; omega⟩
    · have dk : decide ((k : Int) < (m : Int)) = false := by simp; omega
      have HT : Hid (l.take k = l) := Lib.hid (List.take_of_length_le (by rw [← HL.out]; omega))
      go_wp2
      go_end0
      exact ⟨rfl, u, by have q := V0.out; rw [HT.out] at q; exact q, B0.out⟩

set_option maxHeartbeats 1000000 in
theorem gaThose_any (g : Gate) (A : Option Addr) (m cap : Nat) (l : List Ent) (now : Int) (hk : g.key.length ≤ 4000) (hl : ∀ e ∈ l, e.name.length ≤ 1000 ∧ e.tag.length ≤ 1000) (hm : m ≤ 1000) (w : World) (h : RowsAt w (.slice A m cap) 6 (l.map Ent.enc)) (T : Tab w) :
    Calls Tryd.prog 11 #[g.val, .slice A m cap, .int .i64 now] w fun e w' => ∃ v, e = .returned v ∧ RowsAt w' v 8 ((thoseP g now l).map Peer.enc) ∧ Below w.heap.size w w' := by
  have CE := Lib.hid (fun gT hgT w1 v hv hb => each_any w g A m cap l now hk hl hm h T gT hgT w1 v hv hb)
  clear hk hl hm h T
  go_enter Tryd.func11, Tryd.ntmps11
  go_wp2_with (refine wpList_box_row rfl 23 _ rfl g.enc.toArray (by with_unfolding_all exact rfl) ?_)
  intro w1 b1 x1 z1
  have X1 : Hid (Gate.At w1 w.heap.size g) := Lib.hid x1
  have B1 := Lib.hid b1
  clear b1 x1 z1
  obtain ⟨gT, hgT⟩ : ∃ q, q = w1.heap.size := ⟨_, rfl⟩
  have b2 : Below w1.heap.size w1 (w1.alloc (.cells #[.slice none 0 0] 38)) := (Below.refl _ _).alloc (Nat.le_refl _) _
  have V2 : Hid (TkAt (w1.alloc (.cells #[.slice none 0 0] 38)) w.heap.size gT (.slice none 0 0) []) := Lib.hid ⟨by rw [hgT]; exact Whole.new w1 _ _, OwnRows.nil _ _ _ _, by simp [Value.ownBlock]⟩
  have X2 : Hid (Gate.At (w1.alloc (.cells #[.slice none 0 0] 38)) w.heap.size g) := Lib.hid (Whole.below X1.out b2 X1.out.lt)
  have B2 := Lib.hid (B1.out.trans (b2.mono B1.out.size))
  have HG := Lib.hid (show w.heap.size ≤ gT from by rw [hgT]; exact B1.out.size)
  clear b2
  have hmf : ∀ (fn : Fn) (first cap : Array Value) (w : World), (Instr.makeFunc fn first cap).run Tryd.prog w = .ok (.func fn first cap) w := fun _ _ _ _ => rfl
  go_wp2_with (with_reducible refine wpList_load_whole Gate.isRec rfl _ rfl w.heap.size (by with_unfolding_all exact rfl) _ _ (Gate.len _) X2.out ?_)
  rw [← hgT]
  refine (CE.out gT HG.out _ _ V2.out B2.out).mono ?_
  rintro e w3 ⟨rfl, v, hv, hb⟩
  have V3 := Lib.hid hv
  have B3 := Lib.hid hb
  have c0 := TkAt.cell V3.out
  clear hv hb V2 X2 B2 CE X1 B1 hmf hgT
  go_wp2
  go_ret
  exact ⟨v, rfl, V3.out.rows.rows, B3.out⟩
end Go.Proofs.YtehalcopkjfdkaaDoor
