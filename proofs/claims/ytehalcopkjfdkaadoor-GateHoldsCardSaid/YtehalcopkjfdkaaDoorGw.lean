/- Layer 15: whom a gate takes: plain functions, what the document's functions answer. -/
import Derived.Test.YtehalcopkjfdkaaDoorGe
import Derived.Test.YtehalcopkjfdkaaDoorGt
import Derived.Test.YtehalcopkjfdkaaDoorGv
import Derived.Test.YtehalcopkjfdkaaDoorGf
import Derived.Deep.LoopGhost
import Derived.StillTailTactics
namespace Go.Proofs.YtehalcopkjfdkaaDoor
set_option maxRecDepth 100000
open Go.RowKit

/-- Take: the peer, and the error. -/
def takeP (g : Gate) (e : Ent) (now : Int) : Peer × Int := if validX g.index g.key e now = 0 then (⟨e, now, g.index⟩, 0) else (Peer.zero, validX g.index g.key e now)
def raiseG (g y : Gate) : Gate × Int := if y.index ≤ g.index then (Gate.zero, 26) else if leadsB y.index y.key g.index g.key = false then (Gate.zero, 36) else (y, 0)
def holdsP (p : Peer) : Bool := entR p.entry && decide (p.entry.since ≤ p.since) && decide (p.since ≤ p.entry.till) && decide (p.entry.index = p.under)
def thoseP (g : Gate) (now : Int) : List Ent → List Peer
  | [] => []
  | e :: r => if validX g.index g.key e now = 0 then ⟨e, now, g.index⟩ :: thoseP g now r else thoseP g now r
theorem thoseP_length (g : Gate) (now : Int) (l : List Ent) : (thoseP g now l).length ≤ l.length := by
  induction l with
  | nil => exact Nat.le_refl _
  | cons e r ih =>
    rw [thoseP]
    split
    · simpa using ih
    · exact Nat.le_succ_of_le ih
theorem thoseP_append (g : Gate) (now : Int) (a b : List Ent) : thoseP g now (a ++ b) = thoseP g now a ++ thoseP g now b := by
  induction a with
  | nil => rfl
  | cons e r ih =>
    rw [List.cons_append, thoseP, thoseP, ih]
    split <;> rfl

set_option maxRecDepth 100000 in
set_option maxHeartbeats 1000000 in
theorem refTake_any (g : Gate) (a : Ent) (now : Int) (hk : g.key.length ≤ 4000) (hn : a.name.length ≤ 1000) (hi : a.id < 18446744073709551616) (w : World) :
    Calls Tryd.prog 9 #[g.val, a.val, .int .i64 now] w fun e w' => e = .returned (.tuple #[(takeP g a now).1.val, .int .i64 (takeP g a now).2]) ∧ Below w.heap.size w w' := by
  have CV := Lib.hid (fun w => refValid_any g.index g.key a now hk hn hi w)
  have HX : Hid (takeP g a now = if validX g.index g.key a now = 0 then (⟨a, now, g.index⟩, 0) else (Peer.zero, validX g.index g.key a now)) := Lib.hid rfl
  obtain ⟨X, hX⟩ : ∃ X, X = takeP g a now := ⟨_, rfl⟩
  rw [← hX] at HX ⊢
  obtain ⟨q, hq⟩ : ∃ q, q = validX g.index g.key a now := ⟨_, rfl⟩
  simp only [← hq] at CV HX
  clear hX hq hk hn hi
  go_enter Tryd.func9, Tryd.ntmps9
  go_wp2_with (refine wpList_box_row rfl 23 _ rfl g.enc.toArray (by with_unfolding_all exact rfl) ?_)
  intro w1 b1 x1 z1
  obtain ⟨gG, hgG⟩ : ∃ g, g = w.heap.size := ⟨_, rfl⟩
  have M_G := Lib.hid (show w.heap.size ≤ gG from by rw [hgG]; exact Nat.le_refl _)
  have B1 := Lib.hid b1
  rw [← hgG] at x1 ⊢
  have G1 : Hid (Gate.At w1 gG g) := Lib.hid x1
  clear b1 x1 z1 hgG 
  go_wp2_with (first | (with_reducible refine wpList_load_whole Gate.isRec rfl _ rfl gG (by with_unfolding_all exact rfl) _ _ (Gate.len _) G1.out ?_) | (refine wpList_box_row rfl 29 _ rfl a.enc.toArray (by with_unfolding_all exact rfl) ?_))
  intro w2 b2 x2 z2
  obtain ⟨gE, hgE⟩ : ∃ g, g = w1.heap.size := ⟨_, rfl⟩
  have N_G_E := Lib.hid (show gG < gE from by rw [hgE]; exact G1.out.lt)
  have M_E := Lib.hid (show w.heap.size ≤ gE from by rw [hgE]; exact B1.out.size)
  have G2 : Hid (Gate.At w2 gG g) := Lib.hid (Whole.below G1.out b2 G1.out.lt)
  have B2 := Lib.hid (B1.out.trans (b2.mono B1.out.size))
  rw [← hgE] at x2 ⊢
  have E2 : Hid (Ent.At w2 gE a) := Lib.hid x2
  clear b2 x2 z2 hgE G1 B1
  go_wp2_with (first | (with_reducible refine wpList_load_whole Gate.isRec rfl _ rfl gG (by with_unfolding_all exact rfl) _ _ (Gate.len _) G2.out ?_) | (with_reducible refine wpList_load_whole Ent.isRec rfl _ rfl gE (by with_unfolding_all exact rfl) _ _ (Ent.len _) E2.out ?_) | (refine wpList_alloc_row rfl 31 rfl Peer.zero.enc.toArray Peer.zero_is ?_))
  intro w3 b3 x3 z3
  obtain ⟨gO, hgO⟩ : ∃ g, g = w2.heap.size := ⟨_, rfl⟩
  have N_G_O := Lib.hid (show gG < gO from by rw [hgO]; exact G2.out.lt)
  have N_E_O := Lib.hid (show gE < gO from by rw [hgO]; exact E2.out.lt)
  have M_O := Lib.hid (show w.heap.size ≤ gO from by rw [hgO]; exact B2.out.size)
  have G3 : Hid (Gate.At w3 gG g) := Lib.hid (Whole.below G2.out b3 G2.out.lt)
  have E3 : Hid (Ent.At w3 gE a) := Lib.hid (Whole.below E2.out b3 E2.out.lt)
  have B3 := Lib.hid (B2.out.trans (b3.mono B2.out.size))
  rw [← hgO] at x3 ⊢
  have O3 : Hid (Peer.At w3 gO Peer.zero) := Lib.hid x3
  clear b3 x3 z3 hgO G2 E2 B2
  go_wp2_with (first | (with_reducible refine wpList_load_whole Gate.isRec rfl _ rfl gG (by with_unfolding_all exact rfl) _ _ (Gate.len _) G3.out ?_) | (with_reducible refine wpList_load_whole Ent.isRec rfl _ rfl gE (by with_unfolding_all exact rfl) _ _ (Ent.len _) E3.out ?_) | (with_reducible refine wpList_load_whole Peer.isRec rfl _ rfl gO (by with_unfolding_all exact rfl) _ _ (Peer.len _) O3.out ?_) | (with_reducible refine wpList_load_rec Ent.isRec rfl _ rfl gO 0 (by with_unfolding_all exact rfl) _ (Ent.len _) (Peer.At.part_entry O3.out) ?_))
  refine (CV.out w3).mono ?_
  rintro e4 w4 ⟨rfl, b4⟩
  have G4 : Hid (Gate.At w4 gG g) := Lib.hid (Whole.below G3.out b4 G3.out.lt)
  have E4 : Hid (Ent.At w4 gE a) := Lib.hid (Whole.below E3.out b4 E3.out.lt)
  have O4 : Hid (Peer.At w4 gO Peer.zero) := Lib.hid (Whole.below O3.out b4 O3.out.lt)
  have B4 := Lib.hid (B3.out.trans (b4.mono B3.out.size))
  clear b4 G3 E3 O3 B3
  by_cases h0 : q = 0
  · subst h0
    have HF : Hid (X = (⟨a, now, g.index⟩, 0)) := Lib.hid HX.out
    clear HX CV
    have c1 := Gate.At.at_index G4.out
    go_wp2_with (first | (with_reducible refine wpList_load_whole Gate.isRec rfl _ rfl gG (by with_unfolding_all exact rfl) _ _ (Gate.len _) G4.out ?_) | (with_reducible refine wpList_load_whole Ent.isRec rfl _ rfl gE (by with_unfolding_all exact rfl) _ _ (Ent.len _) E4.out ?_) | (with_reducible refine wpList_load_whole Peer.isRec rfl _ rfl gO (by with_unfolding_all exact rfl) _ _ (Peer.len _) O4.out ?_) | (with_reducible refine wpList_load_rec Ent.isRec rfl _ rfl gO 0 (by with_unfolding_all exact rfl) _ (Ent.len _) (Peer.At.part_entry O4.out) ?_) | (with_reducible refine wpList_store_whole rfl 31 _ _ rfl gO (Peer.enc ⟨a, now, g.index⟩).toArray (by with_unfolding_all exact rfl) (by with_unfolding_all exact rfl) _ _ O4.out (Peer.size _) rfl (Peer.one _) ?_) | (with_reducible refine wpList_build_rec rfl 31 _ rfl #[(0, a.val), (1, .int .i64 now), (2, .int .i64 g.index)] (by with_unfolding_all exact rfl) (Peer.enc ⟨a, now, g.index⟩).toArray (by kernel_rfl) ?_))
    intro w5 q5 x5 z5
    have O5 : Hid (Peer.At w5 gO ⟨a, now, g.index⟩) := Lib.hid x5
    have G5 : Hid (Gate.At w5 gG g) := Lib.hid (grown_far G4.out q5 (by have := N_G_O.out; omega))
    have E5 : Hid (Ent.At w5 gE a) := Lib.hid (grown_far E4.out q5 (by have := N_E_O.out; omega))
    have B5 := Lib.hid (B4.out.grown q5 B4.out.size (fun k hk => by injection hk with hk; have := M_O.out; omega))
    clear q5 x5 z5 O4 G4 E4 B4
    go_wp2
    exact bodyPost_ret (results_rec_tmp Peer.isRec rfl _ _ _ _ _ rfl rfl O5.out) rfl ⟨by rw [HF.out]; rfl, B5.out⟩
  · have HF : Hid (X = (Peer.zero, q)) := Lib.hid (by rw [HX.out, if_neg h0])
    have e1 : (q == 0) = false := by simpa using h0
    have e2 : (q != 0) = true := by simpa using h0
    clear HX CV h0
    go_wp2_with (first | (with_reducible refine wpList_load_whole Gate.isRec rfl _ rfl gG (by with_unfolding_all exact rfl) _ _ (Gate.len _) G4.out ?_) | (with_reducible refine wpList_load_whole Ent.isRec rfl _ rfl gE (by with_unfolding_all exact rfl) _ _ (Ent.len _) E4.out ?_) | (with_reducible refine wpList_load_whole Peer.isRec rfl _ rfl gO (by with_unfolding_all exact rfl) _ _ (Peer.len _) O4.out ?_) | (with_reducible refine wpList_load_rec Ent.isRec rfl _ rfl gO 0 (by with_unfolding_all exact rfl) _ (Ent.len _) (Peer.At.part_entry O4.out) ?_) | (with_reducible refine wpList_store_whole rfl 31 _ _ rfl gO Peer.zero.enc.toArray (by with_unfolding_all exact rfl) (by with_unfolding_all exact rfl) _ _ O4.out (Peer.size _) rfl (Peer.one _) ?_))
    intro w5 q5 x5 z5
    have O5 : Hid (Peer.At w5 gO Peer.zero) := Lib.hid x5
    have G5 : Hid (Gate.At w5 gG g) := Lib.hid (grown_far G4.out q5 (by have := N_G_O.out; omega))
    have E5 : Hid (Ent.At w5 gE a) := Lib.hid (grown_far E4.out q5 (by have := N_E_O.out; omega))
    have B5 := Lib.hid (B4.out.grown q5 B4.out.size (fun k hk => by injection hk with hk; have := M_O.out; omega))
    clear q5 x5 z5 O4 G4 E4 B4
    go_wp2
    exact bodyPost_ret (results_rec_tmp Peer.isRec rfl _ _ _ _ _ rfl rfl O5.out) rfl ⟨by rw [HF.out]; rfl, B5.out⟩

set_option maxRecDepth 100000 in
set_option maxHeartbeats 1000000 in
theorem refRaise_any (g y : Gate) (hy : y.index ≤ 9223372036854775807) (hg : -9223372036854775808 ≤ g.index) (w : World) :
    Calls Tryd.prog 15 #[g.val, y.val] w fun e w' => e = .returned (.tuple #[(raiseG g y).1.val, .int .i64 (raiseG g y).2]) ∧ Below w.heap.size w w' := by
  have CV := Lib.hid (fun w => refLeads_any y.index g.index y.key g.key hy hg w)
  have HX : Hid (raiseG g y = if y.index ≤ g.index then (Gate.zero, 26) else if leadsB y.index y.key g.index g.key = false then (Gate.zero, 36) else (y, 0)) := Lib.hid rfl
  obtain ⟨X, hX⟩ : ∃ X, X = raiseG g y := ⟨_, rfl⟩
  rw [← hX] at HX ⊢
  obtain ⟨q, hq⟩ : ∃ q, q = leadsB y.index y.key g.index g.key := ⟨_, rfl⟩
  simp only [← hq] at CV HX
  clear hX hq hy hg
  go_enter Tryd.func15, Tryd.ntmps15
  go_wp2_with (refine wpList_box_row rfl 23 _ rfl g.enc.toArray (by with_unfolding_all exact rfl) ?_)
  intro w1 b1 x1 z1
  obtain ⟨gG, hgG⟩ : ∃ g, g = w.heap.size := ⟨_, rfl⟩
  have M_G := Lib.hid (show w.heap.size ≤ gG from by rw [hgG]; exact Nat.le_refl _)
  have B1 := Lib.hid b1
  rw [← hgG] at x1 ⊢
  have G1 : Hid (Gate.At w1 gG g) := Lib.hid x1
  clear b1 x1 z1 hgG 
  go_wp2_with (first | (with_reducible refine wpList_load_whole Gate.isRec rfl _ rfl gG (by with_unfolding_all exact rfl) _ _ (Gate.len _) G1.out ?_) | (refine wpList_box_row rfl 23 _ rfl y.enc.toArray (by with_unfolding_all exact rfl) ?_))
  intro w2 b2 x2 z2
  obtain ⟨gY, hgY⟩ : ∃ g, g = w1.heap.size := ⟨_, rfl⟩
  have N_G_Y := Lib.hid (show gG < gY from by rw [hgY]; exact G1.out.lt)
  have M_Y := Lib.hid (show w.heap.size ≤ gY from by rw [hgY]; exact B1.out.size)
  have G2 : Hid (Gate.At w2 gG g) := Lib.hid (Whole.below G1.out b2 G1.out.lt)
  have B2 := Lib.hid (B1.out.trans (b2.mono B1.out.size))
  rw [← hgY] at x2 ⊢
  have Y2 : Hid (Gate.At w2 gY y) := Lib.hid x2
  clear b2 x2 z2 hgY G1 B1
  go_wp2_with (first | (with_reducible refine wpList_load_whole Gate.isRec rfl _ rfl gG (by with_unfolding_all exact rfl) _ _ (Gate.len _) G2.out ?_) | (with_reducible refine wpList_load_whole Gate.isRec rfl _ rfl gY (by with_unfolding_all exact rfl) _ _ (Gate.len _) Y2.out ?_) | (refine wpList_alloc_row rfl 23 rfl Gate.zero.enc.toArray Gate.zero_is ?_))
  intro w3 b3 x3 z3
  obtain ⟨gO, hgO⟩ : ∃ g, g = w2.heap.size := ⟨_, rfl⟩
  have N_G_O := Lib.hid (show gG < gO from by rw [hgO]; exact G2.out.lt)
  have N_Y_O := Lib.hid (show gY < gO from by rw [hgO]; exact Y2.out.lt)
  have M_O := Lib.hid (show w.heap.size ≤ gO from by rw [hgO]; exact B2.out.size)
  have G3 : Hid (Gate.At w3 gG g) := Lib.hid (Whole.below G2.out b3 G2.out.lt)
  have Y3 : Hid (Gate.At w3 gY y) := Lib.hid (Whole.below Y2.out b3 Y2.out.lt)
  have B3 := Lib.hid (B2.out.trans (b3.mono B2.out.size))
  rw [← hgO] at x3 ⊢
  have O3 : Hid (Gate.At w3 gO Gate.zero) := Lib.hid x3
  clear b3 x3 z3 hgO G2 Y2 B2
  have c1 := Gate.At.at_index G3.out
  have c2 := Gate.At.at_index Y3.out
  by_cases h0 : y.index ≤ g.index
  · have HF : Hid (X = (Gate.zero, 26)) := Lib.hid (by rw [HX.out, if_pos h0])
    clear HX CV
    go_wp2_with (first | (with_reducible refine wpList_load_whole Gate.isRec rfl _ rfl gG (by with_unfolding_all exact rfl) _ _ (Gate.len _) G3.out ?_) | (with_reducible refine wpList_load_whole Gate.isRec rfl _ rfl gY (by with_unfolding_all exact rfl) _ _ (Gate.len _) Y3.out ?_) | (with_reducible refine wpList_load_whole Gate.isRec rfl _ rfl gO (by with_unfolding_all exact rfl) _ _ (Gate.len _) O3.out ?_) | (with_reducible refine wpList_store_whole rfl 23 _ _ rfl gO Gate.zero.enc.toArray (by with_unfolding_all exact rfl) (by with_unfolding_all exact rfl) _ _ O3.out (Gate.size _) rfl (Gate.one _) ?_))
    intro w4 q4 x4 z4
    have O4 : Hid (Gate.At w4 gO Gate.zero) := Lib.hid x4
    have G4 : Hid (Gate.At w4 gG g) := Lib.hid (grown_far G3.out q4 (by have := N_G_O.out; omega))
    have Y4 : Hid (Gate.At w4 gY y) := Lib.hid (grown_far Y3.out q4 (by have := N_Y_O.out; omega))
    have B4 := Lib.hid (B3.out.grown q4 B3.out.size (fun k hk => by injection hk with hk; have := M_O.out; omega))
    clear q4 x4 z4 O3 G3 Y3 B3
    go_wp2
    exact bodyPost_ret (results_rec_tmp Gate.isRec rfl _ _ _ _ _ rfl rfl O4.out) rfl ⟨by rw [HF.out]; rfl, B4.out⟩
  · have HF : Hid (X = if q = false then (Gate.zero, 36) else (y, 0)) := Lib.hid (by rw [HX.out, if_neg h0])
    clear HX
    go_wp2_with (first | (with_reducible refine wpList_load_whole Gate.isRec rfl _ rfl gG (by with_unfolding_all exact rfl) _ _ (Gate.len _) G3.out ?_) | (with_reducible refine wpList_load_whole Gate.isRec rfl _ rfl gY (by with_unfolding_all exact rfl) _ _ (Gate.len _) Y3.out ?_) | (with_reducible refine wpList_load_whole Gate.isRec rfl _ rfl gO (by with_unfolding_all exact rfl) _ _ (Gate.len _) O3.out ?_))
    refine (CV.out w3).mono ?_
    rintro e4 w4 ⟨rfl, b4⟩
    have G4 : Hid (Gate.At w4 gG g) := Lib.hid (Whole.below G3.out b4 G3.out.lt)
    have Y4 : Hid (Gate.At w4 gY y) := Lib.hid (Whole.below Y3.out b4 Y3.out.lt)
    have O4 : Hid (Gate.At w4 gO Gate.zero) := Lib.hid (Whole.below O3.out b4 O3.out.lt)
    have B4 := Lib.hid (B3.out.trans (b4.mono B3.out.size))
    clear b4 G3 Y3 O3 B3
    clear c1 c2 h0
    cases q with
    | false =>
      go_wp2_with (first | (with_reducible refine wpList_load_whole Gate.isRec rfl _ rfl gG (by with_unfolding_all exact rfl) _ _ (Gate.len _) G4.out ?_) | (with_reducible refine wpList_load_whole Gate.isRec rfl _ rfl gY (by with_unfolding_all exact rfl) _ _ (Gate.len _) Y4.out ?_) | (with_reducible refine wpList_load_whole Gate.isRec rfl _ rfl gO (by with_unfolding_all exact rfl) _ _ (Gate.len _) O4.out ?_) | (with_reducible refine wpList_store_whole rfl 23 _ _ rfl gO Gate.zero.enc.toArray (by with_unfolding_all exact rfl) (by with_unfolding_all exact rfl) _ _ O4.out (Gate.size _) rfl (Gate.one _) ?_))
      intro w5 q5 x5 z5
      have O5 : Hid (Gate.At w5 gO Gate.zero) := Lib.hid x5
      have G5 : Hid (Gate.At w5 gG g) := Lib.hid (grown_far G4.out q5 (by have := N_G_O.out; omega))
      have Y5 : Hid (Gate.At w5 gY y) := Lib.hid (grown_far Y4.out q5 (by have := N_Y_O.out; omega))
      have B5 := Lib.hid (B4.out.grown q5 B4.out.size (fun k hk => by injection hk with hk; have := M_O.out; omega))
      clear q5 x5 z5 O4 G4 Y4 B4
      go_wp2
      exact bodyPost_ret (results_rec_tmp Gate.isRec rfl _ _ _ _ _ rfl rfl O5.out) rfl ⟨by rw [HF.out]; rfl, B5.out⟩
    | true =>
      go_wp2_with (first | (with_reducible refine wpList_load_whole Gate.isRec rfl _ rfl gG (by with_unfolding_all exact rfl) _ _ (Gate.len _) G4.out ?_) | (with_reducible refine wpList_load_whole Gate.isRec rfl _ rfl gY (by with_unfolding_all exact rfl) _ _ (Gate.len _) Y4.out ?_) | (with_reducible refine wpList_load_whole Gate.isRec rfl _ rfl gO (by with_unfolding_all exact rfl) _ _ (Gate.len _) O4.out ?_) | (with_reducible refine wpList_store_whole rfl 23 _ _ rfl gO y.enc.toArray (by with_unfolding_all exact rfl) (by with_unfolding_all exact rfl) _ _ O4.out (Gate.size _) rfl (Gate.one _) ?_))
      intro w5 q5 x5 z5
      have O5 : Hid (Gate.At w5 gO y) := Lib.hid x5
      have G5 : Hid (Gate.At w5 gG g) := Lib.hid (grown_far G4.out q5 (by have := N_G_O.out; omega))
      have Y5 : Hid (Gate.At w5 gY y) := Lib.hid (grown_far Y4.out q5 (by have := N_Y_O.out; omega))
      have B5 := Lib.hid (B4.out.grown q5 B4.out.size (fun k hk => by injection hk with hk; have := M_O.out; omega))
      clear q5 x5 z5 O4 G4 Y4 B4
      go_wp2
      exact bodyPost_ret (results_rec_tmp Gate.isRec rfl _ _ _ _ _ rfl rfl O5.out) rfl ⟨by rw [HF.out]; rfl, B5.out⟩

set_option maxRecDepth 100000 in
set_option maxHeartbeats 1000000 in
theorem refHolds_any (p : Peer) (w : World) : Calls Tryd.prog 17 #[p.val] w fun e w' => e = .returned (.bool (holdsP p)) ∧ Below w.heap.size w w' := by
  have CV := Lib.hid (fun w => refRight_any p.entry w)
  have HX : Hid (holdsP p = (entR p.entry && decide (p.entry.since ≤ p.since) && decide (p.since ≤ p.entry.till) && decide (p.entry.index = p.under))) := Lib.hid rfl
  obtain ⟨X, hX⟩ : ∃ X, X = holdsP p := ⟨_, rfl⟩
  rw [← hX] at HX ⊢
  obtain ⟨q, hq⟩ : ∃ q, q = entR p.entry := ⟨_, rfl⟩
  simp only [← hq] at CV HX
  clear hX hq
  go_enter Tryd.func17, Tryd.ntmps17
  go_wp2_with (refine wpList_box_row rfl 31 _ rfl p.enc.toArray (by with_unfolding_all exact rfl) ?_)
  intro w1 b1 x1 z1
  obtain ⟨gP, hgP⟩ : ∃ g, g = w.heap.size := ⟨_, rfl⟩
  have M_P := Lib.hid (show w.heap.size ≤ gP from by rw [hgP]; exact Nat.le_refl _)
  have B1 := Lib.hid b1
  rw [← hgP] at x1 ⊢
  have P1 : Hid (Peer.At w1 gP p) := Lib.hid x1
  clear b1 x1 z1 hgP 
  go_wp2_with (first | (with_reducible refine wpList_load_whole Peer.isRec rfl _ rfl gP (by with_unfolding_all exact rfl) _ _ (Peer.len _) P1.out ?_) | (with_reducible refine wpList_load_rec Ent.isRec rfl _ rfl gP 0 (by with_unfolding_all exact rfl) _ (Ent.len _) (Peer.At.part_entry P1.out) ?_) | (refine wpList_alloc_row rfl 29 rfl Ent.zero.enc.toArray Ent.zero_is ?_))
  intro w2 b2 x2 z2
  obtain ⟨gE, hgE⟩ : ∃ g, g = w1.heap.size := ⟨_, rfl⟩
  have N_P_E := Lib.hid (show gP < gE from by rw [hgE]; exact P1.out.lt)
  have M_E := Lib.hid (show w.heap.size ≤ gE from by rw [hgE]; exact B1.out.size)
  have P2 : Hid (Peer.At w2 gP p) := Lib.hid (Whole.below P1.out b2 P1.out.lt)
  have B2 := Lib.hid (B1.out.trans (b2.mono B1.out.size))
  rw [← hgE] at x2 ⊢
  have E2 : Hid (Ent.At w2 gE Ent.zero) := Lib.hid x2
  clear b2 x2 z2 hgE P1 B1
  go_wp2_with (first | (with_reducible refine wpList_load_whole Peer.isRec rfl _ rfl gP (by with_unfolding_all exact rfl) _ _ (Peer.len _) P2.out ?_) | (with_reducible refine wpList_load_rec Ent.isRec rfl _ rfl gP 0 (by with_unfolding_all exact rfl) _ (Ent.len _) (Peer.At.part_entry P2.out) ?_) | (with_reducible refine wpList_load_whole Ent.isRec rfl _ rfl gE (by with_unfolding_all exact rfl) _ _ (Ent.len _) E2.out ?_) | (with_reducible refine wpList_store_whole rfl 29 _ _ rfl gE p.entry.enc.toArray (by with_unfolding_all exact rfl) (by with_unfolding_all exact rfl) _ _ E2.out (Ent.size _) rfl (Ent.one _) ?_))
  intro w3 q3 x3 z3
  have E3 : Hid (Ent.At w3 gE p.entry) := Lib.hid x3
  have P3 : Hid (Peer.At w3 gP p) := Lib.hid (grown_far P2.out q3 (by have := N_P_E.out; omega))
  have B3 := Lib.hid (B2.out.grown q3 B2.out.size (fun k hk => by injection hk with hk; have := M_E.out; omega))
  clear q3 x3 z3 E2 P2 B2
  go_wp2_with (first | (with_reducible refine wpList_load_whole Peer.isRec rfl _ rfl gP (by with_unfolding_all exact rfl) _ _ (Peer.len _) P3.out ?_) | (with_reducible refine wpList_load_rec Ent.isRec rfl _ rfl gP 0 (by with_unfolding_all exact rfl) _ (Ent.len _) (Peer.At.part_entry P3.out) ?_) | (with_reducible refine wpList_load_whole Ent.isRec rfl _ rfl gE (by with_unfolding_all exact rfl) _ _ (Ent.len _) E3.out ?_))
  refine (CV.out w3).mono ?_
  rintro e4 w4 ⟨rfl, b4⟩
  have P4 : Hid (Peer.At w4 gP p) := Lib.hid (Whole.below P3.out b4 P3.out.lt)
  have E4 : Hid (Ent.At w4 gE p.entry) := Lib.hid (Whole.below E3.out b4 E3.out.lt)
  have B4 := Lib.hid (B3.out.trans (b4.mono B3.out.size))
  clear b4 P3 E3 B3
  have c1 := Ent.At.at_since E4.out
  have c2 := Ent.At.at_till E4.out
  have c3 := Ent.At.at_index E4.out
  have c4 := Peer.At.at_since P4.out
  have c5 := Peer.At.at_under P4.out
  clear CV
  have fin : ∀ x : Bool, x = X → Ending.returned (Value.bool x) = Ending.returned (Value.bool X) := fun x h => by rw [h]
  cases q with
  | false =>
    go_wp2
    go_ret
    exact ⟨fin _ (by rw [HX.out]; simp), B4.out⟩
  | true =>
    by_cases h1 : p.entry.since ≤ p.since
    · by_cases h2 : p.since ≤ p.entry.till
      · go_wp2
        go_ret
        exact ⟨fin _ (by rw [HX.out, Bool.eq_iff_iff]; simp [h1, h2]), B4.out⟩
      · go_wp2
        go_ret
        exact ⟨fin _ (by rw [HX.out, Bool.eq_iff_iff]; simp; omega), B4.out⟩
    · go_wp2
      go_ret
      exact ⟨fin _ (by rw [HX.out, Bool.eq_iff_iff]; simp; omega), B4.out⟩
end Go.Proofs.YtehalcopkjfdkaaDoor
