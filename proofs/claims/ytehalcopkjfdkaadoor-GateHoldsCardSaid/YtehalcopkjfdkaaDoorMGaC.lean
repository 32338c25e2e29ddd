/- GateRaises' and GateHolds' cores: over what packages gate, chain and token answer. -/
import Derived.Test.YtehalcopkjfdkaaDoorGba
namespace Go.Proofs.YtehalcopkjfdkaaDoor
set_option maxRecDepth 100000
open Go.RowKit

theorem cut_great' {e : Ent} (h : greatB e = false) : e.name.length ≤ 1000 ∧ e.tag.length ≤ 1000 := by
  simp only [greatB, Bool.or_eq_false_iff, decide_eq_false_iff_not] at h
  omega
/-- What was taken holds. -/
theorem taken_holds {g : Gate} {e : Ent} {now : Int} (h : (takeP g e now).2 = 0) : holdsP (takeP g e now).1 = true ∧ checkT g.key (takeP g e now).1.entry = true ∧ (takeP g e now).1.entry = e := by
  unfold takeP at h ⊢
  split at h
  · next hv =>
    obtain ⟨h1, h2, h3, h4, h5⟩ := valid_parts hv
    rw [if_pos hv]
    exact ⟨by simp [holdsP, h1, h2, h4, h5], h3, rfl⟩
  · next hv => exact absurd h hv
theorem taken_none {g : Gate} {e : Ent} {now : Int} (h : (takeP g e now).2 ≠ 0) : (takeP g e now).1 = Peer.zero := by
  unfold takeP at h ⊢
  split
  · next hv => rw [if_pos hv] at h; exact absurd rfl h
  · rfl
theorem raised_none {g y : Gate} (h : (raiseG g y).2 ≠ 0) : (raiseG g y).1 = Gate.zero := by
  unfold raiseG at h ⊢
  split
  · rfl
  · next hi =>
    rw [if_neg hi] at h
    split
    · rfl
    · next hl => rw [if_neg hl] at h; exact absurd rfl h
/-- A gate that was raised takes it no more. -/
theorem raised_takes {g y : Gate} {e : Ent} {now : Int} (h : (takeP g e now).2 = 0) (hr : (raiseG g y).2 = 0) : (raiseG g y).1 = y ∧ (takeP y e now).2 = 33 := by
  have hv : validX g.index g.key e now = 0 := by
    unfold takeP at h
    split at h
    · assumption
    · exact h
  obtain ⟨h1, h2, -, -, -⟩ := valid_parts hv
  unfold raiseG at hr ⊢
  split at hr
  · cases hr
  · next hi =>
    rw [if_neg hi]
    split at hr
    · cases hr
    · next hl =>
      rw [if_neg hl]
      have hx : validX y.index y.key e now = 33 := by rw [validX, if_neg (by simp [h1]), if_pos (by omega)]
      refine ⟨rfl, ?_⟩
      unfold takeP
      rw [if_neg (by rw [hx]; decide), hx]

set_option maxRecDepth 100000 in
set_option maxHeartbeats 2000000 in
theorem gateRaises_core (H : GateIs) (HC : ChainIs) (HT : TokenIs) (g y : Gate) (p : Peer) (hg : g.Ok) (hy : y.Ok) (hp : p.Ok) (w : World) (T : Tab w) :
    Calls Tryd.prog 4 #[g.val, y.val, p.val] w fun e w' => e = .returned (.bool true) ∧ Below w.heap.size w w' := by
  have T0 := Lib.hid T
  have WK := Lib.hid (fun w t => works15 H HC HT w t)
  have HR := Lib.hid (fun hk hk' w t => H.raise g y w hg hy hk hk' t)
  have HH := Lib.hid (fun h1 h2 w t => H.holds p w hp h1 h2 t)
  have RR := Lib.hid (fun w => refRaise_any g y hy.index_ok.2 hg.index_ok.1 w)
  have CG := Lib.hid (fun w => great_any p.entry w)
  obtain ⟨g1, hg1⟩ : ∃ q, q = decide (1000 < g.key.length) := ⟨_, rfl⟩
  obtain ⟨g2, hg2⟩ : ∃ q, q = decide (1000 < y.key.length) := ⟨_, rfl⟩
  have r1 : decide ((1000 : Int) < (g.key.length : Int)) = g1 := by rw [hg1]; congr 1; apply propext; omega
  have r2 : decide ((1000 : Int) < (y.key.length : Int)) = g2 := by rw [hg2]; congr 1; apply propext; omega
  have r1n := hg1.symm
  have r2n := hg2.symm
  have H1 := Lib.hid (fun h : g1 = false => show g.key.length ≤ 4000 by rw [hg1] at h; simp at h; omega)
  have H2 := Lib.hid (fun h : g2 = false => show y.key.length ≤ 4000 by rw [hg2] at h; simp at h; omega)
  obtain ⟨g3, hg3⟩ : ∃ q, q = greatB p.entry := ⟨_, rfl⟩
  simp only [← hg3] at CG
  have H3 := Lib.hid (fun h : g3 = false => cut_great' (hg3.symm.trans h))
  clear hg1 hg2 hg3 H HC HT hg hy hp
  go_enter Tryd.func4, Tryd.ntmps4
  go_wp2_with (refine wpList_box_row rfl 23 _ rfl g.enc.toArray (by with_unfolding_all exact rfl) ?_)
  intro w1 b1 x1 z1
  obtain ⟨gG, hgG⟩ : ∃ g, g = w.heap.size := ⟨_, rfl⟩
  have M_G := Lib.hid (show w.heap.size ≤ gG from by rw [hgG]; exact Nat.le_refl _)
  have B1 := Lib.hid b1
  rw [← hgG] at x1 ⊢
  have G1 : Hid (Gate.At w1 gG g) := Lib.hid x1
  clear b1 x1 z1 hgG 
  go_wp2_with (first | (with_reducible refine wpList_load_whole Gate.isRec rfl _ rfl gG (by with_unfolding_all exact rfl) _ _ (Gate.len _) G1.out ?_) | (refine wpList_box_row rfl 23 _ rfl y.enc.toArray (by with_unfolding_all exact rfl) ?_))
  intro w2 b2 x2 z2
  obtain ⟨gY, hgY⟩ : ∃ g, g = w1.heap.size := ⟨_, rfl⟩
  have N_G_Y := Lib.hid (show gG < gY from by rw [hgY]; exact G1.out.lt)
  have M_Y := Lib.hid (show w.heap.size ≤ gY from by rw [hgY]; exact B1.out.size)
  have G2 : Hid (Gate.At w2 gG g) := Lib.hid (Whole.below G1.out b2 G1.out.lt)
  have B2 := Lib.hid (B1.out.trans (b2.mono B1.out.size))
  rw [← hgY] at x2 ⊢
  have Y2 : Hid (Gate.At w2 gY y) := Lib.hid x2
  clear b2 x2 z2 hgY G1 B1
  go_wp2_with (first | (with_reducible refine wpList_load_whole Gate.isRec rfl _ rfl gG (by with_unfolding_all exact rfl) _ _ (Gate.len _) G2.out ?_) | (with_reducible refine wpList_load_whole Gate.isRec rfl _ rfl gY (by with_unfolding_all exact rfl) _ _ (Gate.len _) Y2.out ?_) | (refine wpList_box_row rfl 31 _ rfl p.enc.toArray (by with_unfolding_all exact rfl) ?_))
  intro w3 b3 x3 z3
  obtain ⟨gP, hgP⟩ : ∃ g, g = w2.heap.size := ⟨_, rfl⟩
  have N_G_P := Lib.hid (show gG < gP from by rw [hgP]; exact G2.out.lt)
  have N_Y_P := Lib.hid (show gY < gP from by rw [hgP]; exact Y2.out.lt)
  have M_P := Lib.hid (show w.heap.size ≤ gP from by rw [hgP]; exact B2.out.size)
  have G3 : Hid (Gate.At w3 gG g) := Lib.hid (Whole.below G2.out b3 G2.out.lt)
  have Y3 : Hid (Gate.At w3 gY y) := Lib.hid (Whole.below Y2.out b3 Y2.out.lt)
  have B3 := Lib.hid (B2.out.trans (b3.mono B2.out.size))
  rw [← hgP] at x3 ⊢
  have P3 : Hid (Peer.At w3 gP p) := Lib.hid x3
  clear b3 x3 z3 hgP G2 Y2 B2
  have c1 := Gate.At.at_key G3.out
  have c2 := Gate.At.at_key Y3.out
  cases g1 with
  | true =>
    go_wp2_with (first | (with_reducible refine wpList_load_whole Gate.isRec rfl _ rfl gG (by with_unfolding_all exact rfl) _ _ (Gate.len _) G3.out ?_) | (with_reducible refine wpList_load_whole Gate.isRec rfl _ rfl gY (by with_unfolding_all exact rfl) _ _ (Gate.len _) Y3.out ?_) | (with_reducible refine wpList_load_whole Peer.isRec rfl _ rfl gP (by with_unfolding_all exact rfl) _ _ (Peer.len _) P3.out ?_) | (with_reducible refine wpList_load_rec Ent.isRec rfl _ rfl gP 0 (by with_unfolding_all exact rfl) _ (Ent.len _) (Peer.At.part_entry P3.out) ?_))
    refine (WK.out w3 (T0.out.below B3.out T0.out.pos)).mono ?_
    rintro e4 w4 ⟨rfl, b4⟩
    have G4 : Hid (Gate.At w4 gG g) := Lib.hid (Whole.below G3.out b4 G3.out.lt)
    have Y4 : Hid (Gate.At w4 gY y) := Lib.hid (Whole.below Y3.out b4 Y3.out.lt)
    have P4 : Hid (Peer.At w4 gP p) := Lib.hid (Whole.below P3.out b4 P3.out.lt)
    have B4 := Lib.hid (B3.out.trans (b4.mono B3.out.size))
    clear b4 G3 Y3 P3 B3
    go_wp2
    go_ret
    exact ⟨rfl, B4.out⟩
  | false =>
    cases g2 with
    | true =>
      go_wp2_with (first | (with_reducible refine wpList_load_whole Gate.isRec rfl _ rfl gG (by with_unfolding_all exact rfl) _ _ (Gate.len _) G3.out ?_) | (with_reducible refine wpList_load_whole Gate.isRec rfl _ rfl gY (by with_unfolding_all exact rfl) _ _ (Gate.len _) Y3.out ?_) | (with_reducible refine wpList_load_whole Peer.isRec rfl _ rfl gP (by with_unfolding_all exact rfl) _ _ (Peer.len _) P3.out ?_) | (with_reducible refine wpList_load_rec Ent.isRec rfl _ rfl gP 0 (by with_unfolding_all exact rfl) _ (Ent.len _) (Peer.At.part_entry P3.out) ?_))
      refine (WK.out w3 (T0.out.below B3.out T0.out.pos)).mono ?_
      rintro e4 w4 ⟨rfl, b4⟩
      have G4 : Hid (Gate.At w4 gG g) := Lib.hid (Whole.below G3.out b4 G3.out.lt)
      have Y4 : Hid (Gate.At w4 gY y) := Lib.hid (Whole.below Y3.out b4 Y3.out.lt)
      have P4 : Hid (Peer.At w4 gP p) := Lib.hid (Whole.below P3.out b4 P3.out.lt)
      have B4 := Lib.hid (B3.out.trans (b4.mono B3.out.size))
      clear b4 G3 Y3 P3 B3
      go_wp2
      go_ret
      exact ⟨rfl, B4.out⟩
    | false =>
      go_wp2_with (first | (with_reducible refine wpList_load_whole Gate.isRec rfl _ rfl gG (by with_unfolding_all exact rfl) _ _ (Gate.len _) G3.out ?_) | (with_reducible refine wpList_load_whole Gate.isRec rfl _ rfl gY (by with_unfolding_all exact rfl) _ _ (Gate.len _) Y3.out ?_) | (with_reducible refine wpList_load_whole Peer.isRec rfl _ rfl gP (by with_unfolding_all exact rfl) _ _ (Peer.len _) P3.out ?_) | (with_reducible refine wpList_load_rec Ent.isRec rfl _ rfl gP 0 (by with_unfolding_all exact rfl) _ (Ent.len _) (Peer.At.part_entry P3.out) ?_) | (with_reducible refine wpList_load_rec_w Ent.isRec (by kernel_rfl) _ rfl gP 0 (by with_unfolding_all exact rfl) _ (Ent.len _) (Peer.At.part_entry P3.out) ?_))
      refine (CG.out w3).mono ?_
      rintro e4 w4 ⟨rfl, b4⟩
      have G4 : Hid (Gate.At w4 gG g) := Lib.hid (Whole.below G3.out b4 G3.out.lt)
      have Y4 : Hid (Gate.At w4 gY y) := Lib.hid (Whole.below Y3.out b4 Y3.out.lt)
      have P4 : Hid (Peer.At w4 gP p) := Lib.hid (Whole.below P3.out b4 P3.out.lt)
      have B4 := Lib.hid (B3.out.trans (b4.mono B3.out.size))
      clear b4 G3 Y3 P3 B3
      clear c1 c2 r1 r2 r1n r2n
      cases g3 with
      | true =>
        go_wp2_with (first | (with_reducible refine wpList_load_whole Gate.isRec rfl _ rfl gG (by with_unfolding_all exact rfl) _ _ (Gate.len _) G4.out ?_) | (with_reducible refine wpList_load_whole Gate.isRec rfl _ rfl gY (by with_unfolding_all exact rfl) _ _ (Gate.len _) Y4.out ?_) | (with_reducible refine wpList_load_whole Peer.isRec rfl _ rfl gP (by with_unfolding_all exact rfl) _ _ (Peer.len _) P4.out ?_) | (with_reducible refine wpList_load_rec Ent.isRec rfl _ rfl gP 0 (by with_unfolding_all exact rfl) _ (Ent.len _) (Peer.At.part_entry P4.out) ?_))
        refine (WK.out w4 (T0.out.below B4.out T0.out.pos)).mono ?_
        rintro e5 w5 ⟨rfl, b5⟩
        have G5 : Hid (Gate.At w5 gG g) := Lib.hid (Whole.below G4.out b5 G4.out.lt)
        have Y5 : Hid (Gate.At w5 gY y) := Lib.hid (Whole.below Y4.out b5 Y4.out.lt)
        have P5 : Hid (Peer.At w5 gP p) := Lib.hid (Whole.below P4.out b5 P4.out.lt)
        have B5 := Lib.hid (B4.out.trans (b5.mono B4.out.size))
        clear b5 G4 Y4 P4 B4
        go_wp2
        go_ret
        exact ⟨rfl, B5.out⟩
      | false =>
        have k1 := H1.out (by simp)
        have k2 := H2.out (by simp)
        have k3 := H3.out (by simp)
        generalize raiseG g y = R at *
        obtain ⟨R, z⟩ := R
        go_wp2_with (first | (with_reducible refine wpList_load_whole Gate.isRec rfl _ rfl gG (by with_unfolding_all exact rfl) _ _ (Gate.len _) G4.out ?_) | (with_reducible refine wpList_load_whole Gate.isRec rfl _ rfl gY (by with_unfolding_all exact rfl) _ _ (Gate.len _) Y4.out ?_) | (with_reducible refine wpList_load_whole Peer.isRec rfl _ rfl gP (by with_unfolding_all exact rfl) _ _ (Peer.len _) P4.out ?_) | (with_reducible refine wpList_load_rec Ent.isRec rfl _ rfl gP 0 (by with_unfolding_all exact rfl) _ (Ent.len _) (Peer.At.part_entry P4.out) ?_))
        refine (HR.out k1 k2 w4 (T0.out.below B4.out T0.out.pos)).mono ?_
        rintro e5 w5 ⟨rfl, b5⟩
        have G5 : Hid (Gate.At w5 gG g) := Lib.hid (Whole.below G4.out b5 G4.out.lt)
        have Y5 : Hid (Gate.At w5 gY y) := Lib.hid (Whole.below Y4.out b5 Y4.out.lt)
        have P5 : Hid (Peer.At w5 gP p) := Lib.hid (Whole.below P4.out b5 P4.out.lt)
        have B5 := Lib.hid (B4.out.trans (b5.mono B4.out.size))
        clear b5 G4 Y4 P4 B4
        go_wp2_with (first | (with_reducible refine wpList_load_whole Gate.isRec rfl _ rfl gG (by with_unfolding_all exact rfl) _ _ (Gate.len _) G5.out ?_) | (with_reducible refine wpList_load_whole Gate.isRec rfl _ rfl gY (by with_unfolding_all exact rfl) _ _ (Gate.len _) Y5.out ?_) | (with_reducible refine wpList_load_whole Peer.isRec rfl _ rfl gP (by with_unfolding_all exact rfl) _ _ (Peer.len _) P5.out ?_) | (with_reducible refine wpList_load_rec Ent.isRec rfl _ rfl gP 0 (by with_unfolding_all exact rfl) _ (Ent.len _) (Peer.At.part_entry P5.out) ?_) | (refine wpList_alloc_row rfl 23 rfl Gate.zero.enc.toArray Gate.zero_is ?_))
        intro w6 b6 x6 z6
        obtain ⟨gX, hgX⟩ : ∃ g, g = w5.heap.size := ⟨_, rfl⟩
        have N_G_X := Lib.hid (show gG < gX from by rw [hgX]; exact G5.out.lt)
        have N_Y_X := Lib.hid (show gY < gX from by rw [hgX]; exact Y5.out.lt)
        have N_P_X := Lib.hid (show gP < gX from by rw [hgX]; exact P5.out.lt)
        have M_X := Lib.hid (show w.heap.size ≤ gX from by rw [hgX]; exact B5.out.size)
        have G6 : Hid (Gate.At w6 gG g) := Lib.hid (Whole.below G5.out b6 G5.out.lt)
        have Y6 : Hid (Gate.At w6 gY y) := Lib.hid (Whole.below Y5.out b6 Y5.out.lt)
        have P6 : Hid (Peer.At w6 gP p) := Lib.hid (Whole.below P5.out b6 P5.out.lt)
        have B6 := Lib.hid (B5.out.trans (b6.mono B5.out.size))
        rw [← hgX] at x6 ⊢
        have X6 : Hid (Gate.At w6 gX Gate.zero) := Lib.hid x6
        clear b6 x6 z6 hgX G5 Y5 P5 B5
        go_wp2_with (first | (with_reducible refine wpList_load_whole Gate.isRec rfl _ rfl gG (by with_unfolding_all exact rfl) _ _ (Gate.len _) G6.out ?_) | (with_reducible refine wpList_load_whole Gate.isRec rfl _ rfl gY (by with_unfolding_all exact rfl) _ _ (Gate.len _) Y6.out ?_) | (with_reducible refine wpList_load_whole Peer.isRec rfl _ rfl gP (by with_unfolding_all exact rfl) _ _ (Peer.len _) P6.out ?_) | (with_reducible refine wpList_load_rec Ent.isRec rfl _ rfl gP 0 (by with_unfolding_all exact rfl) _ (Ent.len _) (Peer.At.part_entry P6.out) ?_) | (with_reducible refine wpList_load_whole Gate.isRec rfl _ rfl gX (by with_unfolding_all exact rfl) _ _ (Gate.len _) X6.out ?_) | (with_reducible refine wpList_store_whole rfl 23 _ _ rfl gX R.enc.toArray (by with_unfolding_all exact rfl) (by with_unfolding_all exact rfl) _ _ X6.out (Gate.size _) rfl (Gate.one _) ?_))
        intro w7 q7 x7 z7
        have X7 : Hid (Gate.At w7 gX R) := Lib.hid x7
        have G7 : Hid (Gate.At w7 gG g) := Lib.hid (grown_far G6.out q7 (by have := N_G_X.out; omega))
        have Y7 : Hid (Gate.At w7 gY y) := Lib.hid (grown_far Y6.out q7 (by have := N_Y_X.out; omega))
        have P7 : Hid (Peer.At w7 gP p) := Lib.hid (grown_far P6.out q7 (by have := N_P_X.out; omega))
        have B7 := Lib.hid (B6.out.grown q7 B6.out.size (fun k hk => by injection hk with hk; have := M_X.out; omega))
        clear q7 x7 z7 X6 G6 Y6 P6 B6
        go_wp2_with (first | (with_reducible refine wpList_load_whole Gate.isRec rfl _ rfl gG (by with_unfolding_all exact rfl) _ _ (Gate.len _) G7.out ?_) | (with_reducible refine wpList_load_whole Gate.isRec rfl _ rfl gY (by with_unfolding_all exact rfl) _ _ (Gate.len _) Y7.out ?_) | (with_reducible refine wpList_load_whole Peer.isRec rfl _ rfl gP (by with_unfolding_all exact rfl) _ _ (Peer.len _) P7.out ?_) | (with_reducible refine wpList_load_rec Ent.isRec rfl _ rfl gP 0 (by with_unfolding_all exact rfl) _ (Ent.len _) (Peer.At.part_entry P7.out) ?_) | (with_reducible refine wpList_load_whole Gate.isRec rfl _ rfl gX (by with_unfolding_all exact rfl) _ _ (Gate.len _) X7.out ?_))
        refine (RR.out w7).mono ?_
        rintro e8 w8 ⟨rfl, b8⟩
        have G8 : Hid (Gate.At w8 gG g) := Lib.hid (Whole.below G7.out b8 G7.out.lt)
        have Y8 : Hid (Gate.At w8 gY y) := Lib.hid (Whole.below Y7.out b8 Y7.out.lt)
        have P8 : Hid (Peer.At w8 gP p) := Lib.hid (Whole.below P7.out b8 P7.out.lt)
        have X8 : Hid (Gate.At w8 gX R) := Lib.hid (Whole.below X7.out b8 X7.out.lt)
        have B8 := Lib.hid (B7.out.trans (b8.mono B7.out.size))
        clear b8 G7 Y7 P7 X7 B7
        go_wp2_with (first | (with_reducible refine wpList_load_whole Gate.isRec rfl _ rfl gG (by with_unfolding_all exact rfl) _ _ (Gate.len _) G8.out ?_) | (with_reducible refine wpList_load_whole Gate.isRec rfl _ rfl gY (by with_unfolding_all exact rfl) _ _ (Gate.len _) Y8.out ?_) | (with_reducible refine wpList_load_whole Peer.isRec rfl _ rfl gP (by with_unfolding_all exact rfl) _ _ (Peer.len _) P8.out ?_) | (with_reducible refine wpList_load_rec Ent.isRec rfl _ rfl gP 0 (by with_unfolding_all exact rfl) _ (Ent.len _) (Peer.At.part_entry P8.out) ?_) | (with_reducible refine wpList_load_whole Gate.isRec rfl _ rfl gX (by with_unfolding_all exact rfl) _ _ (Gate.len _) X8.out ?_) | (refine wpList_alloc_row rfl 23 rfl Gate.zero.enc.toArray Gate.zero_is ?_))
        intro w9 b9 x9 z9
        obtain ⟨gZ, hgZ⟩ : ∃ g, g = w8.heap.size := ⟨_, rfl⟩
        have N_G_Z := Lib.hid (show gG < gZ from by rw [hgZ]; exact G8.out.lt)
        have N_Y_Z := Lib.hid (show gY < gZ from by rw [hgZ]; exact Y8.out.lt)
        have N_P_Z := Lib.hid (show gP < gZ from by rw [hgZ]; exact P8.out.lt)
        have N_X_Z := Lib.hid (show gX < gZ from by rw [hgZ]; exact X8.out.lt)
        have M_Z := Lib.hid (show w.heap.size ≤ gZ from by rw [hgZ]; exact B8.out.size)
        have G9 : Hid (Gate.At w9 gG g) := Lib.hid (Whole.below G8.out b9 G8.out.lt)
        have Y9 : Hid (Gate.At w9 gY y) := Lib.hid (Whole.below Y8.out b9 Y8.out.lt)
        have P9 : Hid (Peer.At w9 gP p) := Lib.hid (Whole.below P8.out b9 P8.out.lt)
        have X9 : Hid (Gate.At w9 gX R) := Lib.hid (Whole.below X8.out b9 X8.out.lt)
        have B9 := Lib.hid (B8.out.trans (b9.mono B8.out.size))
        rw [← hgZ] at x9 ⊢
        have Z9 : Hid (Gate.At w9 gZ Gate.zero) := Lib.hid x9
        clear b9 x9 z9 hgZ G8 Y8 P8 X8 B8
        go_wp2_with (first | (with_reducible refine wpList_load_whole Gate.isRec rfl _ rfl gG (by with_unfolding_all exact rfl) _ _ (Gate.len _) G9.out ?_) | (with_reducible refine wpList_load_whole Gate.isRec rfl _ rfl gY (by with_unfolding_all exact rfl) _ _ (Gate.len _) Y9.out ?_) | (with_reducible refine wpList_load_whole Peer.isRec rfl _ rfl gP (by with_unfolding_all exact rfl) _ _ (Peer.len _) P9.out ?_) | (with_reducible refine wpList_load_rec Ent.isRec rfl _ rfl gP 0 (by with_unfolding_all exact rfl) _ (Ent.len _) (Peer.At.part_entry P9.out) ?_) | (with_reducible refine wpList_load_whole Gate.isRec rfl _ rfl gX (by with_unfolding_all exact rfl) _ _ (Gate.len _) X9.out ?_) | (with_reducible refine wpList_load_whole Gate.isRec rfl _ rfl gZ (by with_unfolding_all exact rfl) _ _ (Gate.len _) Z9.out ?_) | (with_reducible refine wpList_store_whole rfl 23 _ _ rfl gZ R.enc.toArray (by with_unfolding_all exact rfl) (by with_unfolding_all exact rfl) _ _ Z9.out (Gate.size _) rfl (Gate.one _) ?_))
        intro w10 q10 x10 z10
        have Z10 : Hid (Gate.At w10 gZ R) := Lib.hid x10
        have G10 : Hid (Gate.At w10 gG g) := Lib.hid (grown_far G9.out q10 (by have := N_G_Z.out; omega))
        have Y10 : Hid (Gate.At w10 gY y) := Lib.hid (grown_far Y9.out q10 (by have := N_Y_Z.out; omega))
        have P10 : Hid (Peer.At w10 gP p) := Lib.hid (grown_far P9.out q10 (by have := N_P_Z.out; omega))
        have X10 : Hid (Gate.At w10 gX R) := Lib.hid (grown_far X9.out q10 (by have := N_X_Z.out; omega))
        have B10 := Lib.hid (B9.out.grown q10 B9.out.size (fun k hk => by injection hk with hk; have := M_Z.out; omega))
        clear q10 x10 z10 Z9 G9 Y9 P9 X9 B9
        go_wp2_with (first | (with_reducible refine wpList_load_whole Gate.isRec rfl _ rfl gG (by with_unfolding_all exact rfl) _ _ (Gate.len _) G10.out ?_) | (with_reducible refine wpList_load_whole Gate.isRec rfl _ rfl gY (by with_unfolding_all exact rfl) _ _ (Gate.len _) Y10.out ?_) | (with_reducible refine wpList_load_whole Peer.isRec rfl _ rfl gP (by with_unfolding_all exact rfl) _ _ (Peer.len _) P10.out ?_) | (with_reducible refine wpList_load_rec Ent.isRec rfl _ rfl gP 0 (by with_unfolding_all exact rfl) _ (Ent.len _) (Peer.At.part_entry P10.out) ?_) | (with_reducible refine wpList_load_whole Gate.isRec rfl _ rfl gX (by with_unfolding_all exact rfl) _ _ (Gate.len _) X10.out ?_) | (with_reducible refine wpList_load_whole Gate.isRec rfl _ rfl gZ (by with_unfolding_all exact rfl) _ _ (Gate.len _) Z10.out ?_))
        refine reg_begin (by kernel_rfl) fun w11 b11 z11 => ?_
        have G11 : Hid (Gate.At w11 gG g) := Lib.hid (Whole.below G10.out b11 G10.out.lt)
        have Y11 : Hid (Gate.At w11 gY y) := Lib.hid (Whole.below Y10.out b11 Y10.out.lt)
        have P11 : Hid (Peer.At w11 gP p) := Lib.hid (Whole.below P10.out b11 P10.out.lt)
        have X11 : Hid (Gate.At w11 gX R) := Lib.hid (Whole.below X10.out b11 X10.out.lt)
        have Z11 : Hid (Gate.At w11 gZ R) := Lib.hid (Whole.below Z10.out b11 Z10.out.lt)
        have B11 := Lib.hid (B10.out.trans (b11.mono B10.out.size))
        clear b11 z11 G10 Y10 P10 X10 Z10 B10
        refine reg_take (i := 0) (v := Gate.val (R)) rfl (by kernel_rfl) (by kernel_rfl) (by kernel_rfl) (fun _ _ _ h => h) (by rfl) ?hy0 ?_
        case hy0 => intro w' hw'; exact exec_load_whole Gate.isRec _ rfl gX rfl _ _ (Gate.len _) w' (Whole.below X11.out hw' X11.out.lt)
        simp only [Act.put, List.setIfInBounds_toArray, List.set_cons_zero, List.set_cons_succ]
        refine reg_take (i := 1) (v := Gate.val (R)) rfl (by kernel_rfl) (by kernel_rfl) (by kernel_rfl) (fun _ _ _ h => h) (by rfl) ?hy1 ?_
        case hy1 => intro w' hw'; exact exec_load_whole Gate.isRec _ rfl gZ rfl _ _ (Gate.len _) w' (Whole.below Z11.out hw' Z11.out.lt)
        simp only [Act.put, List.setIfInBounds_toArray, List.set_cons_zero, List.set_cons_succ]
        refine reg_take (i := 2) (v := .bool true) rfl (by kernel_rfl) (by kernel_rfl) (by kernel_rfl) (fun _ _ _ h => h) (by rfl) ?hy2 ?_
        case hy2 => intro w' hw'; exact exec_eq_rec Gate.isRec _ _ _ rfl R.enc R.enc (Gate.fits _) (Gate.fits _) rfl rfl true (eqCells_refl (Gate.fits _)).symm w'
        simp only [Act.put, List.setIfInBounds_toArray, List.set_cons_zero, List.set_cons_succ]
        refine reg_take (i := 3) (v := ?_) rfl (by kernel_rfl) (by kernel_rfl) (by kernel_rfl) (fun _ _ _ h => h) (by rfl) ?hy3 ?_
        case hy3 => intro w' hw'; go_simp; (try with_reducible rfl)
        simp only [Act.put, List.setIfInBounds_toArray, List.set_cons_zero, List.set_cons_succ]
        refine reg_take (i := 4) (v := ?_) rfl (by kernel_rfl) (by kernel_rfl) (by kernel_rfl) (fun _ _ _ h => h) (by rfl) ?hy4 ?_
        case hy4 => intro w' hw'; go_simp; (try with_reducible rfl)
        simp only [Act.put, List.setIfInBounds_toArray, List.set_cons_zero, List.set_cons_succ]
        refine reg_take (i := 5) (v := ?_) rfl (by kernel_rfl) (by kernel_rfl) (by kernel_rfl) (fun _ _ _ h => h) (by rfl) ?hy5 ?_
        case hy5 => intro w' hw'; go_simp; (try with_reducible rfl)
        simp only [Act.put, List.setIfInBounds_toArray, List.set_cons_zero, List.set_cons_succ]
        refine reg_take (i := 6) (v := ?_) rfl (by kernel_rfl) (by kernel_rfl) (by kernel_rfl) (fun _ _ _ h => h) (by rfl) ?hy6 ?_
        case hy6 => intro w' hw'; go_simp; (try with_reducible rfl)
        simp only [Act.put, List.setIfInBounds_toArray, List.set_cons_zero, List.set_cons_succ]
        refine reg_take (i := 7) (v := ?_) rfl (by kernel_rfl) (by kernel_rfl) (by kernel_rfl) (fun _ _ _ h => h) (by rfl) ?hy7 ?_
        case hy7 => intro w' hw'; go_simp; (try with_reducible rfl)
        simp only [Act.put, List.setIfInBounds_toArray, List.set_cons_zero, List.set_cons_succ]
        refine reg_take (i := 8) (v := ?_) rfl (by kernel_rfl) (by kernel_rfl) (by kernel_rfl) (fun _ _ _ h => h) (by rfl) ?hy8 ?_
        case hy8 => intro w' hw'; go_simp; (try with_reducible rfl)
        simp only [Act.put, List.setIfInBounds_toArray, List.set_cons_zero, List.set_cons_succ]
        refine reg_take (i := 9) (v := Peer.val (p)) rfl (by kernel_rfl) (by kernel_rfl) (by kernel_rfl) (fun _ _ _ h => h) (by rfl) ?hy9 ?_
        case hy9 => intro w' hw'; exact exec_load_whole Peer.isRec _ rfl gP rfl _ _ (Peer.len _) w' (Whole.below P11.out hw' P11.out.lt)
        simp only [Act.put, List.setIfInBounds_toArray, List.set_cons_zero, List.set_cons_succ]
        refine reg_take (i := 11) (v := Peer.val (p)) rfl (by kernel_rfl) (by kernel_rfl) (by kernel_rfl) (fun _ _ _ h => h) (by rfl) ?hy11 ?_
        case hy11 => intro w' hw'; exact exec_load_whole Peer.isRec _ rfl gP rfl _ _ (Peer.len _) w' (Whole.below P11.out hw' P11.out.lt)
        simp only [Act.put, List.setIfInBounds_toArray, List.set_cons_zero, List.set_cons_succ]
        refine reg_call (i := 10) rfl (by kernel_rfl) (fun K' hK => ?_)
        go_simp
        refine (HH.out k3.1 k3.2 w11 (T0.out.below B11.out T0.out.pos)).mono ?_
        rintro e12 w12 ⟨rfl, b12⟩
        have G12 : Hid (Gate.At w12 gG g) := Lib.hid (Whole.below G11.out b12 G11.out.lt)
        have Y12 : Hid (Gate.At w12 gY y) := Lib.hid (Whole.below Y11.out b12 Y11.out.lt)
        have P12 : Hid (Peer.At w12 gP p) := Lib.hid (Whole.below P11.out b12 P11.out.lt)
        have X12 : Hid (Gate.At w12 gX R) := Lib.hid (Whole.below X11.out b12 X11.out.lt)
        have Z12 : Hid (Gate.At w12 gZ R) := Lib.hid (Whole.below Z11.out b12 Z11.out.lt)
        have B12 := Lib.hid (B11.out.trans (b12.mono B11.out.size))
        refine hK.out _ _ b12 ?_
        clear hK K' b12 G11 Y11 P11 X11 Z11 B11
        refine reg_call (i := 12) rfl (by kernel_rfl) (fun K' hK => ?_)
        go_simp
        refine (refHolds_any p w12).mono ?_
        rintro e13 w13 ⟨rfl, b13⟩
        have G13 : Hid (Gate.At w13 gG g) := Lib.hid (Whole.below G12.out b13 G12.out.lt)
        have Y13 : Hid (Gate.At w13 gY y) := Lib.hid (Whole.below Y12.out b13 Y12.out.lt)
        have P13 : Hid (Peer.At w13 gP p) := Lib.hid (Whole.below P12.out b13 P12.out.lt)
        have X13 : Hid (Gate.At w13 gX R) := Lib.hid (Whole.below X12.out b13 X12.out.lt)
        have Z13 : Hid (Gate.At w13 gZ R) := Lib.hid (Whole.below Z12.out b13 Z12.out.lt)
        have B13 := Lib.hid (B12.out.trans (b13.mono B12.out.size))
        refine hK.out _ _ b13 ?_
        clear hK K' b13 G12 Y12 P12 X12 Z12 B12
        refine reg_take (i := 13) (v := ?_) rfl (by kernel_rfl) (by kernel_rfl) (by kernel_rfl) (fun _ _ _ h => h) (by rfl) ?hy13 ?_
        case hy13 => intro w' hw'; go_simp; (try with_reducible rfl)
        simp only [Act.put, List.setIfInBounds_toArray, List.set_cons_zero, List.set_cons_succ]
        refine reg_take (i := 14) (v := ?_) rfl (by kernel_rfl) (by kernel_rfl) (by kernel_rfl) (fun _ _ _ h => h) (by rfl) ?hy14 ?_
        case hy14 => intro w' hw'; go_simp; (try with_reducible rfl)
        simp only [Act.put, List.setIfInBounds_toArray, List.set_cons_zero, List.set_cons_succ]
        refine reg_take (i := 15) (v := ?_) rfl (by kernel_rfl) (by kernel_rfl) (by kernel_rfl) (fun _ _ _ h => h) (by rfl) ?hy15 ?_
        case hy15 => intro w' hw'; go_simp; (try with_reducible rfl)
        simp only [Act.put, List.setIfInBounds_toArray, List.set_cons_zero, List.set_cons_succ]
        refine reg_call (i := 16) rfl (by kernel_rfl) (fun K' hK => ?_)
        go_simp
        refine (WK.out w13 (T0.out.below B13.out T0.out.pos)).mono ?_
        rintro e14 w14 ⟨rfl, b14⟩
        have G14 : Hid (Gate.At w14 gG g) := Lib.hid (Whole.below G13.out b14 G13.out.lt)
        have Y14 : Hid (Gate.At w14 gY y) := Lib.hid (Whole.below Y13.out b14 Y13.out.lt)
        have P14 : Hid (Peer.At w14 gP p) := Lib.hid (Whole.below P13.out b14 P13.out.lt)
        have X14 : Hid (Gate.At w14 gX R) := Lib.hid (Whole.below X13.out b14 X13.out.lt)
        have Z14 : Hid (Gate.At w14 gZ R) := Lib.hid (Whole.below Z13.out b14 Z13.out.lt)
        have B14 := Lib.hid (B13.out.trans (b14.mono B13.out.size))
        refine hK.out _ _ b14 ?_
        clear hK K' b14 G13 Y13 P13 X13 Z13 B13
        refine reg_take (i := 17) (v := ?_) rfl (by kernel_rfl) (by kernel_rfl) (by kernel_rfl) (fun _ _ _ h => h) (by rfl) ?hy17 ?_
        case hy17 => intro w' hw'; go_simp; (try with_reducible rfl)
        simp only [Act.put, List.setIfInBounds_toArray, List.set_cons_zero, List.set_cons_succ]
        refine reg_take (i := 18) (v := ?_) rfl (by kernel_rfl) (by kernel_rfl) (by kernel_rfl) (fun _ _ _ h => h) (by rfl) ?hy18 ?_
        case hy18 => intro w' hw'; go_simp; (try with_reducible rfl)
        simp only [Act.put, List.setIfInBounds_toArray, List.set_cons_zero, List.set_cons_succ]
        refine reg_end (by kernel_rfl) ?_
        go_wp2
        go_ret
        exact ⟨rfl, B14.out⟩

theorem taken_is {g : Gate} {e : Ent} {now : Int} (h : (takeP g e now).2 = 0) : (takeP g e now).1 = ⟨e, now, g.index⟩ := by
  unfold takeP at h ⊢
  split at h
  · next hv => rw [if_pos hv]
  · next hv => exact absurd h hv

set_option maxRecDepth 100000 in
set_option maxHeartbeats 2000000 in
theorem gateHolds_core (H : GateIs) (HC : ChainIs) (HT : TokenIs) (g : Gate) (x : Ent) (now : Int) (y : Gate) (hg : g.Ok) (hx : x.Ok) (hn : -9223372036854775808 ≤ now ∧ now ≤ 9223372036854775807) (hy : y.Ok) (w : World) (T : Tab w) :
    Calls Tryd.prog 5 #[g.val, x.val, .int .i64 now, y.val] w fun e w' => e = .returned (.bool true) ∧ Below w.heap.size w w' := by
  have T0 := Lib.hid T
  have WK := Lib.hid (fun w t => works15 H HC HT w t)
  have HTK := Lib.hid (fun h1 h2 h3 w t => H.take g x now w hg h1 hx h2 h3 t)
  have HR := Lib.hid (fun hk hk' w t => H.raise g y w hg hy hk hk' t)
  have HTY := Lib.hid (fun h1 h2 h3 w t => H.take y x now w hy h1 hx h2 h3 t)
  have PO : Peer.Ok ⟨x, now, g.index⟩ := ⟨hx.id_ok, hx.since_ok, hx.till_ok, hx.index_ok, hn, hg.index_ok⟩
  have HP := Lib.hid (fun h1 h2 w t => H.holds ⟨x, now, g.index⟩ w PO h1 h2 t)
  have HK := Lib.hid (fun h1 h2 h3 w t => HT.check g.key x w h1 h2 h3 hx.id_ok t)
  have CG := Lib.hid (fun w => great_any x w)
  have F0 := Lib.hid (fun h => @taken_none g x now h)
  have F1 := Lib.hid (fun h => @taken_is g x now h)
  have F2 : Hid ((takeP g x now).2 = 0 → holdsP ⟨x, now, g.index⟩ = true ∧ checkT g.key x = true) := Lib.hid (fun h => by
    obtain ⟨h1, h2, h3⟩ := taken_holds h
    rw [taken_is h] at h1 h2
    exact ⟨h1, h2⟩)
  have F3 := Lib.hid (fun h => @raised_none g y h)
  have F4 := Lib.hid (fun h h' => @raised_takes g y x now h h')
  obtain ⟨g1, hg1⟩ : ∃ q, q = decide (1000 < g.key.length) := ⟨_, rfl⟩
  obtain ⟨g2, hg2⟩ : ∃ q, q = decide (1000 < y.key.length) := ⟨_, rfl⟩
  have r1 : decide ((1000 : Int) < (g.key.length : Int)) = g1 := by rw [hg1]; congr 1; apply propext; omega
  have r2 : decide ((1000 : Int) < (y.key.length : Int)) = g2 := by rw [hg2]; congr 1; apply propext; omega
  have r1n := hg1.symm
  have r2n := hg2.symm
  have H1 := Lib.hid (fun h : g1 = false => show g.key.length ≤ 4000 by rw [hg1] at h; simp at h; omega)
  have H2 := Lib.hid (fun h : g2 = false => show y.key.length ≤ 4000 by rw [hg2] at h; simp at h; omega)
  obtain ⟨g3, hg3⟩ : ∃ q, q = greatB x := ⟨_, rfl⟩
  simp only [← hg3] at CG
  have H3 := Lib.hid (fun h : g3 = false => cut_great' (hg3.symm.trans h))
  clear hg1 hg2 hg3 H HC HT hg hy hx hn PO
  generalize takeP g x now = TP at *
  generalize raiseG g y = RG at *
  generalize takeP y x now = TY at *
  obtain ⟨p, z⟩ := TP
  obtain ⟨r, u⟩ := RG
  obtain ⟨p', z'⟩ := TY
  simp only at F0 F1 F2 F3 F4 HTK HR HTY
  go_enter Tryd.func5, Tryd.ntmps5
  go_wp2_with (refine wpList_box_row rfl 23 _ rfl g.enc.toArray (by with_unfolding_all exact rfl) ?_)
  intro w1 b1 x1 z1
  obtain ⟨gG, hgG⟩ : ∃ g, g = w.heap.size := ⟨_, rfl⟩
  have M_G := Lib.hid (show w.heap.size ≤ gG from by rw [hgG]; exact Nat.le_refl _)
  have B1 := Lib.hid b1
  rw [← hgG] at x1 ⊢
  have G1 : Hid (Gate.At w1 gG g) := Lib.hid x1
  clear b1 x1 z1 hgG 
  go_wp2_with (first | (with_reducible refine wpList_load_whole Gate.isRec rfl _ rfl gG (by with_unfolding_all exact rfl) _ _ (Gate.len _) G1.out ?_) | (refine wpList_box_row rfl 29 _ rfl x.enc.toArray (by with_unfolding_all exact rfl) ?_))
  intro w2 b2 x2 z2
  obtain ⟨gE, hgE⟩ : ∃ g, g = w1.heap.size := ⟨_, rfl⟩
  have N_G_E := Lib.hid (show gG < gE from by rw [hgE]; exact G1.out.lt)
  have M_E := Lib.hid (show w.heap.size ≤ gE from by rw [hgE]; exact B1.out.size)
  have G2 : Hid (Gate.At w2 gG g) := Lib.hid (Whole.below G1.out b2 G1.out.lt)
  have B2 := Lib.hid (B1.out.trans (b2.mono B1.out.size))
  rw [← hgE] at x2 ⊢
  have E2 : Hid (Ent.At w2 gE x) := Lib.hid x2
  clear b2 x2 z2 hgE G1 B1
  go_wp2_with (first | (with_reducible refine wpList_load_whole Gate.isRec rfl _ rfl gG (by with_unfolding_all exact rfl) _ _ (Gate.len _) G2.out ?_) | (with_reducible refine wpList_load_whole Ent.isRec rfl _ rfl gE (by with_unfolding_all exact rfl) _ _ (Ent.len _) E2.out ?_) | (refine wpList_box_row rfl 23 _ rfl y.enc.toArray (by with_unfolding_all exact rfl) ?_))
  intro w3 b3 x3 z3
  obtain ⟨gY, hgY⟩ : ∃ g, g = w2.heap.size := ⟨_, rfl⟩
  have N_G_Y := Lib.hid (show gG < gY from by rw [hgY]; exact G2.out.lt)
  have N_E_Y := Lib.hid (show gE < gY from by rw [hgY]; exact E2.out.lt)
  have M_Y := Lib.hid (show w.heap.size ≤ gY from by rw [hgY]; exact B2.out.size)
  have G3 : Hid (Gate.At w3 gG g) := Lib.hid (Whole.below G2.out b3 G2.out.lt)
  have E3 : Hid (Ent.At w3 gE x) := Lib.hid (Whole.below E2.out b3 E2.out.lt)
  have B3 := Lib.hid (B2.out.trans (b3.mono B2.out.size))
  rw [← hgY] at x3 ⊢
  have Y3 : Hid (Gate.At w3 gY y) := Lib.hid x3
  clear b3 x3 z3 hgY G2 E2 B2
  go_wp2_with (first | (with_reducible refine wpList_load_whole Gate.isRec rfl _ rfl gG (by with_unfolding_all exact rfl) _ _ (Gate.len _) G3.out ?_) | (with_reducible refine wpList_load_whole Ent.isRec rfl _ rfl gE (by with_unfolding_all exact rfl) _ _ (Ent.len _) E3.out ?_) | (with_reducible refine wpList_load_whole Gate.isRec rfl _ rfl gY (by with_unfolding_all exact rfl) _ _ (Gate.len _) Y3.out ?_))
  refine (WK.out w3 (T0.out.below B3.out T0.out.pos)).mono ?_
  rintro e4 w4 ⟨rfl, b4⟩
  have G4 : Hid (Gate.At w4 gG g) := Lib.hid (Whole.below G3.out b4 G3.out.lt)
  have E4 : Hid (Ent.At w4 gE x) := Lib.hid (Whole.below E3.out b4 E3.out.lt)
  have Y4 : Hid (Gate.At w4 gY y) := Lib.hid (Whole.below Y3.out b4 Y3.out.lt)
  have B4 := Lib.hid (B3.out.trans (b4.mono B3.out.size))
  clear b4 G3 E3 Y3 B3
  have c1 := Gate.At.at_key G4.out
  have c2 := Gate.At.at_key Y4.out
  cases g1 with
  | true =>
    go_wp2
    go_ret
    exact ⟨rfl, B4.out⟩
  | false =>
    cases g2 with
    | true =>
      go_wp2
      go_ret
      exact ⟨rfl, B4.out⟩
    | false =>
      go_wp2_with (first | (with_reducible refine wpList_load_whole Gate.isRec rfl _ rfl gG (by with_unfolding_all exact rfl) _ _ (Gate.len _) G4.out ?_) | (with_reducible refine wpList_load_whole Ent.isRec rfl _ rfl gE (by with_unfolding_all exact rfl) _ _ (Ent.len _) E4.out ?_) | (with_reducible refine wpList_load_whole Gate.isRec rfl _ rfl gY (by with_unfolding_all exact rfl) _ _ (Gate.len _) Y4.out ?_) | (with_reducible refine wpList_load_whole_w Ent.isRec (by kernel_rfl) _ rfl gE (by with_unfolding_all exact rfl) _ _ (Ent.len _) E4.out ?_))
      refine (CG.out w4).mono ?_
      rintro e5 w5 ⟨rfl, b5⟩
      have G5 : Hid (Gate.At w5 gG g) := Lib.hid (Whole.below G4.out b5 G4.out.lt)
      have E5 : Hid (Ent.At w5 gE x) := Lib.hid (Whole.below E4.out b5 E4.out.lt)
      have Y5 : Hid (Gate.At w5 gY y) := Lib.hid (Whole.below Y4.out b5 Y4.out.lt)
      have B5 := Lib.hid (B4.out.trans (b5.mono B4.out.size))
      clear b5 G4 E4 Y4 B4
      clear c1 c2
      cases g3 with
      | true =>
        go_wp2
        go_ret
        exact ⟨rfl, B5.out⟩
      | false =>
        have k1 := H1.out (by simp)
        have k2 := H2.out (by simp)
        have k3 := H3.out (by simp)
        go_wp2_with (first | (with_reducible refine wpList_load_whole Gate.isRec rfl _ rfl gG (by with_unfolding_all exact rfl) _ _ (Gate.len _) G5.out ?_) | (with_reducible refine wpList_load_whole Ent.isRec rfl _ rfl gE (by with_unfolding_all exact rfl) _ _ (Ent.len _) E5.out ?_) | (with_reducible refine wpList_load_whole Gate.isRec rfl _ rfl gY (by with_unfolding_all exact rfl) _ _ (Gate.len _) Y5.out ?_))
        refine (HTK.out k1 k3.1 k3.2 w5 (T0.out.below B5.out T0.out.pos)).mono ?_
        rintro e6 w6 ⟨rfl, b6⟩
        have G6 : Hid (Gate.At w6 gG g) := Lib.hid (Whole.below G5.out b6 G5.out.lt)
        have E6 : Hid (Ent.At w6 gE x) := Lib.hid (Whole.below E5.out b6 E5.out.lt)
        have Y6 : Hid (Gate.At w6 gY y) := Lib.hid (Whole.below Y5.out b6 Y5.out.lt)
        have B6 := Lib.hid (B5.out.trans (b6.mono B5.out.size))
        clear b6 G5 E5 Y5 B5
        go_wp2_with (first | (with_reducible refine wpList_load_whole Gate.isRec rfl _ rfl gG (by with_unfolding_all exact rfl) _ _ (Gate.len _) G6.out ?_) | (with_reducible refine wpList_load_whole Ent.isRec rfl _ rfl gE (by with_unfolding_all exact rfl) _ _ (Ent.len _) E6.out ?_) | (with_reducible refine wpList_load_whole Gate.isRec rfl _ rfl gY (by with_unfolding_all exact rfl) _ _ (Gate.len _) Y6.out ?_) | (refine wpList_alloc_row rfl 31 rfl Peer.zero.enc.toArray Peer.zero_is ?_))
        intro w7 b7 x7 z7
        obtain ⟨gP, hgP⟩ : ∃ g, g = w6.heap.size := ⟨_, rfl⟩
        have N_G_P := Lib.hid (show gG < gP from by rw [hgP]; exact G6.out.lt)
        have N_E_P := Lib.hid (show gE < gP from by rw [hgP]; exact E6.out.lt)
        have N_Y_P := Lib.hid (show gY < gP from by rw [hgP]; exact Y6.out.lt)
        have M_P := Lib.hid (show w.heap.size ≤ gP from by rw [hgP]; exact B6.out.size)
        have G7 : Hid (Gate.At w7 gG g) := Lib.hid (Whole.below G6.out b7 G6.out.lt)
        have E7 : Hid (Ent.At w7 gE x) := Lib.hid (Whole.below E6.out b7 E6.out.lt)
        have Y7 : Hid (Gate.At w7 gY y) := Lib.hid (Whole.below Y6.out b7 Y6.out.lt)
        have B7 := Lib.hid (B6.out.trans (b7.mono B6.out.size))
        rw [← hgP] at x7 ⊢
        have P7 : Hid (Peer.At w7 gP Peer.zero) := Lib.hid x7
        clear b7 x7 z7 hgP G6 E6 Y6 B6
        go_wp2_with (first | (with_reducible refine wpList_load_whole Gate.isRec rfl _ rfl gG (by with_unfolding_all exact rfl) _ _ (Gate.len _) G7.out ?_) | (with_reducible refine wpList_load_whole Ent.isRec rfl _ rfl gE (by with_unfolding_all exact rfl) _ _ (Ent.len _) E7.out ?_) | (with_reducible refine wpList_load_whole Gate.isRec rfl _ rfl gY (by with_unfolding_all exact rfl) _ _ (Gate.len _) Y7.out ?_) | (with_reducible refine wpList_load_whole Peer.isRec rfl _ rfl gP (by with_unfolding_all exact rfl) _ _ (Peer.len _) P7.out ?_) | (with_reducible refine wpList_load_rec Ent.isRec rfl _ rfl gP 0 (by with_unfolding_all exact rfl) _ (Ent.len _) (Peer.At.part_entry P7.out) ?_) | (with_reducible refine wpList_store_whole rfl 31 _ _ rfl gP p.enc.toArray (by with_unfolding_all exact rfl) (by with_unfolding_all exact rfl) _ _ P7.out (Peer.size _) rfl (Peer.one _) ?_))
        intro w8 q8 x8 z8
        have P8 : Hid (Peer.At w8 gP p) := Lib.hid x8
        have G8 : Hid (Gate.At w8 gG g) := Lib.hid (grown_far G7.out q8 (by have := N_G_P.out; omega))
        have E8 : Hid (Ent.At w8 gE x) := Lib.hid (grown_far E7.out q8 (by have := N_E_P.out; omega))
        have Y8 : Hid (Gate.At w8 gY y) := Lib.hid (grown_far Y7.out q8 (by have := N_Y_P.out; omega))
        have B8 := Lib.hid (B7.out.grown q8 B7.out.size (fun k hk => by injection hk with hk; have := M_P.out; omega))
        clear q8 x8 z8 P7 G7 E7 Y7 B7
        by_cases h0 : z = 0
        · subst h0
          obtain ⟨f1, f2⟩ := F2.out (by simp)
          have f3 := F1.out (by simp)
          subst f3
          rw [f1] at HP
          rw [f2] at HK
          have F5 := Lib.hid (F4.out (by simp))
          clear f1 f2 F0 F1 F2 F4
          go_wp2_with (first | (with_reducible refine wpList_load_whole Gate.isRec rfl _ rfl gG (by with_unfolding_all exact rfl) _ _ (Gate.len _) G8.out ?_) | (with_reducible refine wpList_load_whole Ent.isRec rfl _ rfl gE (by with_unfolding_all exact rfl) _ _ (Ent.len _) E8.out ?_) | (with_reducible refine wpList_load_whole Gate.isRec rfl _ rfl gY (by with_unfolding_all exact rfl) _ _ (Gate.len _) Y8.out ?_) | (with_reducible refine wpList_load_whole Peer.isRec rfl _ rfl gP (by with_unfolding_all exact rfl) _ _ (Peer.len _) P8.out ?_) | (with_reducible refine wpList_load_rec Ent.isRec rfl _ rfl gP 0 (by with_unfolding_all exact rfl) _ (Ent.len _) (Peer.At.part_entry P8.out) ?_))
          refine (HP.out k3.1 k3.2 w8 (T0.out.below B8.out T0.out.pos)).mono ?_
          rintro e9 w9 ⟨rfl, b9⟩
          have G9 : Hid (Gate.At w9 gG g) := Lib.hid (Whole.below G8.out b9 G8.out.lt)
          have E9 : Hid (Ent.At w9 gE x) := Lib.hid (Whole.below E8.out b9 E8.out.lt)
          have Y9 : Hid (Gate.At w9 gY y) := Lib.hid (Whole.below Y8.out b9 Y8.out.lt)
          have P9 : Hid (Peer.At w9 gP ⟨x, now, g.index⟩) := Lib.hid (Whole.below P8.out b9 P8.out.lt)
          have B9 := Lib.hid (B8.out.trans (b9.mono B8.out.size))
          clear b9 G8 E8 Y8 P8 B8
          have c1 := Gate.At.at_key G9.out
          go_wp2_with (first | (with_reducible refine wpList_load_whole Gate.isRec rfl _ rfl gG (by with_unfolding_all exact rfl) _ _ (Gate.len _) G9.out ?_) | (with_reducible refine wpList_load_whole Ent.isRec rfl _ rfl gE (by with_unfolding_all exact rfl) _ _ (Ent.len _) E9.out ?_) | (with_reducible refine wpList_load_whole Gate.isRec rfl _ rfl gY (by with_unfolding_all exact rfl) _ _ (Gate.len _) Y9.out ?_) | (with_reducible refine wpList_load_whole Peer.isRec rfl _ rfl gP (by with_unfolding_all exact rfl) _ _ (Peer.len _) P9.out ?_) | (with_reducible refine wpList_load_rec Ent.isRec rfl _ rfl gP 0 (by with_unfolding_all exact rfl) _ (Ent.len _) (Peer.At.part_entry P9.out) ?_) | (with_reducible refine wpList_load_rec_w Ent.isRec (by kernel_rfl) _ rfl gP 0 (by with_unfolding_all exact rfl) x.enc (Ent.len _) (Peer.At.part_entry P9.out) ?_))
          refine (HK.out k1 k3.1 k3.2 w9 (T0.out.below B9.out T0.out.pos)).mono ?_
          rintro e10 w10 ⟨rfl, b10⟩
          have G10 : Hid (Gate.At w10 gG g) := Lib.hid (Whole.below G9.out b10 G9.out.lt)
          have E10 : Hid (Ent.At w10 gE x) := Lib.hid (Whole.below E9.out b10 E9.out.lt)
          have Y10 : Hid (Gate.At w10 gY y) := Lib.hid (Whole.below Y9.out b10 Y9.out.lt)
          have P10 : Hid (Peer.At w10 gP ⟨x, now, g.index⟩) := Lib.hid (Whole.below P9.out b10 P9.out.lt)
          have B10 := Lib.hid (B9.out.trans (b10.mono B9.out.size))
          clear b10 G9 E9 Y9 P9 B9
          clear c1
          go_wp2_with (first | (with_reducible refine wpList_load_whole Gate.isRec rfl _ rfl gG (by with_unfolding_all exact rfl) _ _ (Gate.len _) G10.out ?_) | (with_reducible refine wpList_load_whole Ent.isRec rfl _ rfl gE (by with_unfolding_all exact rfl) _ _ (Ent.len _) E10.out ?_) | (with_reducible refine wpList_load_whole Gate.isRec rfl _ rfl gY (by with_unfolding_all exact rfl) _ _ (Gate.len _) Y10.out ?_) | (with_reducible refine wpList_load_whole Peer.isRec rfl _ rfl gP (by with_unfolding_all exact rfl) _ _ (Peer.len _) P10.out ?_) | (with_reducible refine wpList_load_rec Ent.isRec rfl _ rfl gP 0 (by with_unfolding_all exact rfl) _ (Ent.len _) (Peer.At.part_entry P10.out) ?_) | (first | (with_reducible refine wpList_load_rec_w Ent.isRec (by kernel_rfl) _ rfl gP 0 (by with_unfolding_all exact rfl) x.enc (Ent.len _) (Peer.At.part_entry P10.out) ?_) | (with_reducible refine wpList_load_whole_w Ent.isRec (by kernel_rfl) _ rfl gE (by with_unfolding_all exact rfl) _ _ (Ent.len _) E10.out ?_) | (with_reducible refine wpList_neq_rec_w Ent.isRec (by kernel_rfl) _ _ rfl x.enc x.enc (Ent.fits _) (Ent.fits _) (by with_unfolding_all exact rfl) (by with_unfolding_all exact rfl) false (by simp [eqCells_refl (Ent.fits x)]) ?_)))
          refine (HR.out k1 k2 w10 (T0.out.below B10.out T0.out.pos)).mono ?_
          rintro e11 w11 ⟨rfl, b11⟩
          have G11 : Hid (Gate.At w11 gG g) := Lib.hid (Whole.below G10.out b11 G10.out.lt)
          have E11 : Hid (Ent.At w11 gE x) := Lib.hid (Whole.below E10.out b11 E10.out.lt)
          have Y11 : Hid (Gate.At w11 gY y) := Lib.hid (Whole.below Y10.out b11 Y10.out.lt)
          have P11 : Hid (Peer.At w11 gP ⟨x, now, g.index⟩) := Lib.hid (Whole.below P10.out b11 P10.out.lt)
          have B11 := Lib.hid (B10.out.trans (b11.mono B10.out.size))
          clear b11 G10 E10 Y10 P10 B10
          go_wp2_with (first | (with_reducible refine wpList_load_whole Gate.isRec rfl _ rfl gG (by with_unfolding_all exact rfl) _ _ (Gate.len _) G11.out ?_) | (with_reducible refine wpList_load_whole Ent.isRec rfl _ rfl gE (by with_unfolding_all exact rfl) _ _ (Ent.len _) E11.out ?_) | (with_reducible refine wpList_load_whole Gate.isRec rfl _ rfl gY (by with_unfolding_all exact rfl) _ _ (Gate.len _) Y11.out ?_) | (with_reducible refine wpList_load_whole Peer.isRec rfl _ rfl gP (by with_unfolding_all exact rfl) _ _ (Peer.len _) P11.out ?_) | (with_reducible refine wpList_load_rec Ent.isRec rfl _ rfl gP 0 (by with_unfolding_all exact rfl) _ (Ent.len _) (Peer.At.part_entry P11.out) ?_) | (refine wpList_alloc_row rfl 23 rfl Gate.zero.enc.toArray Gate.zero_is ?_))
          intro w12 b12 x12 z12
          obtain ⟨gN, hgN⟩ : ∃ g, g = w11.heap.size := ⟨_, rfl⟩
          have N_G_N := Lib.hid (show gG < gN from by rw [hgN]; exact G11.out.lt)
          have N_E_N := Lib.hid (show gE < gN from by rw [hgN]; exact E11.out.lt)
          have N_Y_N := Lib.hid (show gY < gN from by rw [hgN]; exact Y11.out.lt)
          have N_P_N := Lib.hid (show gP < gN from by rw [hgN]; exact P11.out.lt)
          have M_N := Lib.hid (show w.heap.size ≤ gN from by rw [hgN]; exact B11.out.size)
          have G12 : Hid (Gate.At w12 gG g) := Lib.hid (Whole.below G11.out b12 G11.out.lt)
          have E12 : Hid (Ent.At w12 gE x) := Lib.hid (Whole.below E11.out b12 E11.out.lt)
          have Y12 : Hid (Gate.At w12 gY y) := Lib.hid (Whole.below Y11.out b12 Y11.out.lt)
          have P12 : Hid (Peer.At w12 gP ⟨x, now, g.index⟩) := Lib.hid (Whole.below P11.out b12 P11.out.lt)
          have B12 := Lib.hid (B11.out.trans (b12.mono B11.out.size))
          rw [← hgN] at x12 ⊢
          have N12 : Hid (Gate.At w12 gN Gate.zero) := Lib.hid x12
          clear b12 x12 z12 hgN G11 E11 Y11 P11 B11
          go_wp2_with (first | (with_reducible refine wpList_load_whole Gate.isRec rfl _ rfl gG (by with_unfolding_all exact rfl) _ _ (Gate.len _) G12.out ?_) | (with_reducible refine wpList_load_whole Ent.isRec rfl _ rfl gE (by with_unfolding_all exact rfl) _ _ (Ent.len _) E12.out ?_) | (with_reducible refine wpList_load_whole Gate.isRec rfl _ rfl gY (by with_unfolding_all exact rfl) _ _ (Gate.len _) Y12.out ?_) | (with_reducible refine wpList_load_whole Peer.isRec rfl _ rfl gP (by with_unfolding_all exact rfl) _ _ (Peer.len _) P12.out ?_) | (with_reducible refine wpList_load_rec Ent.isRec rfl _ rfl gP 0 (by with_unfolding_all exact rfl) _ (Ent.len _) (Peer.At.part_entry P12.out) ?_) | (with_reducible refine wpList_load_whole Gate.isRec rfl _ rfl gN (by with_unfolding_all exact rfl) _ _ (Gate.len _) N12.out ?_) | (with_reducible refine wpList_store_whole rfl 23 _ _ rfl gN r.enc.toArray (by with_unfolding_all exact rfl) (by with_unfolding_all exact rfl) _ _ N12.out (Gate.size _) rfl (Gate.one _) ?_))
          intro w13 q13 x13 z13
          have N13 : Hid (Gate.At w13 gN r) := Lib.hid x13
          have G13 : Hid (Gate.At w13 gG g) := Lib.hid (grown_far G12.out q13 (by have := N_G_N.out; omega))
          have E13 : Hid (Ent.At w13 gE x) := Lib.hid (grown_far E12.out q13 (by have := N_E_N.out; omega))
          have Y13 : Hid (Gate.At w13 gY y) := Lib.hid (grown_far Y12.out q13 (by have := N_Y_N.out; omega))
          have P13 : Hid (Peer.At w13 gP ⟨x, now, g.index⟩) := Lib.hid (grown_far P12.out q13 (by have := N_P_N.out; omega))
          have B13 := Lib.hid (B12.out.grown q13 B12.out.size (fun k hk => by injection hk with hk; have := M_N.out; omega))
          clear q13 x13 z13 N12 G12 E12 Y12 P12 B12
          by_cases h1 : u = 0
          · subst h1
            obtain ⟨f4, f5⟩ := F5.out (by simp)
            subst f5
            rw [f4] at N13
            clear F5 F3 f4
            go_wp2_with (first | (with_reducible refine wpList_load_whole Gate.isRec rfl _ rfl gG (by with_unfolding_all exact rfl) _ _ (Gate.len _) G13.out ?_) | (with_reducible refine wpList_load_whole Ent.isRec rfl _ rfl gE (by with_unfolding_all exact rfl) _ _ (Ent.len _) E13.out ?_) | (with_reducible refine wpList_load_whole Gate.isRec rfl _ rfl gY (by with_unfolding_all exact rfl) _ _ (Gate.len _) Y13.out ?_) | (with_reducible refine wpList_load_whole Peer.isRec rfl _ rfl gP (by with_unfolding_all exact rfl) _ _ (Peer.len _) P13.out ?_) | (with_reducible refine wpList_load_rec Ent.isRec rfl _ rfl gP 0 (by with_unfolding_all exact rfl) _ (Ent.len _) (Peer.At.part_entry P13.out) ?_) | (with_reducible refine wpList_load_whole Gate.isRec rfl _ rfl gN (by with_unfolding_all exact rfl) _ _ (Gate.len _) N13.out ?_))
            refine (HTY.out k2 k3.1 k3.2 w13 (T0.out.below B13.out T0.out.pos)).mono ?_
            rintro e14 w14 ⟨rfl, b14⟩
            have G14 : Hid (Gate.At w14 gG g) := Lib.hid (Whole.below G13.out b14 G13.out.lt)
            have E14 : Hid (Ent.At w14 gE x) := Lib.hid (Whole.below E13.out b14 E13.out.lt)
            have Y14 : Hid (Gate.At w14 gY y) := Lib.hid (Whole.below Y13.out b14 Y13.out.lt)
            have P14 : Hid (Peer.At w14 gP ⟨x, now, g.index⟩) := Lib.hid (Whole.below P13.out b14 P13.out.lt)
            have N14 : Hid (Gate.At w14 gN y) := Lib.hid (Whole.below N13.out b14 N13.out.lt)
            have B14 := Lib.hid (B13.out.trans (b14.mono B13.out.size))
            clear b14 G13 E13 Y13 P13 N13 B13
            go_wp2_with (first | (with_reducible refine wpList_load_whole Gate.isRec rfl _ rfl gG (by with_unfolding_all exact rfl) _ _ (Gate.len _) G14.out ?_) | (with_reducible refine wpList_load_whole Ent.isRec rfl _ rfl gE (by with_unfolding_all exact rfl) _ _ (Ent.len _) E14.out ?_) | (with_reducible refine wpList_load_whole Gate.isRec rfl _ rfl gY (by with_unfolding_all exact rfl) _ _ (Gate.len _) Y14.out ?_) | (with_reducible refine wpList_load_whole Peer.isRec rfl _ rfl gP (by with_unfolding_all exact rfl) _ _ (Peer.len _) P14.out ?_) | (with_reducible refine wpList_load_rec Ent.isRec rfl _ rfl gP 0 (by with_unfolding_all exact rfl) _ (Ent.len _) (Peer.At.part_entry P14.out) ?_) | (with_reducible refine wpList_load_whole Gate.isRec rfl _ rfl gN (by with_unfolding_all exact rfl) _ _ (Gate.len _) N14.out ?_) | (refine wpList_alloc_row rfl 31 rfl Peer.zero.enc.toArray Peer.zero_is ?_))
            intro w15 b15 x15 z15
            obtain ⟨gO, hgO⟩ : ∃ g, g = w14.heap.size := ⟨_, rfl⟩
            have N_G_O := Lib.hid (show gG < gO from by rw [hgO]; exact G14.out.lt)
            have N_E_O := Lib.hid (show gE < gO from by rw [hgO]; exact E14.out.lt)
            have N_Y_O := Lib.hid (show gY < gO from by rw [hgO]; exact Y14.out.lt)
            have N_P_O := Lib.hid (show gP < gO from by rw [hgO]; exact P14.out.lt)
            have N_N_O := Lib.hid (show gN < gO from by rw [hgO]; exact N14.out.lt)
            have M_O := Lib.hid (show w.heap.size ≤ gO from by rw [hgO]; exact B14.out.size)
            have G15 : Hid (Gate.At w15 gG g) := Lib.hid (Whole.below G14.out b15 G14.out.lt)
            have E15 : Hid (Ent.At w15 gE x) := Lib.hid (Whole.below E14.out b15 E14.out.lt)
            have Y15 : Hid (Gate.At w15 gY y) := Lib.hid (Whole.below Y14.out b15 Y14.out.lt)
            have P15 : Hid (Peer.At w15 gP ⟨x, now, g.index⟩) := Lib.hid (Whole.below P14.out b15 P14.out.lt)
            have N15 : Hid (Gate.At w15 gN y) := Lib.hid (Whole.below N14.out b15 N14.out.lt)
            have B15 := Lib.hid (B14.out.trans (b15.mono B14.out.size))
            rw [← hgO] at x15 ⊢
            have O15 : Hid (Peer.At w15 gO Peer.zero) := Lib.hid x15
            clear b15 x15 z15 hgO G14 E14 Y14 P14 N14 B14
            go_wp2_with (first | (with_reducible refine wpList_load_whole Gate.isRec rfl _ rfl gG (by with_unfolding_all exact rfl) _ _ (Gate.len _) G15.out ?_) | (with_reducible refine wpList_load_whole Ent.isRec rfl _ rfl gE (by with_unfolding_all exact rfl) _ _ (Ent.len _) E15.out ?_) | (with_reducible refine wpList_load_whole Gate.isRec rfl _ rfl gY (by with_unfolding_all exact rfl) _ _ (Gate.len _) Y15.out ?_) | (with_reducible refine wpList_load_whole Peer.isRec rfl _ rfl gP (by with_unfolding_all exact rfl) _ _ (Peer.len _) P15.out ?_) | (with_reducible refine wpList_load_rec Ent.isRec rfl _ rfl gP 0 (by with_unfolding_all exact rfl) _ (Ent.len _) (Peer.At.part_entry P15.out) ?_) | (with_reducible refine wpList_load_whole Gate.isRec rfl _ rfl gN (by with_unfolding_all exact rfl) _ _ (Gate.len _) N15.out ?_) | (with_reducible refine wpList_load_whole Peer.isRec rfl _ rfl gO (by with_unfolding_all exact rfl) _ _ (Peer.len _) O15.out ?_) | (with_reducible refine wpList_load_rec Ent.isRec rfl _ rfl gO 0 (by with_unfolding_all exact rfl) _ (Ent.len _) (Peer.At.part_entry O15.out) ?_) | (with_reducible refine wpList_store_whole rfl 31 _ _ rfl gO p'.enc.toArray (by with_unfolding_all exact rfl) (by with_unfolding_all exact rfl) _ _ O15.out (Peer.size _) rfl (Peer.one _) ?_))
            intro w16 q16 x16 z16
            have O16 : Hid (Peer.At w16 gO p') := Lib.hid x16
            have G16 : Hid (Gate.At w16 gG g) := Lib.hid (grown_far G15.out q16 (by have := N_G_O.out; omega))
            have E16 : Hid (Ent.At w16 gE x) := Lib.hid (grown_far E15.out q16 (by have := N_E_O.out; omega))
            have Y16 : Hid (Gate.At w16 gY y) := Lib.hid (grown_far Y15.out q16 (by have := N_Y_O.out; omega))
            have P16 : Hid (Peer.At w16 gP ⟨x, now, g.index⟩) := Lib.hid (grown_far P15.out q16 (by have := N_P_O.out; omega))
            have N16 : Hid (Gate.At w16 gN y) := Lib.hid (grown_far N15.out q16 (by have := N_N_O.out; omega))
            have B16 := Lib.hid (B15.out.grown q16 B15.out.size (fun k hk => by injection hk with hk; have := M_O.out; omega))
            clear q16 x16 z16 O15 G15 E15 Y15 P15 N15 B15
            go_wp2
            go_ret
            exact ⟨rfl, B16.out⟩
          · have f6 := F3.out h1
            subst f6
            have e1 : (u == 0) = false := by simpa using h1
            have e2 : (u != 0) = true := by simpa using h1
            go_wp2_with (first | (with_reducible refine wpList_load_whole Gate.isRec rfl _ rfl gG (by with_unfolding_all exact rfl) _ _ (Gate.len _) G13.out ?_) | (with_reducible refine wpList_load_whole Ent.isRec rfl _ rfl gE (by with_unfolding_all exact rfl) _ _ (Ent.len _) E13.out ?_) | (with_reducible refine wpList_load_whole Gate.isRec rfl _ rfl gY (by with_unfolding_all exact rfl) _ _ (Gate.len _) Y13.out ?_) | (with_reducible refine wpList_load_whole Peer.isRec rfl _ rfl gP (by with_unfolding_all exact rfl) _ _ (Peer.len _) P13.out ?_) | (with_reducible refine wpList_load_rec Ent.isRec rfl _ rfl gP 0 (by with_unfolding_all exact rfl) _ (Ent.len _) (Peer.At.part_entry P13.out) ?_) | (with_reducible refine wpList_load_whole Gate.isRec rfl _ rfl gN (by with_unfolding_all exact rfl) _ _ (Gate.len _) N13.out ?_) | (with_reducible refine wpList_eq_rec Gate.isRec rfl _ _ rfl Gate.zero.enc Gate.zero.enc (Gate.fits _) (Gate.fits _) (by with_unfolding_all exact rfl) (by with_unfolding_all exact rfl) true (eqCells_refl (Gate.fits _)).symm ?_))
            go_ret
            exact ⟨rfl, B13.out⟩
        · have f6 := F0.out h0
          subst f6
          have e1 : (z == 0) = false := by simpa using h0
          have e2 : (z != 0) = true := by simpa using h0
          go_wp2_with (first | (with_reducible refine wpList_load_whole Gate.isRec rfl _ rfl gG (by with_unfolding_all exact rfl) _ _ (Gate.len _) G8.out ?_) | (with_reducible refine wpList_load_whole Ent.isRec rfl _ rfl gE (by with_unfolding_all exact rfl) _ _ (Ent.len _) E8.out ?_) | (with_reducible refine wpList_load_whole Gate.isRec rfl _ rfl gY (by with_unfolding_all exact rfl) _ _ (Gate.len _) Y8.out ?_) | (with_reducible refine wpList_load_whole Peer.isRec rfl _ rfl gP (by with_unfolding_all exact rfl) _ _ (Peer.len _) P8.out ?_) | (with_reducible refine wpList_load_rec Ent.isRec rfl _ rfl gP 0 (by with_unfolding_all exact rfl) _ (Ent.len _) (Peer.At.part_entry P8.out) ?_) | (with_reducible refine wpList_eq_rec Peer.isRec rfl _ _ rfl Peer.zero.enc Peer.zero.enc (Peer.fits _) (Peer.fits _) (by with_unfolding_all exact rfl) (by with_unfolding_all exact rfl) true (eqCells_refl (Peer.fits _)).symm ?_))
          go_ret
          exact ⟨rfl, B8.out⟩
end Go.Proofs.YtehalcopkjfdkaaDoor
