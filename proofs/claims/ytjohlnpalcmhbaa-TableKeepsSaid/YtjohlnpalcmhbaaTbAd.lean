/- Layer 23: TableAdds' core. -/
import Derived.Test.YtjohlnpalcmhbaaTbMo
import Derived.Test.YtjohlnpalcmhbaaTbT
namespace Go.Proofs.Ytjohlnpalcmhbaa
set_option maxRecDepth 100000
open Go.RowKit

theorem as_rows2 {F : FuncId} {args : Array Value} {w : World} {base : Nat} {L : List Ses} {E : Int} {B : World → Prop} (h : Calls Try.prog F args w fun e w' => ∃ v, e = .returned (.tuple #[v, .int .i64 E]) ∧ OwnRows w' base 36 20 v (L.map Ses.enc) ∧ B w') :
    Calls Try.prog F args w fun e w' => ∃ v, e = .returned (.tuple #[v, .int .i64 E]) ∧ RowsAt w' v 20 (L.map Ses.enc) ∧ B w' :=
  h.mono fun _ _ ⟨v, he, ho, hb⟩ => ⟨v, he, ho.rows, hb⟩
set_option maxRecDepth 100000 in
set_option maxHeartbeats 2000000 in
theorem adds_core (A : Option Addr) (m cap : Nat) (l : List Ses) (C : Option Addr) (bn bc : Nat) (busy : List Nat) (s : Ses) (w : World) (h : RowsAt w (.slice A m cap) 20 (l.map Ses.enc)) (hu : UsAt w (.slice C bn bc) busy) :
    Calls Try.prog 4 #[.slice A m cap, .slice C bn bc, s.val] w fun e w' => e = .returned (.bool true) ∧ Below w.heap.size w w' := by
  have hlen := h.size.1
  rw [List.length_map] at hlen
  subst hlen
  have CG := Lib.hid (fun w h => greatSs_any A l.length cap l w h)
  have CE := Lib.hid (fun w => greatSes_any s w)
  have HN : greatSs l = false → l.length ≤ 60 := greatSs_no
  obtain ⟨g1, hg1⟩ : ∃ g, g = greatSs l := ⟨_, rfl⟩
  obtain ⟨g2, hg2⟩ : ∃ g, g = greatSes s := ⟨_, rfl⟩
  simp only [← hg1, ← hg2] at CG CE HN
  have HN := Lib.hid HN
  clear hg1 hg2
  go_enter Try.func4, Try.ntmps4
  have L0 : Hid (RowsAt w (.slice A l.length cap) 20 (l.map Ses.enc)) := Lib.hid (h)
  have U0 : Hid (UsAt w (.slice C bn bc) busy) := Lib.hid (hu)
  clear h hu
  go_wp2_with (refine wpList_box_row rfl 36 _ rfl s.enc.toArray (by with_unfolding_all exact rfl) ?_)
  intro w1 b1 x1 z1
  obtain ⟨gS, hgS⟩ : ∃ g, g = w.heap.size := ⟨_, rfl⟩
  have M_S := Lib.hid (show w.heap.size ≤ gS from by rw [hgS]; exact Nat.le_refl _)
  have L1 : Hid (RowsAt w1 (.slice A l.length cap) 20 (l.map Ses.enc)) := Lib.hid (L0.out.below b1)
  have U1 : Hid (UsAt w1 (.slice C bn bc) busy) := Lib.hid (U0.out.below b1)
  have B1 := Lib.hid b1
  rw [← hgS] at x1 ⊢
  have S1 : Hid (Ses.At w1 gS s) := Lib.hid x1
  clear b1 x1 z1 hgS L0 U0
  go_wp2_with (first | (with_reducible refine wpList_load_whole Ses.isRec rfl _ rfl gS (by with_unfolding_all exact rfl) _ _ (Ses.len _) S1.out ?_) | (with_reducible refine wpList_load_rec Ent.isRec rfl _ rfl gS 2 (by with_unfolding_all exact rfl) _ (Ent.len _) (Ses.At.part_peer S1.out) ?_) | (with_reducible refine wpList_load_rec Win.isRec rfl _ rfl gS 16 (by with_unfolding_all exact rfl) _ (Win.len _) (Ses.At.part_seen S1.out) ?_))
  refine (CG.out w1 L1.out).mono ?_
  rintro e2 w2 ⟨rfl, b2⟩
  have L2 : Hid (RowsAt w2 (.slice A l.length cap) 20 (l.map Ses.enc)) := Lib.hid (L1.out.below b2)
  have U2 : Hid (UsAt w2 (.slice C bn bc) busy) := Lib.hid (U1.out.below b2)
  have S2 : Hid (Ses.At w2 gS s) := Lib.hid (Whole.below S1.out b2 S1.out.lt)
  have B2 := Lib.hid (B1.out.trans (b2.mono B1.out.size))
  clear b2 L1 U1 S1 B1
  cases g1 with
  | true =>
    go_wp2_with (first | (with_reducible refine wpList_load_whole Ses.isRec rfl _ rfl gS (by with_unfolding_all exact rfl) _ _ (Ses.len _) S2.out ?_) | (with_reducible refine wpList_load_rec Ent.isRec rfl _ rfl gS 2 (by with_unfolding_all exact rfl) _ (Ent.len _) (Ses.At.part_peer S2.out) ?_) | (with_reducible refine wpList_load_rec Win.isRec rfl _ rfl gS 16 (by with_unfolding_all exact rfl) _ (Win.len _) (Ses.At.part_seen S2.out) ?_))
    refine (works23 w2).mono ?_
    rintro e3 w3 ⟨rfl, b3⟩
    have L3 : Hid (RowsAt w3 (.slice A l.length cap) 20 (l.map Ses.enc)) := Lib.hid (L2.out.below b3)
    have U3 : Hid (UsAt w3 (.slice C bn bc) busy) := Lib.hid (U2.out.below b3)
    have S3 : Hid (Ses.At w3 gS s) := Lib.hid (Whole.below S2.out b3 S2.out.lt)
    have B3 := Lib.hid (B2.out.trans (b3.mono B2.out.size))
    clear b3 L2 U2 S2 B2
    go_wp2
    go_ret
    exact ⟨rfl, B3.out⟩
  | false =>
    have hl := HN.out rfl
    have HL := Lib.hid hl
    clear HN CG
    go_wp2_with (first | (with_reducible refine wpList_load_whole Ses.isRec rfl _ rfl gS (by with_unfolding_all exact rfl) _ _ (Ses.len _) S2.out ?_) | (with_reducible refine wpList_load_rec Ent.isRec rfl _ rfl gS 2 (by with_unfolding_all exact rfl) _ (Ent.len _) (Ses.At.part_peer S2.out) ?_) | (with_reducible refine wpList_load_rec Win.isRec rfl _ rfl gS 16 (by with_unfolding_all exact rfl) _ (Win.len _) (Ses.At.part_seen S2.out) ?_) | (with_reducible refine wpList_load_whole_w Ses.isRec (by kernel_rfl) _ rfl gS (by with_unfolding_all exact rfl) _ _ (Ses.len _) S2.out ?_))
    refine (CE.out w2).mono ?_
    rintro e3 w3 ⟨rfl, b3⟩
    have L3 : Hid (RowsAt w3 (.slice A l.length cap) 20 (l.map Ses.enc)) := Lib.hid (L2.out.below b3)
    have U3 : Hid (UsAt w3 (.slice C bn bc) busy) := Lib.hid (U2.out.below b3)
    have S3 : Hid (Ses.At w3 gS s) := Lib.hid (Whole.below S2.out b3 S2.out.lt)
    have B3 := Lib.hid (B2.out.trans (b3.mono B2.out.size))
    clear b3 L2 U2 S2 B2
    cases g2 with
    | true =>
      go_wp2_with (first | (with_reducible refine wpList_load_whole Ses.isRec rfl _ rfl gS (by with_unfolding_all exact rfl) _ _ (Ses.len _) S3.out ?_) | (with_reducible refine wpList_load_rec Ent.isRec rfl _ rfl gS 2 (by with_unfolding_all exact rfl) _ (Ent.len _) (Ses.At.part_peer S3.out) ?_) | (with_reducible refine wpList_load_rec Win.isRec rfl _ rfl gS 16 (by with_unfolding_all exact rfl) _ (Win.len _) (Ses.At.part_seen S3.out) ?_))
      refine (works23 w3).mono ?_
      rintro e4 w4 ⟨rfl, b4⟩
      have L4 : Hid (RowsAt w4 (.slice A l.length cap) 20 (l.map Ses.enc)) := Lib.hid (L3.out.below b4)
      have U4 : Hid (UsAt w4 (.slice C bn bc) busy) := Lib.hid (U3.out.below b4)
      have S4 : Hid (Ses.At w4 gS s) := Lib.hid (Whole.below S3.out b4 S3.out.lt)
      have B4 := Lib.hid (B3.out.trans (b4.mono B3.out.size))
      clear b4 L3 U3 S3 B3
      go_wp2
      go_ret
      exact ⟨rfl, B4.out⟩
    | false =>
      by_cases hb : 100 < bn
      · have d : decide ((100 : Int) < (bn : Int)) = true := by simp; omega
        go_wp2_with (first | (with_reducible refine wpList_load_whole Ses.isRec rfl _ rfl gS (by with_unfolding_all exact rfl) _ _ (Ses.len _) S3.out ?_) | (with_reducible refine wpList_load_rec Ent.isRec rfl _ rfl gS 2 (by with_unfolding_all exact rfl) _ (Ent.len _) (Ses.At.part_peer S3.out) ?_) | (with_reducible refine wpList_load_rec Win.isRec rfl _ rfl gS 16 (by with_unfolding_all exact rfl) _ (Win.len _) (Ses.At.part_seen S3.out) ?_))
        refine (works23 w3).mono ?_
        rintro e4 w4 ⟨rfl, b4⟩
        have L4 : Hid (RowsAt w4 (.slice A l.length cap) 20 (l.map Ses.enc)) := Lib.hid (L3.out.below b4)
        have U4 : Hid (UsAt w4 (.slice C bn bc) busy) := Lib.hid (U3.out.below b4)
        have S4 : Hid (Ses.At w4 gS s) := Lib.hid (Whole.below S3.out b4 S3.out.lt)
        have B4 := Lib.hid (B3.out.trans (b4.mono B3.out.size))
        clear b4 L3 U3 S3 B3
        go_wp2
        go_ret
        exact ⟨rfl, B4.out⟩
      · have d : decide ((100 : Int) < (bn : Int)) = false := by simp; omega
        have C1 := Lib.hid (fun A' c' w h hu => as_rows2 (tbAdd_any A' l.length c' l C bn bc busy s w.heap.size w (Nat.le_refl _) (by omega) (by omega) h hu))
        have C2 := Lib.hid (fun w h hu => refAdd_any A l.length cap l C bn bc busy s w (by omega) (by omega) h hu)
        have HA := Lib.hid (Nat.le_trans (addS_length l busy s) (by omega) : (addS l busy s).1.length ≤ 1000000)
        generalize addS l busy s = X at C1 C2 HA
        obtain ⟨X, E⟩ := X
        simp only at C1 C2 HA
        clear hb hl
        go_wp2_with (with_reducible refine wpList_build_0 (base := w3.heap.size) rfl rfl (Nat.le_refl _) ?_)
        intro wp bp xp
        have XP := Lib.hid xp
        have LP := Lib.hid (L3.out.below bp)
        have UP := Lib.hid (U3.out.below bp)
        have SP : Hid (Ses.At wp gS s) := Lib.hid (Whole.below S3.out bp S3.out.lt)
        have BP := Lib.hid (B3.out.trans (bp.mono B3.out.size))
        have ZP := Lib.hid bp.size
        clear bp xp L3 U3 S3 B3
        go_wp2_with (with_reducible refine wpList_append_lit rfl _ _ rfl _ (by with_unfolding_all exact rfl) XP.out _ l (by with_unfolding_all exact rfl) LP.out (by have := HL.out; omega) ZP.out ?_)
        intro v wq bq oq
        obtain ⟨A', cap', hv⟩ := oq.form
        rw [List.length_map] at hv
        subst hv
        have OQ := Lib.hid oq.rows
        have LQ := Lib.hid (LP.out.below bq)
        have UQ := Lib.hid (UP.out.below bq)
        have SQ : Hid (Ses.At wq gS s) := Lib.hid (Whole.below SP.out bq SP.out.lt)
        have BQ := Lib.hid (BP.out.trans (bq.mono BP.out.size))
        clear bq oq XP LP UP SP BP ZP
        have O3 : Hid (RowsAt wq (.slice A' l.length cap') 20 (l.map Ses.enc)) := Lib.hid (OQ.out)
        go_wp2_with (first | (with_reducible refine wpList_load_whole Ses.isRec rfl _ rfl gS (by with_unfolding_all exact rfl) _ _ (Ses.len _) SQ.out ?_) | (with_reducible refine wpList_load_rec Ent.isRec rfl _ rfl gS 2 (by with_unfolding_all exact rfl) _ (Ent.len _) (Ses.At.part_peer SQ.out) ?_) | (with_reducible refine wpList_load_rec Win.isRec rfl _ rfl gS 16 (by with_unfolding_all exact rfl) _ (Win.len _) (Ses.At.part_seen SQ.out) ?_) | (with_reducible refine wpList_load_whole Ses.isRec rfl _ rfl gS (by with_unfolding_all exact rfl) _ _ (Ses.len _) SQ.out ?_))
        refine (C1.out A' cap' wq O3.out UQ.out).mono ?_
        rintro e4 w4 ⟨v1, rfl, y1, b4⟩
        have L4 : Hid (RowsAt w4 (.slice A l.length cap) 20 (l.map Ses.enc)) := Lib.hid (LQ.out.below b4)
        have U4 : Hid (UsAt w4 (.slice C bn bc) busy) := Lib.hid (UQ.out.below b4)
        have S4 : Hid (Ses.At w4 gS s) := Lib.hid (Whole.below SQ.out b4 SQ.out.lt)
        have O4 : Hid (RowsAt w4 (.slice A' l.length cap') 20 (l.map Ses.enc)) := Lib.hid (O3.out.below b4)
        have B4 := Lib.hid (BQ.out.trans (b4.mono BQ.out.size))
        have PA4 : Hid (RowsAt w4 v1 20 (X.map Ses.enc)) := Lib.hid y1
        clear b4 LQ UQ SQ O3 BQ y1
        go_wp2_with (first | (with_reducible refine wpList_load_whole Ses.isRec rfl _ rfl gS (by with_unfolding_all exact rfl) _ _ (Ses.len _) S4.out ?_) | (with_reducible refine wpList_load_rec Ent.isRec rfl _ rfl gS 2 (by with_unfolding_all exact rfl) _ (Ent.len _) (Ses.At.part_peer S4.out) ?_) | (with_reducible refine wpList_load_rec Win.isRec rfl _ rfl gS 16 (by with_unfolding_all exact rfl) _ (Win.len _) (Ses.At.part_seen S4.out) ?_) | (with_reducible refine wpList_load_whole Ses.isRec rfl _ rfl gS (by with_unfolding_all exact rfl) _ _ (Ses.len _) S4.out ?_))
        refine (C2.out w4 L4.out U4.out).mono ?_
        rintro e5 w5 ⟨v2, rfl, y2, b5⟩
        have L5 : Hid (RowsAt w5 (.slice A l.length cap) 20 (l.map Ses.enc)) := Lib.hid (L4.out.below b5)
        have U5 : Hid (UsAt w5 (.slice C bn bc) busy) := Lib.hid (U4.out.below b5)
        have S5 : Hid (Ses.At w5 gS s) := Lib.hid (Whole.below S4.out b5 S4.out.lt)
        have O5 : Hid (RowsAt w5 (.slice A' l.length cap') 20 (l.map Ses.enc)) := Lib.hid (O4.out.below b5)
        have PA5 : Hid (RowsAt w5 v1 20 (X.map Ses.enc)) := Lib.hid (PA4.out.below b5)
        have B5 := Lib.hid (B4.out.trans (b5.mono B4.out.size))
        have PB5 : Hid (RowsAt w5 v2 20 (X.map Ses.enc)) := Lib.hid y2
        clear b5 L4 U4 S4 O4 PA4 B4 y2
        go_wp2_with (first | (with_reducible refine wpList_load_whole Ses.isRec rfl _ rfl gS (by with_unfolding_all exact rfl) _ _ (Ses.len _) S5.out ?_) | (with_reducible refine wpList_load_rec Ent.isRec rfl _ rfl gS 2 (by with_unfolding_all exact rfl) _ (Ent.len _) (Ses.At.part_peer S5.out) ?_) | (with_reducible refine wpList_load_rec Win.isRec rfl _ rfl gS 16 (by with_unfolding_all exact rfl) _ (Win.len _) (Ses.At.part_seen S5.out) ?_))
        refine (refSameV_any v1 v2 X w5 HA.out PA5.out PB5.out).mono ?_
        rintro e6 w6 ⟨rfl, b6⟩
        have L6 : Hid (RowsAt w6 (.slice A l.length cap) 20 (l.map Ses.enc)) := Lib.hid (L5.out.below b6)
        have U6 : Hid (UsAt w6 (.slice C bn bc) busy) := Lib.hid (U5.out.below b6)
        have S6 : Hid (Ses.At w6 gS s) := Lib.hid (Whole.below S5.out b6 S5.out.lt)
        have O6 : Hid (RowsAt w6 (.slice A' l.length cap') 20 (l.map Ses.enc)) := Lib.hid (O5.out.below b6)
        have PA6 : Hid (RowsAt w6 v1 20 (X.map Ses.enc)) := Lib.hid (PA5.out.below b6)
        have PB6 : Hid (RowsAt w6 v2 20 (X.map Ses.enc)) := Lib.hid (PB5.out.below b6)
        have B6 := Lib.hid (B5.out.trans (b6.mono B5.out.size))
        clear b6 L5 U5 S5 O5 PA5 PB5 B5
        go_wp2_with (first | (with_reducible refine wpList_load_whole Ses.isRec rfl _ rfl gS (by with_unfolding_all exact rfl) _ _ (Ses.len _) S6.out ?_) | (with_reducible refine wpList_load_rec Ent.isRec rfl _ rfl gS 2 (by with_unfolding_all exact rfl) _ (Ent.len _) (Ses.At.part_peer S6.out) ?_) | (with_reducible refine wpList_load_rec Win.isRec rfl _ rfl gS 16 (by with_unfolding_all exact rfl) _ (Win.len _) (Ses.At.part_seen S6.out) ?_))
        refine (refSameV_any _ _ l w6 (by have := HL.out; omega) O6.out L6.out).mono ?_
        rintro e7 w7 ⟨rfl, b7⟩
        have L7 : Hid (RowsAt w7 (.slice A l.length cap) 20 (l.map Ses.enc)) := Lib.hid (L6.out.below b7)
        have U7 : Hid (UsAt w7 (.slice C bn bc) busy) := Lib.hid (U6.out.below b7)
        have S7 : Hid (Ses.At w7 gS s) := Lib.hid (Whole.below S6.out b7 S6.out.lt)
        have O7 : Hid (RowsAt w7 (.slice A' l.length cap') 20 (l.map Ses.enc)) := Lib.hid (O6.out.below b7)
        have PA7 : Hid (RowsAt w7 v1 20 (X.map Ses.enc)) := Lib.hid (PA6.out.below b7)
        have PB7 : Hid (RowsAt w7 v2 20 (X.map Ses.enc)) := Lib.hid (PB6.out.below b7)
        have B7 := Lib.hid (B6.out.trans (b7.mono B6.out.size))
        clear b7 L6 U6 S6 O6 PA6 PB6 B6
        go_wp2_with (first | (with_reducible refine wpList_load_whole Ses.isRec rfl _ rfl gS (by with_unfolding_all exact rfl) _ _ (Ses.len _) S7.out ?_) | (with_reducible refine wpList_load_rec Ent.isRec rfl _ rfl gS 2 (by with_unfolding_all exact rfl) _ (Ent.len _) (Ses.At.part_peer S7.out) ?_) | (with_reducible refine wpList_load_rec Win.isRec rfl _ rfl gS 16 (by with_unfolding_all exact rfl) _ (Win.len _) (Ses.At.part_seen S7.out) ?_))
        refine (works23 w7).mono ?_
        rintro e8 w8 ⟨rfl, b8⟩
        have L8 : Hid (RowsAt w8 (.slice A l.length cap) 20 (l.map Ses.enc)) := Lib.hid (L7.out.below b8)
        have U8 : Hid (UsAt w8 (.slice C bn bc) busy) := Lib.hid (U7.out.below b8)
        have S8 : Hid (Ses.At w8 gS s) := Lib.hid (Whole.below S7.out b8 S7.out.lt)
        have O8 : Hid (RowsAt w8 (.slice A' l.length cap') 20 (l.map Ses.enc)) := Lib.hid (O7.out.below b8)
        have PA8 : Hid (RowsAt w8 v1 20 (X.map Ses.enc)) := Lib.hid (PA7.out.below b8)
        have PB8 : Hid (RowsAt w8 v2 20 (X.map Ses.enc)) := Lib.hid (PB7.out.below b8)
        have B8 := Lib.hid (B7.out.trans (b8.mono B7.out.size))
        clear b8 L7 U7 S7 O7 PA7 PB7 B7
        go_wp2
        go_ret
        exact ⟨rfl, B8.out⟩
end Go.Proofs.Ytjohlnpalcmhbaa
