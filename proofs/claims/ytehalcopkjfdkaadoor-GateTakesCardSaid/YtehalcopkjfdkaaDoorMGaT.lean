/- GateTakes' core: over what packages gate, chain and token answer. -/
import Derived.Test.YtehalcopkjfdkaaDoorGba
import Derived.Test.YtehalcopkjfdkaaDoorMGaG
import Derived.Test.YtehalcopkjfdkaaDoorMGaQ
import Derived.BigQuiet
namespace Go.Proofs.YtehalcopkjfdkaaDoor
set_option maxRecDepth 100000
open Go.RowKit

theorem refThose_rows (g : Gate) (A : Option Addr) (m cap : Nat) (l : List Ent) (now : Int) (hk : g.key.length ≤ 4000) (hl : ∀ e ∈ l, e.name.length ≤ 1000 ∧ e.id < 18446744073709551616) (hm : m ≤ 1000000) (w : World) (h : RowsAt w (.slice A m cap) 6 (l.map Ent.enc)) :
    Calls Tryd.prog 12 #[g.val, .slice A m cap, .int .i64 now] w fun e w' => ∃ v, e = .returned v ∧ RowsAt w' v 8 ((thoseP g now l).map Peer.enc) ∧ Below w.heap.size w w' :=
  (refThose_any g A m cap l now hk hl hm w h).mono fun _ _ ⟨v, a, b, c⟩ => ⟨v, a, b.rows, c⟩

set_option maxHeartbeats 2000000 in
theorem gateTakes_core (H : GateIs) (HC : ChainIs) (HT : TokenIs) (g : Gate) (A : Option Addr) (m cap : Nat) (l : List Ent) (now : Int) (hg : g.Ok) (hl : ∀ e ∈ l, e.Ok) (w : World) (T : Tab w) (h : RowsAt w (.slice A m cap) 6 (l.map Ent.enc)) :
    Calls Tryd.prog 3 #[g.val, .slice A m cap, .int .i64 now] w fun e w' => e = .returned (.bool true) ∧ Below w.heap.size w w' := by
  have T0 := Lib.hid T
  have WK := Lib.hid (fun w t => works15 H HC HT w t)
  have HA := Lib.hid h
  have HLn : m = l.length := by have := h.size.1; simpa using this
  have HL := Lib.hid HLn
  have HTK := Lib.hid (fun x (hx : x ∈ l) h1 h2 h3 w t => H.take g x now w hg h1 (hl x hx) h2 h3 t)
  have HTR := Lib.hid (fun x (hx : x ∈ l) h1 h2 w => refTake_any g x now h1 h2 (hl x hx).id_ok w)
  have HTH := Lib.hid (fun h1 (h2 : ∀ e ∈ l, e.name.length ≤ 1000 ∧ e.tag.length ≤ 1000) h3 w r t => H.those g A m cap l now w hg h1 (fun e he => ⟨hl e he, h2 e he⟩) h3 r t)
  have HRH := Lib.hid (fun h1 (h2 : ∀ e ∈ l, e.name.length ≤ 1000 ∧ e.tag.length ≤ 1000) h3 w r => refThose_rows g A m cap l now h1 (fun e he => ⟨(h2 e he).1, (hl e he).id_ok⟩) h3 w r)
  have CG := Lib.hid (fun w r => greatL_any A m cap l w r)
  obtain ⟨g1, hg1⟩ : ∃ q, q = decide (1000 < g.key.length) := ⟨_, rfl⟩
  have r1 : decide ((1000 : Int) < (g.key.length : Int)) = g1 := by rw [hg1]; congr 1; apply propext; omega
  have r1n := hg1.symm
  have H1 := Lib.hid (fun h : g1 = false => show g.key.length ≤ 4000 by rw [hg1] at h; simp at h; omega)
  obtain ⟨g3, hg3⟩ : ∃ q, q = greatL l := ⟨_, rfl⟩
  simp only [← hg3] at CG
  have H3 := Lib.hid (fun h : g3 = false => greatL_no (hg3.symm.trans h))
  clear hg1 hg3 H HC HT hg hl h T HLn
  go_enter Tryd.func3, Tryd.ntmps3
  go_wp2_with (refine wpList_box_row rfl 23 _ rfl g.enc.toArray (by with_unfolding_all exact rfl) ?_)
  intro w1 b1 x1 z1
  obtain ⟨gG, hgG⟩ : ∃ g, g = w.heap.size := ⟨_, rfl⟩
  have M_G := Lib.hid (show w.heap.size ≤ gG from by rw [hgG]; exact Nat.le_refl _)
  have B1 := Lib.hid b1
  rw [← hgG] at x1 ⊢
  have G1 : Hid (Gate.At w1 gG g) := Lib.hid x1
  clear b1 x1 z1 hgG 
  have c1 := Gate.At.at_key G1.out
  cases g1 with
  | true =>
    go_wp2_with (with_reducible refine wpList_load_whole Gate.isRec rfl _ rfl gG (by with_unfolding_all exact rfl) _ _ (Gate.len _) G1.out ?_)
    refine (WK.out w1 (T0.out.below B1.out T0.out.pos)).mono ?_
    rintro e2 w2 ⟨rfl, b2⟩
    have G2 : Hid (Gate.At w2 gG g) := Lib.hid (Whole.below G1.out b2 G1.out.lt)
    have B2 := Lib.hid (B1.out.trans (b2.mono B1.out.size))
    clear b2 G1 B1
    go_wp2
    go_ret
    exact ⟨rfl, B2.out⟩
  | false =>
    go_wp2_with (with_reducible refine wpList_load_whole Gate.isRec rfl _ rfl gG (by with_unfolding_all exact rfl) _ _ (Gate.len _) G1.out ?_)
    refine (CG.out w1 (HA.out.below B1.out)).mono ?_
    rintro e2 w2 ⟨rfl, b2⟩
    have G2 : Hid (Gate.At w2 gG g) := Lib.hid (Whole.below G1.out b2 G1.out.lt)
    have B2 := Lib.hid (B1.out.trans (b2.mono B1.out.size))
    clear b2 G1 B1
    clear c1 r1 r1n CG
    cases g3 with
    | true =>
      go_wp2_with (with_reducible refine wpList_load_whole Gate.isRec rfl _ rfl gG (by with_unfolding_all exact rfl) _ _ (Gate.len _) G2.out ?_)
      refine (WK.out w2 (T0.out.below B2.out T0.out.pos)).mono ?_
      rintro e3 w3 ⟨rfl, b3⟩
      have G3 : Hid (Gate.At w3 gG g) := Lib.hid (Whole.below G2.out b3 G2.out.lt)
      have B3 := Lib.hid (B2.out.trans (b3.mono B2.out.size))
      clear b3 G2 B2
      go_wp2
      go_ret
      exact ⟨rfl, B3.out⟩
    | false =>
      have K1 := Lib.hid (H1.out (by simp))
      have K3 := Lib.hid (H3.out (by simp))
      have HM := Lib.hid (show m ≤ 50 from by rw [HL.out]; exact K3.out.1)
      clear H1 H3
      go_wp2_with fail
      go_loopw [24] (fun i wr => ∃ k : Nat, k ≤ m ∧ i = .int .i64 (k : Int) ∧ Gate.At wr gG g ∧ Below w.heap.size w wr) (fun i _ => m - (intOf i).toNat)
      case atStart => exact ⟨0, Nat.zero_le _, rfl, G2.out, B2.out⟩
      case round =>
        obtain ⟨k, hk, rfl, hG, hb⟩ := hrel
        have G0 := Lib.hid hG
        have B0 := Lib.hid hb
        clear hG hb G2 B2
        by_cases hlt : k < m
        · have dk : decide ((k : Int) < (m : Int)) = true := by simp; omega
          have jk : (k : Int) < (m : Int) := by omega
          have r4 : IntKind.i64.wrap ((k : Int) + 1) = ((k + 1 : Nat) : Int) := by have := HM.out; rw [IntWalk.i64_in _ (by omega)]; omega
          obtain ⟨x, hx⟩ : ∃ x, l[k]? = some x := ⟨_, List.getElem?_eq_getElem (by rw [← HL.out]; exact hlt)⟩
          obtain ⟨hxn, hxt⟩ := K3.out.2 x (List.mem_of_getElem? hx)
          obtain ⟨b, off, rfl, hbl, hc⟩ := HA.out.row (fun c hc => by obtain ⟨y, _, rfl⟩ := List.mem_map.1 hc; exact y.len) (by decide) (map_at hx)
          have HC := Lib.hid (fun j u (hj : x.enc[j]? = some u) => (B0.out.cell (p := ⟨b, off + k * 6 + j, none⟩) hbl).trans (hc j u hj))
          have CT := Lib.hid (fun w T => HTK.out x (List.mem_of_getElem? hx) K1.out hxn hxt w T)
          have CR := Lib.hid (fun w => HTR.out x (List.mem_of_getElem? hx) K1.out hxn w)
          clear hc hx hxn hxt HTH HRH
          generalize takeP g x now = pq at *
          obtain ⟨p, q⟩ := pq
          simp only at CT CR
          go_wp2_with (first | (with_reducible refine wpList_load_whole Gate.isRec rfl _ rfl gG (by with_unfolding_all exact rfl) _ _ (Gate.len _) G0.out ?_) | (refine wpList_alloc_row rfl 29 rfl Ent.zero.enc.toArray Ent.zero_is ?_) | (with_reducible refine wpList_load_rec Ent.isRec rfl _ rfl b (off + k * 6) (by with_unfolding_all exact rfl) x.enc (Ent.len _) HC.out ?_))
          intro w3 b3 x3 z3
          obtain ⟨gE, hgE⟩ : ∃ g, g = wr.heap.size := ⟨_, rfl⟩
          have N_G_E := Lib.hid (show gG < gE from by rw [hgE]; exact G0.out.lt)
          have M_E := Lib.hid (show w.heap.size ≤ gE from by rw [hgE]; exact B0.out.size)
          have G3 : Hid (Gate.At w3 gG g) := Lib.hid (Whole.below G0.out b3 G0.out.lt)
          have B3 := Lib.hid (B0.out.trans (b3.mono B0.out.size))
          rw [← hgE] at x3 ⊢
          have E3 : Hid (Ent.At w3 gE Ent.zero) := Lib.hid x3
          clear b3 x3 z3 hgE G0 B0
          clear HC
          go_wp2_with (first | (with_reducible refine wpList_load_whole Gate.isRec rfl _ rfl gG (by with_unfolding_all exact rfl) _ _ (Gate.len _) G3.out ?_) | (with_reducible refine wpList_load_whole Ent.isRec rfl _ rfl gE (by with_unfolding_all exact rfl) _ _ (Ent.len _) E3.out ?_) | (with_reducible refine wpList_store_whole rfl 29 _ _ rfl gE x.enc.toArray (by with_unfolding_all exact rfl) (by with_unfolding_all exact rfl) _ _ E3.out (Ent.size _) rfl (Ent.one _) ?_))
          intro w4 q4 x4 z4
          have E4 : Hid (Ent.At w4 gE x) := Lib.hid x4
          have G4 : Hid (Gate.At w4 gG g) := Lib.hid (grown_far G3.out q4 (by have := N_G_E.out; omega))
          have B4 := Lib.hid (B3.out.grown q4 B3.out.size (fun k hk => by injection hk with hk; have := M_E.out; omega))
          clear q4 x4 z4 E3 G3 B3
          go_wp2_with (first | (with_reducible refine wpList_load_whole Gate.isRec rfl _ rfl gG (by with_unfolding_all exact rfl) _ _ (Gate.len _) G4.out ?_) | (with_reducible refine wpList_load_whole Ent.isRec rfl _ rfl gE (by with_unfolding_all exact rfl) _ _ (Ent.len _) E4.out ?_))
          refine (CT.out w4 (T0.out.below B4.out T0.out.pos)).mono ?_
          rintro e5 w5 ⟨rfl, b5⟩
          have G5 : Hid (Gate.At w5 gG g) := Lib.hid (Whole.below G4.out b5 G4.out.lt)
          have E5 : Hid (Ent.At w5 gE x) := Lib.hid (Whole.below E4.out b5 E4.out.lt)
          have B5 := Lib.hid (B4.out.trans (b5.mono B4.out.size))
          clear b5 G4 E4 B4
          go_wp2_with (first | (with_reducible refine wpList_load_whole Gate.isRec rfl _ rfl gG (by with_unfolding_all exact rfl) _ _ (Gate.len _) G5.out ?_) | (with_reducible refine wpList_load_whole Ent.isRec rfl _ rfl gE (by with_unfolding_all exact rfl) _ _ (Ent.len _) E5.out ?_) | (refine wpList_alloc_row rfl 31 rfl Peer.zero.enc.toArray Peer.zero_is ?_))
          intro w6 b6 x6 z6
          obtain ⟨gP, hgP⟩ : ∃ g, g = w5.heap.size := ⟨_, rfl⟩
          have N_G_P := Lib.hid (show gG < gP from by rw [hgP]; exact G5.out.lt)
          have N_E_P := Lib.hid (show gE < gP from by rw [hgP]; exact E5.out.lt)
          have M_P := Lib.hid (show w.heap.size ≤ gP from by rw [hgP]; exact B5.out.size)
          have G6 : Hid (Gate.At w6 gG g) := Lib.hid (Whole.below G5.out b6 G5.out.lt)
          have E6 : Hid (Ent.At w6 gE x) := Lib.hid (Whole.below E5.out b6 E5.out.lt)
          have B6 := Lib.hid (B5.out.trans (b6.mono B5.out.size))
          rw [← hgP] at x6 ⊢
          have P6 : Hid (Peer.At w6 gP Peer.zero) := Lib.hid x6
          clear b6 x6 z6 hgP G5 E5 B5
          go_wp2_with (first | (with_reducible refine wpList_load_whole Gate.isRec rfl _ rfl gG (by with_unfolding_all exact rfl) _ _ (Gate.len _) G6.out ?_) | (with_reducible refine wpList_load_whole Ent.isRec rfl _ rfl gE (by with_unfolding_all exact rfl) _ _ (Ent.len _) E6.out ?_) | (with_reducible refine wpList_load_whole Peer.isRec rfl _ rfl gP (by with_unfolding_all exact rfl) _ _ (Peer.len _) P6.out ?_) | (with_reducible refine wpList_load_rec Ent.isRec rfl _ rfl gP 0 (by with_unfolding_all exact rfl) _ (Ent.len _) (Peer.At.part_entry P6.out) ?_) | (with_reducible refine wpList_store_whole rfl 31 _ _ rfl gP p.enc.toArray (by with_unfolding_all exact rfl) (by with_unfolding_all exact rfl) _ _ P6.out (Peer.size _) rfl (Peer.one _) ?_))
          intro w7 q7 x7 z7
          have P7 : Hid (Peer.At w7 gP p) := Lib.hid x7
          have G7 : Hid (Gate.At w7 gG g) := Lib.hid (grown_far G6.out q7 (by have := N_G_P.out; omega))
          have E7 : Hid (Ent.At w7 gE x) := Lib.hid (grown_far E6.out q7 (by have := N_E_P.out; omega))
          have B7 := Lib.hid (B6.out.grown q7 B6.out.size (fun k hk => by injection hk with hk; have := M_P.out; omega))
          clear q7 x7 z7 P6 G6 E6 B6
          go_wp2_with (first | (with_reducible refine wpList_load_whole Gate.isRec rfl _ rfl gG (by with_unfolding_all exact rfl) _ _ (Gate.len _) G7.out ?_) | (with_reducible refine wpList_load_whole Ent.isRec rfl _ rfl gE (by with_unfolding_all exact rfl) _ _ (Ent.len _) E7.out ?_) | (with_reducible refine wpList_load_whole Peer.isRec rfl _ rfl gP (by with_unfolding_all exact rfl) _ _ (Peer.len _) P7.out ?_) | (with_reducible refine wpList_load_rec Ent.isRec rfl _ rfl gP 0 (by with_unfolding_all exact rfl) _ (Ent.len _) (Peer.At.part_entry P7.out) ?_))
          refine (CR.out w7).mono ?_
          rintro e8 w8 ⟨rfl, b8⟩
          have G8 : Hid (Gate.At w8 gG g) := Lib.hid (Whole.below G7.out b8 G7.out.lt)
          have E8 : Hid (Ent.At w8 gE x) := Lib.hid (Whole.below E7.out b8 E7.out.lt)
          have P8 : Hid (Peer.At w8 gP p) := Lib.hid (Whole.below P7.out b8 P7.out.lt)
          have B8 := Lib.hid (B7.out.trans (b8.mono B7.out.size))
          clear b8 G7 E7 P7 B7
          go_wp2_with (first | (with_reducible refine wpList_load_whole Gate.isRec rfl _ rfl gG (by with_unfolding_all exact rfl) _ _ (Gate.len _) G8.out ?_) | (with_reducible refine wpList_load_whole Ent.isRec rfl _ rfl gE (by with_unfolding_all exact rfl) _ _ (Ent.len _) E8.out ?_) | (with_reducible refine wpList_load_whole Peer.isRec rfl _ rfl gP (by with_unfolding_all exact rfl) _ _ (Peer.len _) P8.out ?_) | (with_reducible refine wpList_load_rec Ent.isRec rfl _ rfl gP 0 (by with_unfolding_all exact rfl) _ (Ent.len _) (Peer.At.part_entry P8.out) ?_) | (refine wpList_alloc_row rfl 31 rfl Peer.zero.enc.toArray Peer.zero_is ?_))
          intro w9 b9 x9 z9
          obtain ⟨gQ, hgQ⟩ : ∃ g, g = w8.heap.size := ⟨_, rfl⟩
          have N_G_Q := Lib.hid (show gG < gQ from by rw [hgQ]; exact G8.out.lt)
          have N_E_Q := Lib.hid (show gE < gQ from by rw [hgQ]; exact E8.out.lt)
          have N_P_Q := Lib.hid (show gP < gQ from by rw [hgQ]; exact P8.out.lt)
          have M_Q := Lib.hid (show w.heap.size ≤ gQ from by rw [hgQ]; exact B8.out.size)
          have G9 : Hid (Gate.At w9 gG g) := Lib.hid (Whole.below G8.out b9 G8.out.lt)
          have E9 : Hid (Ent.At w9 gE x) := Lib.hid (Whole.below E8.out b9 E8.out.lt)
          have P9 : Hid (Peer.At w9 gP p) := Lib.hid (Whole.below P8.out b9 P8.out.lt)
          have B9 := Lib.hid (B8.out.trans (b9.mono B8.out.size))
          rw [← hgQ] at x9 ⊢
          have Q9 : Hid (Peer.At w9 gQ Peer.zero) := Lib.hid x9
          clear b9 x9 z9 hgQ G8 E8 P8 B8
          go_wp2_with (first | (with_reducible refine wpList_load_whole Gate.isRec rfl _ rfl gG (by with_unfolding_all exact rfl) _ _ (Gate.len _) G9.out ?_) | (with_reducible refine wpList_load_whole Ent.isRec rfl _ rfl gE (by with_unfolding_all exact rfl) _ _ (Ent.len _) E9.out ?_) | (with_reducible refine wpList_load_whole Peer.isRec rfl _ rfl gP (by with_unfolding_all exact rfl) _ _ (Peer.len _) P9.out ?_) | (with_reducible refine wpList_load_rec Ent.isRec rfl _ rfl gP 0 (by with_unfolding_all exact rfl) _ (Ent.len _) (Peer.At.part_entry P9.out) ?_) | (with_reducible refine wpList_load_whole Peer.isRec rfl _ rfl gQ (by with_unfolding_all exact rfl) _ _ (Peer.len _) Q9.out ?_) | (with_reducible refine wpList_load_rec Ent.isRec rfl _ rfl gQ 0 (by with_unfolding_all exact rfl) _ (Ent.len _) (Peer.At.part_entry Q9.out) ?_) | (with_reducible refine wpList_store_whole rfl 31 _ _ rfl gQ p.enc.toArray (by with_unfolding_all exact rfl) (by with_unfolding_all exact rfl) _ _ Q9.out (Peer.size _) rfl (Peer.one _) ?_))
          intro w10 q10 x10 z10
          have Q10 : Hid (Peer.At w10 gQ p) := Lib.hid x10
          have G10 : Hid (Gate.At w10 gG g) := Lib.hid (grown_far G9.out q10 (by have := N_G_Q.out; omega))
          have E10 : Hid (Ent.At w10 gE x) := Lib.hid (grown_far E9.out q10 (by have := N_E_Q.out; omega))
          have P10 : Hid (Peer.At w10 gP p) := Lib.hid (grown_far P9.out q10 (by have := N_P_Q.out; omega))
          have B10 := Lib.hid (B9.out.grown q10 B9.out.size (fun k hk => by injection hk with hk; have := M_Q.out; omega))
          clear q10 x10 z10 Q9 G9 E9 P9 B9
          go_wp2_with (first | (with_reducible refine wpList_load_whole Gate.isRec rfl _ rfl gG (by with_unfolding_all exact rfl) _ _ (Gate.len _) G10.out ?_) | (with_reducible refine wpList_load_whole Ent.isRec rfl _ rfl gE (by with_unfolding_all exact rfl) _ _ (Ent.len _) E10.out ?_) | (with_reducible refine wpList_load_whole Peer.isRec rfl _ rfl gP (by with_unfolding_all exact rfl) _ _ (Peer.len _) P10.out ?_) | (with_reducible refine wpList_load_rec Ent.isRec rfl _ rfl gP 0 (by with_unfolding_all exact rfl) _ (Ent.len _) (Peer.At.part_entry P10.out) ?_) | (with_reducible refine wpList_load_whole Peer.isRec rfl _ rfl gQ (by with_unfolding_all exact rfl) _ _ (Peer.len _) Q10.out ?_) | (with_reducible refine wpList_load_rec Ent.isRec rfl _ rfl gQ 0 (by with_unfolding_all exact rfl) _ (Ent.len _) (Peer.At.part_entry Q10.out) ?_) | (with_reducible refine wpList_neq_rec Peer.isRec rfl _ _ rfl p.enc p.enc (Peer.fits _) (Peer.fits _) (by with_unfolding_all exact rfl) (by with_unfolding_all exact rfl) false (by simp [eqCells_refl (Peer.fits p)]) ?_))
          exact ⟨⟨k + 1, by omega, by go_num, G10.out, B10.out⟩, by simp [intOf]; omega⟩
        · have dk : decide ((k : Int) < (m : Int)) = false := by simp; omega
          have CA := Lib.hid (fun w r t => HTH.out K1.out K3.out.2 (by have := HM.out; omega) w r t)
          have CB := Lib.hid (fun w r => HRH.out K1.out K3.out.2 (by have := HM.out; omega) w r)
          have HN : Hid ((thoseP g now l).length ≤ 1000000) := Lib.hid (by have h1 := thoseP_length g now l; have h2 := HM.out; have h3 := HL.out; omega)
          clear HTH HRH HTK HTR
          generalize thoseP g now l = L at *
          have CS := Lib.hid (fun v v' w a b => refPeersSame_any_v v v' L L HN.out w a b)
          simp only [decide_true] at CS
          go_wp2_with (first | (with_reducible refine wpList_load_whole Gate.isRec rfl _ rfl gG (by with_unfolding_all exact rfl) _ _ (Gate.len _) G10.out ?_) | (with_reducible refine wpList_load_whole Ent.isRec rfl _ rfl gE (by with_unfolding_all exact rfl) _ _ (Ent.len _) E10.out ?_) | (with_reducible refine wpList_load_whole Peer.isRec rfl _ rfl gP (by with_unfolding_all exact rfl) _ _ (Peer.len _) P10.out ?_) | (with_reducible refine wpList_load_rec Ent.isRec rfl _ rfl gP 0 (by with_unfolding_all exact rfl) _ (Ent.len _) (Peer.At.part_entry P10.out) ?_) | (with_reducible refine wpList_load_whole Peer.isRec rfl _ rfl gQ (by with_unfolding_all exact rfl) _ _ (Peer.len _) Q10.out ?_) | (with_reducible refine wpList_load_rec Ent.isRec rfl _ rfl gQ 0 (by with_unfolding_all exact rfl) _ (Ent.len _) (Peer.At.part_entry Q10.out) ?_))
          go_wp2_with (with_reducible refine wpList_load_whole Gate.isRec rfl _ rfl gG (by with_unfolding_all exact rfl) _ _ (Gate.len _) G0.out ?_)
          refine reg_begin (by kernel_rfl) fun w11 b11 z11 => ?_
          have G11 : Hid (Gate.At w11 gG g) := Lib.hid (Whole.below G0.out b11 G0.out.lt)
          have B11 := Lib.hid (B0.out.trans (b11.mono B0.out.size))
          clear b11 z11 G0 B0
          refine reg_take (i := 0) (v := Gate.val (g)) rfl (by kernel_rfl) (by kernel_rfl) (by kernel_rfl) (fun _ _ _ h => h) (by rfl) ?hy0 ?_
          case hy0 => intro w' hw'; exact exec_load_whole Gate.isRec _ rfl gG rfl _ _ (Gate.len _) w' (Whole.below G11.out hw' G11.out.lt)
          simp only [Act.put, List.setIfInBounds_toArray, List.set_cons_zero, List.set_cons_succ]
          refine reg_take (i := 1) (v := ?_) rfl (by kernel_rfl) (by kernel_rfl) (by kernel_rfl) (fun _ _ _ h => h) (by rfl) ?hy1 ?_
          case hy1 => intro w' hw'; go_simp; (try with_reducible rfl)
          simp only [Act.put, List.setIfInBounds_toArray, List.set_cons_zero, List.set_cons_succ]
          refine reg_take (i := 2) (v := ?_) rfl (by kernel_rfl) (by kernel_rfl) (by kernel_rfl) (fun _ _ _ h => h) (by rfl) ?hy2 ?_
          case hy2 => intro w' hw'; go_simp; (try with_reducible rfl)
          simp only [Act.put, List.setIfInBounds_toArray, List.set_cons_zero, List.set_cons_succ]
          refine reg_take (i := 4) (v := Gate.val (g)) rfl (by kernel_rfl) (by kernel_rfl) (by kernel_rfl) (fun _ _ _ h => h) (by rfl) ?hy4 ?_
          case hy4 => intro w' hw'; exact exec_load_whole Gate.isRec _ rfl gG rfl _ _ (Gate.len _) w' (Whole.below G11.out hw' G11.out.lt)
          simp only [Act.put, List.setIfInBounds_toArray, List.set_cons_zero, List.set_cons_succ]
          refine reg_take (i := 5) (v := ?_) rfl (by kernel_rfl) (by kernel_rfl) (by kernel_rfl) (fun _ _ _ h => h) (by rfl) ?hy5 ?_
          case hy5 => intro w' hw'; go_simp; (try with_reducible rfl)
          simp only [Act.put, List.setIfInBounds_toArray, List.set_cons_zero, List.set_cons_succ]
          refine reg_take (i := 6) (v := ?_) rfl (by kernel_rfl) (by kernel_rfl) (by kernel_rfl) (fun _ _ _ h => h) (by rfl) ?hy6 ?_
          case hy6 => intro w' hw'; go_simp; (try with_reducible rfl)
          simp only [Act.put, List.setIfInBounds_toArray, List.set_cons_zero, List.set_cons_succ]
          refine reg_call (i := 3) rfl (by kernel_rfl) (fun K' hK => ?_)
          go_simp
          refine (CA.out w11 (HA.out.below B11.out) (T0.out.below B11.out T0.out.pos)).mono ?_
          rintro e12 w12 ⟨y, rfl, o, b12⟩
          have G12 : Hid (Gate.At w12 gG g) := Lib.hid (Whole.below G11.out b12 G11.out.lt)
          have B12 := Lib.hid (B11.out.trans (b12.mono B11.out.size))
          have X12 : Hid (RowsAt w12 y 8 (L.map Peer.enc)) := Lib.hid o
          refine hK.out _ _ b12 ?_
          clear hK K' b12 G11 B11 o
          refine reg_call (i := 7) rfl (by kernel_rfl) (fun K' hK => ?_)
          go_simp
          refine (CB.out w12 (HA.out.below B12.out)).mono ?_
          rintro e13 w13 ⟨z, rfl, o, b13⟩
          have G13 : Hid (Gate.At w13 gG g) := Lib.hid (Whole.below G12.out b13 G12.out.lt)
          have X13 : Hid (RowsAt w13 y 8 (L.map Peer.enc)) := Lib.hid (X12.out.below b13)
          have B13 := Lib.hid (B12.out.trans (b13.mono B12.out.size))
          have Z13 : Hid (RowsAt w13 z 8 (L.map Peer.enc)) := Lib.hid o
          refine hK.out _ _ b13 ?_
          clear hK K' b13 G12 X12 B12 o
          refine reg_call (i := 8) rfl (by kernel_rfl) (fun K' hK => ?_)
          go_simp
          refine (CS.out y z w13 X13.out Z13.out).mono ?_
          rintro e14 w14 ⟨rfl, b14⟩
          have G14 : Hid (Gate.At w14 gG g) := Lib.hid (Whole.below G13.out b14 G13.out.lt)
          have X14 : Hid (RowsAt w14 y 8 (L.map Peer.enc)) := Lib.hid (X13.out.below b14)
          have Z14 : Hid (RowsAt w14 z 8 (L.map Peer.enc)) := Lib.hid (Z13.out.below b14)
          have B14 := Lib.hid (B13.out.trans (b14.mono B13.out.size))
          refine hK.out _ _ b14 ?_
          clear hK K' b14 G13 X13 Z13 B13
          refine reg_take (i := 9) (v := ?_) rfl (by kernel_rfl) (by kernel_rfl) (by kernel_rfl) (fun _ _ _ h => h) (by rfl) ?hy9 ?_
          case hy9 => intro w' hw'; go_simp; (try with_reducible rfl)
          simp only [Act.put, List.setIfInBounds_toArray, List.set_cons_zero, List.set_cons_succ]
          refine reg_call (i := 10) rfl (by kernel_rfl) (fun K' hK => ?_)
          go_simp
          refine (WK.out w14 (T0.out.below B14.out T0.out.pos)).mono ?_
          rintro e15 w15 ⟨rfl, b15⟩
          have G15 : Hid (Gate.At w15 gG g) := Lib.hid (Whole.below G14.out b15 G14.out.lt)
          have X15 : Hid (RowsAt w15 y 8 (L.map Peer.enc)) := Lib.hid (X14.out.below b15)
          have Z15 : Hid (RowsAt w15 z 8 (L.map Peer.enc)) := Lib.hid (Z14.out.below b15)
          have B15 := Lib.hid (B14.out.trans (b15.mono B14.out.size))
          refine hK.out _ _ b15 ?_
          clear hK K' b15 G14 X14 Z14 B14
          refine reg_take (i := 11) (v := ?_) rfl (by kernel_rfl) (by kernel_rfl) (by kernel_rfl) (fun _ _ _ h => h) (by rfl) ?hy11 ?_
          case hy11 => intro w' hw'; go_simp; (try with_reducible rfl)
          simp only [Act.put, List.setIfInBounds_toArray, List.set_cons_zero, List.set_cons_succ]
          refine reg_take (i := 12) (v := ?_) rfl (by kernel_rfl) (by kernel_rfl) (by kernel_rfl) (fun _ _ _ h => h) (by rfl) ?hy12 ?_
          case hy12 => intro w' hw'; go_simp; (try with_reducible rfl)
          simp only [Act.put, List.setIfInBounds_toArray, List.set_cons_zero, List.set_cons_succ]
          refine reg_end (by kernel_rfl) ?_
          go_wp2
          go_ret
          exact ⟨rfl, B15.out⟩
end Go.Proofs.YtehalcopkjfdkaaDoor
