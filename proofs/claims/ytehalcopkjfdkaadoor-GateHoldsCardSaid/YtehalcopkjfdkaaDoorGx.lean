/- Layer 15: the document's Same and Those. What the texts of layer 12's statements lean on of package chain, as one thing to prove: each call's answer, where digest's table lies as it was laid. -/
import Derived.Test.YtehalcopkjfdkaaDoorGw
import Derived.Test.YtehalcopkjfdkaaDoorGv
import Derived.Test.YtehalcopkjfdkaaDoorGk
namespace Go.Proofs.YtehalcopkjfdkaaDoor
set_option maxRecDepth 100000
open Go.RowKit

theorem map_at {α : Type} {f : α → List Value} {l : List α} {i : Nat} {x : α} (h : l[i]? = some x) : (l.map f)[i]? = some (f x) := by rw [List.getElem?_map, h]; rfl
theorem take_snoc {α : Type} {l : List α} {i : Nat} {x : α} (h : l[i]? = some x) : l.take (i + 1) = l.take i ++ [x] := by rw [List.take_add_one, h]; rfl

theorem those_one (g : Gate) (now : Int) (x : Ent) : thoseP g now [x] = if (takeP g x now).2 = 0 then [(takeP g x now).1] else [] := by
  rw [thoseP, takeP]
  split
  · rfl
  · next h => simp only [thoseP]
set_option maxRecDepth 100000 in
set_option maxHeartbeats 1000000 in
theorem refThose_any (g : Gate) (A : Option Addr) (m cap : Nat) (l : List Ent) (now : Int) (hk : g.key.length ≤ 4000) (hl : ∀ e ∈ l, e.name.length ≤ 1000 ∧ e.id < 18446744073709551616) (hm : m ≤ 1000000) (w : World) (h : RowsAt w (.slice A m cap) 6 (l.map Ent.enc)) :
    Calls Tryd.prog 12 #[g.val, .slice A m cap, .int .i64 now] w fun e w' => ∃ v, e = .returned v ∧ OwnRows w' w.heap.size 31 8 v ((thoseP g now l).map Peer.enc) ∧ Below w.heap.size w w' := by
  have HA := Lib.hid h
  have HLn : m = l.length := by have := h.size.1; simpa using this
  have HL := Lib.hid HLn
  have HI := Lib.hid hl
  have HK := Lib.hid hk
  have HM := Lib.hid hm
  clear h hl hk hm HLn
  go_enter Tryd.func12, Tryd.ntmps12
  go_wp2_with (refine wpList_box_row rfl 23 _ rfl g.enc.toArray (by with_unfolding_all exact rfl) ?_)
  intro w1 b1 x1 z1
  obtain ⟨gG, hgG⟩ : ∃ g, g = w.heap.size := ⟨_, rfl⟩
  have M_G := Lib.hid (show w.heap.size ≤ gG from by rw [hgG]; exact Nat.le_refl _)
  have B1 := Lib.hid b1
  rw [← hgG] at x1 ⊢
  have G1 : Hid (Gate.At w1 gG g) := Lib.hid x1
  clear b1 x1 z1 hgG 
  obtain ⟨bO, hbO⟩ : ∃ q, q = w1.heap.size := ⟨_, rfl⟩
  have A_G_O := Lib.hid (show gG < bO from by rw [hbO]; exact G1.out.lt)
  have A_O := Lib.hid (show w.heap.size ≤ bO from by rw [hbO]; exact B1.out.size)
  have ZO1r : Hid (bO ≤ w1.heap.size) := Lib.hid (by rw [hbO]; exact Nat.le_refl _)
  clear hbO
  have O1r : Hid (OwnRows w1 bO 31 8 (.slice none 0 0) []) := Lib.hid (OwnRows.nil _ _ _ _)
  go_wp2_with (with_reducible refine wpList_load_whole Gate.isRec rfl _ rfl gG (by with_unfolding_all exact rfl) _ _ (Gate.len _) G1.out ?_)
  go_loopw [7, 8] (fun o i wr => ∃ (k : Nat) (v : Value), k ≤ m ∧ i = .int .i64 (k : Int) ∧ v = o ∧ OwnRows wr bO 31 8 v ((thoseP g now (l.take k)).map Peer.enc) ∧ Gate.At wr gG g ∧ bO ≤ wr.heap.size ∧ Below w.heap.size w wr) (fun _ i _ => m - (intOf i).toNat)
  case atStart => exact ⟨0, _, Nat.zero_le _, rfl, rfl, O1r.out, G1.out, ZO1r.out, B1.out⟩
  case round =>
    obtain ⟨k, v, hk, rfl, hv, ho, hG, hz, hb⟩ := hrel
    subst hv
    have O0 := Lib.hid ho
    have G0 := Lib.hid hG
    have Z0 := Lib.hid hz
    have B0 := Lib.hid hb
    clear ho hG hz hb O1r G1 B1 ZO1r
    by_cases hlt : k < m
    · have dk : decide ((k : Int) < (m : Int)) = true := by simp; omega
      obtain ⟨x, hx⟩ : ∃ x, l[k]? = some x := ⟨_, List.getElem?_eq_getElem (by rw [← HL.out]; exact hlt)⟩
      obtain ⟨hxn, hxi⟩ := HI.out x (List.mem_of_getElem? hx)
      obtain ⟨b, off, rfl, hbl, hc⟩ := HA.out.row (fun c hc => by obtain ⟨y, _, rfl⟩ := List.mem_map.1 hc; exact y.len) (by decide) (map_at hx)
      have HC := Lib.hid (fun j u (hj : x.enc[j]? = some u) => (B0.out.cell (p := ⟨b, off + k * 6 + j, none⟩) hbl).trans (hc j u hj))
      have HT : Hid (thoseP g now (l.take (k + 1)) = thoseP g now (l.take k) ++ if (takeP g x now).2 = 0 then [(takeP g x now).1] else []) := Lib.hid (by rw [take_snoc hx, thoseP_append]; congr 1; exact those_one g now x)
      have HN : Hid ((thoseP g now (l.take k)).length ≤ 1000000) := Lib.hid (by have h1 := thoseP_length g now (l.take k); have h2 := HM.out; rw [List.length_take] at h1; omega)
      have CT := Lib.hid (fun w => refTake_any g x now HK.out hxn hxi w)
      have jk : (k : Int) < (m : Int) := by omega
      clear hc hx hxn hxi
      have r4 : IntKind.i64.wrap ((k : Int) + 1) = ((k + 1 : Nat) : Int) := by have := HM.out; rw [IntWalk.i64_in _ (by omega)]; omega
      generalize takeP g x now = pq at *
      obtain ⟨p, q⟩ := pq
      simp only at CT HT
      go_wp2_with (with_reducible refine wpList_load_whole Gate.isRec rfl _ rfl gG (by with_unfolding_all exact rfl) _ _ (Gate.len _) G0.out ?_)
      refine regS_begin (From wr) (by kernel_rfl) (Below.refl _ _).drew ?_
      have b2 : Below wr.heap.size wr wr.drew := (Below.refl _ _).drew
      generalize wr.drew = w2 at b2 ⊢
      have G2 : Hid (Gate.At w2 gG g) := Lib.hid (Whole.below G0.out b2 G0.out.lt)
      have O2 : Hid (OwnRows w2 bO 31 8 v ((thoseP g now (l.take k)).map Peer.enc)) := Lib.hid (O0.out.below b2 rfl)
      have ZO2 : Hid (bO ≤ w2.heap.size) := Lib.hid (Nat.le_trans Z0.out b2.size)
      have B2 := Lib.hid (B0.out.trans (b2.mono B0.out.size))
      have HS2 : Hid (From wr w2) := Lib.hid b2
      clear b2
      refine regS_take (i := 0) (v := Gate.val (g)) rfl (by kernel_rfl) (by kernel_rfl) (by kernel_rfl) (fun _ _ _ h => h) (by rfl) HS2.out ?hy0 ?_
      case hy0 => intro w' hw'; exact exec_load_whole Gate.isRec _ rfl gG rfl _ _ (Gate.len _) w' (Whole.below G0.out hw' G0.out.lt)
      simp only [Act.put, List.setIfInBounds_toArray, List.set_cons_zero, List.set_cons_succ]
      refine regS_take (i := 1) (v := ?_) rfl (by kernel_rfl) (by kernel_rfl) (by kernel_rfl) (fun _ _ _ h => h) (by rfl) HS2.out ?hy1 ?_
      case hy1 => intro w' hw'; go_simp; (try with_reducible rfl)
      simp only [Act.put, List.setIfInBounds_toArray, List.set_cons_zero, List.set_cons_succ]
      refine regS_take (i := 2) (v := ?_) rfl (by kernel_rfl) (by kernel_rfl) (by kernel_rfl) (fun _ _ _ h => h) (by rfl) HS2.out ?hy2 ?_
      case hy2 => intro w' hw'; go_simp; (try with_reducible rfl)
      simp only [Act.put, List.setIfInBounds_toArray, List.set_cons_zero, List.set_cons_succ]
      refine regS_take (i := 3) (v := ?_) rfl (by kernel_rfl) (by kernel_rfl) (by kernel_rfl) (fun _ _ _ h => h) (by rfl) HS2.out ?hy3 ?_
      case hy3 => intro w' hw'; go_simp; (try with_reducible rfl)
      simp only [Act.put, List.setIfInBounds_toArray, List.set_cons_zero, List.set_cons_succ]
      refine regS_take (i := 4) (v := Ent.val x) rfl (by kernel_rfl) (by kernel_rfl) (by kernel_rfl) (fun _ _ _ h => h) (by rfl) HS2.out ?hy4 ?_
      case hy4 => intro w' hw'; exact exec_load_rec Ent.isRec _ rfl b (off + k * 6) rfl x.enc (Ent.len _) w' (fun j u hj => (hw'.cell (p := ⟨b, off + k * 6 + j, none⟩) (Nat.lt_of_lt_of_le hbl B0.out.size)).trans (HC.out j u hj))
      simp only [Act.put, List.setIfInBounds_toArray, List.set_cons_zero, List.set_cons_succ]
      refine regS_take (i := 5) (v := ?_) rfl (by kernel_rfl) (by kernel_rfl) (by kernel_rfl) (fun _ _ _ h => h) (by rfl) HS2.out ?hy5 ?_
      case hy5 => intro w' hw'; go_simp; (try with_reducible rfl)
      simp only [Act.put, List.setIfInBounds_toArray, List.set_cons_zero, List.set_cons_succ]
      refine regS_two (i := 6) (j := 10) rfl rfl (by kernel_rfl) (fun K' hK => ?_) (fun K' hK => ?_)
      · go_simp
        refine (CT.out w2).mono ?_
        rintro e3 w3 ⟨rfl, b3⟩
        have G3 : Hid (Gate.At w3 gG g) := Lib.hid (Whole.below G2.out b3 G2.out.lt)
        have O3 : Hid (OwnRows w3 bO 31 8 v ((thoseP g now (l.take k)).map Peer.enc)) := Lib.hid (O2.out.below b3 rfl)
        have ZO3 : Hid (bO ≤ w3.heap.size) := Lib.hid (Nat.le_trans ZO2.out b3.size)
        have B3 := Lib.hid (B2.out.trans (b3.mono B2.out.size))
        have HS3 : Hid (From wr w3) := Lib.hid (HS2.out.trans (b3.mono HS2.out.size))
        clear b3
        refine hK.out _ _ HS3.out ?_
        clear hK K' G2 O2 ZO2 B2 HS2
        refine regS_take (i := 7) (v := ?_) rfl (by kernel_rfl) (by kernel_rfl) (by kernel_rfl) (fun _ _ _ h => h) (by rfl) HS3.out ?hy7 ?_
        case hy7 => intro w' hw'; go_simp; (try with_reducible rfl)
        simp only [Act.put, List.setIfInBounds_toArray, List.set_cons_zero, List.set_cons_succ]
        refine regS_take (i := 8) (v := ?_) rfl (by kernel_rfl) (by kernel_rfl) (by kernel_rfl) (fun _ _ _ h => h) (by rfl) HS3.out ?hy8 ?_
        case hy8 => intro w' hw'; go_simp; (try with_reducible rfl)
        simp only [Act.put, List.setIfInBounds_toArray, List.set_cons_zero, List.set_cons_succ]
        refine regS_take (i := 9) (v := ?_) rfl (by kernel_rfl) (by kernel_rfl) (by kernel_rfl) (fun _ _ _ h => h) (by rfl) HS3.out ?hy9 ?_
        case hy9 => intro w' hw'; go_simp; (try with_reducible rfl)
        simp only [Act.put, List.setIfInBounds_toArray, List.set_cons_zero, List.set_cons_succ]
        refine regS_do (i := 10) rfl (by kernel_rfl) (fun K' hK => ?_)
        refine (if_pos (by kernel_rfl)).mpr ?_
        refine wp_alloc_row 31 rfl Peer.zero.enc.toArray Peer.zero_is ?_
        intro w4 b4 x4 z4
        obtain ⟨gP, hgP⟩ : ∃ g, g = w3.heap.size := ⟨_, rfl⟩
        have N_G_P := Lib.hid (show gG < gP from by rw [hgP]; exact G3.out.lt)
        have M_P := Lib.hid (show w.heap.size ≤ gP from by rw [hgP]; exact B3.out.size)
        have L_P := Lib.hid (show wr.heap.size ≤ gP from by rw [hgP]; exact HS3.out.size)
        have G4 : Hid (Gate.At w4 gG g) := Lib.hid (Whole.below G3.out b4 G3.out.lt)
        have O4 : Hid (OwnRows w4 bO 31 8 v ((thoseP g now (l.take k)).map Peer.enc)) := Lib.hid (O3.out.below b4 rfl)
        have ZO4 : Hid (bO ≤ w4.heap.size) := Lib.hid (Nat.le_trans ZO3.out b4.size)
        have B4 := Lib.hid (B3.out.trans (b4.mono B3.out.size))
        have HS4 : Hid (From wr w4) := Lib.hid (HS3.out.trans (b4.mono HS3.out.size))
        clear b4
        rw [← hgP] at x4 ⊢
        have P4 : Hid (Peer.At w4 gP Peer.zero) := Lib.hid x4
        clear x4 z4 hgP
        refine hK.out _ _ HS4.out ?_
        clear hK K' G3 O3 ZO3 B3 HS3
        refine regS_do (i := 11) rfl (by kernel_rfl) (fun K' hK => ?_)
        refine (if_pos (by kernel_rfl)).mpr ?_
        refine wp_store_whole 31 _ _ rfl gP p.enc.toArray (by with_unfolding_all exact rfl) (by with_unfolding_all exact rfl) _ _ P4.out (Peer.size _) rfl (Peer.one _) ?_
        intro w5 q5 x5 z5
        have P5 : Hid (Peer.At w5 gP p) := Lib.hid x5
        have G5 : Hid (Gate.At w5 gG g) := Lib.hid (grown_far G4.out q5 (by have := N_G_P.out; omega))
        have O5 : Hid (OwnRows w5 bO 31 8 v ((thoseP g now (l.take k)).map Peer.enc)) := Lib.hid (O4.out.far q5 (fun e => by have := (O4.out.lt _ e); have := O0.out.lt; have := L_P.out; have h := O0.out.lt _ e; omega))
        have ZO5 : Hid (bO ≤ w5.heap.size) := Lib.hid (Nat.le_trans ZO4.out q5.size)
        have B5 := Lib.hid (B4.out.grown q5 B4.out.size (fun k hk => by injection hk with hk; have := M_P.out; omega))
        have HS5 := Lib.hid (HS4.out.grown q5 HS4.out.size (fun k hk => by injection hk with hk; have := L_P.out; omega))
        clear q5 x5 z5
        refine hK.out _ _ HS5.out ?_
        clear hK K' P4 G4 O4 ZO4 B4 HS4
        refine regS_take (i := 12) (v := ?_) rfl (by kernel_rfl) (by kernel_rfl) (by kernel_rfl) (fun _ _ _ h => h) (by rfl) HS5.out ?hy12 ?_
        case hy12 => intro w' hw'; go_simp; (try with_reducible rfl)
        simp only [Act.put, List.setIfInBounds_toArray, List.set_cons_zero, List.set_cons_succ]
        refine regS_end (by kernel_rfl) ?_
        clear HS5 G0 O0 Z0
        by_cases h0 : q = 0
        · subst h0
          go_wp2_with (first | (with_reducible refine wpList_load_whole Gate.isRec rfl _ rfl gG (by with_unfolding_all exact rfl) _ _ (Gate.len _) G5.out ?_) | (with_reducible refine wpList_load_whole Peer.isRec rfl _ rfl gP (by with_unfolding_all exact rfl) _ _ (Peer.len _) P5.out ?_) | (with_reducible refine wpList_load_rec Ent.isRec rfl _ rfl gP 0 (by with_unfolding_all exact rfl) _ (Ent.len _) (Peer.At.part_entry P5.out) ?_) | (with_reducible refine Peer.wpList_one rfl _ rfl (p) (by with_unfolding_all exact rfl) ?_))
          intro w6 b6 x6 z6
          obtain ⟨gS, hgS⟩ : ∃ g, g = w5.heap.size := ⟨_, rfl⟩
          have G6 : Hid (Gate.At w6 gG g) := Lib.hid (Whole.below G5.out b6 G5.out.lt)
          have O6 : Hid (OwnRows w6 bO 31 8 v ((thoseP g now (l.take k)).map Peer.enc)) := Lib.hid (O5.out.below b6 rfl)
          have ZO6 : Hid (bO ≤ w6.heap.size) := Lib.hid (Nat.le_trans ZO5.out b6.size)
          have P6 : Hid (Peer.At w6 gP p) := Lib.hid (Whole.below P5.out b6 P5.out.lt)
          have B6 := Lib.hid (B5.out.trans (b6.mono B5.out.size))
          rw [← hgS] at x6 ⊢
          have S6 : Hid (RowsAt w6 (.slice (some ⟨gS, 0, none⟩) 1 1) 8 [Peer.enc (p)]) := Lib.hid x6
          clear b6 x6 z6 hgS G5 O5 ZO5 P5 B5
          go_wp2_with (first | (with_reducible refine wpList_load_whole Gate.isRec rfl _ rfl gG (by with_unfolding_all exact rfl) _ _ (Gate.len _) G6.out ?_) | (with_reducible refine wpList_load_whole Peer.isRec rfl _ rfl gP (by with_unfolding_all exact rfl) _ _ (Peer.len _) P6.out ?_) | (with_reducible refine wpList_load_rec Ent.isRec rfl _ rfl gP 0 (by with_unfolding_all exact rfl) _ (Ent.len _) (Peer.At.part_entry P6.out) ?_) | (with_reducible refine wpList_append_rows Peer.isElem rfl _ _ rfl v (by with_unfolding_all exact rfl) O6.out _ [Peer.enc (p)] (by with_unfolding_all exact rfl) S6.out (fun c hc => by rw [List.mem_singleton] at hc; rw [hc]; exact Peer.fits _) (by have := HN.out; simp only [List.length_map, List.length_singleton]; omega) ZO6.out ?_))
          intro v7 w7 o7 q7
          have G7 : Hid (Gate.At w7 gG g) := Lib.hid (Whole.grown_own G6.out q7 (fun e => by have := (O6.out.lt _ e).1; have := A_G_O.out; omega))
          have ZO7 : Hid (bO ≤ w7.heap.size) := Lib.hid (Nat.le_trans ZO6.out q7.size)
          have B7 := Lib.hid (B6.out.grown q7 B6.out.size (fun k hk => by have := (O6.out.lt _ hk).1; have := A_O.out; omega))
          have O7 : Hid (OwnRows w7 bO 31 8 v7 (((thoseP g now (l.take k)).map Peer.enc) ++ [Peer.enc (p)])) := Lib.hid o7
          clear o7 q7 G6 ZO6 P6 S6 B6 O6
          go_wp2_with fail
          exact ⟨⟨k + 1, _, by omega, by go_num, rfl, by rw [HT.out, if_pos trivial, List.map_append]; exact O7.out, G7.out, ZO7.out, B7.out⟩, by simp [intOf]; omega⟩
        · have e1 : (q == 0) = false := by simpa using h0
          go_wp2_with fail
          exact ⟨⟨k + 1, _, by omega, by go_num, rfl, by rw [HT.out, if_neg h0, List.append_nil]; exact O5.out, G5.out, ZO5.out, B5.out⟩, by simp [intOf]; omega⟩
      · refine (if_pos (by kernel_rfl)).mpr ?_
        refine wp_alloc_row 31 rfl Peer.zero.enc.toArray Peer.zero_is ?_
        intro w3 b3 x3 z3
        obtain ⟨gP, hgP⟩ : ∃ g, g = w2.heap.size := ⟨_, rfl⟩
        have N_G_P := Lib.hid (show gG < gP from by rw [hgP]; exact G2.out.lt)
        have M_P := Lib.hid (show w.heap.size ≤ gP from by rw [hgP]; exact B2.out.size)
        have L_P := Lib.hid (show wr.heap.size ≤ gP from by rw [hgP]; exact HS2.out.size)
        have G3 : Hid (Gate.At w3 gG g) := Lib.hid (Whole.below G2.out b3 G2.out.lt)
        have O3 : Hid (OwnRows w3 bO 31 8 v ((thoseP g now (l.take k)).map Peer.enc)) := Lib.hid (O2.out.below b3 rfl)
        have ZO3 : Hid (bO ≤ w3.heap.size) := Lib.hid (Nat.le_trans ZO2.out b3.size)
        have B3 := Lib.hid (B2.out.trans (b3.mono B2.out.size))
        have HS3 : Hid (From wr w3) := Lib.hid (HS2.out.trans (b3.mono HS2.out.size))
        clear b3
        rw [← hgP] at x3 ⊢
        have P3 : Hid (Peer.At w3 gP Peer.zero) := Lib.hid x3
        clear x3 z3 hgP
        refine hK.out _ _ HS3.out ?_
        clear hK K' G2 O2 ZO2 B2 HS2
        refine regS_do (i := 6) rfl (by kernel_rfl) (fun K' hK => ?_)
        go_simp
        refine (CT.out w3).mono ?_
        rintro e4 w4 ⟨rfl, b4⟩
        have G4 : Hid (Gate.At w4 gG g) := Lib.hid (Whole.below G3.out b4 G3.out.lt)
        have O4 : Hid (OwnRows w4 bO 31 8 v ((thoseP g now (l.take k)).map Peer.enc)) := Lib.hid (O3.out.below b4 rfl)
        have ZO4 : Hid (bO ≤ w4.heap.size) := Lib.hid (Nat.le_trans ZO3.out b4.size)
        have P4 : Hid (Peer.At w4 gP Peer.zero) := Lib.hid (Whole.below P3.out b4 P3.out.lt)
        have B4 := Lib.hid (B3.out.trans (b4.mono B3.out.size))
        have HS4 : Hid (From wr w4) := Lib.hid (HS3.out.trans (b4.mono HS3.out.size))
        clear b4
        refine hK.out _ _ HS4.out ?_
        clear hK K' G3 O3 ZO3 P3 B3 HS3
        refine regS_take (i := 7) (v := ?_) rfl (by kernel_rfl) (by kernel_rfl) (by kernel_rfl) (fun _ _ _ h => h) (by rfl) HS4.out ?hy7 ?_
        case hy7 => intro w' hw'; go_simp; (try with_reducible rfl)
        simp only [Act.put, List.setIfInBounds_toArray, List.set_cons_zero, List.set_cons_succ]
        refine regS_take (i := 8) (v := ?_) rfl (by kernel_rfl) (by kernel_rfl) (by kernel_rfl) (fun _ _ _ h => h) (by rfl) HS4.out ?hy8 ?_
        case hy8 => intro w' hw'; go_simp; (try with_reducible rfl)
        simp only [Act.put, List.setIfInBounds_toArray, List.set_cons_zero, List.set_cons_succ]
        refine regS_take (i := 9) (v := ?_) rfl (by kernel_rfl) (by kernel_rfl) (by kernel_rfl) (fun _ _ _ h => h) (by rfl) HS4.out ?hy9 ?_
        case hy9 => intro w' hw'; go_simp; (try with_reducible rfl)
        simp only [Act.put, List.setIfInBounds_toArray, List.set_cons_zero, List.set_cons_succ]
        refine regS_do (i := 11) rfl (by kernel_rfl) (fun K' hK => ?_)
        refine (if_pos (by kernel_rfl)).mpr ?_
        refine wp_store_whole 31 _ _ rfl gP p.enc.toArray (by with_unfolding_all exact rfl) (by with_unfolding_all exact rfl) _ _ P4.out (Peer.size _) rfl (Peer.one _) ?_
        intro w5 q5 x5 z5
        have P5 : Hid (Peer.At w5 gP p) := Lib.hid x5
        have G5 : Hid (Gate.At w5 gG g) := Lib.hid (grown_far G4.out q5 (by have := N_G_P.out; omega))
        have O5 : Hid (OwnRows w5 bO 31 8 v ((thoseP g now (l.take k)).map Peer.enc)) := Lib.hid (O4.out.far q5 (fun e => by have := (O4.out.lt _ e); have := O0.out.lt; have := L_P.out; have h := O0.out.lt _ e; omega))
        have ZO5 : Hid (bO ≤ w5.heap.size) := Lib.hid (Nat.le_trans ZO4.out q5.size)
        have B5 := Lib.hid (B4.out.grown q5 B4.out.size (fun k hk => by injection hk with hk; have := M_P.out; omega))
        have HS5 := Lib.hid (HS4.out.grown q5 HS4.out.size (fun k hk => by injection hk with hk; have := L_P.out; omega))
        clear q5 x5 z5
        refine hK.out _ _ HS5.out ?_
        clear hK K' P4 G4 O4 ZO4 B4 HS4
        refine regS_take (i := 12) (v := ?_) rfl (by kernel_rfl) (by kernel_rfl) (by kernel_rfl) (fun _ _ _ h => h) (by rfl) HS5.out ?hy12 ?_
        case hy12 => intro w' hw'; go_simp; (try with_reducible rfl)
        simp only [Act.put, List.setIfInBounds_toArray, List.set_cons_zero, List.set_cons_succ]
        refine regS_end (by kernel_rfl) ?_
        clear HS5 G0 O0 Z0
        by_cases h0 : q = 0
        · subst h0
          go_wp2_with (first | (with_reducible refine wpList_load_whole Gate.isRec rfl _ rfl gG (by with_unfolding_all exact rfl) _ _ (Gate.len _) G5.out ?_) | (with_reducible refine wpList_load_whole Peer.isRec rfl _ rfl gP (by with_unfolding_all exact rfl) _ _ (Peer.len _) P5.out ?_) | (with_reducible refine wpList_load_rec Ent.isRec rfl _ rfl gP 0 (by with_unfolding_all exact rfl) _ (Ent.len _) (Peer.At.part_entry P5.out) ?_) | (with_reducible refine Peer.wpList_one rfl _ rfl (p) (by with_unfolding_all exact rfl) ?_))
          intro w6 b6 x6 z6
          obtain ⟨gS, hgS⟩ : ∃ g, g = w5.heap.size := ⟨_, rfl⟩
          have G6 : Hid (Gate.At w6 gG g) := Lib.hid (Whole.below G5.out b6 G5.out.lt)
          have O6 : Hid (OwnRows w6 bO 31 8 v ((thoseP g now (l.take k)).map Peer.enc)) := Lib.hid (O5.out.below b6 rfl)
          have ZO6 : Hid (bO ≤ w6.heap.size) := Lib.hid (Nat.le_trans ZO5.out b6.size)
          have P6 : Hid (Peer.At w6 gP p) := Lib.hid (Whole.below P5.out b6 P5.out.lt)
          have B6 := Lib.hid (B5.out.trans (b6.mono B5.out.size))
          rw [← hgS] at x6 ⊢
          have S6 : Hid (RowsAt w6 (.slice (some ⟨gS, 0, none⟩) 1 1) 8 [Peer.enc (p)]) := Lib.hid x6
          clear b6 x6 z6 hgS G5 O5 ZO5 P5 B5
          go_wp2_with (first | (with_reducible refine wpList_load_whole Gate.isRec rfl _ rfl gG (by with_unfolding_all exact rfl) _ _ (Gate.len _) G6.out ?_) | (with_reducible refine wpList_load_whole Peer.isRec rfl _ rfl gP (by with_unfolding_all exact rfl) _ _ (Peer.len _) P6.out ?_) | (with_reducible refine wpList_load_rec Ent.isRec rfl _ rfl gP 0 (by with_unfolding_all exact rfl) _ (Ent.len _) (Peer.At.part_entry P6.out) ?_) | (with_reducible refine wpList_append_rows Peer.isElem rfl _ _ rfl v (by with_unfolding_all exact rfl) O6.out _ [Peer.enc (p)] (by with_unfolding_all exact rfl) S6.out (fun c hc => by rw [List.mem_singleton] at hc; rw [hc]; exact Peer.fits _) (by have := HN.out; simp only [List.length_map, List.length_singleton]; omega) ZO6.out ?_))
          intro v7 w7 o7 q7
          have G7 : Hid (Gate.At w7 gG g) := Lib.hid (Whole.grown_own G6.out q7 (fun e => by have := (O6.out.lt _ e).1; have := A_G_O.out; omega))
          have ZO7 : Hid (bO ≤ w7.heap.size) := Lib.hid (Nat.le_trans ZO6.out q7.size)
          have B7 := Lib.hid (B6.out.grown q7 B6.out.size (fun k hk => by have := (O6.out.lt _ hk).1; have := A_O.out; omega))
          have O7 : Hid (OwnRows w7 bO 31 8 v7 (((thoseP g now (l.take k)).map Peer.enc) ++ [Peer.enc (p)])) := Lib.hid o7
          clear o7 q7 G6 ZO6 P6 S6 B6 O6
          go_wp2_with fail
          exact ⟨⟨k + 1, _, by omega, by go_num, rfl, by rw [HT.out, if_pos trivial, List.map_append]; exact O7.out, G7.out, ZO7.out, B7.out⟩, by simp [intOf]; omega⟩
        · have e1 : (q == 0) = false := by simpa using h0
          go_wp2_with fail
          exact ⟨⟨k + 1, _, by omega, by go_num, rfl, by rw [HT.out, if_neg h0, List.append_nil]; exact O5.out, G5.out, ZO5.out, B5.out⟩, by simp [intOf]; omega⟩
    · have dk : decide ((k : Int) < (m : Int)) = false := by simp; omega
      have HT : Hid (l.take k = l) := Lib.hid (List.take_of_length_le (by rw [← HL.out]; omega))
      go_wp2
      go_ret
      exact ⟨_, rfl, by have q := O0.out; rw [HT.out] at q; exact q.less A_O.out, B0.out⟩
end Go.Proofs.YtehalcopkjfdkaaDoor

namespace Go.Proofs.YtehalcopkjfdkaaDoor
set_option maxRecDepth 100000
open Go.RowKit

structure ChainIs : Prop where
  step : ∀ (k : List UInt8) (w : World) (_ : k.length ≤ 4000) (_ : Tab w),
    Calls Tryd.prog 42 #[.string ⟨k.toArray⟩] w fun e w' => e = .returned (.string ⟨(stepL k).toArray⟩) ∧ Below w.heap.size w w'
  back : ∀ (k : List UInt8) (z : Int) (w : World) (_ : k.length ≤ 4000) (_ : Tab w),
    Calls Tryd.prog 31 #[.string ⟨k.toArray⟩, .int .i64 z] w fun e w' => e = .returned (.tuple #[.string ⟨(backA k z).toArray⟩, .int .i64 (backC z)]) ∧ Below w.heap.size w w'
  key : ∀ (seed : List UInt8) (len idx : Int) (w : World) (_ : seed.length ≤ 4000) (_ : Tab w),
    Calls Tryd.prog 19 #[.string ⟨seed.toArray⟩, .int .i64 len, .int .i64 idx] w fun e w' => e = .returned (.tuple #[.string ⟨(keyA seed len idx).toArray⟩, .int .i64 (chKeyC len idx)]) ∧ Below w.heap.size w w'
  leads : ∀ (yi oi : Int) (yk ok : List UInt8) (w : World) (_ : yi ≤ 9223372036854775807) (_ : -9223372036854775808 ≤ oi) (_ : oi ≤ 9223372036854775807) (_ : ok.length ≤ 4000) (_ : Tab w),
    Calls Tryd.prog 25 #[gateV yi yk, gateV oi ok] w fun e w' => e = .returned (.bool (leadsB yi yk oi ok)) ∧ Below w.heap.size w w'

def seedN : List UInt8 := [115, 101, 101, 100]
theorem ex_key0 : ∃ a b : List UInt8, keyA seedN 3 0 = a ∧ keyA seedN 3 2 = b ∧ a.length = 32 ∧ b.length = 32 ∧ stepL (stepL b) = a ∧ leadsB 2 b 0 a = true := by
  refine ⟨_, _, rfl, rfl, key_len _ _ _ (by decide), key_len _ _ _ (by decide), ?_, keys_lead seedN 3 2 0 (by decide) (by decide) (by decide)⟩
  rw [key_step seedN 3 2 (by decide) (by decide)]
  exact key_step seedN 3 1 (by decide) (by decide)

end Go.Proofs.YtehalcopkjfdkaaDoor
