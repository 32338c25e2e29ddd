/- Package record, as landed: Take, and by which key and nonce a record is sealed. Package record, as landed: Take; by which key and nonce a record is sealed. Bytes that do not lie in a block. -/
import Derived.Test.YtmnhpkdldeifgaaGreatDoorGw
import Derived.Test.YtmnhpkdldeifgaaGreatDoorGbb
import Derived.Test.YtmnhpkdldeifgaaGreatDoorGbm
import Derived.Test.YtmnhpkdldeifgaaGreatDoorGd
namespace Go.Proofs.YtmnhpkdldeifgaaGreatDoor
set_option maxRecDepth 100000
open Go.RowKit

set_option maxRecDepth 100000 in
set_option maxHeartbeats 1000000 in
theorem rcRead_any (ad : Addr) (cap : Nat) (b : List UInt8) (w : World) (hc : 32 ≤ cap) (h : BytesAt w (.slice (some ⟨ad.block, ad.off + 1, none⟩) 15 (cap - 1)) ((b.take 16).drop 1)) :
    Calls Tryz.prog 41 #[.slice (some ad) 16 cap] w fun e w' => e = .returned (headP b).val ∧ Below w.heap.size w w' := by
  have H := Lib.hid h
  have j1 : (1 : Int) ≤ 16 := by decide
  have j2 : (16 : Int) ≤ (cap : Int) := by omega
  have j3 : cap ≠ 1 := by omega
  have j4 : (1 : Int) ≤ (cap : Int) := by omega
  obtain ⟨n0, hn0⟩ : ∃ n, n = numO (hd0 b) 8 := ⟨_, rfl⟩
  obtain ⟨n1, hn1⟩ : ∃ n, n = numO (hd1 b) 1 := ⟨_, rfl⟩
  obtain ⟨n2, hn2⟩ : ∃ n, n = numO (hd2 b) 2 := ⟨_, rfl⟩
  obtain ⟨n3, hn3⟩ : ∃ n, n = numO (hd3 b) 4 := ⟨_, rfl⟩
  have r1 : IntKind.i64.wrap (n1 : Int) = (n1 : Int) := by have := numO_lt (hd1 b) 1; rw [← hn1] at this; exact IntWalk.i64_in _ (by omega)
  have r2 : IntKind.i64.wrap (n2 : Int) = (n2 : Int) := by have := numO_lt (hd2 b) 2; rw [← hn2] at this; exact IntWalk.i64_in _ (by omega)
  have r3 : IntKind.i64.wrap (n3 : Int) = (n3 : Int) := by have := numO_lt (hd3 b) 4; rw [← hn3] at this; exact IntWalk.i64_in _ (by omega)
  have HF : Hid (headP b = ⟨n0, n1, n2, n3⟩) := Lib.hid (by rw [headP, hn0, hn1, hn2, hn3])
  have C0 := fun w g (h : RdS w g (hd0 b)) => Lib.hid (pkNum g 8 (hd0 b) w h (by decide) (by decide))
  have C1 := fun w g (h : RdS w g (hd1 b)) => Lib.hid (pkNum g 1 (hd1 b) w h (by decide) (by decide))
  have C2 := fun w g (h : RdS w g (hd2 b)) => Lib.hid (pkNum g 2 (hd2 b) w h (by decide) (by decide))
  have C3 := fun w g (h : RdS w g (hd3 b)) => Lib.hid (pkNum g 4 (hd3 b) w h (by decide) (by decide))
  have CO := fun w h => Lib.hid (show Calls Tryz.prog 67 #[.slice (some ⟨ad.block, ad.off + 1, none⟩) 15 (cap - 1)] w fun e w' => e = .returned (.pointer (some ⟨w.heap.size, 0, none⟩)) ∧ RdS w' w.heap.size (hd0 b) ∧ Below w.heap.size w w' from pkOpen (some ⟨ad.block, ad.off + 1, none⟩) 15 (cap - 1) ((b.take 16).drop 1) w h)
  simp only [← hn0] at C0
  simp only [← hn1] at C1
  simp only [← hn2] at C2
  simp only [← hn3] at C3
  generalize headP b = HP at *
  clear h hc hn0 hn1 hn2 hn3
  go_enter Tryz.func41, Tryz.ntmps41
  go_wp2_with (refine wpList_alloc_row rfl 24 rfl Head.zero.enc.toArray Head.zero_is ?_)
  intro w1 b1 x1 z1
  obtain ⟨gO, hgO⟩ : ∃ g, g = w.heap.size := ⟨_, rfl⟩
  have M_O := Lib.hid (show w.heap.size ≤ gO from by rw [hgO]; exact Nat.le_refl _)
  have B1 := Lib.hid b1
  rw [← hgO] at x1 ⊢
  have O1 : Hid (Head.At w1 gO Head.zero) := Lib.hid x1
  clear b1 x1 z1 hgO 
  go_wp2_with fail
  refine (CO w1 (H.out.below B1.out)).out.mono ?_
  rintro e v1 ⟨rfl, hr, hb⟩
  obtain ⟨g, hg⟩ : ∃ g, g = w1.heap.size := ⟨_, rfl⟩
  rw [← hg] at hr ⊢
  have G0 := Lib.hid (show gO < g by rw [hg]; exact O1.out.lt)
  have G1 := Lib.hid (show w.heap.size ≤ g by rw [hg]; exact B1.out.size)
  have P1 := Lib.hid (show Head.At v1 gO Head.zero from Whole.below O1.out hb O1.out.lt)
  have D1 := Lib.hid (B1.out.trans (hb.mono B1.out.size))
  have R1 := Lib.hid hr
  clear hr hb hg CO H O1 B1
  go_wp2_with fail
  refine (C0 v1 g R1.out).out.mono ?_
  rintro e v2 ⟨rfl, hr, hg⟩
  have R2 := Lib.hid (show RdS v2 g (hd1 b) from hr)
  have P2 := Lib.hid (show Head.At v2 gO Head.zero from Whole.grown P1.out hg (fun k => by injection k with k; have := G0.out; omega))
  have D2 := Lib.hid (D1.out.grown hg D1.out.size (fun k hk => by injection hk with hk; have := G1.out; omega))
  clear hr hg P1 D1 R1 C0
  go_wp2_with fail
  refine (C1 v2 g R2.out).out.mono ?_
  rintro e v3 ⟨rfl, hr, hg⟩
  have R3 := Lib.hid (show RdS v3 g (hd2 b) from hr)
  have P3 := Lib.hid (show Head.At v3 gO Head.zero from Whole.grown P2.out hg (fun k => by injection k with k; have := G0.out; omega))
  have D3 := Lib.hid (D2.out.grown hg D2.out.size (fun k hk => by injection hk with hk; have := G1.out; omega))
  clear hr hg P2 D2 R2 C1
  go_wp2_with fail
  refine (C2 v3 g R3.out).out.mono ?_
  rintro e v4 ⟨rfl, hr, hg⟩
  have R4 := Lib.hid (show RdS v4 g (hd3 b) from hr)
  have P4 := Lib.hid (show Head.At v4 gO Head.zero from Whole.grown P3.out hg (fun k => by injection k with k; have := G0.out; omega))
  have D4 := Lib.hid (D3.out.grown hg D3.out.size (fun k hk => by injection hk with hk; have := G1.out; omega))
  clear hr hg P3 D3 R3 C2
  go_wp2_with fail
  refine (C3 v4 g R4.out).out.mono ?_
  rintro e v5 ⟨rfl, hr, hg⟩
  have P5 := Lib.hid (show Head.At v5 gO Head.zero from Whole.grown P4.out hg (fun k => by injection k with k; have := G0.out; omega))
  have D5 := Lib.hid (D4.out.grown hg D4.out.size (fun k hk => by injection hk with hk; have := G1.out; omega))
  have BL := Lib.hid (show w.heap.size ≤ gO from M_O.out)
  clear hr hg P4 D4 R4 C3 r1 r2
  go_wp2_with (first | (with_reducible refine wpList_load_whole Head.isRec rfl _ rfl gO (by with_unfolding_all exact rfl) _ _ (Head.len _) P5.out ?_) | (with_reducible refine wpList_store_whole rfl 24 _ _ rfl gO (Head.enc ⟨n0, n1, n2, n3⟩).toArray (by with_unfolding_all exact rfl) (by with_unfolding_all exact rfl) _ _ P5.out (Head.size _) rfl (Head.one _) ?_))
  intro w2 q2 x2 z2
  have O2 : Hid (Head.At w2 gO ⟨n0, n1, n2, n3⟩) := Lib.hid x2
  have B2 := Lib.hid (D5.out.grown q2 D5.out.size (fun k hk => by injection hk with hk; have := M_O.out; omega))
  clear q2 x2 z2 P5 D5
  go_wp2
  exact bodyPost_ret (results_rec Head.isRec rfl _ _ _ _ _ rfl rfl O2.out) rfl ⟨by rw [HF.out], B2.out⟩
end Go.Proofs.YtmnhpkdldeifgaaGreatDoor

namespace Go.Proofs.YtmnhpkdldeifgaaGreatDoor
set_option maxRecDepth 100000
open Go.RowKit

set_option maxRecDepth 100000 in
set_option maxHeartbeats 2000000 in
theorem rcTake_any (v : Value) (b : List UInt8) (w : World) (h : BytesAt w v b) :
    Calls Tryz.prog 20 #[v] w fun e w' => e = .returned (.tuple #[(takeHd b).val, .int .i64 (takeHdX b)]) ∧ Below w.heap.size w w' := by
  have H := Lib.hid h
  have CK := fun w1 (b1 : Below w.heap.size w w1) => Lib.hid (heKindOf_any v b w1 (h.below b1))
  have CR := fun w => Lib.hid (rcRight_any (headP b) (headP_ok b).id_ok w)
  have HX : Hid (takeHdX b = if kindB b ≠ 3 then 13 else if 2048 < b.length then 3 else if b.length < 32 then 10 else if headR (headP b) = true then 0 else 11) := Lib.hid rfl
  have HY : Hid (takeHd b = if takeHdX b = 0 then headP b else Head.zero) := Lib.hid rfl
  obtain ⟨X, hX⟩ : ∃ X, X = takeHdX b := ⟨_, rfl⟩
  obtain ⟨Y, hY⟩ : ∃ Y, Y = takeHd b := ⟨_, rfl⟩
  rw [← hX] at HX HY ⊢
  rw [← hY] at HY ⊢
  obtain ⟨k, hk⟩ : ∃ k, k = kindB b := ⟨_, rfl⟩
  rw [← hk] at HX
  simp only [← hk] at CK
  obtain ⟨q, hq⟩ : ∃ q, q = headR (headP b) := ⟨_, rfl⟩
  rw [← hq] at HX
  simp only [← hq] at CR
  obtain ⟨A, cap, rfl, -, -⟩ := id h
  obtain ⟨n, hn⟩ : ∃ n, n = b.length := ⟨_, rfl⟩
  have HN := Lib.hid hn
  rw [← hn] at HX H CK ⊢
  have CD := fun w1 (b1 : Below w.heap.size w w1) (hl : 32 ≤ n) => Lib.hid (record_parts (H.out.below b1) (by rw [← HN.out]; exact hl))
  have RD := fun ad cap w1 hc hh => Lib.hid (rcRead_any ad cap b w1 hc hh)
  generalize headP b = HP at *
  clear h hX hY hk hq hn H
  go_enter Tryz.func20, Tryz.ntmps20
  go_wp2_with (refine wpList_alloc_row rfl 24 rfl Head.zero.enc.toArray Head.zero_is ?_)
  intro w1 b1 x1 z1
  obtain ⟨gO, hgO⟩ : ∃ g, g = w.heap.size := ⟨_, rfl⟩
  have M_O := Lib.hid (show w.heap.size ≤ gO from by rw [hgO]; exact Nat.le_refl _)
  have B1 := Lib.hid b1
  rw [← hgO] at x1 ⊢
  have O1 : Hid (Head.At w1 gO Head.zero) := Lib.hid x1
  clear b1 x1 z1 hgO 
  go_wp2_with (with_reducible refine wpList_load_whole Head.isRec rfl _ rfl gO (by with_unfolding_all exact rfl) _ _ (Head.len _) O1.out ?_)
  refine ((CK w1 B1.out).out).mono ?_
  rintro e2 w2 ⟨rfl, b2⟩
  have O2 : Hid (Head.At w2 gO Head.zero) := Lib.hid (Whole.below O1.out b2 O1.out.lt)
  have B2 := Lib.hid (B1.out.trans (b2.mono B1.out.size))
  clear b2 O1 B1
  clear CK
  by_cases h0 : k = 3
  · subst h0
    have HX2 : Hid (X = if 2048 < n then 3 else if n < 32 then 10 else if q = true then 0 else 11) := Lib.hid (by rw [HX.out, if_neg (by decide)])
    clear HX
    by_cases h1 : 2048 < n
    · have d1 : (2048 : Int) < (n : Int) := by omega
      have HF : Hid (X = 3) := Lib.hid (by rw [HX2.out, if_pos h1])
      have HG : Hid (Y = Head.zero) := Lib.hid (by rw [HY.out, HF.out, if_neg (by decide)])
      clear HX2 HY CD RD CR h1
      go_wp2_with (first | (with_reducible refine wpList_load_whole Head.isRec rfl _ rfl gO (by with_unfolding_all exact rfl) _ _ (Head.len _) O2.out ?_) | (with_reducible refine wpList_store_whole rfl 24 _ _ rfl gO Head.zero.enc.toArray (by with_unfolding_all exact rfl) (by with_unfolding_all exact rfl) _ _ O2.out (Head.size _) rfl (Head.one _) ?_))
      intro w3 q3 x3 z3
      have O3 : Hid (Head.At w3 gO Head.zero) := Lib.hid x3
      have B3 := Lib.hid (B2.out.grown q3 B2.out.size (fun k hk => by injection hk with hk; have := M_O.out; omega))
      clear q3 x3 z3 O2 B2
      go_wp2
      exact bodyPost_ret (results_rec_tmp Head.isRec rfl _ _ _ _ _ rfl rfl O3.out) rfl ⟨by rw [HF.out, HG.out]; rfl, B3.out⟩
    · have d1 : ¬ (2048 : Int) < (n : Int) := by omega
      by_cases h2 : n < 32
      · have d2 : (n : Int) < 32 := by omega
        have HF : Hid (X = 10) := Lib.hid (by rw [HX2.out, if_neg h1, if_pos h2])
        have HG : Hid (Y = Head.zero) := Lib.hid (by rw [HY.out, HF.out, if_neg (by decide)])
        clear HX2 HY CD RD CR h1 h2
        go_wp2_with (first | (with_reducible refine wpList_load_whole Head.isRec rfl _ rfl gO (by with_unfolding_all exact rfl) _ _ (Head.len _) O2.out ?_) | (with_reducible refine wpList_store_whole rfl 24 _ _ rfl gO Head.zero.enc.toArray (by with_unfolding_all exact rfl) (by with_unfolding_all exact rfl) _ _ O2.out (Head.size _) rfl (Head.one _) ?_))
        intro w3 q3 x3 z3
        have O3 : Hid (Head.At w3 gO Head.zero) := Lib.hid x3
        have B3 := Lib.hid (B2.out.grown q3 B2.out.size (fun k hk => by injection hk with hk; have := M_O.out; omega))
        clear q3 x3 z3 O2 B2
        go_wp2
        exact bodyPost_ret (results_rec_tmp Head.isRec rfl _ _ _ _ _ rfl rfl O3.out) rfl ⟨by rw [HF.out, HG.out]; rfl, B3.out⟩
      · have d2 : ¬ (n : Int) < 32 := by omega
        obtain ⟨-, hc, ad, rfl, -, -, hp⟩ := (CD w2 B2.out (by omega)).out
        have HX3 : Hid (X = if q = true then 0 else 11) := Lib.hid (by rw [HX2.out, if_neg h1, if_neg h2])
        have j1 : (16 : Int) ≤ (cap : Int) := by have := HN.out; omega
        have j2 : (0 : Int) ≤ 16 := by decide
        have RD := RD ad cap w2 (by have := HN.out; omega) hp
        clear CD HX2 h1 h2 hc hp
        go_wp2_with (with_reducible refine wpList_load_whole Head.isRec rfl _ rfl gO (by with_unfolding_all exact rfl) _ _ (Head.len _) O2.out ?_)
        refine (RD.out).mono ?_
        rintro e3 w3 ⟨rfl, b3⟩
        have O3 : Hid (Head.At w3 gO Head.zero) := Lib.hid (Whole.below O2.out b3 O2.out.lt)
        have B3 := Lib.hid (B2.out.trans (b3.mono B2.out.size))
        clear b3 O2 B2
        clear RD
        go_wp2_with (first | (with_reducible refine wpList_load_whole Head.isRec rfl _ rfl gO (by with_unfolding_all exact rfl) _ _ (Head.len _) O3.out ?_) | (refine wpList_alloc_row rfl 24 rfl Head.zero.enc.toArray Head.zero_is ?_))
        intro w4 b4 x4 z4
        obtain ⟨gM, hgM⟩ : ∃ g, g = w3.heap.size := ⟨_, rfl⟩
        have N_O_M := Lib.hid (show gO < gM from by rw [hgM]; exact O3.out.lt)
        have M_M := Lib.hid (show w.heap.size ≤ gM from by rw [hgM]; exact B3.out.size)
        have O4 : Hid (Head.At w4 gO Head.zero) := Lib.hid (Whole.below O3.out b4 O3.out.lt)
        have B4 := Lib.hid (B3.out.trans (b4.mono B3.out.size))
        rw [← hgM] at x4 ⊢
        have M4 : Hid (Head.At w4 gM Head.zero) := Lib.hid x4
        clear b4 x4 z4 hgM O3 B3
        go_wp2_with (first | (with_reducible refine wpList_load_whole Head.isRec rfl _ rfl gO (by with_unfolding_all exact rfl) _ _ (Head.len _) O4.out ?_) | (with_reducible refine wpList_load_whole Head.isRec rfl _ rfl gM (by with_unfolding_all exact rfl) _ _ (Head.len _) M4.out ?_) | (with_reducible refine wpList_store_whole rfl 24 _ _ rfl gM HP.enc.toArray (by with_unfolding_all exact rfl) (by with_unfolding_all exact rfl) _ _ M4.out (Head.size _) rfl (Head.one _) ?_))
        intro w5 q5 x5 z5
        have M5 : Hid (Head.At w5 gM HP) := Lib.hid x5
        have O5 : Hid (Head.At w5 gO Head.zero) := Lib.hid (grown_far O4.out q5 (by have := N_O_M.out; omega))
        have B5 := Lib.hid (B4.out.grown q5 B4.out.size (fun k hk => by injection hk with hk; have := M_M.out; omega))
        clear q5 x5 z5 M4 O4 B4
        go_wp2_with (first | (with_reducible refine wpList_load_whole Head.isRec rfl _ rfl gO (by with_unfolding_all exact rfl) _ _ (Head.len _) O5.out ?_) | (with_reducible refine wpList_load_whole Head.isRec rfl _ rfl gM (by with_unfolding_all exact rfl) _ _ (Head.len _) M5.out ?_))
        refine ((CR w5).out).mono ?_
        rintro e6 w6 ⟨rfl, b6⟩
        have O6 : Hid (Head.At w6 gO Head.zero) := Lib.hid (Whole.below O5.out b6 O5.out.lt)
        have M6 : Hid (Head.At w6 gM HP) := Lib.hid (Whole.below M5.out b6 M5.out.lt)
        have B6 := Lib.hid (B5.out.trans (b6.mono B5.out.size))
        clear b6 O5 M5 B5
        clear CR
        cases q with
        | false =>
          have HF : Hid (X = 11) := Lib.hid HX3.out
          have HG : Hid (Y = Head.zero) := Lib.hid (by rw [HY.out, HF.out, if_neg (by decide)])
          clear HX3 HY
          go_wp2_with (first | (with_reducible refine wpList_load_whole Head.isRec rfl _ rfl gO (by with_unfolding_all exact rfl) _ _ (Head.len _) O6.out ?_) | (with_reducible refine wpList_load_whole Head.isRec rfl _ rfl gM (by with_unfolding_all exact rfl) _ _ (Head.len _) M6.out ?_) | (with_reducible refine wpList_store_whole rfl 24 _ _ rfl gO Head.zero.enc.toArray (by with_unfolding_all exact rfl) (by with_unfolding_all exact rfl) _ _ O6.out (Head.size _) rfl (Head.one _) ?_))
          intro w7 q7 x7 z7
          have O7 : Hid (Head.At w7 gO Head.zero) := Lib.hid x7
          have M7 : Hid (Head.At w7 gM HP) := Lib.hid (grown_far M6.out q7 (by have := N_O_M.out; omega))
          have B7 := Lib.hid (B6.out.grown q7 B6.out.size (fun k hk => by injection hk with hk; have := M_O.out; omega))
          clear q7 x7 z7 O6 M6 B6
          go_wp2
          exact bodyPost_ret (results_rec_tmp Head.isRec rfl _ _ _ _ _ rfl rfl O7.out) rfl ⟨by rw [HF.out, HG.out]; rfl, B7.out⟩
        | true =>
          have HF : Hid (X = 0) := Lib.hid HX3.out
          have HG : Hid (Y = HP) := Lib.hid (by rw [HY.out, HF.out, if_pos rfl])
          clear HX3 HY
          go_wp2_with (first | (with_reducible refine wpList_load_whole Head.isRec rfl _ rfl gO (by with_unfolding_all exact rfl) _ _ (Head.len _) O6.out ?_) | (with_reducible refine wpList_load_whole Head.isRec rfl _ rfl gM (by with_unfolding_all exact rfl) _ _ (Head.len _) M6.out ?_) | (with_reducible refine wpList_store_whole rfl 24 _ _ rfl gO HP.enc.toArray (by with_unfolding_all exact rfl) (by with_unfolding_all exact rfl) _ _ O6.out (Head.size _) rfl (Head.one _) ?_))
          intro w7 q7 x7 z7
          have O7 : Hid (Head.At w7 gO HP) := Lib.hid x7
          have M7 : Hid (Head.At w7 gM HP) := Lib.hid (grown_far M6.out q7 (by have := N_O_M.out; omega))
          have B7 := Lib.hid (B6.out.grown q7 B6.out.size (fun k hk => by injection hk with hk; have := M_O.out; omega))
          clear q7 x7 z7 O6 M6 B6
          go_wp2
          exact bodyPost_ret (results_rec_tmp Head.isRec rfl _ _ _ _ _ rfl rfl O7.out) rfl ⟨by rw [HF.out, HG.out]; rfl, B7.out⟩
  · have HF : Hid (X = 13) := Lib.hid (by rw [HX.out, if_pos h0])
    have HG : Hid (Y = Head.zero) := Lib.hid (by rw [HY.out, HF.out, if_neg (by decide)])
    have e1 : (k == 3) = false := by simpa using h0
    have e2 : (k != 3) = true := by simpa using h0
    clear HX HY h0 CD RD CR
    go_wp2_with (first | (with_reducible refine wpList_load_whole Head.isRec rfl _ rfl gO (by with_unfolding_all exact rfl) _ _ (Head.len _) O2.out ?_) | (with_reducible refine wpList_store_whole rfl 24 _ _ rfl gO Head.zero.enc.toArray (by with_unfolding_all exact rfl) (by with_unfolding_all exact rfl) _ _ O2.out (Head.size _) rfl (Head.one _) ?_))
    intro w3 q3 x3 z3
    have O3 : Hid (Head.At w3 gO Head.zero) := Lib.hid x3
    have B3 := Lib.hid (B2.out.grown q3 B2.out.size (fun k hk => by injection hk with hk; have := M_O.out; omega))
    clear q3 x3 z3 O2 B2
    go_wp2
    exact bodyPost_ret (results_rec_tmp Head.isRec rfl _ _ _ _ _ rfl rfl O3.out) rfl ⟨by rw [HF.out, HG.out]; rfl, B3.out⟩

set_option maxRecDepth 100000 in
set_option maxHeartbeats 1000000 in
theorem rcSealer_any (root : List UInt8) (h : Head) (ho : h.Ok) (w : World) (hr : root.length ≤ 5000) (T : Tab w) (PW : PowT w) :
    Calls Tryz.prog 12 #[.string ⟨root.toArray⟩, h.val] w fun e w' => (∃ v0 v1, e = .returned (.tuple #[v0, v1]) ∧ BytesAt w' v0 (epochK root h.epoch) ∧ BytesAt w' v1 (nonceB (uN h.seq))) ∧ Below w.heap.size w w' := by
  have T0 := Lib.hid T
  have P0 := Lib.hid PW
  have CE := fun w T PW => Lib.hid (keEpoch_any root h.epoch ho.epoch_ok.1 (by have := ho.epoch_ok.2; omega) w hr T PW)
  have CN := fun w => Lib.hid (nonce_any (uN h.seq) w)
  have r1 := uN_wrap h.seq
  generalize epochK root h.epoch = K at *
  generalize nonceB (uN h.seq) = N at *
  generalize uN h.seq = s at *
  clear T PW hr ho
  go_enter Tryz.func12, Tryz.ntmps12
  go_wp2_with (refine wpList_box_row rfl 24 _ rfl h.enc.toArray (by with_unfolding_all exact rfl) ?_)
  intro w1 b1 x1 z1
  obtain ⟨gX, hgX⟩ : ∃ g, g = w.heap.size := ⟨_, rfl⟩
  have M_X := Lib.hid (show w.heap.size ≤ gX from by rw [hgX]; exact Nat.le_refl _)
  have B1 := Lib.hid b1
  rw [← hgX] at x1 ⊢
  have X1 : Hid (Head.At w1 gX h) := Lib.hid x1
  clear b1 x1 z1 hgX 
  go_wp2_with (with_reducible refine wpList_load_whole Head.isRec rfl _ rfl gX (by with_unfolding_all exact rfl) _ _ (Head.len _) X1.out ?_)
  refine regS_begin (From w1) (by kernel_rfl) (Below.refl _ _).drew ?_
  have b2 : Below w1.heap.size w1 w1.drew := (Below.refl _ _).drew
  generalize w1.drew = w2 at b2 ⊢
  have X2 : Hid (Head.At w2 gX h) := Lib.hid (Whole.below X1.out b2 X1.out.lt)
  have B2 := Lib.hid (B1.out.trans (b2.mono B1.out.size))
  have HS2 : Hid (From w1 w2) := Lib.hid b2
  clear b2
  refine regS_take (i := 0) (v := ?_) rfl (by kernel_rfl) (by kernel_rfl) (by kernel_rfl) (fun _ _ _ h => h) (by rfl) HS2.out ?hy0 ?_
  case hy0 => intro w' hw'; go_simp; (try with_reducible rfl)
  simp only [Act.put, List.setIfInBounds_toArray, List.set_cons_zero, List.set_cons_succ]
  refine regS_take (i := 1) (v := ?_) rfl (by kernel_rfl) (by kernel_rfl) (by kernel_rfl) (fun _ _ _ h => h) (by rfl) HS2.out ?hy1 ?_
  case hy1 => intro w' hw'; go_simp; (try with_reducible rfl)
  simp only [Act.put, List.setIfInBounds_toArray, List.set_cons_zero, List.set_cons_succ]
  refine regS_take (i := 2) (v := (.int .i64 (h).epoch)) rfl (by kernel_rfl) (by kernel_rfl) (by kernel_rfl) (fun _ _ _ h => h) (by rfl) HS2.out ?hy2 ?_
  case hy2 => intro w' hw'; have c := Head.At.at_epoch (Whole.below X1.out hw' X1.out.lt); go_simp; (try with_reducible rfl)
  simp only [Act.put, List.setIfInBounds_toArray, List.set_cons_zero, List.set_cons_succ]
  refine regS_take (i := 5) (v := ?_) rfl (by kernel_rfl) (by kernel_rfl) (by kernel_rfl) (fun _ _ _ h => h) (by rfl) HS2.out ?hy5 ?_
  case hy5 => intro w' hw'; go_simp; (try with_reducible rfl)
  simp only [Act.put, List.setIfInBounds_toArray, List.set_cons_zero, List.set_cons_succ]
  refine regS_take (i := 6) (v := (.int .i64 (h).seq)) rfl (by kernel_rfl) (by kernel_rfl) (by kernel_rfl) (fun _ _ _ h => h) (by rfl) HS2.out ?hy6 ?_
  case hy6 => intro w' hw'; have c := Head.At.at_seq (Whole.below X1.out hw' X1.out.lt); go_simp; (try with_reducible rfl)
  simp only [Act.put, List.setIfInBounds_toArray, List.set_cons_zero, List.set_cons_succ]
  refine regS_take (i := 7) (v := .int .u64 (s : Int)) rfl (by kernel_rfl) (by kernel_rfl) (by kernel_rfl) (fun _ _ _ h => h) (by rfl) HS2.out ?hy7 ?_
  case hy7 => intro w' hw'; exact (by go_simp; (try with_reducible rfl))
  simp only [Act.put, List.setIfInBounds_toArray, List.set_cons_zero, List.set_cons_succ]
  refine regS_do (i := 3) rfl (by kernel_rfl) (fun K' hK => ?_)
  go_simp
  refine ((CE w2 (T0.out.below B2.out T0.out.pos) (P0.out.below B2.out)).out).mono ?_
  rintro e3 w3 ⟨rfl, b3⟩
  have X3 : Hid (Head.At w3 gX h) := Lib.hid (Whole.below X2.out b3 X2.out.lt)
  have B3 := Lib.hid (B2.out.trans (b3.mono B2.out.size))
  have HS3 : Hid (From w1 w3) := Lib.hid (HS2.out.trans (b3.mono HS2.out.size))
  clear b3
  refine hK.out _ _ HS3.out ?_
  clear hK K' X2 B2 HS2
  refine regS_two (i := 4) (j := 8) rfl rfl (by kernel_rfl) (fun K' hK => ?_) (fun K' hK => ?_)
  · obtain ⟨vP, w4, r4, y4, b4⟩ := conv_str w3 ⟨(K).toArray⟩
    go_simp
    have X4 : Hid (Head.At w4 gX h) := Lib.hid (Whole.below X3.out b4 X3.out.lt)
    have B4 := Lib.hid (B3.out.trans (b4.mono B3.out.size))
    have HS4 : Hid (From w1 w4) := Lib.hid (HS3.out.trans (b4.mono HS3.out.size))
    clear b4
    have P4 : Hid (BytesAt w4 vP (K)) := Lib.hid (by simpa using y4)
    clear y4 r4
    refine hK.out _ _ HS4.out ?_
    clear hK K' X3 B3 HS3
    refine regS_do (i := 8) rfl (by kernel_rfl) (fun K' hK => ?_)
    go_simp
    refine ((CN w4).out).mono ?_
    rintro e5 w5 ⟨v14, rfl, y14, b5⟩
    have X5 : Hid (Head.At w5 gX h) := Lib.hid (Whole.below X4.out b5 X4.out.lt)
    have P5 : Hid (BytesAt w5 vP (K)) := Lib.hid (P4.out.below b5)
    have B5 := Lib.hid (B4.out.trans (b5.mono B4.out.size))
    have HS5 : Hid (From w1 w5) := Lib.hid (HS4.out.trans (b5.mono HS4.out.size))
    clear b5
    have N5 : Hid (BytesAt w5 v14 N) := Lib.hid y14
    refine hK.out _ _ HS5.out ?_
    clear hK K' X4 P4 B4 HS4 y14
    refine regS_take (i := 9) (v := ?_) rfl (by kernel_rfl) (by kernel_rfl) (by kernel_rfl) (fun _ _ _ h => h) (by rfl) HS5.out ?hy9 ?_
    case hy9 => intro w' hw'; go_simp; (try with_reducible rfl)
    simp only [Act.put, List.setIfInBounds_toArray, List.set_cons_zero, List.set_cons_succ]
    refine regS_take (i := 10) (v := ?_) rfl (by kernel_rfl) (by kernel_rfl) (by kernel_rfl) (fun _ _ _ h => h) (by rfl) HS5.out ?hy10 ?_
    case hy10 => intro w' hw'; go_simp; (try with_reducible rfl)
    simp only [Act.put, List.setIfInBounds_toArray, List.set_cons_zero, List.set_cons_succ]
    refine regS_end (by kernel_rfl) ?_
    clear HS5 X1
    go_wp2
    go_ret2
    exact ⟨⟨_, _, rfl, P5.out, N5.out⟩, B5.out⟩
  · go_simp
    refine ((CN w3).out).mono ?_
    rintro e4 w4 ⟨v14, rfl, y14, b4⟩
    have X4 : Hid (Head.At w4 gX h) := Lib.hid (Whole.below X3.out b4 X3.out.lt)
    have B4 := Lib.hid (B3.out.trans (b4.mono B3.out.size))
    have HS4 : Hid (From w1 w4) := Lib.hid (HS3.out.trans (b4.mono HS3.out.size))
    clear b4
    have N4 : Hid (BytesAt w4 v14 N) := Lib.hid y14
    refine hK.out _ _ HS4.out ?_
    clear hK K' X3 B3 HS3 y14
    refine regS_do (i := 4) rfl (by kernel_rfl) (fun K' hK => ?_)
    obtain ⟨vP, w5, r5, y5, b5⟩ := conv_str w4 ⟨(K).toArray⟩
    go_simp
    have X5 : Hid (Head.At w5 gX h) := Lib.hid (Whole.below X4.out b5 X4.out.lt)
    have N5 : Hid (BytesAt w5 v14 N) := Lib.hid (N4.out.below b5)
    have B5 := Lib.hid (B4.out.trans (b5.mono B4.out.size))
    have HS5 : Hid (From w1 w5) := Lib.hid (HS4.out.trans (b5.mono HS4.out.size))
    clear b5
    have P5 : Hid (BytesAt w5 vP (K)) := Lib.hid (by simpa using y5)
    clear y5 r5
    refine hK.out _ _ HS5.out ?_
    clear hK K' X4 N4 B4 HS4
    refine regS_take (i := 9) (v := ?_) rfl (by kernel_rfl) (by kernel_rfl) (by kernel_rfl) (fun _ _ _ h => h) (by rfl) HS5.out ?hy9 ?_
    case hy9 => intro w' hw'; go_simp; (try with_reducible rfl)
    simp only [Act.put, List.setIfInBounds_toArray, List.set_cons_zero, List.set_cons_succ]
    refine regS_take (i := 10) (v := ?_) rfl (by kernel_rfl) (by kernel_rfl) (by kernel_rfl) (fun _ _ _ h => h) (by rfl) HS5.out ?hy10 ?_
    case hy10 => intro w' hw'; go_simp; (try with_reducible rfl)
    simp only [Act.put, List.setIfInBounds_toArray, List.set_cons_zero, List.set_cons_succ]
    refine regS_end (by kernel_rfl) ?_
    clear HS5 X1
    go_wp2
    go_ret2
    exact ⟨⟨_, _, rfl, P5.out, N5.out⟩, B5.out⟩
end Go.Proofs.YtmnhpkdldeifgaaGreatDoor

namespace Go.Proofs.YtmnhpkdldeifgaaGreatDoor
set_option maxRecDepth 100000
open Go.RowKit

/-- Bytes that do not lie in a block. -/
structure BytesOff (w : World) (v : Value) (l : List UInt8) (g : Nat) : Prop where
  bytes : BytesAt w v l
  off : l ≠ [] → v.ownBlock ≠ some g
theorem BytesOff.below {w w' : World} {v : Value} {l : List UInt8} {g : Nat} (h : BytesOff w v l g) (b : Below w.heap.size w w') : BytesOff w' v l g := ⟨h.bytes.below b, h.off⟩
theorem BytesOff.far {w w' : World} {v : Value} {l : List UInt8} {g g' : Nat} (h : BytesOff w v l g) (q : w.grownBy w' (some g')) (e : g' = g) : BytesOff w' v l g := by
  subst e
  exact ⟨h.bytes.keep fun hne k hk ho => q.block k hk fun e => h.off hne (by rw [ho]; exact e), h.off⟩
theorem bytes_off {w : World} {v : Value} {l : List UInt8} {g : Nat} {T : TypeId} {h : Head} (b : BytesAt w v l) (x : Whole w g T h.enc.toArray) : BytesOff w v l g := by
  refine ⟨b, fun hne e => ?_⟩
  cases l with
  | nil => exact hne rfl
  | cons c r =>
    obtain ⟨A, cap, rfl, -, -⟩ := id b
    obtain ⟨g', off, rfl, -, hc⟩ := b.spots (by simp)
    have e1 : some g' = some g := e
    injection e1 with e1
    subst e1
    have c0 := hc 0 c rfl
    have c1 := Whole.at_ x (off + 0)
    rw [c0] at c1
    match off, c1 with
    | 0, c1 => simp [Head.enc] at c1
    | 1, c1 => simp [Head.enc] at c1
    | 2, c1 => simp [Head.enc] at c1
    | 3, c1 => simp [Head.enc] at c1
    | n + 4, c1 => simp [Head.enc] at c1
end Go.Proofs.YtmnhpkdldeifgaaGreatDoor
