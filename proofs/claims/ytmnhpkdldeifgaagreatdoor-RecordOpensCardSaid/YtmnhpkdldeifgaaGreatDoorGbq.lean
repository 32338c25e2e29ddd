/- The document's layer 19: Take. Slices of words; what the document's number, constants and Start answer. -/
import Derived.Test.YtmnhpkdldeifgaaGreatDoorGbp
import Derived.Test.YtmnhpkdldeifgaaGreatDoorGbb
import Derived.Test.YtmnhpkdldeifgaaGreatDoorGbo
import Derived.Test.YtmnhpkdldeifgaaGreatDoorGw
import Derived.Test.YtmnhpkdldeifgaaGreatDoorGy
import Derived.Test.YtmnhpkdldeifgaaGreatDoorGi
namespace Go.Proofs.YtmnhpkdldeifgaaGreatDoor
set_option maxRecDepth 100000
open Go.RowKit

/-- The document's reader. -/
structure RgL (w : World) (g : Nat) (ad : Addr) (cap : Nat) (l : List UInt8) (s : RS) : Prop where
  rd : RfS w g (some ad) cap l s
theorem RgL.below {w w' : World} {g : Nat} {ad : Addr} {cap : Nat} {l : List UInt8} {s : RS} (h : RgL w g ad cap l s) (b : Below w.heap.size w w') : RgL w' g ad cap l s := ⟨h.rd.belowR b⟩
/-- The document's reader, and a block that is neither its own nor its bytes'. -/
structure RgR (w : World) (g : Nat) (ad : Addr) (cap : Nat) (l : List UInt8) (s : RS) (m : Nat) : Prop where
  rd : RfS w g (some ad) cap l s
  gm : g ≠ m
  am : ad.block ≠ m
theorem RgR.below {w w' : World} {g : Nat} {ad : Addr} {cap : Nat} {l : List UInt8} {s : RS} {m : Nat} (h : RgR w g ad cap l s m) (b : Below w.heap.size w w') : RgR w' g ad cap l s m := ⟨h.rd.belowR b, h.gm, h.am⟩
theorem RgR.far {w w' : World} {g : Nat} {ad : Addr} {cap : Nat} {l : List UInt8} {s : RS} {m m' : Nat} (h : RgR w g ad cap l s m) (q : w.grownBy w' (some m')) (e : m' = m) : RgR w' g ad cap l s m := by
  subst e
  exact ⟨h.rd.apart q h.gm (fun _ ad' e => by injection e with e; subst e; exact h.am), h.gm, h.am⟩

set_option maxRecDepth 100000 in
set_option maxHeartbeats 2000000 in
theorem rgTake_any (v : Value) (b : List UInt8) (w : World) (h : BytesAt w v b) :
    Calls Tryz.prog 22 #[v] w fun e w' => e = .returned (.tuple #[Heaf.val (takeHd b), .int .i64 (takeHdX b)]) ∧ Below w.heap.size w w' := by
  have H := Lib.hid h
  have CK := fun w1 (b1 : Below w.heap.size w w1) => Lib.hid (hfKindOf_any v b w1 (h.below b1))
  have CR := fun w => Lib.hid (rgRight_any (headP b) w)
  have HX : Hid (takeHdX b = if kindB b ≠ 3 then 13 else if 2048 < b.length then 3 else if b.length < 32 then 10 else if headR (headP b) = true then 0 else 11) := Lib.hid rfl
  have HY : Hid (takeHd b = if takeHdX b = 0 then headP b else Head.zero) := Lib.hid rfl
  obtain ⟨X, hX⟩ : ∃ X, X = takeHdX b := ⟨_, rfl⟩
  obtain ⟨Y, hY⟩ : ∃ Y, Y = takeHd b := ⟨_, rfl⟩
  rw [← hX] at HX HY ⊢
  rw [← hY] at HY ⊢
  obtain ⟨k, hk⟩ : ∃ k, k = kindB b := ⟨_, rfl⟩
  rw [← hk] at HX
  simp only [← hk] at CK
  obtain ⟨q, hq⟩ : ∃ q, q = headR (headP b) := ⟨_, rfl⟩
  rw [← hq] at HX
  simp only [← hq] at CR
  obtain ⟨A, cap, rfl, -, -⟩ := id h
  obtain ⟨n, hn⟩ : ∃ n, n = b.length := ⟨_, rfl⟩
  have HN := Lib.hid hn
  rw [← hn] at HX H CK ⊢
  clear h hX hY hk hq hn
  go_enter Tryz.func22, Tryz.ntmps22
  go_wp2_with (refine wpList_alloc_row rfl 32 rfl (Heaf.enc Heaf.zero).toArray Heaf.zero_is ?_)
  intro w1 b1 x1 z1
  obtain ⟨gO, hgO⟩ : ∃ g, g = w.heap.size := ⟨_, rfl⟩
  have M_O := Lib.hid (show w.heap.size ≤ gO from by rw [hgO]; exact Nat.le_refl _)
  have B1 := Lib.hid b1
  rw [← hgO] at x1 ⊢
  have O1 : Hid (Heaf.At w1 gO Heaf.zero) := Lib.hid x1
  clear b1 x1 z1 hgO 
  go_wp2_with (with_reducible refine wpList_load_whole Heaf.isRec rfl _ rfl gO (by with_unfolding_all exact rfl) _ _ (Heaf.len _) O1.out ?_)
  refine ((CK w1 B1.out).out).mono ?_
  rintro e2 w2 ⟨rfl, b2⟩
  have O2 : Hid (Heaf.At w2 gO Heaf.zero) := Lib.hid (Whole.below O1.out b2 O1.out.lt)
  have B2 := Lib.hid (B1.out.trans (b2.mono B1.out.size))
  clear b2 O1 B1
  clear CK
  by_cases h0 : k = 3
  · subst h0
    have HX2 : Hid (X = if 2048 < n then 3 else if n < 32 then 10 else if q = true then 0 else 11) := Lib.hid (by rw [HX.out, if_neg (by decide)])
    clear HX
    by_cases h1 : 2048 < n
    · have d1 : (2048 : Int) < (n : Int) := by omega
      have HF : Hid (X = 3) := Lib.hid (by rw [HX2.out, if_pos h1])
      have HG : Hid (Y = Head.zero) := Lib.hid (by rw [HY.out, HF.out, if_neg (by decide)])
      clear HX2 HY CR h1 H
      go_wp2_with (first | (with_reducible refine wpList_load_whole Heaf.isRec rfl _ rfl gO (by with_unfolding_all exact rfl) _ _ (Heaf.len _) O2.out ?_) | (with_reducible refine wpList_store_whole rfl 32 _ _ rfl gO (Heaf.enc Heaf.zero).toArray (by with_unfolding_all exact rfl) (by with_unfolding_all exact rfl) _ _ O2.out (Heaf.size _) rfl (Heaf.one _) ?_))
      intro w3 q3 x3 z3
      have O3 : Hid (Heaf.At w3 gO Heaf.zero) := Lib.hid x3
      have B3 := Lib.hid (B2.out.grown q3 B2.out.size (fun k hk => by injection hk with hk; have := M_O.out; omega))
      clear q3 x3 z3 O2 B2
      go_wp2
      exact bodyPost_ret (results_rec_tmp Heaf.isRec rfl _ _ _ _ _ rfl rfl O3.out) rfl ⟨by rw [HF.out, HG.out]; rfl, B3.out⟩
    · have d1 : ¬ (2048 : Int) < (n : Int) := by omega
      by_cases h2 : n < 32
      · have d2 : (n : Int) < 32 := by omega
        have HF : Hid (X = 10) := Lib.hid (by rw [HX2.out, if_neg h1, if_pos h2])
        have HG : Hid (Y = Head.zero) := Lib.hid (by rw [HY.out, HF.out, if_neg (by decide)])
        clear HX2 HY CR h1 h2 H
        go_wp2_with (first | (with_reducible refine wpList_load_whole Heaf.isRec rfl _ rfl gO (by with_unfolding_all exact rfl) _ _ (Heaf.len _) O2.out ?_) | (with_reducible refine wpList_store_whole rfl 32 _ _ rfl gO (Heaf.enc Heaf.zero).toArray (by with_unfolding_all exact rfl) (by with_unfolding_all exact rfl) _ _ O2.out (Heaf.size _) rfl (Heaf.one _) ?_))
        intro w3 q3 x3 z3
        have O3 : Hid (Heaf.At w3 gO Heaf.zero) := Lib.hid x3
        have B3 := Lib.hid (B2.out.grown q3 B2.out.size (fun k hk => by injection hk with hk; have := M_O.out; omega))
        clear q3 x3 z3 O2 B2
        go_wp2
        exact bodyPost_ret (results_rec_tmp Heaf.isRec rfl _ _ _ _ _ rfl rfl O3.out) rfl ⟨by rw [HF.out, HG.out]; rfl, B3.out⟩
      · have d2 : ¬ (n : Int) < 32 := by omega
        obtain ⟨-, hc, ad, rfl, -, -, hp⟩ := record_parts H.out (by rw [← HN.out]; omega)
        have HX3 : Hid (X = if q = true then 0 else 11) := Lib.hid (by rw [HX2.out, if_neg h1, if_neg h2])
        have j1 : (16 : Int) ≤ (cap : Int) := by have := HN.out; omega
        have j2 : (1 : Int) ≤ 16 := by decide
        have j3 : cap ≠ 1 := by have := HN.out; omega
        have hl15 : ((b.take 16).drop 1).length = 15 := by rw [List.length_drop, List.length_take]; have := HN.out; omega
        have AD := Lib.hid (show ad.block < w.heap.size by obtain ⟨ad', e, q⟩ := H.out.lt (by intro e; have := HN.out; rw [e] at this; simp at this; omega); injection e with e; subst e; exact q)
        have LB := Lib.hid (show ((b.take 16).drop 1).length ≤ 9000 by rw [hl15]; decide)
        have CO := rfOpen (some ⟨ad.block, ad.off + 1, none⟩) (cap - 1) ((b.take 16).drop 1) w2 (by rw [hl15]; exact hp.below B2.out)
        rw [hl15] at CO
        have CO := Lib.hid CO
        obtain ⟨n0, hn0⟩ : ∃ n, n = numO (hd0 b) 8 := ⟨_, rfl⟩
        obtain ⟨n1, hn1⟩ : ∃ n, n = numO (hd1 b) 1 := ⟨_, rfl⟩
        obtain ⟨n2, hn2⟩ : ∃ n, n = numO (hd2 b) 2 := ⟨_, rfl⟩
        obtain ⟨n3, hn3⟩ : ∃ n, n = numO (hd3 b) 4 := ⟨_, rfl⟩
        have r1 : IntKind.i64.wrap (n1 : Int) = (n1 : Int) := by have := numO_lt (hd1 b) 1; rw [← hn1] at this; exact IntWalk.i64_in _ (by omega)
        have r2 : IntKind.i64.wrap (n2 : Int) = (n2 : Int) := by have := numO_lt (hd2 b) 2; rw [← hn2] at this; exact IntWalk.i64_in _ (by omega)
        have r3 : IntKind.i64.wrap (n3 : Int) = (n3 : Int) := by have := numO_lt (hd3 b) 4; rw [← hn3] at this; exact IntWalk.i64_in _ (by omega)
        have HP : Hid (headP b = ⟨n0, n1, n2, n3⟩) := Lib.hid (by rw [headP, hn0, hn1, hn2, hn3])
        have C0 := fun w g (h : RfS w g (some ⟨ad.block, ad.off + 1, none⟩) (cap - 1) ((b.take 16).drop 1) (hd0 b)) => Lib.hid (rfNum g 8 _ _ _ (hd0 b) w h LB.out (by decide) (by decide))
        have C1 := fun w g (h : RfS w g (some ⟨ad.block, ad.off + 1, none⟩) (cap - 1) ((b.take 16).drop 1) (hd1 b)) => Lib.hid (rfNum g 1 _ _ _ (hd1 b) w h LB.out (by decide) (by decide))
        have C2 := fun w g (h : RfS w g (some ⟨ad.block, ad.off + 1, none⟩) (cap - 1) ((b.take 16).drop 1) (hd2 b)) => Lib.hid (rfNum g 2 _ _ _ (hd2 b) w h LB.out (by decide) (by decide))
        have C3 := fun w g (h : RfS w g (some ⟨ad.block, ad.off + 1, none⟩) (cap - 1) ((b.take 16).drop 1) (hd3 b)) => Lib.hid (rfNum g 4 _ _ _ (hd3 b) w h LB.out (by decide) (by decide))
        simp only [← hn0] at C0
        simp only [← hn1] at C1
        simp only [← hn2] at C2
        simp only [← hn3] at C3
        rw [HP.out] at HY CR
        clear HX2 h1 h2 hc hp hl15 hn0 hn1 hn2 hn3 HP H
        go_wp2_with fail
        refine CO.out.mono ?_
        rintro e v1 ⟨rfl, hr, hb⟩
        obtain ⟨g, hg⟩ : ∃ g, g = w2.heap.size := ⟨_, rfl⟩
        rw [← hg] at hr ⊢
        have G0 := Lib.hid (show gO < g by rw [hg]; exact O2.out.lt)
        have G1 := Lib.hid (show w.heap.size ≤ g by rw [hg]; exact B2.out.size)
        have GL := Lib.hid (show g < v1.heap.size from by obtain ⟨p, hr, -⟩ := hr; exact Whole.lt hr)
        have qO0 := Lib.hid (show Heaf.At v1 gO Heaf.zero from Whole.below O2.out hb O2.out.lt)
        have qB0 := Lib.hid (B2.out.trans (hb.mono B2.out.size))
        have qR0 := Lib.hid (show RfS v1 g (some ⟨ad.block, ad.off + 1, none⟩) (cap - 1) ((b.take 16).drop 1) (hd0 b) from hr)
        clear hr hb hg CO
        obtain ⟨l, hl⟩ : ∃ l, l = (b.take 16).drop 1 := ⟨_, rfl⟩
        rw [← hl] at qR0 LB
        simp only [← hl] at C0 C1 C2 C3
        clear hl
        have R2 : Hid (RgL v1 g ⟨ad.block, ad.off + 1, none⟩ (cap - 1) l (hd0 b)) := Lib.hid (RgL.mk qR0.out)
        have D2 : Hid (Since v1 v1) := Lib.hid (⟨Below.refl _ _⟩)
        go_wp2_with (first | (with_reducible refine wpList_load_whole Heaf.isRec rfl _ rfl gO (by with_unfolding_all exact rfl) _ _ (Heaf.len _) qO0.out ?_) | (refine wpList_alloc_row rfl 32 rfl (Heaf.enc Heaf.zero).toArray Heaf.zero_is ?_))
        intro w3 b3 x3 z3
        obtain ⟨gM, hgM⟩ : ∃ g, g = v1.heap.size := ⟨_, rfl⟩
        have N_O_M := Lib.hid (show gO < gM from by rw [hgM]; exact qO0.out.lt)
        have L_D_M := Lib.hid (show v1.heap.size ≤ gM from by rw [hgM]; exact D2.out.b.size)
        have M_M := Lib.hid (show w.heap.size ≤ gM from by rw [hgM]; exact qB0.out.size)
        have O3 : Hid (Heaf.At w3 gO Heaf.zero) := Lib.hid (Whole.below qO0.out b3 qO0.out.lt)
        have R3 : Hid (RgL w3 g ⟨ad.block, ad.off + 1, none⟩ (cap - 1) l (hd0 b)) := Lib.hid (R2.out.below b3)
        have D3 : Hid (Since v1 w3) := Lib.hid (D2.out.below b3)
        have B3 := Lib.hid (qB0.out.trans (b3.mono qB0.out.size))
        rw [← hgM] at x3 ⊢
        have M3 : Hid (Heaf.At w3 gM Heaf.zero) := Lib.hid x3
        clear b3 x3 z3 hgM qO0 R2 D2 qB0
        have GM := Lib.hid (show g < gM by have := GL.out; have := L_D_M.out; omega)
        have U3 : Hid (RgR w3 g ⟨ad.block, ad.off + 1, none⟩ (cap - 1) l (hd0 b) gM) := Lib.hid (⟨R3.out.rd, by have := GM.out; omega, by have := AD.out; have := M_M.out; show ad.block ≠ gM; omega⟩)
        clear R3 D3
        go_wp2_with (first | (with_reducible refine wpList_load_whole Heaf.isRec rfl _ rfl gO (by with_unfolding_all exact rfl) _ _ (Heaf.len _) O3.out ?_) | (with_reducible refine wpList_load_whole Heaf.isRec rfl _ rfl gM (by with_unfolding_all exact rfl) _ _ (Heaf.len _) M3.out ?_) | (with_reducible refine wpList_store_whole rfl 32 _ _ rfl gM (Heaf.enc Heaf.zero).toArray (by with_unfolding_all exact rfl) (by with_unfolding_all exact rfl) _ _ M3.out (Heaf.size _) rfl (Heaf.one _) ?_))
        intro w4 q4 x4 z4
        have M4 : Hid (Heaf.At w4 gM Heaf.zero) := Lib.hid x4
        have O4 : Hid (Heaf.At w4 gO Heaf.zero) := Lib.hid (grown_far O3.out q4 (by have := N_O_M.out; omega))
        have U4 : Hid (RgR w4 g ⟨ad.block, ad.off + 1, none⟩ (cap - 1) l (hd0 b) gM) := Lib.hid (U3.out.far q4 (by omega))
        have B4 := Lib.hid (B3.out.grown q4 B3.out.size (fun k hk => by injection hk with hk; have := M_M.out; omega))
        clear q4 x4 z4 M3 O3 U3 B3
        go_wp2_with fail
        refine (C0 w4 g U4.out.rd).out.mono ?_
        rintro e v2 ⟨rfl, hr, hg⟩
        have qO1 := Lib.hid (show Heaf.At v2 gO Heaf.zero from Whole.grown O4.out hg (fun k => by injection k with k; have := G0.out; omega))
        have qM1 := Lib.hid (show Heaf.At v2 gM Heaf.zero from Whole.grown M4.out hg (fun k => by injection k with k; have := GM.out; omega))
        have qB1 := Lib.hid (B4.out.grown hg B4.out.size (fun k hk => by injection hk with hk; have := G1.out; omega))
        have qU1 := Lib.hid (show RgR v2 g ⟨ad.block, ad.off + 1, none⟩ (cap - 1) l (hd1 b) gM from ⟨hr, U4.out.gm, U4.out.am⟩)
        clear hr hg C0 O4 M4 B4 U4
        go_wp2_with (first | (with_reducible refine wpList_load_whole Heaf.isRec rfl _ rfl gO (by with_unfolding_all exact rfl) _ _ (Heaf.len _) qO1.out ?_) | (with_reducible refine wpList_load_whole Heaf.isRec rfl _ rfl gM (by with_unfolding_all exact rfl) _ _ (Heaf.len _) qM1.out ?_) | (with_reducible refine wpList_put_cell 22 ⟨by kernel_rfl, by kernel_rfl⟩ rfl _ _ rfl gM 0 (by with_unfolding_all exact rfl) (.int .u64 (n0 : Int)) (by with_unfolding_all exact rfl) (by with_unfolding_all exact rfl) (by with_unfolding_all exact rfl) _ _ qM1.out _ (by with_unfolding_all exact rfl) ?_))
        intro w5 q5 x5 z5
        have M5 : Hid (Heaf.At w5 gM ⟨n0, 0, 0, 0⟩) := Lib.hid x5
        have O5 : Hid (Heaf.At w5 gO Heaf.zero) := Lib.hid (grown_far qO1.out q5 (by have := N_O_M.out; omega))
        have U5 : Hid (RgR w5 g ⟨ad.block, ad.off + 1, none⟩ (cap - 1) l (hd1 b) gM) := Lib.hid (qU1.out.far q5 (by omega))
        have B5 := Lib.hid (qB1.out.grown q5 qB1.out.size (fun k hk => by injection hk with hk; have := M_M.out; omega))
        clear q5 x5 z5 qM1 qO1 qU1 qB1
        go_wp2_with fail
        refine (C1 w5 g U5.out.rd).out.mono ?_
        rintro e v3 ⟨rfl, hr, hg⟩
        have qO2 := Lib.hid (show Heaf.At v3 gO Heaf.zero from Whole.grown O5.out hg (fun k => by injection k with k; have := G0.out; omega))
        have qM2 := Lib.hid (show Heaf.At v3 gM ⟨n0, 0, 0, 0⟩ from Whole.grown M5.out hg (fun k => by injection k with k; have := GM.out; omega))
        have qB2 := Lib.hid (B5.out.grown hg B5.out.size (fun k hk => by injection hk with hk; have := G1.out; omega))
        have qU2 := Lib.hid (show RgR v3 g ⟨ad.block, ad.off + 1, none⟩ (cap - 1) l (hd2 b) gM from ⟨hr, U5.out.gm, U5.out.am⟩)
        clear hr hg C1 O5 M5 B5 U5
        go_wp2_with (first | (with_reducible refine wpList_load_whole Heaf.isRec rfl _ rfl gO (by with_unfolding_all exact rfl) _ _ (Heaf.len _) qO2.out ?_) | (with_reducible refine wpList_load_whole Heaf.isRec rfl _ rfl gM (by with_unfolding_all exact rfl) _ _ (Heaf.len _) qM2.out ?_) | (with_reducible refine wpList_put_cell 3 ⟨by kernel_rfl, by kernel_rfl⟩ rfl _ _ rfl gM 1 (by with_unfolding_all exact rfl) (.int .i64 (n1 : Int)) (by with_unfolding_all exact rfl) (by with_unfolding_all exact rfl) (by with_unfolding_all exact rfl) _ _ qM2.out _ (by with_unfolding_all exact rfl) ?_))
        intro w6 q6 x6 z6
        have M6 : Hid (Heaf.At w6 gM ⟨n0, n1, 0, 0⟩) := Lib.hid x6
        have O6 : Hid (Heaf.At w6 gO Heaf.zero) := Lib.hid (grown_far qO2.out q6 (by have := N_O_M.out; omega))
        have U6 : Hid (RgR w6 g ⟨ad.block, ad.off + 1, none⟩ (cap - 1) l (hd2 b) gM) := Lib.hid (qU2.out.far q6 (by omega))
        have B6 := Lib.hid (qB2.out.grown q6 qB2.out.size (fun k hk => by injection hk with hk; have := M_M.out; omega))
        clear q6 x6 z6 qM2 qO2 qU2 qB2
        go_wp2_with fail
        refine (C2 w6 g U6.out.rd).out.mono ?_
        rintro e v4 ⟨rfl, hr, hg⟩
        have qO3 := Lib.hid (show Heaf.At v4 gO Heaf.zero from Whole.grown O6.out hg (fun k => by injection k with k; have := G0.out; omega))
        have qM3 := Lib.hid (show Heaf.At v4 gM ⟨n0, n1, 0, 0⟩ from Whole.grown M6.out hg (fun k => by injection k with k; have := GM.out; omega))
        have qB3 := Lib.hid (B6.out.grown hg B6.out.size (fun k hk => by injection hk with hk; have := G1.out; omega))
        have qU3 := Lib.hid (show RgR v4 g ⟨ad.block, ad.off + 1, none⟩ (cap - 1) l (hd3 b) gM from ⟨hr, U6.out.gm, U6.out.am⟩)
        clear hr hg C2 O6 M6 B6 U6
        go_wp2_with (first | (with_reducible refine wpList_load_whole Heaf.isRec rfl _ rfl gO (by with_unfolding_all exact rfl) _ _ (Heaf.len _) qO3.out ?_) | (with_reducible refine wpList_load_whole Heaf.isRec rfl _ rfl gM (by with_unfolding_all exact rfl) _ _ (Heaf.len _) qM3.out ?_) | (with_reducible refine wpList_put_cell 3 ⟨by kernel_rfl, by kernel_rfl⟩ rfl _ _ rfl gM 2 (by with_unfolding_all exact rfl) (.int .i64 (n2 : Int)) (by with_unfolding_all exact rfl) (by with_unfolding_all exact rfl) (by with_unfolding_all exact rfl) _ _ qM3.out _ (by with_unfolding_all exact rfl) ?_))
        intro w7 q7 x7 z7
        have M7 : Hid (Heaf.At w7 gM ⟨n0, n1, n2, 0⟩) := Lib.hid x7
        have O7 : Hid (Heaf.At w7 gO Heaf.zero) := Lib.hid (grown_far qO3.out q7 (by have := N_O_M.out; omega))
        have U7 : Hid (RgR w7 g ⟨ad.block, ad.off + 1, none⟩ (cap - 1) l (hd3 b) gM) := Lib.hid (qU3.out.far q7 (by omega))
        have B7 := Lib.hid (qB3.out.grown q7 qB3.out.size (fun k hk => by injection hk with hk; have := M_M.out; omega))
        clear q7 x7 z7 qM3 qO3 qU3 qB3
        go_wp2_with fail
        refine (C3 w7 g U7.out.rd).out.mono ?_
        rintro e v5 ⟨rfl, hr, hg⟩
        have qO4 := Lib.hid (show Heaf.At v5 gO Heaf.zero from Whole.grown O7.out hg (fun k => by injection k with k; have := G0.out; omega))
        have qM4 := Lib.hid (show Heaf.At v5 gM ⟨n0, n1, n2, 0⟩ from Whole.grown M7.out hg (fun k => by injection k with k; have := GM.out; omega))
        have qB4 := Lib.hid (B7.out.grown hg B7.out.size (fun k hk => by injection hk with hk; have := G1.out; omega))
        have qU4 := Lib.hid (show RgR v5 g ⟨ad.block, ad.off + 1, none⟩ (cap - 1) l (hd4 b) gM from ⟨hr, U7.out.gm, U7.out.am⟩)
        clear hr hg C3 O7 M7 B7 U7
        go_wp2_with (first | (with_reducible refine wpList_load_whole Heaf.isRec rfl _ rfl gO (by with_unfolding_all exact rfl) _ _ (Heaf.len _) qO4.out ?_) | (with_reducible refine wpList_load_whole Heaf.isRec rfl _ rfl gM (by with_unfolding_all exact rfl) _ _ (Heaf.len _) qM4.out ?_) | (with_reducible refine wpList_put_cell 3 ⟨by kernel_rfl, by kernel_rfl⟩ rfl _ _ rfl gM 3 (by with_unfolding_all exact rfl) (.int .i64 (n3 : Int)) (by with_unfolding_all exact rfl) (by with_unfolding_all exact rfl) (by with_unfolding_all exact rfl) _ _ qM4.out _ (by with_unfolding_all exact rfl) ?_))
        intro w8 q8 x8 z8
        have M8 : Hid (Heaf.At w8 gM ⟨n0, n1, n2, n3⟩) := Lib.hid x8
        have O8 : Hid (Heaf.At w8 gO Heaf.zero) := Lib.hid (grown_far qO4.out q8 (by have := N_O_M.out; omega))
        have U8 : Hid (RgR w8 g ⟨ad.block, ad.off + 1, none⟩ (cap - 1) l (hd4 b) gM) := Lib.hid (qU4.out.far q8 (by omega))
        have B8 := Lib.hid (qB4.out.grown q8 qB4.out.size (fun k hk => by injection hk with hk; have := M_M.out; omega))
        clear q8 x8 z8 qM4 qO4 qU4 qB4
        clear U8
        clear r1 r2 r3
        go_wp2_with (first | (with_reducible refine wpList_load_whole Heaf.isRec rfl _ rfl gO (by with_unfolding_all exact rfl) _ _ (Heaf.len _) O8.out ?_) | (with_reducible refine wpList_load_whole Heaf.isRec rfl _ rfl gM (by with_unfolding_all exact rfl) _ _ (Heaf.len _) M8.out ?_))
        refine ((CR w8).out).mono ?_
        rintro e9 w9 ⟨rfl, b9⟩
        have O9 : Hid (Heaf.At w9 gO Heaf.zero) := Lib.hid (Whole.below O8.out b9 O8.out.lt)
        have M9 : Hid (Heaf.At w9 gM ⟨n0, n1, n2, n3⟩) := Lib.hid (Whole.below M8.out b9 M8.out.lt)
        have B9 := Lib.hid (B8.out.trans (b9.mono B8.out.size))
        clear b9 O8 M8 B8
        clear CR
        cases q with
        | false =>
          have HF : Hid (X = 11) := Lib.hid HX3.out
          have HG : Hid (Y = Head.zero) := Lib.hid (by rw [HY.out, HF.out, if_neg (by decide)])
          clear HX3 HY
          go_wp2_with (first | (with_reducible refine wpList_load_whole Heaf.isRec rfl _ rfl gO (by with_unfolding_all exact rfl) _ _ (Heaf.len _) O9.out ?_) | (with_reducible refine wpList_load_whole Heaf.isRec rfl _ rfl gM (by with_unfolding_all exact rfl) _ _ (Heaf.len _) M9.out ?_) | (with_reducible refine wpList_store_whole rfl 32 _ _ rfl gO (Heaf.enc Heaf.zero).toArray (by with_unfolding_all exact rfl) (by with_unfolding_all exact rfl) _ _ O9.out (Heaf.size _) rfl (Heaf.one _) ?_))
          intro w10 q10 x10 z10
          have O10 : Hid (Heaf.At w10 gO Heaf.zero) := Lib.hid x10
          have M10 : Hid (Heaf.At w10 gM ⟨n0, n1, n2, n3⟩) := Lib.hid (grown_far M9.out q10 (by have := N_O_M.out; omega))
          have B10 := Lib.hid (B9.out.grown q10 B9.out.size (fun k hk => by injection hk with hk; have := M_O.out; omega))
          clear q10 x10 z10 O9 M9 B9
          go_wp2
          exact bodyPost_ret (results_rec_tmp Heaf.isRec rfl _ _ _ _ _ rfl rfl O10.out) rfl ⟨by rw [HF.out, HG.out]; rfl, B10.out⟩
        | true =>
          have HF : Hid (X = 0) := Lib.hid HX3.out
          have HG : Hid (Y = ⟨n0, n1, n2, n3⟩) := Lib.hid (by rw [HY.out, HF.out, if_pos rfl])
          clear HX3 HY
          go_wp2_with (first | (with_reducible refine wpList_load_whole Heaf.isRec rfl _ rfl gO (by with_unfolding_all exact rfl) _ _ (Heaf.len _) O9.out ?_) | (with_reducible refine wpList_load_whole Heaf.isRec rfl _ rfl gM (by with_unfolding_all exact rfl) _ _ (Heaf.len _) M9.out ?_) | (with_reducible refine wpList_store_whole rfl 32 _ _ rfl gO (Heaf.enc ⟨n0, n1, n2, n3⟩).toArray (by with_unfolding_all exact rfl) (by with_unfolding_all exact rfl) _ _ O9.out (Heaf.size _) rfl (Heaf.one _) ?_))
          intro w10 q10 x10 z10
          have O10 : Hid (Heaf.At w10 gO ⟨n0, n1, n2, n3⟩) := Lib.hid x10
          have M10 : Hid (Heaf.At w10 gM ⟨n0, n1, n2, n3⟩) := Lib.hid (grown_far M9.out q10 (by have := N_O_M.out; omega))
          have B10 := Lib.hid (B9.out.grown q10 B9.out.size (fun k hk => by injection hk with hk; have := M_O.out; omega))
          clear q10 x10 z10 O9 M9 B9
          go_wp2
          exact bodyPost_ret (results_rec_tmp Heaf.isRec rfl _ _ _ _ _ rfl rfl O10.out) rfl ⟨by rw [HF.out, HG.out]; rfl, B10.out⟩
  · have HF : Hid (X = 13) := Lib.hid (by rw [HX.out, if_pos h0])
    have HG : Hid (Y = Head.zero) := Lib.hid (by rw [HY.out, HF.out, if_neg (by decide)])
    have e1 : (k == 3) = false := by simpa using h0
    have e2 : (k != 3) = true := by simpa using h0
    clear HX HY h0 CR
    go_wp2_with (first | (with_reducible refine wpList_load_whole Heaf.isRec rfl _ rfl gO (by with_unfolding_all exact rfl) _ _ (Heaf.len _) O2.out ?_) | (with_reducible refine wpList_store_whole rfl 32 _ _ rfl gO (Heaf.enc Heaf.zero).toArray (by with_unfolding_all exact rfl) (by with_unfolding_all exact rfl) _ _ O2.out (Heaf.size _) rfl (Heaf.one _) ?_))
    intro w3 q3 x3 z3
    have O3 : Hid (Heaf.At w3 gO Heaf.zero) := Lib.hid x3
    have B3 := Lib.hid (B2.out.grown q3 B2.out.size (fun k hk => by injection hk with hk; have := M_O.out; omega))
    clear q3 x3 z3 O2 B2
    go_wp2
    exact bodyPost_ret (results_rec_tmp Heaf.isRec rfl _ _ _ _ _ rfl rfl O3.out) rfl ⟨by rw [HF.out, HG.out]; rfl, B3.out⟩
end Go.Proofs.YtmnhpkdldeifgaaGreatDoor

namespace Go.Proofs.YtmnhpkdldeifgaaGreatDoor
set_option maxRecDepth 100000
open Go.RowKit

theorem byte_step (x : UInt32) (hx : x.toNat < 16777216) (c : UInt8) : (x <<< 8 ||| c.toUInt32).toNat = x.toNat * 256 + c.toNat := by
  have hc := c.toNat_lt
  have e : (x <<< 8).toNat = x.toNat <<< 8 := by
    simp only [UInt32.toNat_shiftLeft, UInt32.reduceToNat, Nat.reduceMod]
    rw [Nat.mod_eq_of_lt]
    rw [Nat.shiftLeft_eq]
    omega
  rw [UInt32.toNat_or, e, UInt8.toNat_toUInt32, ← Nat.shiftLeft_add_eq_or_of_lt (by omega), Nat.shiftLeft_eq]
theorem num_word (a b c d : UInt8) : a.toUInt32 * 16777216 + b.toUInt32 * 65536 + c.toUInt32 * 256 + d.toUInt32 = word4 [a, b, c, d] := by
  have ha := a.toNat_lt
  have hb := b.toNat_lt
  have hc := c.toNat_lt
  have hd := d.toNat_lt
  apply UInt32.toNat_inj.1
  have s0 := byte_step 0 (by decide) a
  have s1 := byte_step ((0 : UInt32) <<< 8 ||| a.toUInt32) (by rw [s0]; simp; omega) b
  have s2 := byte_step (((0 : UInt32) <<< 8 ||| a.toUInt32) <<< 8 ||| b.toUInt32) (by rw [s1, s0]; simp; omega) c
  have s3 := byte_step ((((0 : UInt32) <<< 8 ||| a.toUInt32) <<< 8 ||| b.toUInt32) <<< 8 ||| c.toUInt32) (by rw [s2, s1, s0]; simp; omega) d
  have e : word4 [a, b, c, d] = ((((0 : UInt32) <<< 8 ||| a.toUInt32) <<< 8 ||| b.toUInt32) <<< 8 ||| c.toUInt32) <<< 8 ||| d.toUInt32 := rfl
  rw [e, s3, s2, s1, s0]
  simp
  omega

set_option maxRecDepth 100000 in
set_option maxHeartbeats 1000000 in
theorem number_any (b off cap : Nat) (c0 c1 c2 c3 : UInt8) (w : World) (k0 : w.cell? ⟨b, off, none⟩ = some (.int .u8 (c0.toNat : Int))) (k1 : w.cell? ⟨b, off + 1, none⟩ = some (.int .u8 (c1.toNat : Int)))
    (k2 : w.cell? ⟨b, off + 2, none⟩ = some (.int .u8 (c2.toNat : Int))) (k3 : w.cell? ⟨b, off + 3, none⟩ = some (.int .u8 (c3.toNat : Int))) :
    Calls Tryz.prog 110 #[.slice (some ⟨b, off, none⟩) 4 cap] w fun e w' => e = .returned (wd (word4 [c0, c1, c2, c3])) ∧ w'.heap = w.heap ∧ Below w.heap.size w w' := by
  obtain ⟨r1, -, -, -, -⟩ := rules_w
  have m24 := run_mul 16777216 (by decide) 16777216 rfl
  have m16 := run_mul 65536 (by decide) 65536 rfl
  have m8 := run_mul 256 (by decide) 256 rfl
  have HW := Lib.hid (num_word c0 c1 c2 c3)
  have bw : ∀ c : UInt8, Value.int .u32 (IntKind.u32.wrap (c.toNat : Int)) = wd c.toUInt32 := fun c => by
    have := c.toNat_lt
    rw [IntWalk.u32_in _ (by omega)]
    exact byte_wd c
  have K0 := Lib.hid k0
  have K1 := Lib.hid k1
  have K2 := Lib.hid k2
  have K3 := Lib.hid k3
  clear k0 k1 k2 k3
  go_enter Tryz.func110, Tryz.ntmps110
  go_wp2_with fail
  refine still_all (by kernel_rfl) (by kernel_rfl) fun w1 h1 b1 => ?_
  have k0 : w1.cell? ⟨b, off, none⟩ = some (.int .u8 (c0.toNat : Int)) := (World.cell?_of_block (by rw [h1])).trans K0.out
  have k1 : w1.cell? ⟨b, off + 1, none⟩ = some (.int .u8 (c1.toNat : Int)) := (World.cell?_of_block (by rw [h1])).trans K1.out
  have k2 : w1.cell? ⟨b, off + 2, none⟩ = some (.int .u8 (c2.toNat : Int)) := (World.cell?_of_block (by rw [h1])).trans K2.out
  have k3 : w1.cell? ⟨b, off + 3, none⟩ = some (.int .u8 (c3.toNat : Int)) := (World.cell?_of_block (by rw [h1])).trans K3.out
  repeat still_step
  refine wpStill_nil ?_
  have H1 := Lib.hid h1
  have B1 := Lib.hid b1
  clear h1 b1 k0 k1 k2 k3
  go_wp2
  go_ret
  exact ⟨congrArg (fun z => Ending.returned (wd z)) HW.out, H1.out, B1.out⟩

set_option maxRecDepth 100000 in
theorem refStart_any (w : World) : Calls Tryz.prog 101 #[] w fun e w' => ∃ v, e = .returned v ∧ WordsAt w' v start ∧ Below w.heap.size w w' := by
  go_enter Tryz.func101, Tryz.ntmps101
  go_wp2
  go_ret
  exact ⟨_, rfl, WordsAt.whole (Whole.new w 57 (wv start)), (Below.refl _ _).alloc (Nat.le_refl _) _⟩
set_option maxRecDepth 100000 in
theorem refConst_any (w : World) : Calls Tryz.prog 112 #[] w fun e w' => ∃ v, e = .returned v ∧ WordsAt w' v kt ∧ Below w.heap.size w w' := by
  go_enter Tryz.func112, Tryz.ntmps112
  go_wp2
  go_ret
  exact ⟨_, rfl, WordsAt.whole (Whole.new w 57 (wv kt)), (Below.refl _ _).alloc (Nat.le_refl _) _⟩
end Go.Proofs.YtmnhpkdldeifgaaGreatDoor
