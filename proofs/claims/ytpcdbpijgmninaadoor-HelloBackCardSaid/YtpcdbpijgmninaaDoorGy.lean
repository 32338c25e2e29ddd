/- Package hello, as landed: what is signed, Greet, Answer, Checks, Agrees. -/
import Derived.Test.YtpcdbpijgmninaaDoorGo
import Derived.Test.YtpcdbpijgmninaaDoorGr
import Derived.Test.YtpcdbpijgmninaaDoorGx
namespace Go.Proofs.YtpcdbpijgmninaaDoor
set_option maxRecDepth 100000
open Go.RowKit

set_option maxRecDepth 100000 in
set_option maxHeartbeats 1000000 in
theorem heSignedHello_any (x : Hel) (w : World) (hd : x.dest.length ≤ 140737488355328) (hn : x.entry.name.length ≤ 140737488355328) (ht : x.entry.tag.length ≤ 140737488355328) :
    Calls Tryd.prog 34 #[x.val] w fun e w' => ∃ v', e = .returned v' ∧ BytesAt w' v' (greetT x.dest x.nonce x.entry) ∧ Below w.heap.size w w' := by
  have HD := Lib.hid hd
  have HN := Lib.hid hn
  have HT := Lib.hid ht
  have HG : Hid (greetT x.dest x.nonce x.entry = helloHead ++ greetP x.dest x.nonce x.entry) := Lib.hid rfl
  clear hd hn ht
  go_enter Tryd.func34, Tryd.ntmps34
  go_wp2_with (refine wpList_box_row rfl 26 _ rfl x.enc.toArray (by with_unfolding_all exact rfl) ?_)
  intro w1 b1 x1 z1
  obtain ⟨gX, hgX⟩ : ∃ g, g = w.heap.size := ⟨_, rfl⟩
  have M_X := Lib.hid (show w.heap.size ≤ gX from by rw [hgX]; exact Nat.le_refl _)
  have B1 := Lib.hid b1
  rw [← hgX] at x1 ⊢
  have X1 : Hid (Hel.At w1 gX x) := Lib.hid x1
  clear b1 x1 z1 hgX 
  have rc := hello_conv w1
  have yl := hello_lit w1
  have bl : Below w1.heap.size w1 (w1.alloc (.cells #[.int .u8 99, .int .u8 97, .int .u8 114, .int .u8 99, .int .u8 97, .int .u8 110, .int .u8 101, .int .u8 116, .int .u8 32, .int .u8 104, .int .u8 101, .int .u8 108, .int .u8 108, .int .u8 111] 5 (14, 15))) := (Below.refl _ _).alloc (Nat.le_refl _) _
  have XL : Hid (Hel.At (w1.alloc (.cells #[.int .u8 99, .int .u8 97, .int .u8 114, .int .u8 99, .int .u8 97, .int .u8 110, .int .u8 101, .int .u8 116, .int .u8 32, .int .u8 104, .int .u8 101, .int .u8 108, .int .u8 108, .int .u8 111] 5 (14, 15))) gX x) := Lib.hid (Whole.below X1.out bl X1.out.lt)
  have HR : RowIn (w1.alloc (.cells #[.int .u8 99, .int .u8 97, .int .u8 114, .int .u8 99, .int .u8 97, .int .u8 110, .int .u8 101, .int .u8 116, .int .u8 32, .int .u8 104, .int .u8 101, .int .u8 108, .int .u8 108, .int .u8 111] 5 (14, 15))) w1.heap.size (.slice (some ⟨w1.heap.size, 0, none⟩) 14 14) helloHead := .inr ⟨_, rfl, Nat.le_refl _, by simp, yl⟩
  have C := heGreeting_any w1.heap.size _ helloHead x (w1.alloc (.cells #[.int .u8 99, .int .u8 97, .int .u8 114, .int .u8 99, .int .u8 97, .int .u8 110, .int .u8 101, .int .u8 116, .int .u8 32, .int .u8 104, .int .u8 101, .int .u8 108, .int .u8 108, .int .u8 111] 5 (14, 15))) HR bl.size (by decide) HD.out HN.out HT.out
  rw [← HG.out] at C
  have C := Lib.hid C
  have HL := Lib.hid HR.lt
  have BL := Lib.hid (B1.out.trans (bl.mono B1.out.size))
  have ZL := Lib.hid bl.size
  clear yl bl HR HG
  go_wp2_with (with_reducible refine wpList_load_whole Hel.isRec rfl _ rfl gX (by with_unfolding_all exact rfl) _ _ (Hel.len _) XL.out ?_)
  refine C.out.mono ?_
  rintro e w3 ⟨v3, rfl, o3, m3⟩
  have B3 := Lib.hid (BL.out.trans ((m3.keeps.below (fun i hi => (HL.out i hi).1) ZL.out).mono B1.out.size))
  have Y3 := Lib.hid (BytesAt.of_own o3)
  clear o3 m3 C XL BL rc
  go_wp2
  go_ret
  exact ⟨_, rfl, Y3.out, B3.out⟩

set_option maxRecDepth 100000 in
set_option maxHeartbeats 1000000 in
theorem heSignedWelcome_any (x : Wel) (a : Ent) (w : World) (hn : x.entry.name.length ≤ 140737488355328) (ht : x.entry.tag.length ≤ 140737488355328) (kn : a.name.length ≤ 140737488355328) (kt : a.tag.length ≤ 140737488355328) :
    Calls Tryd.prog 35 #[x.val, a.val] w fun e w' => ∃ v', e = .returned v' ∧ BytesAt w' v' (welcT x.fst x.snd a x.entry) ∧ Below w.heap.size w w' := by
  have HN := Lib.hid hn
  have HT := Lib.hid ht
  have KN := Lib.hid kn
  have KT := Lib.hid kt
  have TA := Lib.hid (textE_most a)
  have HG : Hid (welcT x.fst x.snd a x.entry = welcomeHead ++ be 8 x.fst ++ be 8 x.snd ++ textE a ++ textE x.entry) := Lib.hid rfl
  clear hn ht kn kt
  go_enter Tryd.func35, Tryd.ntmps35
  go_wp2_with (refine wpList_box_row rfl 28 _ rfl x.enc.toArray (by with_unfolding_all exact rfl) ?_)
  intro w1 b1 x1 z1
  obtain ⟨gX, hgX⟩ : ∃ g, g = w.heap.size := ⟨_, rfl⟩
  have M_X := Lib.hid (show w.heap.size ≤ gX from by rw [hgX]; exact Nat.le_refl _)
  have B1 := Lib.hid b1
  rw [← hgX] at x1 ⊢
  have X1 : Hid (Wel.At w1 gX x) := Lib.hid x1
  clear b1 x1 z1 hgX 
  go_wp2_with (first | (with_reducible refine wpList_load_whole Wel.isRec rfl _ rfl gX (by with_unfolding_all exact rfl) _ _ (Wel.len _) X1.out ?_) | (with_reducible refine wpList_load_rec Ent.isRec rfl _ rfl gX 2 (by with_unfolding_all exact rfl) _ (Ent.len _) (Wel.At.part_entry X1.out) ?_) | (refine wpList_box_row rfl 24 _ rfl a.enc.toArray (by with_unfolding_all exact rfl) ?_))
  intro w2 b2 x2 z2
  obtain ⟨gE, hgE⟩ : ∃ g, g = w1.heap.size := ⟨_, rfl⟩
  have N_X_E := Lib.hid (show gX < gE from by rw [hgE]; exact X1.out.lt)
  have M_E := Lib.hid (show w.heap.size ≤ gE from by rw [hgE]; exact B1.out.size)
  have X2 : Hid (Wel.At w2 gX x) := Lib.hid (Whole.below X1.out b2 X1.out.lt)
  have B2 := Lib.hid (B1.out.trans (b2.mono B1.out.size))
  rw [← hgE] at x2 ⊢
  have E2 : Hid (Ent.At w2 gE a) := Lib.hid x2
  clear b2 x2 z2 hgE X1 B1
  have rc := welcome_conv w2
  have yl := welcome_lit w2
  have bl : Below w2.heap.size w2 (w2.alloc (.cells #[.int .u8 99, .int .u8 97, .int .u8 114, .int .u8 99, .int .u8 97, .int .u8 110, .int .u8 101, .int .u8 116, .int .u8 32, .int .u8 119, .int .u8 101, .int .u8 108, .int .u8 99, .int .u8 111, .int .u8 109, .int .u8 101] 5 (16, 17))) := (Below.refl _ _).alloc (Nat.le_refl _) _
  have XL : Hid (Wel.At (w2.alloc (.cells #[.int .u8 99, .int .u8 97, .int .u8 114, .int .u8 99, .int .u8 97, .int .u8 110, .int .u8 101, .int .u8 116, .int .u8 32, .int .u8 119, .int .u8 101, .int .u8 108, .int .u8 99, .int .u8 111, .int .u8 109, .int .u8 101] 5 (16, 17))) gX x) := Lib.hid (Whole.below X2.out bl X2.out.lt)
  have EL : Hid (Ent.At (w2.alloc (.cells #[.int .u8 99, .int .u8 97, .int .u8 114, .int .u8 99, .int .u8 97, .int .u8 110, .int .u8 101, .int .u8 116, .int .u8 32, .int .u8 119, .int .u8 101, .int .u8 108, .int .u8 99, .int .u8 111, .int .u8 109, .int .u8 101] 5 (16, 17))) gE a) := Lib.hid (Whole.below E2.out bl E2.out.lt)
  have HR : RowIn (w2.alloc (.cells #[.int .u8 99, .int .u8 97, .int .u8 114, .int .u8 99, .int .u8 97, .int .u8 110, .int .u8 101, .int .u8 116, .int .u8 32, .int .u8 119, .int .u8 101, .int .u8 108, .int .u8 99, .int .u8 111, .int .u8 109, .int .u8 101] 5 (16, 17))) w2.heap.size (.slice (some ⟨w2.heap.size, 0, none⟩) 16 16) welcomeHead := .inr ⟨_, rfl, Nat.le_refl _, by simp, yl⟩
  have C := Lib.hid (heNonces_any w2.heap.size _ welcomeHead x (w2.alloc (.cells #[.int .u8 99, .int .u8 97, .int .u8 114, .int .u8 99, .int .u8 97, .int .u8 110, .int .u8 101, .int .u8 116, .int .u8 32, .int .u8 119, .int .u8 101, .int .u8 108, .int .u8 99, .int .u8 111, .int .u8 109, .int .u8 101] 5 (16, 17))) HR bl.size (by decide))
  have HL := Lib.hid HR.lt
  have BL := Lib.hid (B2.out.trans (bl.mono B2.out.size))
  have ZL := Lib.hid bl.size
  have ZX := Lib.hid X2.out.lt
  have ZE := Lib.hid E2.out.lt
  clear yl bl HR
  go_wp2_with (with_reducible refine wpList_load_whole Wel.isRec rfl _ rfl gX (by with_unfolding_all exact rfl) _ _ (Wel.len _) XL.out ?_)
  refine C.out.mono ?_
  rintro e w3 ⟨v3, rfl, o3, m3⟩
  have D3 := Lib.hid (m3.keeps.below (fun i hi => (HL.out i hi).1) ZL.out)
  have B3 := Lib.hid (BL.out.trans (D3.out.mono B2.out.size))
  have X3 : Hid (Wel.At w3 gX x) := Lib.hid (Whole.below XL.out D3.out ZX.out)
  have E3 : Hid (Ent.At w3 gE a) := Lib.hid (Whole.below EL.out D3.out ZE.out)
  have O3 := Lib.hid o3
  have Z3 := Lib.hid (Nat.le_trans ZL.out D3.out.size)
  clear o3 m3 C XL EL BL rc D3 ZL
  have C := Lib.hid (heEntry_any w2.heap.size v3 (welcomeHead ++ be 8 x.fst ++ be 8 x.snd) a w3 O3.out Z3.out (by simp [be_length, welcomeHead]) KN.out KT.out)
  go_wp2_with (first | (with_reducible refine wpList_load_whole Ent.isRec rfl _ rfl gE (by with_unfolding_all exact rfl) _ _ (Ent.len _) E3.out ?_))
  refine C.out.mono ?_
  rintro e w4 ⟨v4, rfl, o4, m4⟩
  have D4 := Lib.hid (m4.keeps.below (fun i hi => (O3.out.lt i hi).1) Z3.out)
  have B4 := Lib.hid (B3.out.trans (D4.out.mono B2.out.size))
  have X4 : Hid (Wel.At w4 gX x) := Lib.hid (Whole.below X3.out D4.out ZX.out)
  have O4 := Lib.hid o4
  have Z4 := Lib.hid (Nat.le_trans Z3.out D4.out.size)
  clear o4 m4 C X3 E3 B3 D4 O3
  have C := heEntry_any w2.heap.size v4 (welcomeHead ++ be 8 x.fst ++ be 8 x.snd ++ textE a) x.entry w4 O4.out Z4.out (by have := TA.out; simp only [List.length_append, be_length, welcomeHead, List.length_cons, List.length_nil]; omega) HN.out HT.out
  rw [← HG.out] at C
  have C := Lib.hid C
  go_wp2_with (with_reducible refine wpList_load_rec Ent.isRec rfl _ rfl gX 2 (by with_unfolding_all exact rfl) _ (Ent.len _) (Wel.At.part_entry X4.out) ?_)
  refine C.out.mono ?_
  rintro e w5 ⟨v5, rfl, o5, m5⟩
  have D5 := Lib.hid (m5.keeps.below (fun i hi => (O4.out.lt i hi).1) Z4.out)
  have B5 := Lib.hid (B4.out.trans (D5.out.mono B2.out.size))
  have Y5 := Lib.hid (BytesAt.of_own o5)
  clear o5 m5 C X4 B4 D5 O4
  go_wp2
  go_ret
  exact ⟨_, rfl, Y5.out, B5.out⟩

set_option maxRecDepth 100000 in
set_option maxHeartbeats 1000000 in
theorem heGreet_any (k d : List UInt8) (n : Nat) (a : Ent) (w : World) (hk : k.length ≤ 5000) (hd : d.length ≤ 300) (hn : a.name.length ≤ 140737488355328) (ht : a.tag.length ≤ 140737488355328) (T : Tab w) :
    Calls Tryd.prog 10 #[.string ⟨k.toArray⟩, .string ⟨d.toArray⟩, .int .u64 (n : Int), a.val] w fun e w' => e = .returned (greetH k d n a).val ∧ Below w.heap.size w w' := by
  have T0 := Lib.hid T
  have HK := Lib.hid hk
  have LG := Lib.hid (show (greetT d n a).length ≤ 90000 by
    rw [greetT, List.length_append]
    have := greetP_most d n a hd
    have : helloHead.length = 14 := rfl
    omega)
  have CS := fun m w => Lib.hid (heSignedHello_any ⟨d, n, a, m⟩ w (Nat.le_trans hd (by decide)) hn ht)
  simp only at CS
  have HG : Hid (greetH k d n a = ⟨d, n, a, macL k (greetT d n a)⟩) := Lib.hid rfl
  generalize greetT d n a = G at *
  generalize greetH k d n a = R at *
  clear T hk hd hn ht
  go_enter Tryd.func10, Tryd.ntmps10
  go_wp2_with (refine wpList_box_row rfl 24 _ rfl a.enc.toArray (by with_unfolding_all exact rfl) ?_)
  intro w1 b1 x1 z1
  obtain ⟨gE, hgE⟩ : ∃ g, g = w.heap.size := ⟨_, rfl⟩
  have M_E := Lib.hid (show w.heap.size ≤ gE from by rw [hgE]; exact Nat.le_refl _)
  have B1 := Lib.hid b1
  rw [← hgE] at x1 ⊢
  have E1 : Hid (Ent.At w1 gE a) := Lib.hid x1
  clear b1 x1 z1 hgE 
  go_wp2_with (first | (with_reducible refine wpList_load_whole Ent.isRec rfl _ rfl gE (by with_unfolding_all exact rfl) _ _ (Ent.len _) E1.out ?_) | (refine wpList_alloc_row rfl 26 rfl Hel.zero.enc.toArray Hel.zero_is ?_))
  intro w2 b2 x2 z2
  obtain ⟨gR, hgR⟩ : ∃ g, g = w1.heap.size := ⟨_, rfl⟩
  have N_E_R := Lib.hid (show gE < gR from by rw [hgR]; exact E1.out.lt)
  have M_R := Lib.hid (show w.heap.size ≤ gR from by rw [hgR]; exact B1.out.size)
  have E2 : Hid (Ent.At w2 gE a) := Lib.hid (Whole.below E1.out b2 E1.out.lt)
  have B2 := Lib.hid (B1.out.trans (b2.mono B1.out.size))
  rw [← hgR] at x2 ⊢
  have R2 : Hid (Hel.At w2 gR Hel.zero) := Lib.hid x2
  clear b2 x2 z2 hgR E1 B1
  go_wp2_with (first | (with_reducible refine wpList_load_whole Ent.isRec rfl _ rfl gE (by with_unfolding_all exact rfl) _ _ (Ent.len _) E2.out ?_) | (with_reducible refine wpList_load_whole Hel.isRec rfl _ rfl gR (by with_unfolding_all exact rfl) _ _ (Hel.len _) R2.out ?_) | (with_reducible refine wpList_load_rec Ent.isRec rfl _ rfl gR 2 (by with_unfolding_all exact rfl) _ (Ent.len _) (Hel.At.part_entry R2.out) ?_) | (refine wpList_alloc_row rfl 26 rfl Hel.zero.enc.toArray Hel.zero_is ?_) | (with_reducible refine wpList_build_rec rfl 26 _ rfl #[(0, .string ⟨d.toArray⟩), (1, .int .u64 (n : Int)), (2, a.val)] (by with_unfolding_all exact rfl) (Hel.enc ⟨d, n, a, []⟩).toArray (by kernel_rfl) ?_))
  intro w3 b3 x3 z3
  obtain ⟨gH, hgH⟩ : ∃ g, g = w2.heap.size := ⟨_, rfl⟩
  have N_E_H := Lib.hid (show gE < gH from by rw [hgH]; exact E2.out.lt)
  have N_R_H := Lib.hid (show gR < gH from by rw [hgH]; exact R2.out.lt)
  have M_H := Lib.hid (show w.heap.size ≤ gH from by rw [hgH]; exact B2.out.size)
  have E3 : Hid (Ent.At w3 gE a) := Lib.hid (Whole.below E2.out b3 E2.out.lt)
  have R3 : Hid (Hel.At w3 gR Hel.zero) := Lib.hid (Whole.below R2.out b3 R2.out.lt)
  have B3 := Lib.hid (B2.out.trans (b3.mono B2.out.size))
  rw [← hgH] at x3 ⊢
  have H3 : Hid (Hel.At w3 gH Hel.zero) := Lib.hid x3
  clear b3 x3 z3 hgH E2 R2 B2
  go_wp2_with (first | (with_reducible refine wpList_load_whole Ent.isRec rfl _ rfl gE (by with_unfolding_all exact rfl) _ _ (Ent.len _) E3.out ?_) | (with_reducible refine wpList_load_whole Hel.isRec rfl _ rfl gR (by with_unfolding_all exact rfl) _ _ (Hel.len _) R3.out ?_) | (with_reducible refine wpList_load_rec Ent.isRec rfl _ rfl gR 2 (by with_unfolding_all exact rfl) _ (Ent.len _) (Hel.At.part_entry R3.out) ?_) | (with_reducible refine wpList_load_whole Hel.isRec rfl _ rfl gH (by with_unfolding_all exact rfl) _ _ (Hel.len _) H3.out ?_) | (with_reducible refine wpList_load_rec Ent.isRec rfl _ rfl gH 2 (by with_unfolding_all exact rfl) _ (Ent.len _) (Hel.At.part_entry H3.out) ?_) | (with_reducible refine wpList_store_whole rfl 26 _ _ rfl gH (Hel.enc ⟨d, n, a, []⟩).toArray (by with_unfolding_all exact rfl) (by with_unfolding_all exact rfl) _ _ H3.out (Hel.size _) rfl (Hel.one _) ?_))
  intro w4 q4 x4 z4
  have H4 : Hid (Hel.At w4 gH ⟨d, n, a, []⟩) := Lib.hid x4
  have E4 : Hid (Ent.At w4 gE a) := Lib.hid (grown_far E3.out q4 (by have := N_E_H.out; omega))
  have R4 : Hid (Hel.At w4 gR Hel.zero) := Lib.hid (grown_far R3.out q4 (by have := N_R_H.out; omega))
  have B4 := Lib.hid (B3.out.grown q4 B3.out.size (fun k hk => by injection hk with hk; have := M_H.out; omega))
  clear q4 x4 z4 H3 E3 R3 B3
  obtain ⟨vK, w5, rK, y5, b5⟩ := conv_str w4 ⟨(k).toArray⟩
  have E5 : Hid (Ent.At w5 gE a) := Lib.hid (Whole.below E4.out b5 E4.out.lt)
  have R5 : Hid (Hel.At w5 gR Hel.zero) := Lib.hid (Whole.below R4.out b5 R4.out.lt)
  have H5 : Hid (Hel.At w5 gH ⟨d, n, a, []⟩) := Lib.hid (Whole.below H4.out b5 H4.out.lt)
  have B5 := Lib.hid (B4.out.trans (b5.mono B4.out.size))
  have K5 : Hid (BytesAt w5 vK (k)) := Lib.hid (by simpa using y5)
  clear b5 y5 E4 R4 H4 B4
  go_wp2_with (first | (with_reducible refine wpList_load_whole Ent.isRec rfl _ rfl gE (by with_unfolding_all exact rfl) _ _ (Ent.len _) E5.out ?_) | (with_reducible refine wpList_load_whole Hel.isRec rfl _ rfl gR (by with_unfolding_all exact rfl) _ _ (Hel.len _) R5.out ?_) | (with_reducible refine wpList_load_rec Ent.isRec rfl _ rfl gR 2 (by with_unfolding_all exact rfl) _ (Ent.len _) (Hel.At.part_entry R5.out) ?_) | (with_reducible refine wpList_load_whole Hel.isRec rfl _ rfl gH (by with_unfolding_all exact rfl) _ _ (Hel.len _) H5.out ?_) | (with_reducible refine wpList_load_rec Ent.isRec rfl _ rfl gH 2 (by with_unfolding_all exact rfl) _ (Ent.len _) (Hel.At.part_entry H5.out) ?_))
  refine ((CS [] w5).out).mono ?_
  rintro e6 w6 ⟨v6, rfl, y6, b6⟩
  have E6 : Hid (Ent.At w6 gE a) := Lib.hid (Whole.below E5.out b6 E5.out.lt)
  have R6 : Hid (Hel.At w6 gR Hel.zero) := Lib.hid (Whole.below R5.out b6 R5.out.lt)
  have H6 : Hid (Hel.At w6 gH ⟨d, n, a, []⟩) := Lib.hid (Whole.below H5.out b6 H5.out.lt)
  have K6 : Hid (BytesAt w6 vK (k)) := Lib.hid (K5.out.below b6)
  have B6 := Lib.hid (B5.out.trans (b6.mono B5.out.size))
  have Y6 : Hid (BytesAt w6 v6 G) := Lib.hid y6
  clear b6 E5 R5 H5 K5 B5 y6
  go_wp2_with (first | (with_reducible refine wpList_load_whole Ent.isRec rfl _ rfl gE (by with_unfolding_all exact rfl) _ _ (Ent.len _) E6.out ?_) | (with_reducible refine wpList_load_whole Hel.isRec rfl _ rfl gR (by with_unfolding_all exact rfl) _ _ (Hel.len _) R6.out ?_) | (with_reducible refine wpList_load_rec Ent.isRec rfl _ rfl gR 2 (by with_unfolding_all exact rfl) _ (Ent.len _) (Hel.At.part_entry R6.out) ?_) | (with_reducible refine wpList_load_whole Hel.isRec rfl _ rfl gH (by with_unfolding_all exact rfl) _ _ (Hel.len _) H6.out ?_) | (with_reducible refine wpList_load_rec Ent.isRec rfl _ rfl gH 2 (by with_unfolding_all exact rfl) _ (Ent.len _) (Hel.At.part_entry H6.out) ?_))
  refine ((mac_any vK v6 k G w6 K6.out Y6.out HK.out LG.out (T0.out.below B6.out T0.out.pos))).mono ?_
  rintro e7 w7 ⟨v7, rfl, y7, b7⟩
  have E7 : Hid (Ent.At w7 gE a) := Lib.hid (Whole.below E6.out b7 E6.out.lt)
  have R7 : Hid (Hel.At w7 gR Hel.zero) := Lib.hid (Whole.below R6.out b7 R6.out.lt)
  have H7 : Hid (Hel.At w7 gH ⟨d, n, a, []⟩) := Lib.hid (Whole.below H6.out b7 H6.out.lt)
  have K7 : Hid (BytesAt w7 vK (k)) := Lib.hid (K6.out.below b7)
  have Y7 : Hid (BytesAt w7 v6 G) := Lib.hid (Y6.out.below b7)
  have B7 := Lib.hid (B6.out.trans (b7.mono B6.out.size))
  have M7 : Hid (BytesAt w7 v7 (macL k G)) := Lib.hid y7
  clear b7 E6 R6 H6 K6 Y6 B6 y7
  have rm := conv_bytes M7.out
  clear rK
  clear K7 Y7 M7
  go_wp2_with (first | (with_reducible refine wpList_load_whole Ent.isRec rfl _ rfl gE (by with_unfolding_all exact rfl) _ _ (Ent.len _) E7.out ?_) | (with_reducible refine wpList_load_whole Hel.isRec rfl _ rfl gR (by with_unfolding_all exact rfl) _ _ (Hel.len _) R7.out ?_) | (with_reducible refine wpList_load_rec Ent.isRec rfl _ rfl gR 2 (by with_unfolding_all exact rfl) _ (Ent.len _) (Hel.At.part_entry R7.out) ?_) | (with_reducible refine wpList_load_whole Hel.isRec rfl _ rfl gH (by with_unfolding_all exact rfl) _ _ (Hel.len _) H7.out ?_) | (with_reducible refine wpList_load_rec Ent.isRec rfl _ rfl gH 2 (by with_unfolding_all exact rfl) _ (Ent.len _) (Hel.At.part_entry H7.out) ?_) | (with_reducible refine wpList_put_cell 9 ⟨by kernel_rfl, by kernel_rfl⟩ rfl _ _ rfl gH 8 (by with_unfolding_all exact rfl) (.string ⟨(macL k G).toArray⟩) (by with_unfolding_all exact rfl) (by with_unfolding_all exact rfl) (by with_unfolding_all exact rfl) _ _ H7.out _ (by with_unfolding_all exact rfl) ?_))
  intro w8 q8 x8 z8
  have H8 : Hid (Hel.At w8 gH ⟨d, n, a, macL k G⟩) := Lib.hid x8
  have E8 : Hid (Ent.At w8 gE a) := Lib.hid (grown_far E7.out q8 (by have := N_E_H.out; omega))
  have R8 : Hid (Hel.At w8 gR Hel.zero) := Lib.hid (grown_far R7.out q8 (by have := N_R_H.out; omega))
  have B8 := Lib.hid (B7.out.grown q8 B7.out.size (fun k hk => by injection hk with hk; have := M_H.out; omega))
  clear q8 x8 z8 H7 E7 R7 B7
  clear rm
  go_wp2_with (first | (with_reducible refine wpList_load_whole Ent.isRec rfl _ rfl gE (by with_unfolding_all exact rfl) _ _ (Ent.len _) E8.out ?_) | (with_reducible refine wpList_load_whole Hel.isRec rfl _ rfl gR (by with_unfolding_all exact rfl) _ _ (Hel.len _) R8.out ?_) | (with_reducible refine wpList_load_rec Ent.isRec rfl _ rfl gR 2 (by with_unfolding_all exact rfl) _ (Ent.len _) (Hel.At.part_entry R8.out) ?_) | (with_reducible refine wpList_load_whole Hel.isRec rfl _ rfl gH (by with_unfolding_all exact rfl) _ _ (Hel.len _) H8.out ?_) | (with_reducible refine wpList_load_rec Ent.isRec rfl _ rfl gH 2 (by with_unfolding_all exact rfl) _ (Ent.len _) (Hel.At.part_entry H8.out) ?_) | (with_reducible refine wpList_store_whole rfl 26 _ _ rfl gR (Hel.enc ⟨d, n, a, macL k G⟩).toArray (by with_unfolding_all exact rfl) (by with_unfolding_all exact rfl) _ _ R8.out (Hel.size _) rfl (Hel.one _) ?_))
  intro w9 q9 x9 z9
  have R9 : Hid (Hel.At w9 gR ⟨d, n, a, macL k G⟩) := Lib.hid x9
  have E9 : Hid (Ent.At w9 gE a) := Lib.hid (grown_far E8.out q9 (by have := N_E_R.out; omega))
  have H9 : Hid (Hel.At w9 gH ⟨d, n, a, macL k G⟩) := Lib.hid (grown_far H8.out q9 (by have := N_R_H.out; omega))
  have B9 := Lib.hid (B8.out.grown q9 B8.out.size (fun k hk => by injection hk with hk; have := M_R.out; omega))
  clear q9 x9 z9 R8 E8 H8 B8
  go_wp2
  rw [HG.out]
  exact bodyPost_ret (results_rec Hel.isRec rfl _ _ _ _ _ rfl rfl R9.out) rfl ⟨rfl, B9.out⟩

set_option maxRecDepth 100000 in
set_option maxHeartbeats 1000000 in
theorem heAnswer_any (k : List UInt8) (x : Hel) (s : Nat) (b : Ent) (w : World) (hk : k.length ≤ 5000) (hn : x.entry.name.length ≤ 1000) (ht : x.entry.tag.length ≤ 1000) (kn : b.name.length ≤ 1000) (kt : b.tag.length ≤ 1000) (T : Tab w) :
    Calls Tryd.prog 11 #[.string ⟨k.toArray⟩, x.val, .int .u64 (s : Int), b.val] w fun e w' => e = .returned (answerW k x s b).val ∧ Below w.heap.size w w' := by
  have T0 := Lib.hid T
  have HK := Lib.hid hk
  have LG := Lib.hid (Nat.le_trans (welcT_less x.nonce s x.entry b hn ht kn kt) (by decide : 4076 ≤ 90000))
  have CS := fun m w => Lib.hid (heSignedWelcome_any ⟨x.nonce, s, b, m⟩ x.entry w (Nat.le_trans kn (by decide)) (Nat.le_trans kt (by decide)) (Nat.le_trans hn (by decide)) (Nat.le_trans ht (by decide)))
  simp only at CS
  have HG : Hid (answerW k x s b = ⟨x.nonce, s, b, macL k (welcT x.nonce s x.entry b)⟩) := Lib.hid rfl
  generalize welcT x.nonce s x.entry b = G at *
  generalize answerW k x s b = R at *
  clear T hk hn ht kn kt
  go_enter Tryd.func11, Tryd.ntmps11
  go_wp2_with (refine wpList_box_row rfl 26 _ rfl x.enc.toArray (by with_unfolding_all exact rfl) ?_)
  intro w1 b1 x1 z1
  obtain ⟨gX, hgX⟩ : ∃ g, g = w.heap.size := ⟨_, rfl⟩
  have M_X := Lib.hid (show w.heap.size ≤ gX from by rw [hgX]; exact Nat.le_refl _)
  have B1 := Lib.hid b1
  rw [← hgX] at x1 ⊢
  have X1 : Hid (Hel.At w1 gX x) := Lib.hid x1
  clear b1 x1 z1 hgX 
  go_wp2_with (first | (with_reducible refine wpList_load_whole Hel.isRec rfl _ rfl gX (by with_unfolding_all exact rfl) _ _ (Hel.len _) X1.out ?_) | (with_reducible refine wpList_load_rec Ent.isRec rfl _ rfl gX 2 (by with_unfolding_all exact rfl) _ (Ent.len _) (Hel.At.part_entry X1.out) ?_) | (refine wpList_box_row rfl 24 _ rfl b.enc.toArray (by with_unfolding_all exact rfl) ?_))
  intro w2 b2 x2 z2
  obtain ⟨gE, hgE⟩ : ∃ g, g = w1.heap.size := ⟨_, rfl⟩
  have N_X_E := Lib.hid (show gX < gE from by rw [hgE]; exact X1.out.lt)
  have M_E := Lib.hid (show w.heap.size ≤ gE from by rw [hgE]; exact B1.out.size)
  have X2 : Hid (Hel.At w2 gX x) := Lib.hid (Whole.below X1.out b2 X1.out.lt)
  have B2 := Lib.hid (B1.out.trans (b2.mono B1.out.size))
  rw [← hgE] at x2 ⊢
  have E2 : Hid (Ent.At w2 gE b) := Lib.hid x2
  clear b2 x2 z2 hgE X1 B1
  go_wp2_with (first | (with_reducible refine wpList_load_whole Hel.isRec rfl _ rfl gX (by with_unfolding_all exact rfl) _ _ (Hel.len _) X2.out ?_) | (with_reducible refine wpList_load_rec Ent.isRec rfl _ rfl gX 2 (by with_unfolding_all exact rfl) _ (Ent.len _) (Hel.At.part_entry X2.out) ?_) | (with_reducible refine wpList_load_whole Ent.isRec rfl _ rfl gE (by with_unfolding_all exact rfl) _ _ (Ent.len _) E2.out ?_) | (refine wpList_alloc_row rfl 28 rfl Wel.zero.enc.toArray Wel.zero_is ?_))
  intro w3 b3 x3 z3
  obtain ⟨gR, hgR⟩ : ∃ g, g = w2.heap.size := ⟨_, rfl⟩
  have N_X_R := Lib.hid (show gX < gR from by rw [hgR]; exact X2.out.lt)
  have N_E_R := Lib.hid (show gE < gR from by rw [hgR]; exact E2.out.lt)
  have M_R := Lib.hid (show w.heap.size ≤ gR from by rw [hgR]; exact B2.out.size)
  have X3 : Hid (Hel.At w3 gX x) := Lib.hid (Whole.below X2.out b3 X2.out.lt)
  have E3 : Hid (Ent.At w3 gE b) := Lib.hid (Whole.below E2.out b3 E2.out.lt)
  have B3 := Lib.hid (B2.out.trans (b3.mono B2.out.size))
  rw [← hgR] at x3 ⊢
  have R3 : Hid (Wel.At w3 gR Wel.zero) := Lib.hid x3
  clear b3 x3 z3 hgR X2 E2 B2
  have cn := Hel.At.at_nonce X3.out
  go_wp2_with (first | (with_reducible refine wpList_load_whole Hel.isRec rfl _ rfl gX (by with_unfolding_all exact rfl) _ _ (Hel.len _) X3.out ?_) | (with_reducible refine wpList_load_rec Ent.isRec rfl _ rfl gX 2 (by with_unfolding_all exact rfl) _ (Ent.len _) (Hel.At.part_entry X3.out) ?_) | (with_reducible refine wpList_load_whole Ent.isRec rfl _ rfl gE (by with_unfolding_all exact rfl) _ _ (Ent.len _) E3.out ?_) | (with_reducible refine wpList_load_whole Wel.isRec rfl _ rfl gR (by with_unfolding_all exact rfl) _ _ (Wel.len _) R3.out ?_) | (with_reducible refine wpList_load_rec Ent.isRec rfl _ rfl gR 2 (by with_unfolding_all exact rfl) _ (Ent.len _) (Wel.At.part_entry R3.out) ?_) | (refine wpList_alloc_row rfl 28 rfl Wel.zero.enc.toArray Wel.zero_is ?_) | (with_reducible refine wpList_build_rec rfl 28 _ rfl #[(0, .int .u64 (x.nonce : Int)), (1, .int .u64 (s : Int)), (2, b.val)] (by with_unfolding_all exact rfl) (Wel.enc ⟨x.nonce, s, b, []⟩).toArray (by kernel_rfl) ?_))
  intro w4 b4 x4 z4
  obtain ⟨gH, hgH⟩ : ∃ g, g = w3.heap.size := ⟨_, rfl⟩
  have N_X_H := Lib.hid (show gX < gH from by rw [hgH]; exact X3.out.lt)
  have N_E_H := Lib.hid (show gE < gH from by rw [hgH]; exact E3.out.lt)
  have N_R_H := Lib.hid (show gR < gH from by rw [hgH]; exact R3.out.lt)
  have M_H := Lib.hid (show w.heap.size ≤ gH from by rw [hgH]; exact B3.out.size)
  have X4 : Hid (Hel.At w4 gX x) := Lib.hid (Whole.below X3.out b4 X3.out.lt)
  have E4 : Hid (Ent.At w4 gE b) := Lib.hid (Whole.below E3.out b4 E3.out.lt)
  have R4 : Hid (Wel.At w4 gR Wel.zero) := Lib.hid (Whole.below R3.out b4 R3.out.lt)
  have B4 := Lib.hid (B3.out.trans (b4.mono B3.out.size))
  rw [← hgH] at x4 ⊢
  have H4 : Hid (Wel.At w4 gH Wel.zero) := Lib.hid x4
  clear b4 x4 z4 hgH X3 E3 R3 B3
  clear cn
  go_wp2_with (first | (with_reducible refine wpList_load_whole Hel.isRec rfl _ rfl gX (by with_unfolding_all exact rfl) _ _ (Hel.len _) X4.out ?_) | (with_reducible refine wpList_load_rec Ent.isRec rfl _ rfl gX 2 (by with_unfolding_all exact rfl) _ (Ent.len _) (Hel.At.part_entry X4.out) ?_) | (with_reducible refine wpList_load_whole Ent.isRec rfl _ rfl gE (by with_unfolding_all exact rfl) _ _ (Ent.len _) E4.out ?_) | (with_reducible refine wpList_load_whole Wel.isRec rfl _ rfl gR (by with_unfolding_all exact rfl) _ _ (Wel.len _) R4.out ?_) | (with_reducible refine wpList_load_rec Ent.isRec rfl _ rfl gR 2 (by with_unfolding_all exact rfl) _ (Ent.len _) (Wel.At.part_entry R4.out) ?_) | (with_reducible refine wpList_load_whole Wel.isRec rfl _ rfl gH (by with_unfolding_all exact rfl) _ _ (Wel.len _) H4.out ?_) | (with_reducible refine wpList_load_rec Ent.isRec rfl _ rfl gH 2 (by with_unfolding_all exact rfl) _ (Ent.len _) (Wel.At.part_entry H4.out) ?_) | (with_reducible refine wpList_store_whole rfl 28 _ _ rfl gH (Wel.enc ⟨x.nonce, s, b, []⟩).toArray (by with_unfolding_all exact rfl) (by with_unfolding_all exact rfl) _ _ H4.out (Wel.size _) rfl (Wel.one _) ?_))
  intro w5 q5 x5 z5
  have H5 : Hid (Wel.At w5 gH ⟨x.nonce, s, b, []⟩) := Lib.hid x5
  have X5 : Hid (Hel.At w5 gX x) := Lib.hid (grown_far X4.out q5 (by have := N_X_H.out; omega))
  have E5 : Hid (Ent.At w5 gE b) := Lib.hid (grown_far E4.out q5 (by have := N_E_H.out; omega))
  have R5 : Hid (Wel.At w5 gR Wel.zero) := Lib.hid (grown_far R4.out q5 (by have := N_R_H.out; omega))
  have B5 := Lib.hid (B4.out.grown q5 B4.out.size (fun k hk => by injection hk with hk; have := M_H.out; omega))
  clear q5 x5 z5 H4 X4 E4 R4 B4
  obtain ⟨vK, w6, rK, y6, b6⟩ := conv_str w5 ⟨(k).toArray⟩
  have X6 : Hid (Hel.At w6 gX x) := Lib.hid (Whole.below X5.out b6 X5.out.lt)
  have E6 : Hid (Ent.At w6 gE b) := Lib.hid (Whole.below E5.out b6 E5.out.lt)
  have R6 : Hid (Wel.At w6 gR Wel.zero) := Lib.hid (Whole.below R5.out b6 R5.out.lt)
  have H6 : Hid (Wel.At w6 gH ⟨x.nonce, s, b, []⟩) := Lib.hid (Whole.below H5.out b6 H5.out.lt)
  have B6 := Lib.hid (B5.out.trans (b6.mono B5.out.size))
  have K6 : Hid (BytesAt w6 vK (k)) := Lib.hid (by simpa using y6)
  clear b6 y6 X5 E5 R5 H5 B5
  go_wp2_with (first | (with_reducible refine wpList_load_whole Hel.isRec rfl _ rfl gX (by with_unfolding_all exact rfl) _ _ (Hel.len _) X6.out ?_) | (with_reducible refine wpList_load_rec Ent.isRec rfl _ rfl gX 2 (by with_unfolding_all exact rfl) _ (Ent.len _) (Hel.At.part_entry X6.out) ?_) | (with_reducible refine wpList_load_whole Ent.isRec rfl _ rfl gE (by with_unfolding_all exact rfl) _ _ (Ent.len _) E6.out ?_) | (with_reducible refine wpList_load_whole Wel.isRec rfl _ rfl gR (by with_unfolding_all exact rfl) _ _ (Wel.len _) R6.out ?_) | (with_reducible refine wpList_load_rec Ent.isRec rfl _ rfl gR 2 (by with_unfolding_all exact rfl) _ (Ent.len _) (Wel.At.part_entry R6.out) ?_) | (with_reducible refine wpList_load_whole Wel.isRec rfl _ rfl gH (by with_unfolding_all exact rfl) _ _ (Wel.len _) H6.out ?_) | (with_reducible refine wpList_load_rec Ent.isRec rfl _ rfl gH 2 (by with_unfolding_all exact rfl) _ (Ent.len _) (Wel.At.part_entry H6.out) ?_))
  refine ((CS [] w6).out).mono ?_
  rintro e7 w7 ⟨v6, rfl, y6, b7⟩
  have X7 : Hid (Hel.At w7 gX x) := Lib.hid (Whole.below X6.out b7 X6.out.lt)
  have E7 : Hid (Ent.At w7 gE b) := Lib.hid (Whole.below E6.out b7 E6.out.lt)
  have R7 : Hid (Wel.At w7 gR Wel.zero) := Lib.hid (Whole.below R6.out b7 R6.out.lt)
  have H7 : Hid (Wel.At w7 gH ⟨x.nonce, s, b, []⟩) := Lib.hid (Whole.below H6.out b7 H6.out.lt)
  have K7 : Hid (BytesAt w7 vK (k)) := Lib.hid (K6.out.below b7)
  have B7 := Lib.hid (B6.out.trans (b7.mono B6.out.size))
  have Y7 : Hid (BytesAt w7 v6 G) := Lib.hid y6
  clear b7 X6 E6 R6 H6 K6 B6 y6
  go_wp2_with (first | (with_reducible refine wpList_load_whole Hel.isRec rfl _ rfl gX (by with_unfolding_all exact rfl) _ _ (Hel.len _) X7.out ?_) | (with_reducible refine wpList_load_rec Ent.isRec rfl _ rfl gX 2 (by with_unfolding_all exact rfl) _ (Ent.len _) (Hel.At.part_entry X7.out) ?_) | (with_reducible refine wpList_load_whole Ent.isRec rfl _ rfl gE (by with_unfolding_all exact rfl) _ _ (Ent.len _) E7.out ?_) | (with_reducible refine wpList_load_whole Wel.isRec rfl _ rfl gR (by with_unfolding_all exact rfl) _ _ (Wel.len _) R7.out ?_) | (with_reducible refine wpList_load_rec Ent.isRec rfl _ rfl gR 2 (by with_unfolding_all exact rfl) _ (Ent.len _) (Wel.At.part_entry R7.out) ?_) | (with_reducible refine wpList_load_whole Wel.isRec rfl _ rfl gH (by with_unfolding_all exact rfl) _ _ (Wel.len _) H7.out ?_) | (with_reducible refine wpList_load_rec Ent.isRec rfl _ rfl gH 2 (by with_unfolding_all exact rfl) _ (Ent.len _) (Wel.At.part_entry H7.out) ?_))
  refine ((mac_any vK v6 k G w7 K7.out Y7.out HK.out LG.out (T0.out.below B7.out T0.out.pos))).mono ?_
  rintro e8 w8 ⟨v7, rfl, y7, b8⟩
  have X8 : Hid (Hel.At w8 gX x) := Lib.hid (Whole.below X7.out b8 X7.out.lt)
  have E8 : Hid (Ent.At w8 gE b) := Lib.hid (Whole.below E7.out b8 E7.out.lt)
  have R8 : Hid (Wel.At w8 gR Wel.zero) := Lib.hid (Whole.below R7.out b8 R7.out.lt)
  have H8 : Hid (Wel.At w8 gH ⟨x.nonce, s, b, []⟩) := Lib.hid (Whole.below H7.out b8 H7.out.lt)
  have K8 : Hid (BytesAt w8 vK (k)) := Lib.hid (K7.out.below b8)
  have Y8 : Hid (BytesAt w8 v6 G) := Lib.hid (Y7.out.below b8)
  have B8 := Lib.hid (B7.out.trans (b8.mono B7.out.size))
  have M8 : Hid (BytesAt w8 v7 (macL k G)) := Lib.hid y7
  clear b8 X7 E7 R7 H7 K7 Y7 B7 y7
  have rm := conv_bytes M8.out
  clear rK
  clear K8 Y8 M8
  go_wp2_with (first | (with_reducible refine wpList_load_whole Hel.isRec rfl _ rfl gX (by with_unfolding_all exact rfl) _ _ (Hel.len _) X8.out ?_) | (with_reducible refine wpList_load_rec Ent.isRec rfl _ rfl gX 2 (by with_unfolding_all exact rfl) _ (Ent.len _) (Hel.At.part_entry X8.out) ?_) | (with_reducible refine wpList_load_whole Ent.isRec rfl _ rfl gE (by with_unfolding_all exact rfl) _ _ (Ent.len _) E8.out ?_) | (with_reducible refine wpList_load_whole Wel.isRec rfl _ rfl gR (by with_unfolding_all exact rfl) _ _ (Wel.len _) R8.out ?_) | (with_reducible refine wpList_load_rec Ent.isRec rfl _ rfl gR 2 (by with_unfolding_all exact rfl) _ (Ent.len _) (Wel.At.part_entry R8.out) ?_) | (with_reducible refine wpList_load_whole Wel.isRec rfl _ rfl gH (by with_unfolding_all exact rfl) _ _ (Wel.len _) H8.out ?_) | (with_reducible refine wpList_load_rec Ent.isRec rfl _ rfl gH 2 (by with_unfolding_all exact rfl) _ (Ent.len _) (Wel.At.part_entry H8.out) ?_) | (with_reducible refine wpList_put_cell 9 ⟨by kernel_rfl, by kernel_rfl⟩ rfl _ _ rfl gH 8 (by with_unfolding_all exact rfl) (.string ⟨(macL k G).toArray⟩) (by with_unfolding_all exact rfl) (by with_unfolding_all exact rfl) (by with_unfolding_all exact rfl) _ _ H8.out _ (by with_unfolding_all exact rfl) ?_))
  intro w9 q9 x9 z9
  have H9 : Hid (Wel.At w9 gH ⟨x.nonce, s, b, macL k G⟩) := Lib.hid x9
  have X9 : Hid (Hel.At w9 gX x) := Lib.hid (grown_far X8.out q9 (by have := N_X_H.out; omega))
  have E9 : Hid (Ent.At w9 gE b) := Lib.hid (grown_far E8.out q9 (by have := N_E_H.out; omega))
  have R9 : Hid (Wel.At w9 gR Wel.zero) := Lib.hid (grown_far R8.out q9 (by have := N_R_H.out; omega))
  have B9 := Lib.hid (B8.out.grown q9 B8.out.size (fun k hk => by injection hk with hk; have := M_H.out; omega))
  clear q9 x9 z9 H8 X8 E8 R8 B8
  clear rm
  go_wp2_with (first | (with_reducible refine wpList_load_whole Hel.isRec rfl _ rfl gX (by with_unfolding_all exact rfl) _ _ (Hel.len _) X9.out ?_) | (with_reducible refine wpList_load_rec Ent.isRec rfl _ rfl gX 2 (by with_unfolding_all exact rfl) _ (Ent.len _) (Hel.At.part_entry X9.out) ?_) | (with_reducible refine wpList_load_whole Ent.isRec rfl _ rfl gE (by with_unfolding_all exact rfl) _ _ (Ent.len _) E9.out ?_) | (with_reducible refine wpList_load_whole Wel.isRec rfl _ rfl gR (by with_unfolding_all exact rfl) _ _ (Wel.len _) R9.out ?_) | (with_reducible refine wpList_load_rec Ent.isRec rfl _ rfl gR 2 (by with_unfolding_all exact rfl) _ (Ent.len _) (Wel.At.part_entry R9.out) ?_) | (with_reducible refine wpList_load_whole Wel.isRec rfl _ rfl gH (by with_unfolding_all exact rfl) _ _ (Wel.len _) H9.out ?_) | (with_reducible refine wpList_load_rec Ent.isRec rfl _ rfl gH 2 (by with_unfolding_all exact rfl) _ (Ent.len _) (Wel.At.part_entry H9.out) ?_) | (with_reducible refine wpList_store_whole rfl 28 _ _ rfl gR (Wel.enc ⟨x.nonce, s, b, macL k G⟩).toArray (by with_unfolding_all exact rfl) (by with_unfolding_all exact rfl) _ _ R9.out (Wel.size _) rfl (Wel.one _) ?_))
  intro w10 q10 x10 z10
  have R10 : Hid (Wel.At w10 gR ⟨x.nonce, s, b, macL k G⟩) := Lib.hid x10
  have X10 : Hid (Hel.At w10 gX x) := Lib.hid (grown_far X9.out q10 (by have := N_X_R.out; omega))
  have E10 : Hid (Ent.At w10 gE b) := Lib.hid (grown_far E9.out q10 (by have := N_E_R.out; omega))
  have H10 : Hid (Wel.At w10 gH ⟨x.nonce, s, b, macL k G⟩) := Lib.hid (grown_far H9.out q10 (by have := N_R_H.out; omega))
  have B10 := Lib.hid (B9.out.grown q10 B9.out.size (fun k hk => by injection hk with hk; have := M_R.out; omega))
  clear q10 x10 z10 R9 X9 E9 H9 B9
  go_wp2
  rw [HG.out]
  exact bodyPost_ret (results_rec Wel.isRec rfl _ _ _ _ _ rfl rfl R10.out) rfl ⟨rfl, B10.out⟩

set_option maxRecDepth 100000 in
set_option maxHeartbeats 2000000 in
theorem heChecks_any (k : List UInt8) (x : Hel) (w : World) (hk : k.length ≤ 5000) (hd : x.dest.length ≤ 300) (hn : x.entry.name.length ≤ 1000) (ht : x.entry.tag.length ≤ 1000) (hg : x.tag.length ≤ 1000) (T : Tab w) :
    Calls Tryd.prog 14 #[.string ⟨k.toArray⟩, x.val] w fun e w' => e = .returned (.bool (checksB k x)) ∧ Below w.heap.size w w' := by
  have T0 := Lib.hid T
  have HK := Lib.hid hk
  have LT := Lib.hid (Nat.le_trans hg (by decide : 1000 ≤ 1000000))
  have LG := Lib.hid (show (greetT x.dest x.nonce x.entry).length ≤ 90000 by
    rw [greetT, List.length_append]
    have := greetP_most x.dest x.nonce x.entry hd
    have : helloHead.length = 14 := rfl
    omega)
  have CS := fun w => Lib.hid (heSignedHello_any x w (Nat.le_trans hd (by decide)) (Nat.le_trans hn (by decide)) (Nat.le_trans ht (by decide)))
  have HG : Hid (checksB k x = decide (macL k (greetT x.dest x.nonce x.entry) = x.tag)) := Lib.hid rfl
  generalize greetT x.dest x.nonce x.entry = G at *
  generalize checksB k x = R at *
  clear T hk hd hn ht hg
  go_enter Tryd.func14, Tryd.ntmps14
  go_wp2_with (refine wpList_box_row rfl 26 _ rfl x.enc.toArray (by with_unfolding_all exact rfl) ?_)
  intro w1 b1 x1 z1
  obtain ⟨gX, hgX⟩ : ∃ g, g = w.heap.size := ⟨_, rfl⟩
  have M_X := Lib.hid (show w.heap.size ≤ gX from by rw [hgX]; exact Nat.le_refl _)
  have B1 := Lib.hid b1
  rw [← hgX] at x1 ⊢
  have X1 : Hid (Hel.At w1 gX x) := Lib.hid x1
  clear b1 x1 z1 hgX 
  go_wp2_with (first | (with_reducible refine wpList_load_whole Hel.isRec rfl _ rfl gX (by with_unfolding_all exact rfl) _ _ (Hel.len _) X1.out ?_) | (with_reducible refine wpList_load_rec Ent.isRec rfl _ rfl gX 2 (by with_unfolding_all exact rfl) _ (Ent.len _) (Hel.At.part_entry X1.out) ?_))
  refine regS_begin (From w1) (by kernel_rfl) (Below.refl _ _).drew ?_
  have b2 : Below w1.heap.size w1 w1.drew := (Below.refl _ _).drew
  generalize w1.drew = w2 at b2 ⊢
  have X2 : Hid (Hel.At w2 gX x) := Lib.hid (Whole.below X1.out b2 X1.out.lt)
  have B2 := Lib.hid (B1.out.trans (b2.mono B1.out.size))
  have HS2 : Hid (From w1 w2) := Lib.hid b2
  clear b2
  refine regS_take (i := 0) (v := ?_) rfl (by kernel_rfl) (by kernel_rfl) (by kernel_rfl) (fun _ _ _ h => h) (by rfl) HS2.out ?hy0 ?_
  case hy0 => intro w' hw'; go_simp; (try with_reducible rfl)
  simp only [Act.put, List.setIfInBounds_toArray, List.set_cons_zero, List.set_cons_succ]
  refine regS_take (i := 2) (v := Hel.val (x)) rfl (by kernel_rfl) (by kernel_rfl) (by kernel_rfl) (fun _ _ _ h => h) (by rfl) HS2.out ?hy2 ?_
  case hy2 => intro w' hw'; exact exec_load_whole Hel.isRec _ rfl gX rfl _ _ (Hel.len _) w' (Whole.below X1.out hw' X1.out.lt)
  simp only [Act.put, List.setIfInBounds_toArray, List.set_cons_zero, List.set_cons_succ]
  refine regS_take (i := 4) (v := ?_) rfl (by kernel_rfl) (by kernel_rfl) (by kernel_rfl) (fun _ _ _ h => h) (by rfl) HS2.out ?hy4 ?_
  case hy4 => intro w' hw'; go_simp; (try with_reducible rfl)
  simp only [Act.put, List.setIfInBounds_toArray, List.set_cons_zero, List.set_cons_succ]
  refine regS_take (i := 5) (v := (.string ⟨(x).tag.toArray⟩)) rfl (by kernel_rfl) (by kernel_rfl) (by kernel_rfl) (fun _ _ _ h => h) (by rfl) HS2.out ?hy5 ?_
  case hy5 => intro w' hw'; have c := Hel.At.at_tag (Whole.below X1.out hw' X1.out.lt); go_simp; (try with_reducible rfl)
  simp only [Act.put, List.setIfInBounds_toArray, List.set_cons_zero, List.set_cons_succ]
  refine regS_three (i := 1) (j := 3) (k := 6) rfl rfl rfl (by kernel_rfl) (fun K' hK => ?_) (fun K' hK => ?_) (fun K' hK => ?_)
  · obtain ⟨vK, w3, r3, y3, b3⟩ := conv_str w2 ⟨(k).toArray⟩
    go_simp
    have X3 : Hid (Hel.At w3 gX x) := Lib.hid (Whole.below X2.out b3 X2.out.lt)
    have B3 := Lib.hid (B2.out.trans (b3.mono B2.out.size))
    have HS3 : Hid (From w1 w3) := Lib.hid (HS2.out.trans (b3.mono HS2.out.size))
    clear b3
    have K3 : Hid (BytesAt w3 vK (k)) := Lib.hid (by simpa using y3)
    clear y3 r3
    refine hK.out _ _ HS3.out ?_
    clear hK K' X2 B2 HS2
    refine regS_two (i := 3) (j := 6) rfl rfl (by kernel_rfl) (fun K' hK => ?_) (fun K' hK => ?_)
    · go_simp
      refine ((CS w3).out).mono ?_
      rintro e4 w4 ⟨v8, rfl, y8, b4⟩
      have X4 : Hid (Hel.At w4 gX x) := Lib.hid (Whole.below X3.out b4 X3.out.lt)
      have K4 : Hid (BytesAt w4 vK (k)) := Lib.hid (K3.out.below b4)
      have B4 := Lib.hid (B3.out.trans (b4.mono B3.out.size))
      have HS4 : Hid (From w1 w4) := Lib.hid (HS3.out.trans (b4.mono HS3.out.size))
      clear b4
      have Y4 : Hid (BytesAt w4 v8 G) := Lib.hid y8
      refine hK.out _ _ HS4.out ?_
      clear hK K' X3 K3 B3 HS3 y8
      refine regS_do (i := 6) rfl (by kernel_rfl) (fun K' hK => ?_)
      obtain ⟨vV, w5, r5, y5, b5⟩ := conv_str w4 ⟨(x.tag).toArray⟩
      go_simp
      have X5 : Hid (Hel.At w5 gX x) := Lib.hid (Whole.below X4.out b5 X4.out.lt)
      have K5 : Hid (BytesAt w5 vK (k)) := Lib.hid (K4.out.below b5)
      have Y5 : Hid (BytesAt w5 v8 G) := Lib.hid (Y4.out.below b5)
      have B5 := Lib.hid (B4.out.trans (b5.mono B4.out.size))
      have HS5 : Hid (From w1 w5) := Lib.hid (HS4.out.trans (b5.mono HS4.out.size))
      clear b5
      have V5 : Hid (BytesAt w5 vV (x.tag)) := Lib.hid (by simpa using y5)
      clear y5 r5
      refine hK.out _ _ HS5.out ?_
      clear hK K' X4 K4 Y4 B4 HS4
      refine regS_do (i := 7) rfl (by kernel_rfl) (fun K' hK => ?_)
      go_simp
      refine (check_any vK v8 vV k G x.tag w5 K5.out Y5.out V5.out HK.out LG.out LT.out (T0.out.below B5.out T0.out.pos)).mono ?_
      rintro e6 w6 ⟨rfl, b6⟩
      have X6 : Hid (Hel.At w6 gX x) := Lib.hid (Whole.below X5.out b6 X5.out.lt)
      have K6 : Hid (BytesAt w6 vK (k)) := Lib.hid (K5.out.below b6)
      have Y6 : Hid (BytesAt w6 v8 G) := Lib.hid (Y5.out.below b6)
      have V6 : Hid (BytesAt w6 vV (x.tag)) := Lib.hid (V5.out.below b6)
      have B6 := Lib.hid (B5.out.trans (b6.mono B5.out.size))
      have HS6 : Hid (From w1 w6) := Lib.hid (HS5.out.trans (b6.mono HS5.out.size))
      clear b6
      refine hK.out _ _ HS6.out ?_
      clear hK K' X5 K5 Y5 V5 B5 HS5
      refine regS_take (i := 8) (v := ?_) rfl (by kernel_rfl) (by kernel_rfl) (by kernel_rfl) (fun _ _ _ h => h) (by rfl) HS6.out ?hy8 ?_
      case hy8 => intro w' hw'; go_simp; (try with_reducible rfl)
      simp only [Act.put, List.setIfInBounds_toArray, List.set_cons_zero, List.set_cons_succ]
      refine regS_end (by kernel_rfl) ?_
      clear HS6 X1
      rw [← HG.out]
      go_wp2
      go_ret
      exact ⟨rfl, B6.out⟩
    · obtain ⟨vV, w4, r4, y4, b4⟩ := conv_str w3 ⟨(x.tag).toArray⟩
      go_simp
      have X4 : Hid (Hel.At w4 gX x) := Lib.hid (Whole.below X3.out b4 X3.out.lt)
      have K4 : Hid (BytesAt w4 vK (k)) := Lib.hid (K3.out.below b4)
      have B4 := Lib.hid (B3.out.trans (b4.mono B3.out.size))
      have HS4 : Hid (From w1 w4) := Lib.hid (HS3.out.trans (b4.mono HS3.out.size))
      clear b4
      have V4 : Hid (BytesAt w4 vV (x.tag)) := Lib.hid (by simpa using y4)
      clear y4 r4
      refine hK.out _ _ HS4.out ?_
      clear hK K' X3 K3 B3 HS3
      refine regS_do (i := 3) rfl (by kernel_rfl) (fun K' hK => ?_)
      go_simp
      refine ((CS w4).out).mono ?_
      rintro e5 w5 ⟨v8, rfl, y8, b5⟩
      have X5 : Hid (Hel.At w5 gX x) := Lib.hid (Whole.below X4.out b5 X4.out.lt)
      have K5 : Hid (BytesAt w5 vK (k)) := Lib.hid (K4.out.below b5)
      have V5 : Hid (BytesAt w5 vV (x.tag)) := Lib.hid (V4.out.below b5)
      have B5 := Lib.hid (B4.out.trans (b5.mono B4.out.size))
      have HS5 : Hid (From w1 w5) := Lib.hid (HS4.out.trans (b5.mono HS4.out.size))
      clear b5
      have Y5 : Hid (BytesAt w5 v8 G) := Lib.hid y8
      refine hK.out _ _ HS5.out ?_
      clear hK K' X4 K4 V4 B4 HS4 y8
      refine regS_do (i := 7) rfl (by kernel_rfl) (fun K' hK => ?_)
      go_simp
      refine (check_any vK v8 vV k G x.tag w5 K5.out Y5.out V5.out HK.out LG.out LT.out (T0.out.below B5.out T0.out.pos)).mono ?_
      rintro e6 w6 ⟨rfl, b6⟩
      have X6 : Hid (Hel.At w6 gX x) := Lib.hid (Whole.below X5.out b6 X5.out.lt)
      have K6 : Hid (BytesAt w6 vK (k)) := Lib.hid (K5.out.below b6)
      have V6 : Hid (BytesAt w6 vV (x.tag)) := Lib.hid (V5.out.below b6)
      have Y6 : Hid (BytesAt w6 v8 G) := Lib.hid (Y5.out.below b6)
      have B6 := Lib.hid (B5.out.trans (b6.mono B5.out.size))
      have HS6 : Hid (From w1 w6) := Lib.hid (HS5.out.trans (b6.mono HS5.out.size))
      clear b6
      refine hK.out _ _ HS6.out ?_
      clear hK K' X5 K5 V5 Y5 B5 HS5
      refine regS_take (i := 8) (v := ?_) rfl (by kernel_rfl) (by kernel_rfl) (by kernel_rfl) (fun _ _ _ h => h) (by rfl) HS6.out ?hy8 ?_
      case hy8 => intro w' hw'; go_simp; (try with_reducible rfl)
      simp only [Act.put, List.setIfInBounds_toArray, List.set_cons_zero, List.set_cons_succ]
      refine regS_end (by kernel_rfl) ?_
      clear HS6 X1
      rw [← HG.out]
      go_wp2
      go_ret
      exact ⟨rfl, B6.out⟩
  · go_simp
    refine ((CS w2).out).mono ?_
    rintro e3 w3 ⟨v8, rfl, y8, b3⟩
    have X3 : Hid (Hel.At w3 gX x) := Lib.hid (Whole.below X2.out b3 X2.out.lt)
    have B3 := Lib.hid (B2.out.trans (b3.mono B2.out.size))
    have HS3 : Hid (From w1 w3) := Lib.hid (HS2.out.trans (b3.mono HS2.out.size))
    clear b3
    have Y3 : Hid (BytesAt w3 v8 G) := Lib.hid y8
    refine hK.out _ _ HS3.out ?_
    clear hK K' X2 B2 HS2 y8
    refine regS_two (i := 1) (j := 6) rfl rfl (by kernel_rfl) (fun K' hK => ?_) (fun K' hK => ?_)
    · obtain ⟨vK, w4, r4, y4, b4⟩ := conv_str w3 ⟨(k).toArray⟩
      go_simp
      have X4 : Hid (Hel.At w4 gX x) := Lib.hid (Whole.below X3.out b4 X3.out.lt)
      have Y4 : Hid (BytesAt w4 v8 G) := Lib.hid (Y3.out.below b4)
      have B4 := Lib.hid (B3.out.trans (b4.mono B3.out.size))
      have HS4 : Hid (From w1 w4) := Lib.hid (HS3.out.trans (b4.mono HS3.out.size))
      clear b4
      have K4 : Hid (BytesAt w4 vK (k)) := Lib.hid (by simpa using y4)
      clear y4 r4
      refine hK.out _ _ HS4.out ?_
      clear hK K' X3 Y3 B3 HS3
      refine regS_do (i := 6) rfl (by kernel_rfl) (fun K' hK => ?_)
      obtain ⟨vV, w5, r5, y5, b5⟩ := conv_str w4 ⟨(x.tag).toArray⟩
      go_simp
      have X5 : Hid (Hel.At w5 gX x) := Lib.hid (Whole.below X4.out b5 X4.out.lt)
      have Y5 : Hid (BytesAt w5 v8 G) := Lib.hid (Y4.out.below b5)
      have K5 : Hid (BytesAt w5 vK (k)) := Lib.hid (K4.out.below b5)
      have B5 := Lib.hid (B4.out.trans (b5.mono B4.out.size))
      have HS5 : Hid (From w1 w5) := Lib.hid (HS4.out.trans (b5.mono HS4.out.size))
      clear b5
      have V5 : Hid (BytesAt w5 vV (x.tag)) := Lib.hid (by simpa using y5)
      clear y5 r5
      refine hK.out _ _ HS5.out ?_
      clear hK K' X4 Y4 K4 B4 HS4
      refine regS_do (i := 7) rfl (by kernel_rfl) (fun K' hK => ?_)
      go_simp
      refine (check_any vK v8 vV k G x.tag w5 K5.out Y5.out V5.out HK.out LG.out LT.out (T0.out.below B5.out T0.out.pos)).mono ?_
      rintro e6 w6 ⟨rfl, b6⟩
      have X6 : Hid (Hel.At w6 gX x) := Lib.hid (Whole.below X5.out b6 X5.out.lt)
      have Y6 : Hid (BytesAt w6 v8 G) := Lib.hid (Y5.out.below b6)
      have K6 : Hid (BytesAt w6 vK (k)) := Lib.hid (K5.out.below b6)
      have V6 : Hid (BytesAt w6 vV (x.tag)) := Lib.hid (V5.out.below b6)
      have B6 := Lib.hid (B5.out.trans (b6.mono B5.out.size))
      have HS6 : Hid (From w1 w6) := Lib.hid (HS5.out.trans (b6.mono HS5.out.size))
      clear b6
      refine hK.out _ _ HS6.out ?_
      clear hK K' X5 Y5 K5 V5 B5 HS5
      refine regS_take (i := 8) (v := ?_) rfl (by kernel_rfl) (by kernel_rfl) (by kernel_rfl) (fun _ _ _ h => h) (by rfl) HS6.out ?hy8 ?_
      case hy8 => intro w' hw'; go_simp; (try with_reducible rfl)
      simp only [Act.put, List.setIfInBounds_toArray, List.set_cons_zero, List.set_cons_succ]
      refine regS_end (by kernel_rfl) ?_
      clear HS6 X1
      rw [← HG.out]
      go_wp2
      go_ret
      exact ⟨rfl, B6.out⟩
    · obtain ⟨vV, w4, r4, y4, b4⟩ := conv_str w3 ⟨(x.tag).toArray⟩
      go_simp
      have X4 : Hid (Hel.At w4 gX x) := Lib.hid (Whole.below X3.out b4 X3.out.lt)
      have Y4 : Hid (BytesAt w4 v8 G) := Lib.hid (Y3.out.below b4)
      have B4 := Lib.hid (B3.out.trans (b4.mono B3.out.size))
      have HS4 : Hid (From w1 w4) := Lib.hid (HS3.out.trans (b4.mono HS3.out.size))
      clear b4
      have V4 : Hid (BytesAt w4 vV (x.tag)) := Lib.hid (by simpa using y4)
      clear y4 r4
      refine hK.out _ _ HS4.out ?_
      clear hK K' X3 Y3 B3 HS3
      refine regS_do (i := 1) rfl (by kernel_rfl) (fun K' hK => ?_)
      obtain ⟨vK, w5, r5, y5, b5⟩ := conv_str w4 ⟨(k).toArray⟩
      go_simp
      have X5 : Hid (Hel.At w5 gX x) := Lib.hid (Whole.below X4.out b5 X4.out.lt)
      have Y5 : Hid (BytesAt w5 v8 G) := Lib.hid (Y4.out.below b5)
      have V5 : Hid (BytesAt w5 vV (x.tag)) := Lib.hid (V4.out.below b5)
      have B5 := Lib.hid (B4.out.trans (b5.mono B4.out.size))
      have HS5 : Hid (From w1 w5) := Lib.hid (HS4.out.trans (b5.mono HS4.out.size))
      clear b5
      have K5 : Hid (BytesAt w5 vK (k)) := Lib.hid (by simpa using y5)
      clear y5 r5
      refine hK.out _ _ HS5.out ?_
      clear hK K' X4 Y4 V4 B4 HS4
      refine regS_do (i := 7) rfl (by kernel_rfl) (fun K' hK => ?_)
      go_simp
      refine (check_any vK v8 vV k G x.tag w5 K5.out Y5.out V5.out HK.out LG.out LT.out (T0.out.below B5.out T0.out.pos)).mono ?_
      rintro e6 w6 ⟨rfl, b6⟩
      have X6 : Hid (Hel.At w6 gX x) := Lib.hid (Whole.below X5.out b6 X5.out.lt)
      have Y6 : Hid (BytesAt w6 v8 G) := Lib.hid (Y5.out.below b6)
      have V6 : Hid (BytesAt w6 vV (x.tag)) := Lib.hid (V5.out.below b6)
      have K6 : Hid (BytesAt w6 vK (k)) := Lib.hid (K5.out.below b6)
      have B6 := Lib.hid (B5.out.trans (b6.mono B5.out.size))
      have HS6 : Hid (From w1 w6) := Lib.hid (HS5.out.trans (b6.mono HS5.out.size))
      clear b6
      refine hK.out _ _ HS6.out ?_
      clear hK K' X5 Y5 V5 K5 B5 HS5
      refine regS_take (i := 8) (v := ?_) rfl (by kernel_rfl) (by kernel_rfl) (by kernel_rfl) (fun _ _ _ h => h) (by rfl) HS6.out ?hy8 ?_
      case hy8 => intro w' hw'; go_simp; (try with_reducible rfl)
      simp only [Act.put, List.setIfInBounds_toArray, List.set_cons_zero, List.set_cons_succ]
      refine regS_end (by kernel_rfl) ?_
      clear HS6 X1
      rw [← HG.out]
      go_wp2
      go_ret
      exact ⟨rfl, B6.out⟩
  · obtain ⟨vV, w3, r3, y3, b3⟩ := conv_str w2 ⟨(x.tag).toArray⟩
    go_simp
    have X3 : Hid (Hel.At w3 gX x) := Lib.hid (Whole.below X2.out b3 X2.out.lt)
    have B3 := Lib.hid (B2.out.trans (b3.mono B2.out.size))
    have HS3 : Hid (From w1 w3) := Lib.hid (HS2.out.trans (b3.mono HS2.out.size))
    clear b3
    have V3 : Hid (BytesAt w3 vV (x.tag)) := Lib.hid (by simpa using y3)
    clear y3 r3
    refine hK.out _ _ HS3.out ?_
    clear hK K' X2 B2 HS2
    refine regS_two (i := 1) (j := 3) rfl rfl (by kernel_rfl) (fun K' hK => ?_) (fun K' hK => ?_)
    · obtain ⟨vK, w4, r4, y4, b4⟩ := conv_str w3 ⟨(k).toArray⟩
      go_simp
      have X4 : Hid (Hel.At w4 gX x) := Lib.hid (Whole.below X3.out b4 X3.out.lt)
      have V4 : Hid (BytesAt w4 vV (x.tag)) := Lib.hid (V3.out.below b4)
      have B4 := Lib.hid (B3.out.trans (b4.mono B3.out.size))
      have HS4 : Hid (From w1 w4) := Lib.hid (HS3.out.trans (b4.mono HS3.out.size))
      clear b4
      have K4 : Hid (BytesAt w4 vK (k)) := Lib.hid (by simpa using y4)
      clear y4 r4
      refine hK.out _ _ HS4.out ?_
      clear hK K' X3 V3 B3 HS3
      refine regS_do (i := 3) rfl (by kernel_rfl) (fun K' hK => ?_)
      go_simp
      refine ((CS w4).out).mono ?_
      rintro e5 w5 ⟨v8, rfl, y8, b5⟩
      have X5 : Hid (Hel.At w5 gX x) := Lib.hid (Whole.below X4.out b5 X4.out.lt)
      have V5 : Hid (BytesAt w5 vV (x.tag)) := Lib.hid (V4.out.below b5)
      have K5 : Hid (BytesAt w5 vK (k)) := Lib.hid (K4.out.below b5)
      have B5 := Lib.hid (B4.out.trans (b5.mono B4.out.size))
      have HS5 : Hid (From w1 w5) := Lib.hid (HS4.out.trans (b5.mono HS4.out.size))
      clear b5
      have Y5 : Hid (BytesAt w5 v8 G) := Lib.hid y8
      refine hK.out _ _ HS5.out ?_
      clear hK K' X4 V4 K4 B4 HS4 y8
      refine regS_do (i := 7) rfl (by kernel_rfl) (fun K' hK => ?_)
      go_simp
      refine (check_any vK v8 vV k G x.tag w5 K5.out Y5.out V5.out HK.out LG.out LT.out (T0.out.below B5.out T0.out.pos)).mono ?_
      rintro e6 w6 ⟨rfl, b6⟩
      have X6 : Hid (Hel.At w6 gX x) := Lib.hid (Whole.below X5.out b6 X5.out.lt)
      have V6 : Hid (BytesAt w6 vV (x.tag)) := Lib.hid (V5.out.below b6)
      have K6 : Hid (BytesAt w6 vK (k)) := Lib.hid (K5.out.below b6)
      have Y6 : Hid (BytesAt w6 v8 G) := Lib.hid (Y5.out.below b6)
      have B6 := Lib.hid (B5.out.trans (b6.mono B5.out.size))
      have HS6 : Hid (From w1 w6) := Lib.hid (HS5.out.trans (b6.mono HS5.out.size))
      clear b6
      refine hK.out _ _ HS6.out ?_
      clear hK K' X5 V5 K5 Y5 B5 HS5
      refine regS_take (i := 8) (v := ?_) rfl (by kernel_rfl) (by kernel_rfl) (by kernel_rfl) (fun _ _ _ h => h) (by rfl) HS6.out ?hy8 ?_
      case hy8 => intro w' hw'; go_simp; (try with_reducible rfl)
      simp only [Act.put, List.setIfInBounds_toArray, List.set_cons_zero, List.set_cons_succ]
      refine regS_end (by kernel_rfl) ?_
      clear HS6 X1
      rw [← HG.out]
      go_wp2
      go_ret
      exact ⟨rfl, B6.out⟩
    · go_simp
      refine ((CS w3).out).mono ?_
      rintro e4 w4 ⟨v8, rfl, y8, b4⟩
      have X4 : Hid (Hel.At w4 gX x) := Lib.hid (Whole.below X3.out b4 X3.out.lt)
      have V4 : Hid (BytesAt w4 vV (x.tag)) := Lib.hid (V3.out.below b4)
      have B4 := Lib.hid (B3.out.trans (b4.mono B3.out.size))
      have HS4 : Hid (From w1 w4) := Lib.hid (HS3.out.trans (b4.mono HS3.out.size))
      clear b4
      have Y4 : Hid (BytesAt w4 v8 G) := Lib.hid y8
      refine hK.out _ _ HS4.out ?_
      clear hK K' X3 V3 B3 HS3 y8
      refine regS_do (i := 1) rfl (by kernel_rfl) (fun K' hK => ?_)
      obtain ⟨vK, w5, r5, y5, b5⟩ := conv_str w4 ⟨(k).toArray⟩
      go_simp
      have X5 : Hid (Hel.At w5 gX x) := Lib.hid (Whole.below X4.out b5 X4.out.lt)
      have V5 : Hid (BytesAt w5 vV (x.tag)) := Lib.hid (V4.out.below b5)
      have Y5 : Hid (BytesAt w5 v8 G) := Lib.hid (Y4.out.below b5)
      have B5 := Lib.hid (B4.out.trans (b5.mono B4.out.size))
      have HS5 : Hid (From w1 w5) := Lib.hid (HS4.out.trans (b5.mono HS4.out.size))
      clear b5
      have K5 : Hid (BytesAt w5 vK (k)) := Lib.hid (by simpa using y5)
      clear y5 r5
      refine hK.out _ _ HS5.out ?_
      clear hK K' X4 V4 Y4 B4 HS4
      refine regS_do (i := 7) rfl (by kernel_rfl) (fun K' hK => ?_)
      go_simp
      refine (check_any vK v8 vV k G x.tag w5 K5.out Y5.out V5.out HK.out LG.out LT.out (T0.out.below B5.out T0.out.pos)).mono ?_
      rintro e6 w6 ⟨rfl, b6⟩
      have X6 : Hid (Hel.At w6 gX x) := Lib.hid (Whole.below X5.out b6 X5.out.lt)
      have V6 : Hid (BytesAt w6 vV (x.tag)) := Lib.hid (V5.out.below b6)
      have Y6 : Hid (BytesAt w6 v8 G) := Lib.hid (Y5.out.below b6)
      have K6 : Hid (BytesAt w6 vK (k)) := Lib.hid (K5.out.below b6)
      have B6 := Lib.hid (B5.out.trans (b6.mono B5.out.size))
      have HS6 : Hid (From w1 w6) := Lib.hid (HS5.out.trans (b6.mono HS5.out.size))
      clear b6
      refine hK.out _ _ HS6.out ?_
      clear hK K' X5 V5 Y5 K5 B5 HS5
      refine regS_take (i := 8) (v := ?_) rfl (by kernel_rfl) (by kernel_rfl) (by kernel_rfl) (fun _ _ _ h => h) (by rfl) HS6.out ?hy8 ?_
      case hy8 => intro w' hw'; go_simp; (try with_reducible rfl)
      simp only [Act.put, List.setIfInBounds_toArray, List.set_cons_zero, List.set_cons_succ]
      refine regS_end (by kernel_rfl) ?_
      clear HS6 X1
      rw [← HG.out]
      go_wp2
      go_ret
      exact ⟨rfl, B6.out⟩

set_option maxRecDepth 100000 in
set_option maxHeartbeats 2000000 in
theorem heAgrees_any (k : List UInt8) (x : Wel) (a : Ent) (w : World) (hk : k.length ≤ 5000) (hn : x.entry.name.length ≤ 1000) (ht : x.entry.tag.length ≤ 1000) (kn : a.name.length ≤ 1000) (kt : a.tag.length ≤ 1000) (hg : x.tag.length ≤ 1000) (T : Tab w) :
    Calls Tryd.prog 16 #[.string ⟨k.toArray⟩, x.val, a.val] w fun e w' => e = .returned (.bool (agreesB k x a)) ∧ Below w.heap.size w w' := by
  have T0 := Lib.hid T
  have HK := Lib.hid hk
  have LT := Lib.hid (Nat.le_trans hg (by decide : 1000 ≤ 1000000))
  have LG := Lib.hid (Nat.le_trans (welcT_less x.fst x.snd a x.entry kn kt hn ht) (by decide : 4076 ≤ 90000))
  have CS := fun w => Lib.hid (heSignedWelcome_any x a w (Nat.le_trans hn (by decide)) (Nat.le_trans ht (by decide)) (Nat.le_trans kn (by decide)) (Nat.le_trans kt (by decide)))
  have HG : Hid (agreesB k x a = decide (macL k (welcT x.fst x.snd a x.entry) = x.tag)) := Lib.hid rfl
  generalize welcT x.fst x.snd a x.entry = G at *
  generalize agreesB k x a = R at *
  clear T hk hn ht kn kt hg
  go_enter Tryd.func16, Tryd.ntmps16
  go_wp2_with (refine wpList_box_row rfl 28 _ rfl x.enc.toArray (by with_unfolding_all exact rfl) ?_)
  intro w1 b1 x1 z1
  obtain ⟨gX, hgX⟩ : ∃ g, g = w.heap.size := ⟨_, rfl⟩
  have M_X := Lib.hid (show w.heap.size ≤ gX from by rw [hgX]; exact Nat.le_refl _)
  have B1 := Lib.hid b1
  rw [← hgX] at x1 ⊢
  have X1 : Hid (Wel.At w1 gX x) := Lib.hid x1
  clear b1 x1 z1 hgX 
  go_wp2_with (first | (with_reducible refine wpList_load_whole Wel.isRec rfl _ rfl gX (by with_unfolding_all exact rfl) _ _ (Wel.len _) X1.out ?_) | (with_reducible refine wpList_load_rec Ent.isRec rfl _ rfl gX 2 (by with_unfolding_all exact rfl) _ (Ent.len _) (Wel.At.part_entry X1.out) ?_) | (refine wpList_box_row rfl 24 _ rfl a.enc.toArray (by with_unfolding_all exact rfl) ?_))
  intro w2 b2 x2 z2
  obtain ⟨gE, hgE⟩ : ∃ g, g = w1.heap.size := ⟨_, rfl⟩
  have N_X_E := Lib.hid (show gX < gE from by rw [hgE]; exact X1.out.lt)
  have M_E := Lib.hid (show w.heap.size ≤ gE from by rw [hgE]; exact B1.out.size)
  have X2 : Hid (Wel.At w2 gX x) := Lib.hid (Whole.below X1.out b2 X1.out.lt)
  have B2 := Lib.hid (B1.out.trans (b2.mono B1.out.size))
  rw [← hgE] at x2 ⊢
  have E2 : Hid (Ent.At w2 gE a) := Lib.hid x2
  clear b2 x2 z2 hgE X1 B1
  go_wp2_with (first | (with_reducible refine wpList_load_whole Wel.isRec rfl _ rfl gX (by with_unfolding_all exact rfl) _ _ (Wel.len _) X2.out ?_) | (with_reducible refine wpList_load_rec Ent.isRec rfl _ rfl gX 2 (by with_unfolding_all exact rfl) _ (Ent.len _) (Wel.At.part_entry X2.out) ?_) | (with_reducible refine wpList_load_whole Ent.isRec rfl _ rfl gE (by with_unfolding_all exact rfl) _ _ (Ent.len _) E2.out ?_))
  refine regS_begin (From w2) (by kernel_rfl) (Below.refl _ _).drew ?_
  have b3 : Below w2.heap.size w2 w2.drew := (Below.refl _ _).drew
  generalize w2.drew = w3 at b3 ⊢
  have X3 : Hid (Wel.At w3 gX x) := Lib.hid (Whole.below X2.out b3 X2.out.lt)
  have E3 : Hid (Ent.At w3 gE a) := Lib.hid (Whole.below E2.out b3 E2.out.lt)
  have B3 := Lib.hid (B2.out.trans (b3.mono B2.out.size))
  have HS3 : Hid (From w2 w3) := Lib.hid b3
  clear b3
  refine regS_take (i := 0) (v := ?_) rfl (by kernel_rfl) (by kernel_rfl) (by kernel_rfl) (fun _ _ _ h => h) (by rfl) HS3.out ?hy0 ?_
  case hy0 => intro w' hw'; go_simp; (try with_reducible rfl)
  simp only [Act.put, List.setIfInBounds_toArray, List.set_cons_zero, List.set_cons_succ]
  refine regS_take (i := 2) (v := Wel.val (x)) rfl (by kernel_rfl) (by kernel_rfl) (by kernel_rfl) (fun _ _ _ h => h) (by rfl) HS3.out ?hy2 ?_
  case hy2 => intro w' hw'; exact exec_load_whole Wel.isRec _ rfl gX rfl _ _ (Wel.len _) w' (Whole.below X2.out hw' X2.out.lt)
  simp only [Act.put, List.setIfInBounds_toArray, List.set_cons_zero, List.set_cons_succ]
  refine regS_take (i := 3) (v := Ent.val (a)) rfl (by kernel_rfl) (by kernel_rfl) (by kernel_rfl) (fun _ _ _ h => h) (by rfl) HS3.out ?hy3 ?_
  case hy3 => intro w' hw'; exact exec_load_whole Ent.isRec _ rfl gE rfl _ _ (Ent.len _) w' (Whole.below E2.out hw' E2.out.lt)
  simp only [Act.put, List.setIfInBounds_toArray, List.set_cons_zero, List.set_cons_succ]
  refine regS_take (i := 5) (v := ?_) rfl (by kernel_rfl) (by kernel_rfl) (by kernel_rfl) (fun _ _ _ h => h) (by rfl) HS3.out ?hy5 ?_
  case hy5 => intro w' hw'; go_simp; (try with_reducible rfl)
  simp only [Act.put, List.setIfInBounds_toArray, List.set_cons_zero, List.set_cons_succ]
  refine regS_take (i := 6) (v := (.string ⟨(x).tag.toArray⟩)) rfl (by kernel_rfl) (by kernel_rfl) (by kernel_rfl) (fun _ _ _ h => h) (by rfl) HS3.out ?hy6 ?_
  case hy6 => intro w' hw'; have c := Wel.At.at_tag (Whole.below X2.out hw' X2.out.lt); go_simp; (try with_reducible rfl)
  simp only [Act.put, List.setIfInBounds_toArray, List.set_cons_zero, List.set_cons_succ]
  refine regS_three (i := 1) (j := 4) (k := 7) rfl rfl rfl (by kernel_rfl) (fun K' hK => ?_) (fun K' hK => ?_) (fun K' hK => ?_)
  · obtain ⟨vK, w4, r4, y4, b4⟩ := conv_str w3 ⟨(k).toArray⟩
    go_simp
    have X4 : Hid (Wel.At w4 gX x) := Lib.hid (Whole.below X3.out b4 X3.out.lt)
    have E4 : Hid (Ent.At w4 gE a) := Lib.hid (Whole.below E3.out b4 E3.out.lt)
    have B4 := Lib.hid (B3.out.trans (b4.mono B3.out.size))
    have HS4 : Hid (From w2 w4) := Lib.hid (HS3.out.trans (b4.mono HS3.out.size))
    clear b4
    have K4 : Hid (BytesAt w4 vK (k)) := Lib.hid (by simpa using y4)
    clear y4 r4
    refine hK.out _ _ HS4.out ?_
    clear hK K' X3 E3 B3 HS3
    refine regS_two (i := 4) (j := 7) rfl rfl (by kernel_rfl) (fun K' hK => ?_) (fun K' hK => ?_)
    · go_simp
      refine ((CS w4).out).mono ?_
      rintro e5 w5 ⟨v11, rfl, y11, b5⟩
      have X5 : Hid (Wel.At w5 gX x) := Lib.hid (Whole.below X4.out b5 X4.out.lt)
      have E5 : Hid (Ent.At w5 gE a) := Lib.hid (Whole.below E4.out b5 E4.out.lt)
      have K5 : Hid (BytesAt w5 vK (k)) := Lib.hid (K4.out.below b5)
      have B5 := Lib.hid (B4.out.trans (b5.mono B4.out.size))
      have HS5 : Hid (From w2 w5) := Lib.hid (HS4.out.trans (b5.mono HS4.out.size))
      clear b5
      have Y5 : Hid (BytesAt w5 v11 G) := Lib.hid y11
      refine hK.out _ _ HS5.out ?_
      clear hK K' X4 E4 K4 B4 HS4 y11
      refine regS_do (i := 7) rfl (by kernel_rfl) (fun K' hK => ?_)
      obtain ⟨vV, w6, r6, y6, b6⟩ := conv_str w5 ⟨(x.tag).toArray⟩
      go_simp
      have X6 : Hid (Wel.At w6 gX x) := Lib.hid (Whole.below X5.out b6 X5.out.lt)
      have E6 : Hid (Ent.At w6 gE a) := Lib.hid (Whole.below E5.out b6 E5.out.lt)
      have K6 : Hid (BytesAt w6 vK (k)) := Lib.hid (K5.out.below b6)
      have Y6 : Hid (BytesAt w6 v11 G) := Lib.hid (Y5.out.below b6)
      have B6 := Lib.hid (B5.out.trans (b6.mono B5.out.size))
      have HS6 : Hid (From w2 w6) := Lib.hid (HS5.out.trans (b6.mono HS5.out.size))
      clear b6
      have V6 : Hid (BytesAt w6 vV (x.tag)) := Lib.hid (by simpa using y6)
      clear y6 r6
      refine hK.out _ _ HS6.out ?_
      clear hK K' X5 E5 K5 Y5 B5 HS5
      refine regS_do (i := 8) rfl (by kernel_rfl) (fun K' hK => ?_)
      go_simp
      refine (check_any vK v11 vV k G x.tag w6 K6.out Y6.out V6.out HK.out LG.out LT.out (T0.out.below B6.out T0.out.pos)).mono ?_
      rintro e7 w7 ⟨rfl, b7⟩
      have X7 : Hid (Wel.At w7 gX x) := Lib.hid (Whole.below X6.out b7 X6.out.lt)
      have E7 : Hid (Ent.At w7 gE a) := Lib.hid (Whole.below E6.out b7 E6.out.lt)
      have K7 : Hid (BytesAt w7 vK (k)) := Lib.hid (K6.out.below b7)
      have Y7 : Hid (BytesAt w7 v11 G) := Lib.hid (Y6.out.below b7)
      have V7 : Hid (BytesAt w7 vV (x.tag)) := Lib.hid (V6.out.below b7)
      have B7 := Lib.hid (B6.out.trans (b7.mono B6.out.size))
      have HS7 : Hid (From w2 w7) := Lib.hid (HS6.out.trans (b7.mono HS6.out.size))
      clear b7
      refine hK.out _ _ HS7.out ?_
      clear hK K' X6 E6 K6 Y6 V6 B6 HS6
      refine regS_take (i := 9) (v := ?_) rfl (by kernel_rfl) (by kernel_rfl) (by kernel_rfl) (fun _ _ _ h => h) (by rfl) HS7.out ?hy9 ?_
      case hy9 => intro w' hw'; go_simp; (try with_reducible rfl)
      simp only [Act.put, List.setIfInBounds_toArray, List.set_cons_zero, List.set_cons_succ]
      refine regS_end (by kernel_rfl) ?_
      clear HS7 X2 E2
      rw [← HG.out]
      go_wp2
      go_ret
      exact ⟨rfl, B7.out⟩
    · obtain ⟨vV, w5, r5, y5, b5⟩ := conv_str w4 ⟨(x.tag).toArray⟩
      go_simp
      have X5 : Hid (Wel.At w5 gX x) := Lib.hid (Whole.below X4.out b5 X4.out.lt)
      have E5 : Hid (Ent.At w5 gE a) := Lib.hid (Whole.below E4.out b5 E4.out.lt)
      have K5 : Hid (BytesAt w5 vK (k)) := Lib.hid (K4.out.below b5)
      have B5 := Lib.hid (B4.out.trans (b5.mono B4.out.size))
      have HS5 : Hid (From w2 w5) := Lib.hid (HS4.out.trans (b5.mono HS4.out.size))
      clear b5
      have V5 : Hid (BytesAt w5 vV (x.tag)) := Lib.hid (by simpa using y5)
      clear y5 r5
      refine hK.out _ _ HS5.out ?_
      clear hK K' X4 E4 K4 B4 HS4
      refine regS_do (i := 4) rfl (by kernel_rfl) (fun K' hK => ?_)
      go_simp
      refine ((CS w5).out).mono ?_
      rintro e6 w6 ⟨v11, rfl, y11, b6⟩
      have X6 : Hid (Wel.At w6 gX x) := Lib.hid (Whole.below X5.out b6 X5.out.lt)
      have E6 : Hid (Ent.At w6 gE a) := Lib.hid (Whole.below E5.out b6 E5.out.lt)
      have K6 : Hid (BytesAt w6 vK (k)) := Lib.hid (K5.out.below b6)
      have V6 : Hid (BytesAt w6 vV (x.tag)) := Lib.hid (V5.out.below b6)
      have B6 := Lib.hid (B5.out.trans (b6.mono B5.out.size))
      have HS6 : Hid (From w2 w6) := Lib.hid (HS5.out.trans (b6.mono HS5.out.size))
      clear b6
      have Y6 : Hid (BytesAt w6 v11 G) := Lib.hid y11
      refine hK.out _ _ HS6.out ?_
      clear hK K' X5 E5 K5 V5 B5 HS5 y11
      refine regS_do (i := 8) rfl (by kernel_rfl) (fun K' hK => ?_)
      go_simp
      refine (check_any vK v11 vV k G x.tag w6 K6.out Y6.out V6.out HK.out LG.out LT.out (T0.out.below B6.out T0.out.pos)).mono ?_
      rintro e7 w7 ⟨rfl, b7⟩
      have X7 : Hid (Wel.At w7 gX x) := Lib.hid (Whole.below X6.out b7 X6.out.lt)
      have E7 : Hid (Ent.At w7 gE a) := Lib.hid (Whole.below E6.out b7 E6.out.lt)
      have K7 : Hid (BytesAt w7 vK (k)) := Lib.hid (K6.out.below b7)
      have V7 : Hid (BytesAt w7 vV (x.tag)) := Lib.hid (V6.out.below b7)
      have Y7 : Hid (BytesAt w7 v11 G) := Lib.hid (Y6.out.below b7)
      have B7 := Lib.hid (B6.out.trans (b7.mono B6.out.size))
      have HS7 : Hid (From w2 w7) := Lib.hid (HS6.out.trans (b7.mono HS6.out.size))
      clear b7
      refine hK.out _ _ HS7.out ?_
      clear hK K' X6 E6 K6 V6 Y6 B6 HS6
      refine regS_take (i := 9) (v := ?_) rfl (by kernel_rfl) (by kernel_rfl) (by kernel_rfl) (fun _ _ _ h => h) (by rfl) HS7.out ?hy9 ?_
      case hy9 => intro w' hw'; go_simp; (try with_reducible rfl)
      simp only [Act.put, List.setIfInBounds_toArray, List.set_cons_zero, List.set_cons_succ]
      refine regS_end (by kernel_rfl) ?_
      clear HS7 X2 E2
      rw [← HG.out]
      go_wp2
      go_ret
      exact ⟨rfl, B7.out⟩
  · go_simp
    refine ((CS w3).out).mono ?_
    rintro e4 w4 ⟨v11, rfl, y11, b4⟩
    have X4 : Hid (Wel.At w4 gX x) := Lib.hid (Whole.below X3.out b4 X3.out.lt)
    have E4 : Hid (Ent.At w4 gE a) := Lib.hid (Whole.below E3.out b4 E3.out.lt)
    have B4 := Lib.hid (B3.out.trans (b4.mono B3.out.size))
    have HS4 : Hid (From w2 w4) := Lib.hid (HS3.out.trans (b4.mono HS3.out.size))
    clear b4
    have Y4 : Hid (BytesAt w4 v11 G) := Lib.hid y11
    refine hK.out _ _ HS4.out ?_
    clear hK K' X3 E3 B3 HS3 y11
    refine regS_two (i := 1) (j := 7) rfl rfl (by kernel_rfl) (fun K' hK => ?_) (fun K' hK => ?_)
    · obtain ⟨vK, w5, r5, y5, b5⟩ := conv_str w4 ⟨(k).toArray⟩
      go_simp
      have X5 : Hid (Wel.At w5 gX x) := Lib.hid (Whole.below X4.out b5 X4.out.lt)
      have E5 : Hid (Ent.At w5 gE a) := Lib.hid (Whole.below E4.out b5 E4.out.lt)
      have Y5 : Hid (BytesAt w5 v11 G) := Lib.hid (Y4.out.below b5)
      have B5 := Lib.hid (B4.out.trans (b5.mono B4.out.size))
      have HS5 : Hid (From w2 w5) := Lib.hid (HS4.out.trans (b5.mono HS4.out.size))
      clear b5
      have K5 : Hid (BytesAt w5 vK (k)) := Lib.hid (by simpa using y5)
      clear y5 r5
      refine hK.out _ _ HS5.out ?_
      clear hK K' X4 E4 Y4 B4 HS4
      refine regS_do (i := 7) rfl (by kernel_rfl) (fun K' hK => ?_)
      obtain ⟨vV, w6, r6, y6, b6⟩ := conv_str w5 ⟨(x.tag).toArray⟩
      go_simp
      have X6 : Hid (Wel.At w6 gX x) := Lib.hid (Whole.below X5.out b6 X5.out.lt)
      have E6 : Hid (Ent.At w6 gE a) := Lib.hid (Whole.below E5.out b6 E5.out.lt)
      have Y6 : Hid (BytesAt w6 v11 G) := Lib.hid (Y5.out.below b6)
      have K6 : Hid (BytesAt w6 vK (k)) := Lib.hid (K5.out.below b6)
      have B6 := Lib.hid (B5.out.trans (b6.mono B5.out.size))
      have HS6 : Hid (From w2 w6) := Lib.hid (HS5.out.trans (b6.mono HS5.out.size))
      clear b6
      have V6 : Hid (BytesAt w6 vV (x.tag)) := Lib.hid (by simpa using y6)
      clear y6 r6
      refine hK.out _ _ HS6.out ?_
      clear hK K' X5 E5 Y5 K5 B5 HS5
      refine regS_do (i := 8) rfl (by kernel_rfl) (fun K' hK => ?_)
      go_simp
      refine (check_any vK v11 vV k G x.tag w6 K6.out Y6.out V6.out HK.out LG.out LT.out (T0.out.below B6.out T0.out.pos)).mono ?_
      rintro e7 w7 ⟨rfl, b7⟩
      have X7 : Hid (Wel.At w7 gX x) := Lib.hid (Whole.below X6.out b7 X6.out.lt)
      have E7 : Hid (Ent.At w7 gE a) := Lib.hid (Whole.below E6.out b7 E6.out.lt)
      have Y7 : Hid (BytesAt w7 v11 G) := Lib.hid (Y6.out.below b7)
      have K7 : Hid (BytesAt w7 vK (k)) := Lib.hid (K6.out.below b7)
      have V7 : Hid (BytesAt w7 vV (x.tag)) := Lib.hid (V6.out.below b7)
      have B7 := Lib.hid (B6.out.trans (b7.mono B6.out.size))
      have HS7 : Hid (From w2 w7) := Lib.hid (HS6.out.trans (b7.mono HS6.out.size))
      clear b7
      refine hK.out _ _ HS7.out ?_
      clear hK K' X6 E6 Y6 K6 V6 B6 HS6
      refine regS_take (i := 9) (v := ?_) rfl (by kernel_rfl) (by kernel_rfl) (by kernel_rfl) (fun _ _ _ h => h) (by rfl) HS7.out ?hy9 ?_
      case hy9 => intro w' hw'; go_simp; (try with_reducible rfl)
      simp only [Act.put, List.setIfInBounds_toArray, List.set_cons_zero, List.set_cons_succ]
      refine regS_end (by kernel_rfl) ?_
      clear HS7 X2 E2
      rw [← HG.out]
      go_wp2
      go_ret
      exact ⟨rfl, B7.out⟩
    · obtain ⟨vV, w5, r5, y5, b5⟩ := conv_str w4 ⟨(x.tag).toArray⟩
      go_simp
      have X5 : Hid (Wel.At w5 gX x) := Lib.hid (Whole.below X4.out b5 X4.out.lt)
      have E5 : Hid (Ent.At w5 gE a) := Lib.hid (Whole.below E4.out b5 E4.out.lt)
      have Y5 : Hid (BytesAt w5 v11 G) := Lib.hid (Y4.out.below b5)
      have B5 := Lib.hid (B4.out.trans (b5.mono B4.out.size))
      have HS5 : Hid (From w2 w5) := Lib.hid (HS4.out.trans (b5.mono HS4.out.size))
      clear b5
      have V5 : Hid (BytesAt w5 vV (x.tag)) := Lib.hid (by simpa using y5)
      clear y5 r5
      refine hK.out _ _ HS5.out ?_
      clear hK K' X4 E4 Y4 B4 HS4
      refine regS_do (i := 1) rfl (by kernel_rfl) (fun K' hK => ?_)
      obtain ⟨vK, w6, r6, y6, b6⟩ := conv_str w5 ⟨(k).toArray⟩
      go_simp
      have X6 : Hid (Wel.At w6 gX x) := Lib.hid (Whole.below X5.out b6 X5.out.lt)
      have E6 : Hid (Ent.At w6 gE a) := Lib.hid (Whole.below E5.out b6 E5.out.lt)
      have Y6 : Hid (BytesAt w6 v11 G) := Lib.hid (Y5.out.below b6)
      have V6 : Hid (BytesAt w6 vV (x.tag)) := Lib.hid (V5.out.below b6)
      have B6 := Lib.hid (B5.out.trans (b6.mono B5.out.size))
      have HS6 : Hid (From w2 w6) := Lib.hid (HS5.out.trans (b6.mono HS5.out.size))
      clear b6
      have K6 : Hid (BytesAt w6 vK (k)) := Lib.hid (by simpa using y6)
      clear y6 r6
      refine hK.out _ _ HS6.out ?_
      clear hK K' X5 E5 Y5 V5 B5 HS5
      refine regS_do (i := 8) rfl (by kernel_rfl) (fun K' hK => ?_)
      go_simp
      refine (check_any vK v11 vV k G x.tag w6 K6.out Y6.out V6.out HK.out LG.out LT.out (T0.out.below B6.out T0.out.pos)).mono ?_
      rintro e7 w7 ⟨rfl, b7⟩
      have X7 : Hid (Wel.At w7 gX x) := Lib.hid (Whole.below X6.out b7 X6.out.lt)
      have E7 : Hid (Ent.At w7 gE a) := Lib.hid (Whole.below E6.out b7 E6.out.lt)
      have Y7 : Hid (BytesAt w7 v11 G) := Lib.hid (Y6.out.below b7)
      have V7 : Hid (BytesAt w7 vV (x.tag)) := Lib.hid (V6.out.below b7)
      have K7 : Hid (BytesAt w7 vK (k)) := Lib.hid (K6.out.below b7)
      have B7 := Lib.hid (B6.out.trans (b7.mono B6.out.size))
      have HS7 : Hid (From w2 w7) := Lib.hid (HS6.out.trans (b7.mono HS6.out.size))
      clear b7
      refine hK.out _ _ HS7.out ?_
      clear hK K' X6 E6 Y6 V6 K6 B6 HS6
      refine regS_take (i := 9) (v := ?_) rfl (by kernel_rfl) (by kernel_rfl) (by kernel_rfl) (fun _ _ _ h => h) (by rfl) HS7.out ?hy9 ?_
      case hy9 => intro w' hw'; go_simp; (try with_reducible rfl)
      simp only [Act.put, List.setIfInBounds_toArray, List.set_cons_zero, List.set_cons_succ]
      refine regS_end (by kernel_rfl) ?_
      clear HS7 X2 E2
      rw [← HG.out]
      go_wp2
      go_ret
      exact ⟨rfl, B7.out⟩
  · obtain ⟨vV, w4, r4, y4, b4⟩ := conv_str w3 ⟨(x.tag).toArray⟩
    go_simp
    have X4 : Hid (Wel.At w4 gX x) := Lib.hid (Whole.below X3.out b4 X3.out.lt)
    have E4 : Hid (Ent.At w4 gE a) := Lib.hid (Whole.below E3.out b4 E3.out.lt)
    have B4 := Lib.hid (B3.out.trans (b4.mono B3.out.size))
    have HS4 : Hid (From w2 w4) := Lib.hid (HS3.out.trans (b4.mono HS3.out.size))
    clear b4
    have V4 : Hid (BytesAt w4 vV (x.tag)) := Lib.hid (by simpa using y4)
    clear y4 r4
    refine hK.out _ _ HS4.out ?_
    clear hK K' X3 E3 B3 HS3
    refine regS_two (i := 1) (j := 4) rfl rfl (by kernel_rfl) (fun K' hK => ?_) (fun K' hK => ?_)
    · obtain ⟨vK, w5, r5, y5, b5⟩ := conv_str w4 ⟨(k).toArray⟩
      go_simp
      have X5 : Hid (Wel.At w5 gX x) := Lib.hid (Whole.below X4.out b5 X4.out.lt)
      have E5 : Hid (Ent.At w5 gE a) := Lib.hid (Whole.below E4.out b5 E4.out.lt)
      have V5 : Hid (BytesAt w5 vV (x.tag)) := Lib.hid (V4.out.below b5)
      have B5 := Lib.hid (B4.out.trans (b5.mono B4.out.size))
      have HS5 : Hid (From w2 w5) := Lib.hid (HS4.out.trans (b5.mono HS4.out.size))
      clear b5
      have K5 : Hid (BytesAt w5 vK (k)) := Lib.hid (by simpa using y5)
      clear y5 r5
      refine hK.out _ _ HS5.out ?_
      clear hK K' X4 E4 V4 B4 HS4
      refine regS_do (i := 4) rfl (by kernel_rfl) (fun K' hK => ?_)
      go_simp
      refine ((CS w5).out).mono ?_
      rintro e6 w6 ⟨v11, rfl, y11, b6⟩
      have X6 : Hid (Wel.At w6 gX x) := Lib.hid (Whole.below X5.out b6 X5.out.lt)
      have E6 : Hid (Ent.At w6 gE a) := Lib.hid (Whole.below E5.out b6 E5.out.lt)
      have V6 : Hid (BytesAt w6 vV (x.tag)) := Lib.hid (V5.out.below b6)
      have K6 : Hid (BytesAt w6 vK (k)) := Lib.hid (K5.out.below b6)
      have B6 := Lib.hid (B5.out.trans (b6.mono B5.out.size))
      have HS6 : Hid (From w2 w6) := Lib.hid (HS5.out.trans (b6.mono HS5.out.size))
      clear b6
      have Y6 : Hid (BytesAt w6 v11 G) := Lib.hid y11
      refine hK.out _ _ HS6.out ?_
      clear hK K' X5 E5 V5 K5 B5 HS5 y11
      refine regS_do (i := 8) rfl (by kernel_rfl) (fun K' hK => ?_)
      go_simp
      refine (check_any vK v11 vV k G x.tag w6 K6.out Y6.out V6.out HK.out LG.out LT.out (T0.out.below B6.out T0.out.pos)).mono ?_
      rintro e7 w7 ⟨rfl, b7⟩
      have X7 : Hid (Wel.At w7 gX x) := Lib.hid (Whole.below X6.out b7 X6.out.lt)
      have E7 : Hid (Ent.At w7 gE a) := Lib.hid (Whole.below E6.out b7 E6.out.lt)
      have V7 : Hid (BytesAt w7 vV (x.tag)) := Lib.hid (V6.out.below b7)
      have K7 : Hid (BytesAt w7 vK (k)) := Lib.hid (K6.out.below b7)
      have Y7 : Hid (BytesAt w7 v11 G) := Lib.hid (Y6.out.below b7)
      have B7 := Lib.hid (B6.out.trans (b7.mono B6.out.size))
      have HS7 : Hid (From w2 w7) := Lib.hid (HS6.out.trans (b7.mono HS6.out.size))
      clear b7
      refine hK.out _ _ HS7.out ?_
      clear hK K' X6 E6 V6 K6 Y6 B6 HS6
      refine regS_take (i := 9) (v := ?_) rfl (by kernel_rfl) (by kernel_rfl) (by kernel_rfl) (fun _ _ _ h => h) (by rfl) HS7.out ?hy9 ?_
      case hy9 => intro w' hw'; go_simp; (try with_reducible rfl)
      simp only [Act.put, List.setIfInBounds_toArray, List.set_cons_zero, List.set_cons_succ]
      refine regS_end (by kernel_rfl) ?_
      clear HS7 X2 E2
      rw [← HG.out]
      go_wp2
      go_ret
      exact ⟨rfl, B7.out⟩
    · go_simp
      refine ((CS w4).out).mono ?_
      rintro e5 w5 ⟨v11, rfl, y11, b5⟩
      have X5 : Hid (Wel.At w5 gX x) := Lib.hid (Whole.below X4.out b5 X4.out.lt)
      have E5 : Hid (Ent.At w5 gE a) := Lib.hid (Whole.below E4.out b5 E4.out.lt)
      have V5 : Hid (BytesAt w5 vV (x.tag)) := Lib.hid (V4.out.below b5)
      have B5 := Lib.hid (B4.out.trans (b5.mono B4.out.size))
      have HS5 : Hid (From w2 w5) := Lib.hid (HS4.out.trans (b5.mono HS4.out.size))
      clear b5
      have Y5 : Hid (BytesAt w5 v11 G) := Lib.hid y11
      refine hK.out _ _ HS5.out ?_
      clear hK K' X4 E4 V4 B4 HS4 y11
      refine regS_do (i := 1) rfl (by kernel_rfl) (fun K' hK => ?_)
      obtain ⟨vK, w6, r6, y6, b6⟩ := conv_str w5 ⟨(k).toArray⟩
      go_simp
      have X6 : Hid (Wel.At w6 gX x) := Lib.hid (Whole.below X5.out b6 X5.out.lt)
      have E6 : Hid (Ent.At w6 gE a) := Lib.hid (Whole.below E5.out b6 E5.out.lt)
      have V6 : Hid (BytesAt w6 vV (x.tag)) := Lib.hid (V5.out.below b6)
      have Y6 : Hid (BytesAt w6 v11 G) := Lib.hid (Y5.out.below b6)
      have B6 := Lib.hid (B5.out.trans (b6.mono B5.out.size))
      have HS6 : Hid (From w2 w6) := Lib.hid (HS5.out.trans (b6.mono HS5.out.size))
      clear b6
      have K6 : Hid (BytesAt w6 vK (k)) := Lib.hid (by simpa using y6)
      clear y6 r6
      refine hK.out _ _ HS6.out ?_
      clear hK K' X5 E5 V5 Y5 B5 HS5
      refine regS_do (i := 8) rfl (by kernel_rfl) (fun K' hK => ?_)
      go_simp
      refine (check_any vK v11 vV k G x.tag w6 K6.out Y6.out V6.out HK.out LG.out LT.out (T0.out.below B6.out T0.out.pos)).mono ?_
      rintro e7 w7 ⟨rfl, b7⟩
      have X7 : Hid (Wel.At w7 gX x) := Lib.hid (Whole.below X6.out b7 X6.out.lt)
      have E7 : Hid (Ent.At w7 gE a) := Lib.hid (Whole.below E6.out b7 E6.out.lt)
      have V7 : Hid (BytesAt w7 vV (x.tag)) := Lib.hid (V6.out.below b7)
      have Y7 : Hid (BytesAt w7 v11 G) := Lib.hid (Y6.out.below b7)
      have K7 : Hid (BytesAt w7 vK (k)) := Lib.hid (K6.out.below b7)
      have B7 := Lib.hid (B6.out.trans (b7.mono B6.out.size))
      have HS7 : Hid (From w2 w7) := Lib.hid (HS6.out.trans (b7.mono HS6.out.size))
      clear b7
      refine hK.out _ _ HS7.out ?_
      clear hK K' X6 E6 V6 Y6 K6 B6 HS6
      refine regS_take (i := 9) (v := ?_) rfl (by kernel_rfl) (by kernel_rfl) (by kernel_rfl) (fun _ _ _ h => h) (by rfl) HS7.out ?hy9 ?_
      case hy9 => intro w' hw'; go_simp; (try with_reducible rfl)
      simp only [Act.put, List.setIfInBounds_toArray, List.set_cons_zero, List.set_cons_succ]
      refine regS_end (by kernel_rfl) ?_
      clear HS7 X2 E2
      rw [← HG.out]
      go_wp2
      go_ret
      exact ⟨rfl, B7.out⟩
end Go.Proofs.YtpcdbpijgmninaaDoor
