/- The document's layer 18: Roots, Epoch, Mine. The statements' own Great. -/
import Derived.Test.YtieidemmajdpmaaDoorGt
import Derived.Test.YtieidemmajdpmaaDoorGu
import Derived.Test.YtieidemmajdpmaaDoorGz
import Derived.Test.YtieidemmajdpmaaDoorGf
namespace Go.Proofs.YtieidemmajdpmaaDoor
set_option maxRecDepth 100000
open Go.RowKit

set_option maxRecDepth 100000 in
set_option maxHeartbeats 2000000 in
theorem kfRoots_any (k : List UInt8) (f s : Nat) (a b : Ent) (w : World) (hk : k.length ≤ 4900) (hf : f < 18446744073709551616) (hs : s < 18446744073709551616) (hn : a.name.length ≤ 1000) (ht : a.tag.length ≤ 1000) (hi : a.id < 18446744073709551616) (kn : b.name.length ≤ 1000) (kt : b.tag.length ≤ 1000) (ki : b.id < 18446744073709551616) :
    Calls Tryd.prog 8 #[.string ⟨k.toArray⟩, .int .u64 (f : Int), .int .u64 (s : Int), a.val, b.val] w fun e w' => e = .returned (.tuple #[.string ⟨(rootT k f s a b).toArray⟩, .string ⟨(rootB k f s a b).toArray⟩]) ∧ Below w.heap.size w w' := by
  have HK := Lib.hid hk
  have HF := Lib.hid hf
  have HS := Lib.hid hs
  have CA := fun w => Lib.hid (refBytes_any a hn ht hi w)
  have CB := fun w => Lib.hid (refBytes_any b kn kt ki w)
  have LA := Lib.hid (show (bytesE a).length ≤ 70000 by rw [bytesE_length]; omega)
  have LB := Lib.hid (show (bytesE b).length ≤ 70000 by rw [bytesE_length]; omega)
  have EA : Hid (sessionHead ++ txt (bytesE a) = sessionHead ++ textE a) := Lib.hid (by rw [textE, cutE_small (by omega)])
  have EI : Hid (sessionHead ++ textE a ++ txt (bytesE b) = infoL [a, b]) := Lib.hid (by rw [← cutE_small (a := b) (by omega)]; simp [infoL, textE, cutE_small (a := b) (by omega)])
  have LT := Lib.hid (show (sessionHead ++ textE a).length ≤ 3000 by
    rw [List.length_append]
    have := textE_less hn ht
    have : sessionHead.length = 16 := rfl
    omega)
  have LS := Lib.hid (show (saltL f s).length ≤ 5000 by rw [saltL_length]; decide)
  have LI := Lib.hid (Nat.le_trans (infoL_two hn ht kn kt) (by decide : 4060 ≤ 4800))
  have ES : Hid (be 8 f ++ be 8 s = saltL f s) := Lib.hid rfl
  have GL := Lib.hid (bothL_length k f s a b)
  have ET : Hid ((bothL k f s a b).take 32 = rootT k f s a b) := Lib.hid rfl
  have EB : Hid ((bothL k f s a b).drop 32 = rootB k f s a b) := Lib.hid rfl
  have CX := fun v0 v1 w h0 h1 => Lib.hid (refExtract_any v0 v1 (saltL f s) k w h0 h1 LS.out HK.out)
  have LX := Lib.hid (show (extractL (saltL f s) k).length ≤ 5000 by rw [extractL_length]; decide)
  have CP := fun v0 v1 w h0 h1 => Lib.hid (show Calls Tryd.prog 19 #[v0, v1, .int .i64 64] w fun e w' => ∃ v', e = .returned (.tuple #[v', .int .i64 0]) ∧ BytesAt w' v' (bothL k f s a b) ∧ Below w.heap.size w w' from
    refExpand_any v0 v1 (extractL (saltL f s) k) (infoL [a, b]) 64 w h0 h1 LX.out LI.out (by decide))
  generalize extractL (saltL f s) k = X at *
  generalize saltL f s = S at *
  generalize infoL [a, b] = I at *
  generalize bothL k f s a b = G at *
  generalize rootT k f s a b = RT at *
  generalize rootB k f s a b = RB at *
  generalize bytesE a = MA at *
  generalize bytesE b = MB at *
  generalize sessionHead ++ textE a = TA at *
  clear hk hf hs hn ht hi kn kt ki LS LI HK LX
  go_enter Tryd.func8, Tryd.ntmps8
  go_wp2_with (refine wpList_box_row rfl 24 _ rfl a.enc.toArray (by with_unfolding_all exact rfl) ?_)
  intro w1 b1 x1 z1
  obtain ⟨gP, hgP⟩ : ∃ g, g = w.heap.size := ⟨_, rfl⟩
  have M_P := Lib.hid (show w.heap.size ≤ gP from by rw [hgP]; exact Nat.le_refl _)
  have B1 := Lib.hid b1
  rw [← hgP] at x1 ⊢
  have P1 : Hid (Ent.At w1 gP a) := Lib.hid x1
  clear b1 x1 z1 hgP 
  go_wp2_with (first | (with_reducible refine wpList_load_whole Ent.isRec rfl _ rfl gP (by with_unfolding_all exact rfl) _ _ (Ent.len _) P1.out ?_) | (refine wpList_box_row rfl 24 _ rfl b.enc.toArray (by with_unfolding_all exact rfl) ?_))
  intro w2 b2 x2 z2
  obtain ⟨gQ, hgQ⟩ : ∃ g, g = w1.heap.size := ⟨_, rfl⟩
  have N_P_Q := Lib.hid (show gP < gQ from by rw [hgQ]; exact P1.out.lt)
  have M_Q := Lib.hid (show w.heap.size ≤ gQ from by rw [hgQ]; exact B1.out.size)
  have P2 : Hid (Ent.At w2 gP a) := Lib.hid (Whole.below P1.out b2 P1.out.lt)
  have B2 := Lib.hid (B1.out.trans (b2.mono B1.out.size))
  rw [← hgQ] at x2 ⊢
  have Q2 : Hid (Ent.At w2 gQ b) := Lib.hid x2
  clear b2 x2 z2 hgQ P1 B1
  go_wp2_with (first | (with_reducible refine wpList_load_whole Ent.isRec rfl _ rfl gP (by with_unfolding_all exact rfl) _ _ (Ent.len _) P2.out ?_) | (with_reducible refine wpList_load_whole Ent.isRec rfl _ rfl gQ (by with_unfolding_all exact rfl) _ _ (Ent.len _) Q2.out ?_))
  refine ((ref_num_b (.slice none 0 0) [] f 8 w2 (BytesAt.nil _) (by decide) (by decide) (by decide) HF.out)).mono ?_
  rintro e3 w3 ⟨v3, rfl, y3, b3⟩
  have P3 : Hid (Ent.At w3 gP a) := Lib.hid (Whole.below P2.out b3 P2.out.lt)
  have Q3 : Hid (Ent.At w3 gQ b) := Lib.hid (Whole.below Q2.out b3 Q2.out.lt)
  have B3 := Lib.hid (B2.out.trans (b3.mono B2.out.size))
  have Y3 : Hid (BytesAt w3 v3 ([] ++ be 8 f)) := Lib.hid y3
  clear b3 P2 Q2 B2 y3
  go_wp2_with (first | (with_reducible refine wpList_load_whole Ent.isRec rfl _ rfl gP (by with_unfolding_all exact rfl) _ _ (Ent.len _) P3.out ?_) | (with_reducible refine wpList_load_whole Ent.isRec rfl _ rfl gQ (by with_unfolding_all exact rfl) _ _ (Ent.len _) Q3.out ?_))
  refine ((ref_num_b v3 ([] ++ be 8 f) s 8 w3 Y3.out (by decide) (by decide) (by rw [List.nil_append, be_length]; decide) HS.out)).mono ?_
  rintro e4 w4 ⟨v4, rfl, y4, b4⟩
  have P4 : Hid (Ent.At w4 gP a) := Lib.hid (Whole.below P3.out b4 P3.out.lt)
  have Q4 : Hid (Ent.At w4 gQ b) := Lib.hid (Whole.below Q3.out b4 Q3.out.lt)
  have Y4 : Hid (BytesAt w4 v3 ([] ++ be 8 f)) := Lib.hid (Y3.out.below b4)
  have B4 := Lib.hid (B3.out.trans (b4.mono B3.out.size))
  have S4 : Hid (BytesAt w4 v4 ([] ++ be 8 f ++ be 8 s)) := Lib.hid y4
  clear b4 P3 Q3 Y3 B3 y4
  clear Y4
  rw [List.nil_append, ES.out] at S4
  have rL := session_conv w4
  have y5 := session_lit w4
  have b5 : Below w4.heap.size w4 (w4.alloc (.cells #[.int .u8 99, .int .u8 97, .int .u8 114, .int .u8 99, .int .u8 97, .int .u8 110, .int .u8 101, .int .u8 116, .int .u8 32, .int .u8 115, .int .u8 101, .int .u8 115, .int .u8 115, .int .u8 105, .int .u8 111, .int .u8 110] 5 (16, 17))) := (Below.refl _ _).alloc (Nat.le_refl _) _
  have P5 : Hid (Ent.At (w4.alloc (.cells #[.int .u8 99, .int .u8 97, .int .u8 114, .int .u8 99, .int .u8 97, .int .u8 110, .int .u8 101, .int .u8 116, .int .u8 32, .int .u8 115, .int .u8 101, .int .u8 115, .int .u8 115, .int .u8 105, .int .u8 111, .int .u8 110] 5 (16, 17))) gP a) := Lib.hid (Whole.below P4.out b5 P4.out.lt)
  have Q5 : Hid (Ent.At (w4.alloc (.cells #[.int .u8 99, .int .u8 97, .int .u8 114, .int .u8 99, .int .u8 97, .int .u8 110, .int .u8 101, .int .u8 116, .int .u8 32, .int .u8 115, .int .u8 101, .int .u8 115, .int .u8 115, .int .u8 105, .int .u8 111, .int .u8 110] 5 (16, 17))) gQ b) := Lib.hid (Whole.below Q4.out b5 Q4.out.lt)
  have S5 : Hid (BytesAt (w4.alloc (.cells #[.int .u8 99, .int .u8 97, .int .u8 114, .int .u8 99, .int .u8 97, .int .u8 110, .int .u8 101, .int .u8 116, .int .u8 32, .int .u8 115, .int .u8 101, .int .u8 115, .int .u8 115, .int .u8 105, .int .u8 111, .int .u8 110] 5 (16, 17))) v4 S) := Lib.hid (S4.out.below b5)
  have B5 := Lib.hid (B4.out.trans (b5.mono B4.out.size))
  have L5 : Hid (BytesAt (w4.alloc (.cells #[.int .u8 99, .int .u8 97, .int .u8 114, .int .u8 99, .int .u8 97, .int .u8 110, .int .u8 101, .int .u8 116, .int .u8 32, .int .u8 115, .int .u8 101, .int .u8 115, .int .u8 115, .int .u8 105, .int .u8 111, .int .u8 110] 5 (16, 17))) (.slice (some ⟨w4.heap.size, 0, none⟩) 16 16) sessionHead) := Lib.hid y5
  clear b5 y5 P4 Q4 S4 B4
  go_wp2_with (first | (with_reducible refine wpList_load_whole Ent.isRec rfl _ rfl gP (by with_unfolding_all exact rfl) _ _ (Ent.len _) P5.out ?_) | (with_reducible refine wpList_load_whole Ent.isRec rfl _ rfl gQ (by with_unfolding_all exact rfl) _ _ (Ent.len _) Q5.out ?_))
  refine ((CA (w4.alloc (.cells #[.int .u8 99, .int .u8 97, .int .u8 114, .int .u8 99, .int .u8 97, .int .u8 110, .int .u8 101, .int .u8 116, .int .u8 32, .int .u8 115, .int .u8 101, .int .u8 115, .int .u8 115, .int .u8 105, .int .u8 111, .int .u8 110] 5 (16, 17)))).out).mono ?_
  rintro e6 w6 ⟨v5, rfl, y5, b6⟩
  have P6 : Hid (Ent.At w6 gP a) := Lib.hid (Whole.below P5.out b6 P5.out.lt)
  have Q6 : Hid (Ent.At w6 gQ b) := Lib.hid (Whole.below Q5.out b6 Q5.out.lt)
  have S6 : Hid (BytesAt w6 v4 S) := Lib.hid (S5.out.below b6)
  have L6 : Hid (BytesAt w6 (.slice (some ⟨w4.heap.size, 0, none⟩) 16 16) sessionHead) := Lib.hid (L5.out.below b6)
  have B6 := Lib.hid (B5.out.trans (b6.mono B5.out.size))
  have Y6 : Hid (BytesAt w6 v5 MA) := Lib.hid y5
  clear b6 P5 Q5 S5 L5 B5 y5
  clear rL
  have rc := conv_bytes Y6.out
  go_wp2_with (first | (with_reducible refine wpList_load_whole Ent.isRec rfl _ rfl gP (by with_unfolding_all exact rfl) _ _ (Ent.len _) P6.out ?_) | (with_reducible refine wpList_load_whole Ent.isRec rfl _ rfl gQ (by with_unfolding_all exact rfl) _ _ (Ent.len _) Q6.out ?_))
  refine ((ref_text_b _ sessionHead MA w6 L6.out (by decide) LA.out)).mono ?_
  rintro e7 w7 ⟨v6, rfl, y6, b7⟩
  have P7 : Hid (Ent.At w7 gP a) := Lib.hid (Whole.below P6.out b7 P6.out.lt)
  have Q7 : Hid (Ent.At w7 gQ b) := Lib.hid (Whole.below Q6.out b7 Q6.out.lt)
  have S7 : Hid (BytesAt w7 v4 S) := Lib.hid (S6.out.below b7)
  have L7 : Hid (BytesAt w7 (.slice (some ⟨w4.heap.size, 0, none⟩) 16 16) sessionHead) := Lib.hid (L6.out.below b7)
  have Y7 : Hid (BytesAt w7 v5 MA) := Lib.hid (Y6.out.below b7)
  have B7 := Lib.hid (B6.out.trans (b7.mono B6.out.size))
  have Z7 : Hid (BytesAt w7 v6 (sessionHead ++ txt MA)) := Lib.hid y6
  clear b7 P6 Q6 S6 L6 Y6 B6 y6
  clear rc
  clear L7 Y7
  rw [EA.out] at Z7
  go_wp2_with (first | (with_reducible refine wpList_load_whole Ent.isRec rfl _ rfl gP (by with_unfolding_all exact rfl) _ _ (Ent.len _) P7.out ?_) | (with_reducible refine wpList_load_whole Ent.isRec rfl _ rfl gQ (by with_unfolding_all exact rfl) _ _ (Ent.len _) Q7.out ?_))
  refine ((CB w7).out).mono ?_
  rintro e8 w8 ⟨v7, rfl, y7, b8⟩
  have P8 : Hid (Ent.At w8 gP a) := Lib.hid (Whole.below P7.out b8 P7.out.lt)
  have Q8 : Hid (Ent.At w8 gQ b) := Lib.hid (Whole.below Q7.out b8 Q7.out.lt)
  have S8 : Hid (BytesAt w8 v4 S) := Lib.hid (S7.out.below b8)
  have Z8 : Hid (BytesAt w8 v6 TA) := Lib.hid (Z7.out.below b8)
  have B8 := Lib.hid (B7.out.trans (b8.mono B7.out.size))
  have Y8 : Hid (BytesAt w8 v7 MB) := Lib.hid y7
  clear b8 P7 Q7 S7 Z7 B7 y7
  have rc := conv_bytes Y8.out
  go_wp2_with (first | (with_reducible refine wpList_load_whole Ent.isRec rfl _ rfl gP (by with_unfolding_all exact rfl) _ _ (Ent.len _) P8.out ?_) | (with_reducible refine wpList_load_whole Ent.isRec rfl _ rfl gQ (by with_unfolding_all exact rfl) _ _ (Ent.len _) Q8.out ?_))
  refine ((ref_text_b v6 TA MB w8 Z8.out LT.out LB.out)).mono ?_
  rintro e9 w9 ⟨v8, rfl, y8, b9⟩
  have P9 : Hid (Ent.At w9 gP a) := Lib.hid (Whole.below P8.out b9 P8.out.lt)
  have Q9 : Hid (Ent.At w9 gQ b) := Lib.hid (Whole.below Q8.out b9 Q8.out.lt)
  have S9 : Hid (BytesAt w9 v4 S) := Lib.hid (S8.out.below b9)
  have Z9 : Hid (BytesAt w9 v6 TA) := Lib.hid (Z8.out.below b9)
  have Y9 : Hid (BytesAt w9 v7 MB) := Lib.hid (Y8.out.below b9)
  have B9 := Lib.hid (B8.out.trans (b9.mono B8.out.size))
  have I9 : Hid (BytesAt w9 v8 (TA ++ txt MB)) := Lib.hid y8
  clear b9 P8 Q8 S8 Z8 Y8 B8 y8
  clear rc
  clear Y9 Z9
  rw [EI.out] at I9
  obtain ⟨vK, w10, rK, y10, b10⟩ := conv_str w9 ⟨(k).toArray⟩
  have P10 : Hid (Ent.At w10 gP a) := Lib.hid (Whole.below P9.out b10 P9.out.lt)
  have Q10 : Hid (Ent.At w10 gQ b) := Lib.hid (Whole.below Q9.out b10 Q9.out.lt)
  have S10 : Hid (BytesAt w10 v4 S) := Lib.hid (S9.out.below b10)
  have I10 : Hid (BytesAt w10 v8 I) := Lib.hid (I9.out.below b10)
  have B10 := Lib.hid (B9.out.trans (b10.mono B9.out.size))
  have K10 : Hid (BytesAt w10 vK (k)) := Lib.hid (by simpa using y10)
  clear b10 y10 P9 Q9 S9 I9 B9
  go_wp2_with (first | (with_reducible refine wpList_load_whole Ent.isRec rfl _ rfl gP (by with_unfolding_all exact rfl) _ _ (Ent.len _) P10.out ?_) | (with_reducible refine wpList_load_whole Ent.isRec rfl _ rfl gQ (by with_unfolding_all exact rfl) _ _ (Ent.len _) Q10.out ?_))
  refine ((CX v4 vK w10 S10.out K10.out).out).mono ?_
  rintro e11 w11 ⟨v10, rfl, y10, b11⟩
  have P11 : Hid (Ent.At w11 gP a) := Lib.hid (Whole.below P10.out b11 P10.out.lt)
  have Q11 : Hid (Ent.At w11 gQ b) := Lib.hid (Whole.below Q10.out b11 Q10.out.lt)
  have S11 : Hid (BytesAt w11 v4 S) := Lib.hid (S10.out.below b11)
  have I11 : Hid (BytesAt w11 v8 I) := Lib.hid (I10.out.below b11)
  have K11 : Hid (BytesAt w11 vK (k)) := Lib.hid (K10.out.below b11)
  have B11 := Lib.hid (B10.out.trans (b11.mono B10.out.size))
  have X11 : Hid (BytesAt w11 v10 X) := Lib.hid y10
  clear b11 P10 Q10 S10 I10 K10 B10 y10
  clear rK
  clear K11 S11
  go_wp2_with (first | (with_reducible refine wpList_load_whole Ent.isRec rfl _ rfl gP (by with_unfolding_all exact rfl) _ _ (Ent.len _) P11.out ?_) | (with_reducible refine wpList_load_whole Ent.isRec rfl _ rfl gQ (by with_unfolding_all exact rfl) _ _ (Ent.len _) Q11.out ?_))
  refine ((CP v10 v8 w11 X11.out I11.out).out).mono ?_
  rintro e12 w12 ⟨v11, rfl, y11, b12⟩
  have P12 : Hid (Ent.At w12 gP a) := Lib.hid (Whole.below P11.out b12 P11.out.lt)
  have Q12 : Hid (Ent.At w12 gQ b) := Lib.hid (Whole.below Q11.out b12 Q11.out.lt)
  have I12 : Hid (BytesAt w12 v8 I) := Lib.hid (I11.out.below b12)
  have X12 : Hid (BytesAt w12 v10 X) := Lib.hid (X11.out.below b12)
  have B12 := Lib.hid (B11.out.trans (b12.mono B11.out.size))
  have G12 : Hid (BytesAt w12 v11 G) := Lib.hid y11
  clear b12 P11 Q11 I11 X11 B11 y11
  obtain ⟨ad, cap, rfl, hcap, hF, hR⟩ := halves G12.out GL.out
  rw [ET.out] at hF
  rw [EB.out] at hR
  have HT := Lib.hid hF
  have HB := Lib.hid hR
  have j1 : (32 : Int) ≤ (cap : Int) := by omega
  have j2 : (64 : Int) ≤ (cap : Int) := by omega
  have j3 : cap ≠ 32 := by omega
  have BB := B12
  clear hF hR hcap
  go_wp2_with fail
  refine still_all (by kernel_rfl) (by kernel_rfl) fun w30 h30 b30 => ?_
  have B30 := Lib.hid (BB.out.trans (b30.mono BB.out.size))
  have r1 := conv_bytes (HT.out.below b30)
  have r2 := conv_bytes (HB.out.below b30)
  clear b30 h30 HT HB BB
  repeat still_step
  refine wpStill_nil ?_
  go_wp2
  go_ret2
  exact ⟨rfl, B30.out⟩

set_option maxRecDepth 100000 in
set_option maxHeartbeats 1000000 in
theorem kfEpoch_any (r : List UInt8) (e : Int) (h1 : -9223372036854775808 ≤ e) (h2 : e < 9223372036854775808) (w : World) (hr : r.length ≤ 5000) :
    Calls Tryd.prog 10 #[.string ⟨r.toArray⟩, .int .i64 e] w fun x w' => x = .returned (.string ⟨(epochK r e).toArray⟩) ∧ Below w.heap.size w w' := by
  have CN := fun w => Lib.hid (refLbNumber_any e h1 h2 w)
  have LN : ((⟨#[101, 112, 111, 99, 104, 32]⟩ : ByteArray) ++ ⟨(numL e).toArray⟩).size ≤ 4700 := by
    have := numL_most e h1 h2
    show ((⟨#[101, 112, 111, 99, 104, 32]⟩ : ByteArray) ++ ⟨(numL e).toArray⟩).data.size ≤ 4700
    simp
    omega
  have CK := fun v w h => Lib.hid (show Calls Tryd.prog 23 #[v, .string ((⟨#[101, 112, 111, 99, 104, 32]⟩ : ByteArray) ++ ⟨(numL e).toArray⟩)] w fun x w' => ∃ v', x = .returned v' ∧ BytesAt w' v' (epochK r e) ∧ Below w.heap.size w w' from by
    have := refNamed_any v _ r w h hr LN
    rw [epoch_str] at this
    exact this)
  have lm := numL_most e h1 h2
  generalize epochK r e = G at *
  generalize numL e = M at *
  have j1 : 6 + M.length < 9223372036854775807 := by omega
  clear h1 h2 hr LN
  go_enter Tryd.func10, Tryd.ntmps10
  obtain ⟨vK, w1, rK, y1, b1⟩ := conv_str w ⟨(r).toArray⟩
  have B1 := Lib.hid b1
  have K1 : Hid (BytesAt w1 vK (r)) := Lib.hid (by simpa using y1)
  clear b1 y1 
  go_wp2_with fail
  refine (CN w1).out.mono ?_
  rintro x wn ⟨rfl, rfl⟩
  go_wp2_with fail
  refine ((CK vK w1 K1.out).out).mono ?_
  rintro e2 w2 ⟨v9, rfl, y9, b2⟩
  have K2 : Hid (BytesAt w2 vK (r)) := Lib.hid (K1.out.below b2)
  have B2 := Lib.hid (B1.out.trans (b2.mono B1.out.size))
  have G2 : Hid (BytesAt w2 v9 G) := Lib.hid y9
  clear b2 K1 B1 y9
  have rm := conv_bytes G2.out
  go_wp2
  go_ret
  exact ⟨rfl, B2.out⟩

set_option maxHeartbeats 1000000 in
theorem kfMine_any (role : Int) (t b : List UInt8) (w : World) :
    Calls Tryd.prog 12 #[.int .i64 role, .string ⟨t.toArray⟩, .string ⟨b.toArray⟩] w fun e w' => e = .returned (.tuple #[.string ⟨(mineA role t b).toArray⟩, .string ⟨(mineB role t b).toArray⟩]) ∧ Below w.heap.size w w' := by
  by_cases h1 : role = 1
  · subst h1
    have EA : Hid (mineA 1 t b = t) := Lib.hid (by simp [mineA])
    have EB : Hid (mineB 1 t b = b) := Lib.hid (by simp [mineB])
    go_enter Tryd.func12, Tryd.ntmps12
    go_wp2
    go_ret2
    exact ⟨by rw [EA.out, EB.out]; rfl, Below.refl _ _⟩
  · by_cases h2 : role = 2
    · subst h2
      have EA : Hid (mineA 2 t b = b) := Lib.hid (by simp [mineA])
      have EB : Hid (mineB 2 t b = t) := Lib.hid (by simp [mineB])
      clear h1
      go_enter Tryd.func12, Tryd.ntmps12
      go_wp2
      go_ret2
      exact ⟨by rw [EA.out, EB.out]; rfl, Below.refl _ _⟩
    · have EA : Hid (mineA role t b = []) := Lib.hid (by rw [mineA, if_neg h1, if_neg h2])
      have EB : Hid (mineB role t b = []) := Lib.hid (by rw [mineB, if_neg h1, if_neg h2])
      have d1 : (role == 1) = false := by simpa using h1
      have d2 : (role == 2) = false := by simpa using h2
      clear h1 h2
      go_enter Tryd.func12, Tryd.ntmps12
      go_wp2
      go_ret2
      exact ⟨by rw [EA.out, EB.out]; rfl, Below.refl _ _⟩
end Go.Proofs.YtieidemmajdpmaaDoor

namespace Go.Proofs.YtieidemmajdpmaaDoor
set_option maxRecDepth 100000
open Go.RowKit

def greatB (e : Ent) : Bool := decide (1000 < e.name.length) || decide (1000 < e.tag.length)

set_option maxHeartbeats 1000000 in
theorem great_any (a : Ent) (w : World) :
    Calls Tryd.prog 5 #[a.val] w fun e w' => e = .returned (.bool (greatB a)) ∧ Below w.heap.size w w' := by
  obtain ⟨n, i, f, u, x, t⟩ := a
  simp only [Ent.val, Ent.enc]
  obtain ⟨b1, h1⟩ : ∃ b, b = decide (1000 < n.length) := ⟨_, rfl⟩
  obtain ⟨b2, h2⟩ : ∃ b, b = decide (1000 < t.length) := ⟨_, rfl⟩
  have HB : Hid (greatB ⟨n, i, f, u, x, t⟩ = (b1 || b2)) := Lib.hid (by rw [greatB, ← h1, ← h2])
  have r1 : decide ((1000 : Int) < (n.length : Int)) = b1 := by rw [h1]; congr 1; apply propext; omega
  have r2 : decide ((1000 : Int) < (t.length : Int)) = b2 := by rw [h2]; congr 1; apply propext; omega
  have r3 := h1.symm
  have r4 := h2.symm
  clear h1 h2
  cases b1 <;> cases b2
  all_goals
    go_enter Tryd.func5, Tryd.ntmps5
    go_wp2
    go_ret
    exact ⟨by rw [HB.out]; rfl, (Below.refl _ _).alloc (Nat.le_refl _) _⟩
end Go.Proofs.YtieidemmajdpmaaDoor
