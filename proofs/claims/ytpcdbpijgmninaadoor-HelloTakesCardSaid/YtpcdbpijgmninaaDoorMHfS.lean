/- The document's layer 17: what is signed, Greet, Answer, Checks, Agrees. -/
import Derived.Test.YtpcdbpijgmninaaDoorGo
import Derived.Test.YtpcdbpijgmninaaDoorMRecHf
import Derived.Test.YtpcdbpijgmninaaDoorMRecWf
import Derived.Test.YtpcdbpijgmninaaDoorGl
import Derived.Test.YtpcdbpijgmninaaDoorMMacB
import Derived.Test.YtpcdbpijgmninaaDoorGa
namespace Go.Proofs.YtpcdbpijgmninaaDoor
set_option maxRecDepth 100000
open Go.RowKit

/-- A struct built of its parts, in an operation that stands alone. -/
theorem exec_build_rec {P : Program} {ev : Operand → Value} {o : Oper} (t : TypeId) (parts : Array (Nat × Operand)) (ho : o.op = .build t parts) (vs : Array (Nat × Value)) (hv : (parts.map fun x => (x.1, ev x.2)) = vs) (cells : Array Value) (hb : P.built t vs.toList = some cells) (w : World) :
    (execOp ev o).run P w = .ok (.value (.agg cells)) w := by
  have e := run_build (P := P) w t vs cells hb
  unfold execOp
  simp only [ho, hv, e, Sem.run_bind, Sem.run_pure, Result.andThen_ok]

theorem enc_txt (s : List UInt8) : encS (cutText ⟨s.toArray⟩) = txt s := by rw [cut_text]; rfl
theorem ref_num_b (v : Value) (l : List UInt8) (x size : Nat) (w : World) (h : BytesAt w v l) (h1 : 1 ≤ size) (h8 : size ≤ 8) (hl : l.length ≤ 3000) (hx : x < 18446744073709551616) :
    Calls Tryd.prog 37 #[v, .int .u64 (x : Int), .int .i64 (size : Int)] w fun e w' => ∃ v', e = .returned v' ∧ BytesAt w' v' (l ++ be size x) ∧ Below w.heap.size w w' := by
  have h0 := h
  obtain ⟨A, cap, rfl, -, -⟩ := h0
  refine (ref_num_put A l cap x size w h h1 h8 hl hx).mono ?_
  rintro e w' ⟨v', rfl, o, b⟩
  exact ⟨v', rfl, BytesAt.of_own o, b⟩
theorem ref_text_own (v : Value) (l s : List UInt8) (w : World) (h : BytesAt w v l) (hl : l.length ≤ 3000) (hs : s.length ≤ 70000) :
    Calls Tryd.prog 36 #[v, .string ⟨s.toArray⟩] w fun e w' => ∃ v', e = .returned v' ∧ w'.ownsRow w.heap.size 5 1 v' (l ++ txt s).length (bv (l ++ txt s)) ∧ Below w.heap.size w w' := by
  have h0 := h
  obtain ⟨A, cap, rfl, -, -⟩ := h0
  have C := ref_text_put A l cap ⟨s.toArray⟩ w h hl hs
  rw [enc_txt] at C
  exact C
theorem ref_text_b (v : Value) (l s : List UInt8) (w : World) (h : BytesAt w v l) (hl : l.length ≤ 3000) (hs : s.length ≤ 70000) :
    Calls Tryd.prog 36 #[v, .string ⟨s.toArray⟩] w fun e w' => ∃ v', e = .returned v' ∧ BytesAt w' v' (l ++ txt s) ∧ Below w.heap.size w w' :=
  (ref_text_own v l s w h hl hs).mono fun _ _ ⟨v', he, o, b⟩ => ⟨v', he, BytesAt.of_own o, b⟩

set_option maxRecDepth 100000 in
set_option maxHeartbeats 1000000 in
theorem hfText_own (v : Value) (l : List UInt8) (a : Ent) (w : World) (h : BytesAt w v l) (hl : l.length ≤ 3000) (hn : a.name.length ≤ 1000) (ht : a.tag.length ≤ 1000) (hi : a.id < 18446744073709551616) :
    Calls Tryd.prog 38 #[v, a.val] w fun e w' => ∃ v', e = .returned v' ∧ w'.ownsRow w.heap.size 5 1 v' (l ++ textE a).length (bv (l ++ textE a)) ∧ Below w.heap.size w w' := by
  have H := Lib.hid h
  have CB := fun w => Lib.hid (refBytes_any a hn ht hi w)
  have HT := Lib.hid (show (bytesE a).length ≤ 70000 by rw [bytesE_length]; omega)
  have HE : Hid (textE a = txt (bytesE a)) := Lib.hid (by rw [textE, cutE_small (by omega)])
  generalize textE a = E at *
  generalize bytesE a = R at *
  have HL := Lib.hid hl
  obtain ⟨A, cap, rfl, -, -⟩ := h
  clear hn ht hl hi
  go_enter Tryd.func38, Tryd.ntmps38
  go_wp2_with (refine wpList_box_row rfl 24 _ rfl a.enc.toArray (by with_unfolding_all exact rfl) ?_)
  intro w1 b1 x1 z1
  obtain ⟨gX, hgX⟩ : ∃ g, g = w.heap.size := ⟨_, rfl⟩
  have M_X := Lib.hid (show w.heap.size ≤ gX from by rw [hgX]; exact Nat.le_refl _)
  have B1 := Lib.hid b1
  rw [← hgX] at x1 ⊢
  have X1 : Hid (Ent.At w1 gX a) := Lib.hid x1
  clear b1 x1 z1 hgX 
  go_wp2_with (with_reducible refine wpList_load_whole Ent.isRec rfl _ rfl gX (by with_unfolding_all exact rfl) _ _ (Ent.len _) X1.out ?_)
  refine ((CB w1).out).mono ?_
  rintro e2 w2 ⟨v2, rfl, y2, b2⟩
  have X2 : Hid (Ent.At w2 gX a) := Lib.hid (Whole.below X1.out b2 X1.out.lt)
  have B2 := Lib.hid (B1.out.trans (b2.mono B1.out.size))
  have Y2 : Hid (BytesAt w2 v2 R) := Lib.hid y2
  clear b2 X1 B1 y2
  have r2 := conv_bytes Y2.out
  have C := ref_text_own _ l R w2 (H.out.below B2.out) HL.out HT.out
  rw [← HE.out] at C
  have C := Lib.hid C
  go_wp2_with fail
  refine C.out.mono ?_
  rintro e w3 ⟨v3, rfl, o3, b3⟩
  have O3 := Lib.hid (own_less o3 B2.out.size)
  have B3 := Lib.hid (B2.out.trans (b3.mono B2.out.size))
  clear o3 b3 C r2
  go_wp2
  go_ret
  exact ⟨_, rfl, O3.out, B3.out⟩
theorem hfText_b (v : Value) (l : List UInt8) (a : Ent) (w : World) (h : BytesAt w v l) (hl : l.length ≤ 3000) (hn : a.name.length ≤ 1000) (ht : a.tag.length ≤ 1000) (hi : a.id < 18446744073709551616) :
    Calls Tryd.prog 38 #[v, a.val] w fun e w' => ∃ v', e = .returned v' ∧ BytesAt w' v' (l ++ textE a) ∧ Below w.heap.size w w' :=
  (hfText_own v l a w h hl hn ht hi).mono fun _ _ ⟨v', he, o, b⟩ => ⟨v', he, BytesAt.of_own o, b⟩

set_option maxRecDepth 100000 in
set_option maxHeartbeats 1000000 in
theorem hfGreet_any (k d : List UInt8) (n : Nat) (a : Ent) (w : World) (hk : k.length ≤ 5000) (hd : d.length ≤ 300) (hm : n < 18446744073709551616) (hn : a.name.length ≤ 1000) (ht : a.tag.length ≤ 1000) (hi : a.id < 18446744073709551616) :
    Calls Tryd.prog 12 #[.string ⟨k.toArray⟩, .string ⟨d.toArray⟩, .int .u64 (n : Int), a.val] w fun e w' => e = .returned (greetH k d n a).val ∧ Below w.heap.size w w' := by
  have HK := Lib.hid hk
  have HM := Lib.hid hm
  have HD := Lib.hid (Nat.le_trans hd (by decide : 300 ≤ 70000))
  have LD := Lib.hid (show (helloHead ++ txt d).length ≤ 3000 by
    rw [List.length_append, txt_length]
    have := cutL_less d
    have : helloHead.length = 14 := rfl
    omega)
  have LN := Lib.hid (show (helloHead ++ txt d ++ be 8 n).length ≤ 3000 by
    rw [List.length_append, List.length_append, txt_length, be_length]
    have := cutL_less d
    have : helloHead.length = 14 := rfl
    omega)
  have LG := Lib.hid (show (greetT d n a).length ≤ 4900 by
    rw [greetT, List.length_append]
    have := greetP_less d n a hd hn ht
    have : helloHead.length = 14 := rfl
    omega)
  have CE := fun v w h => Lib.hid (hfText_b v (helloHead ++ txt d ++ be 8 n) a w h LN.out hn ht hi)
  have HT : Hid (helloHead ++ txt d ++ be 8 n ++ textE a = greetT d n a) := Lib.hid (by simp [greetT, greetP])
  have HG : Hid (greetH k d n a = ⟨d, n, a, macL k (greetT d n a)⟩) := Lib.hid rfl
  rw [HT.out] at CE
  generalize greetT d n a = G at *
  generalize greetH k d n a = R at *
  clear hk hd hm hn ht hi HT
  go_enter Tryd.func12, Tryd.ntmps12
  go_wp2_with (refine wpList_box_row rfl 24 _ rfl a.enc.toArray (by with_unfolding_all exact rfl) ?_)
  intro w1 b1 x1 z1
  obtain ⟨gE, hgE⟩ : ∃ g, g = w.heap.size := ⟨_, rfl⟩
  have M_E := Lib.hid (show w.heap.size ≤ gE from by rw [hgE]; exact Nat.le_refl _)
  have B1 := Lib.hid b1
  rw [← hgE] at x1 ⊢
  have E1 : Hid (Ent.At w1 gE a) := Lib.hid x1
  clear b1 x1 z1 hgE 
  go_wp2_with (first | (with_reducible refine wpList_load_whole Ent.isRec rfl _ rfl gE (by with_unfolding_all exact rfl) _ _ (Ent.len _) E1.out ?_) | (refine wpList_alloc_row rfl 34 rfl (Her.enc Her.zero).toArray Her.zero_is ?_))
  intro w2 b2 x2 z2
  obtain ⟨gR, hgR⟩ : ∃ g, g = w1.heap.size := ⟨_, rfl⟩
  have N_E_R := Lib.hid (show gE < gR from by rw [hgR]; exact E1.out.lt)
  have M_R := Lib.hid (show w.heap.size ≤ gR from by rw [hgR]; exact B1.out.size)
  have E2 : Hid (Ent.At w2 gE a) := Lib.hid (Whole.below E1.out b2 E1.out.lt)
  have B2 := Lib.hid (B1.out.trans (b2.mono B1.out.size))
  rw [← hgR] at x2 ⊢
  have R2 : Hid (Her.At w2 gR Her.zero) := Lib.hid x2
  clear b2 x2 z2 hgR E1 B1
  have rL := hello_conv w2
  have y3 := hello_lit w2
  have b3 : Below w2.heap.size w2 (w2.alloc (.cells #[.int .u8 99, .int .u8 97, .int .u8 114, .int .u8 99, .int .u8 97, .int .u8 110, .int .u8 101, .int .u8 116, .int .u8 32, .int .u8 104, .int .u8 101, .int .u8 108, .int .u8 108, .int .u8 111] 5 (14, 15))) := (Below.refl _ _).alloc (Nat.le_refl _) _
  have E3 : Hid (Ent.At (w2.alloc (.cells #[.int .u8 99, .int .u8 97, .int .u8 114, .int .u8 99, .int .u8 97, .int .u8 110, .int .u8 101, .int .u8 116, .int .u8 32, .int .u8 104, .int .u8 101, .int .u8 108, .int .u8 108, .int .u8 111] 5 (14, 15))) gE a) := Lib.hid (Whole.below E2.out b3 E2.out.lt)
  have R3 : Hid (Her.At (w2.alloc (.cells #[.int .u8 99, .int .u8 97, .int .u8 114, .int .u8 99, .int .u8 97, .int .u8 110, .int .u8 101, .int .u8 116, .int .u8 32, .int .u8 104, .int .u8 101, .int .u8 108, .int .u8 108, .int .u8 111] 5 (14, 15))) gR Her.zero) := Lib.hid (Whole.below R2.out b3 R2.out.lt)
  have B3 := Lib.hid (B2.out.trans (b3.mono B2.out.size))
  have L3 : Hid (BytesAt (w2.alloc (.cells #[.int .u8 99, .int .u8 97, .int .u8 114, .int .u8 99, .int .u8 97, .int .u8 110, .int .u8 101, .int .u8 116, .int .u8 32, .int .u8 104, .int .u8 101, .int .u8 108, .int .u8 108, .int .u8 111] 5 (14, 15))) (.slice (some ⟨w2.heap.size, 0, none⟩) 14 14) helloHead) := Lib.hid y3
  clear b3 y3 E2 R2 B2
  go_wp2_with (first | (with_reducible refine wpList_load_whole Ent.isRec rfl _ rfl gE (by with_unfolding_all exact rfl) _ _ (Ent.len _) E3.out ?_) | (with_reducible refine wpList_load_whole Her.isRec rfl _ rfl gR (by with_unfolding_all exact rfl) _ _ (Her.len _) R3.out ?_) | (with_reducible refine wpList_load_rec Ent.isRec rfl _ rfl gR 2 (by with_unfolding_all exact rfl) _ (Ent.len _) (Her.At.part_entry R3.out) ?_))
  refine ((ref_text_b _ helloHead d (w2.alloc (.cells #[.int .u8 99, .int .u8 97, .int .u8 114, .int .u8 99, .int .u8 97, .int .u8 110, .int .u8 101, .int .u8 116, .int .u8 32, .int .u8 104, .int .u8 101, .int .u8 108, .int .u8 108, .int .u8 111] 5 (14, 15))) L3.out (by decide) HD.out)).mono ?_
  rintro e4 w4 ⟨v3, rfl, y3, b4⟩
  have E4 : Hid (Ent.At w4 gE a) := Lib.hid (Whole.below E3.out b4 E3.out.lt)
  have R4 : Hid (Her.At w4 gR Her.zero) := Lib.hid (Whole.below R3.out b4 R3.out.lt)
  have L4 : Hid (BytesAt w4 (.slice (some ⟨w2.heap.size, 0, none⟩) 14 14) helloHead) := Lib.hid (L3.out.below b4)
  have B4 := Lib.hid (B3.out.trans (b4.mono B3.out.size))
  have Y4 : Hid (BytesAt w4 v3 (helloHead ++ txt d)) := Lib.hid y3
  clear b4 E3 R3 L3 B3 y3
  clear L4
  clear rL
  go_wp2_with (first | (with_reducible refine wpList_load_whole Ent.isRec rfl _ rfl gE (by with_unfolding_all exact rfl) _ _ (Ent.len _) E4.out ?_) | (with_reducible refine wpList_load_whole Her.isRec rfl _ rfl gR (by with_unfolding_all exact rfl) _ _ (Her.len _) R4.out ?_) | (with_reducible refine wpList_load_rec Ent.isRec rfl _ rfl gR 2 (by with_unfolding_all exact rfl) _ (Ent.len _) (Her.At.part_entry R4.out) ?_))
  refine ((ref_num_b v3 (helloHead ++ txt d) n 8 w4 Y4.out (by decide) (by decide) LD.out HM.out)).mono ?_
  rintro e5 w5 ⟨v4, rfl, y4, b5⟩
  have E5 : Hid (Ent.At w5 gE a) := Lib.hid (Whole.below E4.out b5 E4.out.lt)
  have R5 : Hid (Her.At w5 gR Her.zero) := Lib.hid (Whole.below R4.out b5 R4.out.lt)
  have Y5 : Hid (BytesAt w5 v3 (helloHead ++ txt d)) := Lib.hid (Y4.out.below b5)
  have B5 := Lib.hid (B4.out.trans (b5.mono B4.out.size))
  have Z5 : Hid (BytesAt w5 v4 (helloHead ++ txt d ++ be 8 n)) := Lib.hid y4
  clear b5 E4 R4 Y4 B4 y4
  clear Y5
  go_wp2_with (first | (with_reducible refine wpList_load_whole Ent.isRec rfl _ rfl gE (by with_unfolding_all exact rfl) _ _ (Ent.len _) E5.out ?_) | (with_reducible refine wpList_load_whole Her.isRec rfl _ rfl gR (by with_unfolding_all exact rfl) _ _ (Her.len _) R5.out ?_) | (with_reducible refine wpList_load_rec Ent.isRec rfl _ rfl gR 2 (by with_unfolding_all exact rfl) _ (Ent.len _) (Her.At.part_entry R5.out) ?_))
  refine ((CE v4 w5 Z5.out).out).mono ?_
  rintro e6 w6 ⟨v5, rfl, y5, b6⟩
  have E6 : Hid (Ent.At w6 gE a) := Lib.hid (Whole.below E5.out b6 E5.out.lt)
  have R6 : Hid (Her.At w6 gR Her.zero) := Lib.hid (Whole.below R5.out b6 R5.out.lt)
  have Z6 : Hid (BytesAt w6 v4 (helloHead ++ txt d ++ be 8 n)) := Lib.hid (Z5.out.below b6)
  have B6 := Lib.hid (B5.out.trans (b6.mono B5.out.size))
  have T6 : Hid (BytesAt w6 v5 G) := Lib.hid y5
  clear b6 E5 R5 Z5 B5 y5
  clear Z6
  go_wp2_with fail
  obtain ⟨W0, hW0⟩ : ∃ W0, W0 = w6.drew := ⟨_, rfl⟩
  have E0 : Ent.At W0 gE a := by rw [hW0]; exact E6.out
  have R0 : Her.At W0 gR Her.zero := by rw [hW0]; exact R6.out
  have B0 : Below w.heap.size w W0 := by rw [hW0]; exact B6.out.drew
  have T0 : BytesAt W0 v5 G := by rw [hW0]; exact T6.out.drewN 1
  refine regS_begin (fun w' => Ent.At w' gE a) (by kernel_rfl) (by rw [← hW0]; exact E0) ?_
  rw [← hW0]
  have hS := E0
  clear E6 R6 B6 T6 hW0
  refine regS_take (i := 0) (v := ?_) rfl (by kernel_rfl) (by kernel_rfl) (by kernel_rfl) (fun _ _ _ h => h) (by rfl) hS ?hy0 ?_
  case hy0 => intro w' hw'; go_simp; (try with_reducible rfl)
  simp only [Act.put, List.setIfInBounds_toArray, List.set_cons_zero, List.set_cons_succ]
  refine regS_take (i := 1) (v := ?_) rfl (by kernel_rfl) (by kernel_rfl) (by kernel_rfl) (fun _ _ _ h => h) (by rfl) hS ?hy1 ?_
  case hy1 => intro w' hw'; go_simp; (try with_reducible rfl)
  simp only [Act.put, List.setIfInBounds_toArray, List.set_cons_zero, List.set_cons_succ]
  refine regS_take (i := 2) (v := a.val) rfl (by kernel_rfl) (by kernel_rfl) (by kernel_rfl) (fun _ _ _ h => h) (by rfl) hS ?hy2 ?_
  case hy2 => intro w' hw'; exact exec_load_whole Ent.isRec _ rfl gE rfl _ _ (Ent.len _) w' hw'
  simp only [Act.put, List.setIfInBounds_toArray, List.set_cons_zero, List.set_cons_succ]
  refine regS_take (i := 3) (v := ?_) rfl (by kernel_rfl) (by kernel_rfl) (by kernel_rfl) (fun _ _ _ h => h) (by rfl) hS ?hy3 ?_
  case hy3 => intro w' hw'; go_simp; (try with_reducible rfl)
  simp only [Act.put, List.setIfInBounds_toArray, List.set_cons_zero, List.set_cons_succ]
  refine regS_take (i := 5) (v := ?_) rfl (by kernel_rfl) (by kernel_rfl) (by kernel_rfl) (fun _ _ _ h => h) (by rfl) hS ?hy5 ?_
  case hy5 => intro w' hw'; go_simp; (try with_reducible rfl)
  simp only [Act.put, List.setIfInBounds_toArray, List.set_cons_zero, List.set_cons_succ]
  refine regS_do (i := 4) rfl (by kernel_rfl) (fun K' hK => ?_)
  obtain ⟨vk, wa, ra, ya, ba⟩ := conv_str W0 ⟨k.toArray⟩
  go_simp
  have ya : BytesAt wa vk k := by simpa using ya
  have Ea : Ent.At wa gE a := Whole.below E0 ba (Whole.lt E0)
  have Ra : Her.At wa gR Her.zero := Whole.below R0 ba (Whole.lt R0)
  have Ta := T0.below ba
  have Ba : Below w.heap.size w wa := B0.trans (ba.mono B0.size)
  refine hK.out _ _ Ea ?_
  clear hK K' ra ba E0 R0 T0 B0 hS
  refine regS_do (i := 6) rfl (by kernel_rfl) (fun K' hK => ?_)
  go_simp
  refine (refMac_any vk v5 k G wa ya Ta HK.out LG.out).mono ?_
  rintro e wb ⟨vb, rfl, yb, bb⟩
  have Eb : Ent.At wb gE a := Whole.below Ea bb (Whole.lt Ea)
  have Rb : Her.At wb gR Her.zero := Whole.below Ra bb (Whole.lt Ra)
  have Bb : Below w.heap.size w wb := Ba.trans (bb.mono Ba.size)
  refine hK.out _ _ Eb ?_
  clear hK K' bb Ea Ra Ta Ba ya
  refine regS_do (i := 7) rfl (by kernel_rfl) (fun K' hK => ?_)
  have rm := conv_bytes yb
  go_simp
  refine hK.out _ _ Eb ?_
  clear hK K' rm yb
  have hS := Eb
  refine regS_take (i := 8) (v := Her.val ⟨d, n, a, macL k G⟩) rfl (by kernel_rfl) (by kernel_rfl) (by kernel_rfl) (fun _ _ _ h => h) (by rfl) hS ?hy8 ?_
  case hy8 => intro w' hw'; exact exec_build_rec 34 _ rfl #[(0, .string ⟨d.toArray⟩), (1, .int .u64 (n : Int)), (2, a.val), (3, .string ⟨(macL k G).toArray⟩)] (by with_unfolding_all exact rfl) _ (by kernel_rfl) w'
  simp only [Act.put, List.setIfInBounds_toArray, List.set_cons_zero, List.set_cons_succ]
  refine regS_do (i := 9) rfl (by kernel_rfl) (fun K' hK => ?_)
  refine (if_pos (by kernel_rfl)).mpr ?_
  refine wp_store_whole 34 _ _ rfl gR (Her.enc ⟨d, n, a, macL k G⟩).toArray (by with_unfolding_all exact rfl) (by with_unfolding_all exact rfl) _ _ Rb (Her.size _) rfl (Her.one _) ?_
  intro wc qc xc zc
  have Rc : Hid (Her.At wc gR ⟨d, n, a, macL k G⟩) := Lib.hid xc
  have Ec : Ent.At wc gE a := grown_far Eb qc (by have := N_E_R.out; omega)
  have Bc : Hid (Below w.heap.size w wc) := Lib.hid (Bb.grown qc Bb.size (fun k hk => by injection hk with hk; have := M_R.out; omega))
  refine hK.out _ _ Ec ?_
  clear hK K' qc xc zc Eb Rb Bb hS Ec
  refine regS_end (by kernel_rfl) ?_
  go_wp2
  rw [HG.out]
  exact bodyPost_ret (results_rec Her.isRec rfl _ _ _ _ _ rfl rfl Rc.out) rfl ⟨rfl, Bc.out⟩

set_option maxRecDepth 100000 in
set_option maxHeartbeats 1000000 in
theorem hfAnswer_any (k : List UInt8) (x : Her) (s : Nat) (b : Ent) (w : World) (hk : k.length ≤ 5000) (hm : x.nonce < 18446744073709551616) (hs : s < 18446744073709551616) (hn : x.entry.name.length ≤ 1000) (ht : x.entry.tag.length ≤ 1000) (hi : x.entry.id < 18446744073709551616) (kn : b.name.length ≤ 1000) (kt : b.tag.length ≤ 1000) (ki : b.id < 18446744073709551616) :
    Calls Tryd.prog 13 #[.string ⟨k.toArray⟩, Her.val x, .int .u64 (s : Int), b.val] w fun e w' => e = .returned (answerW k x s b).val ∧ Below w.heap.size w w' := by
  have HK := Lib.hid hk
  have HM := Lib.hid hm
  have HS := Lib.hid hs
  have CX := fun v w h => Lib.hid (hfText_b v (welcomeHead ++ be 8 x.nonce ++ be 8 s) x.entry w h (by simp [be_length, welcomeHead]) hn ht hi)
  have LX := textE_less hn ht
  have CB := fun v w h => Lib.hid (hfText_b v (welcomeHead ++ be 8 x.nonce ++ be 8 s ++ textE x.entry) b w h (by simp only [List.length_append, be_length, welcomeHead, List.length_cons, List.length_nil]; omega) kn kt ki)
  have LG := Lib.hid (Nat.le_trans (welcT_less x.nonce s x.entry b hn ht kn kt) (by decide : 4076 ≤ 4900))
  have HT : Hid (welcomeHead ++ be 8 x.nonce ++ be 8 s ++ textE x.entry ++ textE b = welcT x.nonce s x.entry b) := Lib.hid rfl
  have HG : Hid (answerW k x s b = ⟨x.nonce, s, b, macL k (welcT x.nonce s x.entry b)⟩) := Lib.hid rfl
  rw [HT.out] at CB
  generalize welcT x.nonce s x.entry b = G at *
  generalize answerW k x s b = R at *
  clear hk hm hs hn ht hi kn kt ki HT LX
  go_enter Tryd.func13, Tryd.ntmps13
  go_wp2_with (refine wpList_box_row rfl 34 _ rfl (Her.enc x).toArray (by with_unfolding_all exact rfl) ?_)
  intro w1 b1 x1 z1
  obtain ⟨gX, hgX⟩ : ∃ g, g = w.heap.size := ⟨_, rfl⟩
  have M_X := Lib.hid (show w.heap.size ≤ gX from by rw [hgX]; exact Nat.le_refl _)
  have B1 := Lib.hid b1
  rw [← hgX] at x1 ⊢
  have X1 : Hid (Her.At w1 gX x) := Lib.hid x1
  clear b1 x1 z1 hgX 
  go_wp2_with (first | (with_reducible refine wpList_load_whole Her.isRec rfl _ rfl gX (by with_unfolding_all exact rfl) _ _ (Her.len _) X1.out ?_) | (with_reducible refine wpList_load_rec Ent.isRec rfl _ rfl gX 2 (by with_unfolding_all exact rfl) _ (Ent.len _) (Her.At.part_entry X1.out) ?_) | (refine wpList_box_row rfl 24 _ rfl b.enc.toArray (by with_unfolding_all exact rfl) ?_))
  intro w2 b2 x2 z2
  obtain ⟨gE, hgE⟩ : ∃ g, g = w1.heap.size := ⟨_, rfl⟩
  have N_X_E := Lib.hid (show gX < gE from by rw [hgE]; exact X1.out.lt)
  have M_E := Lib.hid (show w.heap.size ≤ gE from by rw [hgE]; exact B1.out.size)
  have X2 : Hid (Her.At w2 gX x) := Lib.hid (Whole.below X1.out b2 X1.out.lt)
  have B2 := Lib.hid (B1.out.trans (b2.mono B1.out.size))
  rw [← hgE] at x2 ⊢
  have E2 : Hid (Ent.At w2 gE b) := Lib.hid x2
  clear b2 x2 z2 hgE X1 B1
  go_wp2_with (first | (with_reducible refine wpList_load_whole Her.isRec rfl _ rfl gX (by with_unfolding_all exact rfl) _ _ (Her.len _) X2.out ?_) | (with_reducible refine wpList_load_rec Ent.isRec rfl _ rfl gX 2 (by with_unfolding_all exact rfl) _ (Ent.len _) (Her.At.part_entry X2.out) ?_) | (with_reducible refine wpList_load_whole Ent.isRec rfl _ rfl gE (by with_unfolding_all exact rfl) _ _ (Ent.len _) E2.out ?_) | (refine wpList_alloc_row rfl 36 rfl (Wer.enc Wer.zero).toArray Wer.zero_is ?_))
  intro w3 b3 x3 z3
  obtain ⟨gR, hgR⟩ : ∃ g, g = w2.heap.size := ⟨_, rfl⟩
  have N_X_R := Lib.hid (show gX < gR from by rw [hgR]; exact X2.out.lt)
  have N_E_R := Lib.hid (show gE < gR from by rw [hgR]; exact E2.out.lt)
  have M_R := Lib.hid (show w.heap.size ≤ gR from by rw [hgR]; exact B2.out.size)
  have X3 : Hid (Her.At w3 gX x) := Lib.hid (Whole.below X2.out b3 X2.out.lt)
  have E3 : Hid (Ent.At w3 gE b) := Lib.hid (Whole.below E2.out b3 E2.out.lt)
  have B3 := Lib.hid (B2.out.trans (b3.mono B2.out.size))
  rw [← hgR] at x3 ⊢
  have R3 : Hid (Wer.At w3 gR Wer.zero) := Lib.hid x3
  clear b3 x3 z3 hgR X2 E2 B2
  have rL := welcome_conv w3
  have y4 := welcome_lit w3
  have b4 : Below w3.heap.size w3 (w3.alloc (.cells #[.int .u8 99, .int .u8 97, .int .u8 114, .int .u8 99, .int .u8 97, .int .u8 110, .int .u8 101, .int .u8 116, .int .u8 32, .int .u8 119, .int .u8 101, .int .u8 108, .int .u8 99, .int .u8 111, .int .u8 109, .int .u8 101] 5 (16, 17))) := (Below.refl _ _).alloc (Nat.le_refl _) _
  have X4 : Hid (Her.At (w3.alloc (.cells #[.int .u8 99, .int .u8 97, .int .u8 114, .int .u8 99, .int .u8 97, .int .u8 110, .int .u8 101, .int .u8 116, .int .u8 32, .int .u8 119, .int .u8 101, .int .u8 108, .int .u8 99, .int .u8 111, .int .u8 109, .int .u8 101] 5 (16, 17))) gX x) := Lib.hid (Whole.below X3.out b4 X3.out.lt)
  have E4 : Hid (Ent.At (w3.alloc (.cells #[.int .u8 99, .int .u8 97, .int .u8 114, .int .u8 99, .int .u8 97, .int .u8 110, .int .u8 101, .int .u8 116, .int .u8 32, .int .u8 119, .int .u8 101, .int .u8 108, .int .u8 99, .int .u8 111, .int .u8 109, .int .u8 101] 5 (16, 17))) gE b) := Lib.hid (Whole.below E3.out b4 E3.out.lt)
  have R4 : Hid (Wer.At (w3.alloc (.cells #[.int .u8 99, .int .u8 97, .int .u8 114, .int .u8 99, .int .u8 97, .int .u8 110, .int .u8 101, .int .u8 116, .int .u8 32, .int .u8 119, .int .u8 101, .int .u8 108, .int .u8 99, .int .u8 111, .int .u8 109, .int .u8 101] 5 (16, 17))) gR Wer.zero) := Lib.hid (Whole.below R3.out b4 R3.out.lt)
  have B4 := Lib.hid (B3.out.trans (b4.mono B3.out.size))
  have L4 : Hid (BytesAt (w3.alloc (.cells #[.int .u8 99, .int .u8 97, .int .u8 114, .int .u8 99, .int .u8 97, .int .u8 110, .int .u8 101, .int .u8 116, .int .u8 32, .int .u8 119, .int .u8 101, .int .u8 108, .int .u8 99, .int .u8 111, .int .u8 109, .int .u8 101] 5 (16, 17))) (.slice (some ⟨w3.heap.size, 0, none⟩) 16 16) welcomeHead) := Lib.hid y4
  clear b4 y4 X3 E3 R3 B3
  have cn := Her.At.at_nonce X4.out
  go_wp2_with (first | (with_reducible refine wpList_load_whole Her.isRec rfl _ rfl gX (by with_unfolding_all exact rfl) _ _ (Her.len _) X4.out ?_) | (with_reducible refine wpList_load_rec Ent.isRec rfl _ rfl gX 2 (by with_unfolding_all exact rfl) _ (Ent.len _) (Her.At.part_entry X4.out) ?_) | (with_reducible refine wpList_load_whole Ent.isRec rfl _ rfl gE (by with_unfolding_all exact rfl) _ _ (Ent.len _) E4.out ?_) | (with_reducible refine wpList_load_whole Wer.isRec rfl _ rfl gR (by with_unfolding_all exact rfl) _ _ (Wer.len _) R4.out ?_) | (with_reducible refine wpList_load_rec Ent.isRec rfl _ rfl gR 2 (by with_unfolding_all exact rfl) _ (Ent.len _) (Wer.At.part_entry R4.out) ?_))
  refine ((ref_num_b _ welcomeHead x.nonce 8 (w3.alloc (.cells #[.int .u8 99, .int .u8 97, .int .u8 114, .int .u8 99, .int .u8 97, .int .u8 110, .int .u8 101, .int .u8 116, .int .u8 32, .int .u8 119, .int .u8 101, .int .u8 108, .int .u8 99, .int .u8 111, .int .u8 109, .int .u8 101] 5 (16, 17))) L4.out (by decide) (by decide) (by decide) HM.out)).mono ?_
  rintro e5 w5 ⟨v3, rfl, y3, b5⟩
  have X5 : Hid (Her.At w5 gX x) := Lib.hid (Whole.below X4.out b5 X4.out.lt)
  have E5 : Hid (Ent.At w5 gE b) := Lib.hid (Whole.below E4.out b5 E4.out.lt)
  have R5 : Hid (Wer.At w5 gR Wer.zero) := Lib.hid (Whole.below R4.out b5 R4.out.lt)
  have L5 : Hid (BytesAt w5 (.slice (some ⟨w3.heap.size, 0, none⟩) 16 16) welcomeHead) := Lib.hid (L4.out.below b5)
  have B5 := Lib.hid (B4.out.trans (b5.mono B4.out.size))
  have Y5 : Hid (BytesAt w5 v3 (welcomeHead ++ be 8 x.nonce)) := Lib.hid y3
  clear b5 X4 E4 R4 L4 B4 y3
  clear L5
  clear rL cn
  go_wp2_with (first | (with_reducible refine wpList_load_whole Her.isRec rfl _ rfl gX (by with_unfolding_all exact rfl) _ _ (Her.len _) X5.out ?_) | (with_reducible refine wpList_load_rec Ent.isRec rfl _ rfl gX 2 (by with_unfolding_all exact rfl) _ (Ent.len _) (Her.At.part_entry X5.out) ?_) | (with_reducible refine wpList_load_whole Ent.isRec rfl _ rfl gE (by with_unfolding_all exact rfl) _ _ (Ent.len _) E5.out ?_) | (with_reducible refine wpList_load_whole Wer.isRec rfl _ rfl gR (by with_unfolding_all exact rfl) _ _ (Wer.len _) R5.out ?_) | (with_reducible refine wpList_load_rec Ent.isRec rfl _ rfl gR 2 (by with_unfolding_all exact rfl) _ (Ent.len _) (Wer.At.part_entry R5.out) ?_))
  refine ((ref_num_b v3 (welcomeHead ++ be 8 x.nonce) s 8 w5 Y5.out (by decide) (by decide) (by simp [be_length, welcomeHead]) HS.out)).mono ?_
  rintro e6 w6 ⟨v4, rfl, y4, b6⟩
  have X6 : Hid (Her.At w6 gX x) := Lib.hid (Whole.below X5.out b6 X5.out.lt)
  have E6 : Hid (Ent.At w6 gE b) := Lib.hid (Whole.below E5.out b6 E5.out.lt)
  have R6 : Hid (Wer.At w6 gR Wer.zero) := Lib.hid (Whole.below R5.out b6 R5.out.lt)
  have Y6 : Hid (BytesAt w6 v3 (welcomeHead ++ be 8 x.nonce)) := Lib.hid (Y5.out.below b6)
  have B6 := Lib.hid (B5.out.trans (b6.mono B5.out.size))
  have Z6 : Hid (BytesAt w6 v4 (welcomeHead ++ be 8 x.nonce ++ be 8 s)) := Lib.hid y4
  clear b6 X5 E5 R5 Y5 B5 y4
  clear Y6
  go_wp2_with (first | (with_reducible refine wpList_load_whole Her.isRec rfl _ rfl gX (by with_unfolding_all exact rfl) _ _ (Her.len _) X6.out ?_) | (with_reducible refine wpList_load_rec Ent.isRec rfl _ rfl gX 2 (by with_unfolding_all exact rfl) _ (Ent.len _) (Her.At.part_entry X6.out) ?_) | (with_reducible refine wpList_load_whole Ent.isRec rfl _ rfl gE (by with_unfolding_all exact rfl) _ _ (Ent.len _) E6.out ?_) | (with_reducible refine wpList_load_whole Wer.isRec rfl _ rfl gR (by with_unfolding_all exact rfl) _ _ (Wer.len _) R6.out ?_) | (with_reducible refine wpList_load_rec Ent.isRec rfl _ rfl gR 2 (by with_unfolding_all exact rfl) _ (Ent.len _) (Wer.At.part_entry R6.out) ?_) | (with_reducible refine wpList_load_rec Ent.isRec rfl _ rfl gX 2 (by with_unfolding_all exact rfl) _ (Ent.len _) (Her.At.part_entry X6.out) ?_))
  refine ((CX v4 w6 Z6.out).out).mono ?_
  rintro e7 w7 ⟨v5, rfl, y5, b7⟩
  have X7 : Hid (Her.At w7 gX x) := Lib.hid (Whole.below X6.out b7 X6.out.lt)
  have E7 : Hid (Ent.At w7 gE b) := Lib.hid (Whole.below E6.out b7 E6.out.lt)
  have R7 : Hid (Wer.At w7 gR Wer.zero) := Lib.hid (Whole.below R6.out b7 R6.out.lt)
  have Z7 : Hid (BytesAt w7 v4 (welcomeHead ++ be 8 x.nonce ++ be 8 s)) := Lib.hid (Z6.out.below b7)
  have B7 := Lib.hid (B6.out.trans (b7.mono B6.out.size))
  have U7 : Hid (BytesAt w7 v5 (welcomeHead ++ be 8 x.nonce ++ be 8 s ++ textE x.entry)) := Lib.hid y5
  clear b7 X6 E6 R6 Z6 B6 y5
  clear Z7
  go_wp2_with (first | (with_reducible refine wpList_load_whole Her.isRec rfl _ rfl gX (by with_unfolding_all exact rfl) _ _ (Her.len _) X7.out ?_) | (with_reducible refine wpList_load_rec Ent.isRec rfl _ rfl gX 2 (by with_unfolding_all exact rfl) _ (Ent.len _) (Her.At.part_entry X7.out) ?_) | (with_reducible refine wpList_load_whole Ent.isRec rfl _ rfl gE (by with_unfolding_all exact rfl) _ _ (Ent.len _) E7.out ?_) | (with_reducible refine wpList_load_whole Wer.isRec rfl _ rfl gR (by with_unfolding_all exact rfl) _ _ (Wer.len _) R7.out ?_) | (with_reducible refine wpList_load_rec Ent.isRec rfl _ rfl gR 2 (by with_unfolding_all exact rfl) _ (Ent.len _) (Wer.At.part_entry R7.out) ?_))
  refine ((CB v5 w7 U7.out).out).mono ?_
  rintro e8 w8 ⟨v6, rfl, y6, b8⟩
  have X8 : Hid (Her.At w8 gX x) := Lib.hid (Whole.below X7.out b8 X7.out.lt)
  have E8 : Hid (Ent.At w8 gE b) := Lib.hid (Whole.below E7.out b8 E7.out.lt)
  have R8 : Hid (Wer.At w8 gR Wer.zero) := Lib.hid (Whole.below R7.out b8 R7.out.lt)
  have U8 : Hid (BytesAt w8 v5 (welcomeHead ++ be 8 x.nonce ++ be 8 s ++ textE x.entry)) := Lib.hid (U7.out.below b8)
  have B8 := Lib.hid (B7.out.trans (b8.mono B7.out.size))
  have T8 : Hid (BytesAt w8 v6 G) := Lib.hid y6
  clear b8 X7 E7 R7 U7 B7 y6
  clear U8
  go_wp2_with fail
  obtain ⟨W0, hW0⟩ : ∃ W0, W0 = w8.drew := ⟨_, rfl⟩
  have X0 : Her.At W0 gX x := by rw [hW0]; exact X8.out
  have E0 : Ent.At W0 gE b := by rw [hW0]; exact E8.out
  have R0 : Wer.At W0 gR Wer.zero := by rw [hW0]; exact R8.out
  have B0 : Below w.heap.size w W0 := by rw [hW0]; exact B8.out.drew
  have T0 : BytesAt W0 v6 G := by rw [hW0]; exact T8.out.drewN 1
  refine regS_begin (fun w' => Her.At w' gX x ∧ Ent.At w' gE b) (by kernel_rfl) (by rw [← hW0]; exact ⟨X0, E0⟩) ?_
  rw [← hW0]
  have hS : Her.At W0 gX x ∧ Ent.At W0 gE b := ⟨X0, E0⟩
  clear X8 E8 R8 B8 T8 hW0
  refine regS_take (i := 0) (v := ?_) rfl (by kernel_rfl) (by kernel_rfl) (by kernel_rfl) (fun _ _ _ h => h) (by rfl) hS ?hy0 ?_
  case hy0 => intro w' hw'; go_simp; (try with_reducible rfl)
  simp only [Act.put, List.setIfInBounds_toArray, List.set_cons_zero, List.set_cons_succ]
  refine regS_take (i := 1) (v := .int .u64 (x.nonce : Int)) rfl (by kernel_rfl) (by kernel_rfl) (by kernel_rfl) (fun _ _ _ h => h) (by rfl) hS ?hy1 ?_
  case hy1 => intro w' hw'; have c := Her.At.at_nonce hw'.1; go_simp; (try with_reducible rfl)
  simp only [Act.put, List.setIfInBounds_toArray, List.set_cons_zero, List.set_cons_succ]
  refine regS_take (i := 2) (v := ?_) rfl (by kernel_rfl) (by kernel_rfl) (by kernel_rfl) (fun _ _ _ h => h) (by rfl) hS ?hy2 ?_
  case hy2 => intro w' hw'; go_simp; (try with_reducible rfl)
  simp only [Act.put, List.setIfInBounds_toArray, List.set_cons_zero, List.set_cons_succ]
  refine regS_take (i := 3) (v := b.val) rfl (by kernel_rfl) (by kernel_rfl) (by kernel_rfl) (fun _ _ _ h => h) (by rfl) hS ?hy3 ?_
  case hy3 => intro w' hw'; exact exec_load_whole Ent.isRec _ rfl gE rfl _ _ (Ent.len _) w' hw'.2
  simp only [Act.put, List.setIfInBounds_toArray, List.set_cons_zero, List.set_cons_succ]
  refine regS_take (i := 4) (v := ?_) rfl (by kernel_rfl) (by kernel_rfl) (by kernel_rfl) (fun _ _ _ h => h) (by rfl) hS ?hy4 ?_
  case hy4 => intro w' hw'; go_simp; (try with_reducible rfl)
  simp only [Act.put, List.setIfInBounds_toArray, List.set_cons_zero, List.set_cons_succ]
  refine regS_take (i := 6) (v := ?_) rfl (by kernel_rfl) (by kernel_rfl) (by kernel_rfl) (fun _ _ _ h => h) (by rfl) hS ?hy6 ?_
  case hy6 => intro w' hw'; go_simp; (try with_reducible rfl)
  simp only [Act.put, List.setIfInBounds_toArray, List.set_cons_zero, List.set_cons_succ]
  refine regS_do (i := 5) rfl (by kernel_rfl) (fun K' hK => ?_)
  obtain ⟨vk, wa, ra, ya, ba⟩ := conv_str W0 ⟨k.toArray⟩
  go_simp
  have ya : BytesAt wa vk k := by simpa using ya
  have Sa : Her.At wa gX x ∧ Ent.At wa gE b := ⟨Whole.below X0 ba (Whole.lt X0), Whole.below E0 ba (Whole.lt E0)⟩
  have Ra : Wer.At wa gR Wer.zero := Whole.below R0 ba (Whole.lt R0)
  have Ta := T0.below ba
  have Ba : Below w.heap.size w wa := B0.trans (ba.mono B0.size)
  refine hK.out _ _ Sa ?_
  clear hK K' ra ba X0 E0 R0 T0 B0 hS
  refine regS_do (i := 7) rfl (by kernel_rfl) (fun K' hK => ?_)
  go_simp
  refine (refMac_any vk v6 k G wa ya Ta HK.out LG.out).mono ?_
  rintro e wb ⟨vb, rfl, yb, bb⟩
  have Sb : Her.At wb gX x ∧ Ent.At wb gE b := ⟨Whole.below Sa.1 bb (Whole.lt Sa.1), Whole.below Sa.2 bb (Whole.lt Sa.2)⟩
  have Rb : Wer.At wb gR Wer.zero := Whole.below Ra bb (Whole.lt Ra)
  have Bb : Below w.heap.size w wb := Ba.trans (bb.mono Ba.size)
  refine hK.out _ _ Sb ?_
  clear hK K' bb Sa Ra Ta Ba ya
  refine regS_do (i := 8) rfl (by kernel_rfl) (fun K' hK => ?_)
  have rm := conv_bytes yb
  go_simp
  refine hK.out _ _ Sb ?_
  clear hK K' rm yb
  have hS := Sb
  refine regS_take (i := 9) (v := Wer.val ⟨x.nonce, s, b, macL k G⟩) rfl (by kernel_rfl) (by kernel_rfl) (by kernel_rfl) (fun _ _ _ h => h) (by rfl) hS ?hy9 ?_
  case hy9 => intro w' hw'; exact exec_build_rec 36 _ rfl #[(0, .int .u64 (x.nonce : Int)), (1, .int .u64 (s : Int)), (2, b.val), (3, .string ⟨(macL k G).toArray⟩)] (by with_unfolding_all exact rfl) _ (by kernel_rfl) w'
  simp only [Act.put, List.setIfInBounds_toArray, List.set_cons_zero, List.set_cons_succ]
  refine regS_do (i := 10) rfl (by kernel_rfl) (fun K' hK => ?_)
  refine (if_pos (by kernel_rfl)).mpr ?_
  refine wp_store_whole 36 _ _ rfl gR (Wer.enc ⟨x.nonce, s, b, macL k G⟩).toArray (by with_unfolding_all exact rfl) (by with_unfolding_all exact rfl) _ _ Rb (Wer.size _) rfl (Wer.one _) ?_
  intro wc qc xc zc
  have Rc : Hid (Wer.At wc gR ⟨x.nonce, s, b, macL k G⟩) := Lib.hid xc
  have Sc : Her.At wc gX x ∧ Ent.At wc gE b := ⟨grown_far Sb.1 qc (by have := N_X_R.out; omega), grown_far Sb.2 qc (by have := N_E_R.out; omega)⟩
  have Bc : Hid (Below w.heap.size w wc) := Lib.hid (Bb.grown qc Bb.size (fun k hk => by injection hk with hk; have := M_R.out; omega))
  refine hK.out _ _ Sc ?_
  clear hK K' qc xc zc Sb Rb Bb hS Sc
  refine regS_end (by kernel_rfl) ?_
  go_wp2
  rw [HG.out]
  exact bodyPost_ret (results_rec Wer.isRec rfl _ _ _ _ _ rfl rfl Rc.out) rfl ⟨rfl, Bc.out⟩

set_option maxRecDepth 100000 in
set_option maxHeartbeats 1000000 in
theorem hfChecks_any (k : List UInt8) (x : Her) (w : World) (hk : k.length ≤ 5000) (hd : x.dest.length ≤ 300) (hm : x.nonce < 18446744073709551616) (hn : x.entry.name.length ≤ 1000) (ht : x.entry.tag.length ≤ 1000) (hi : x.entry.id < 18446744073709551616) :
    Calls Tryd.prog 15 #[.string ⟨k.toArray⟩, Her.val x] w fun e w' => e = .returned (.bool (checksB k x)) ∧ Below w.heap.size w w' := by
  have CG := fun w => Lib.hid (hfGreet_any k x.dest x.nonce x.entry w hk hd hm hn ht hi)
  have HQ := Lib.hid (checks_eq k x)
  generalize checksB k x = q at *
  generalize greetH k x.dest x.nonce x.entry = R at *
  clear hk hd hm hn ht hi
  go_enter Tryd.func15, Tryd.ntmps15
  go_wp2_with (refine wpList_box_row rfl 34 _ rfl (Her.enc x).toArray (by with_unfolding_all exact rfl) ?_)
  intro w1 b1 x1 z1
  obtain ⟨gX, hgX⟩ : ∃ g, g = w.heap.size := ⟨_, rfl⟩
  have M_X := Lib.hid (show w.heap.size ≤ gX from by rw [hgX]; exact Nat.le_refl _)
  have B1 := Lib.hid b1
  rw [← hgX] at x1 ⊢
  have X1 : Hid (Her.At w1 gX x) := Lib.hid x1
  clear b1 x1 z1 hgX 
  go_wp2_with (first | (with_reducible refine wpList_load_whole Her.isRec rfl _ rfl gX (by with_unfolding_all exact rfl) _ _ (Her.len _) X1.out ?_) | (with_reducible refine wpList_load_rec Ent.isRec rfl _ rfl gX 2 (by with_unfolding_all exact rfl) _ (Ent.len _) (Her.At.part_entry X1.out) ?_))
  refine reg_begin (by kernel_rfl) fun w2 b2 z2 => ?_
  have X2 : Hid (Her.At w2 gX x) := Lib.hid (Whole.below X1.out b2 X1.out.lt)
  have B2 := Lib.hid (B1.out.trans (b2.mono B1.out.size))
  clear b2 z2 X1 B1
  refine reg_take (i := 0) (v := ?_) rfl (by kernel_rfl) (by kernel_rfl) (by kernel_rfl) (fun _ _ _ h => h) (by rfl) ?hy0 ?_
  case hy0 => intro w' hw'; go_simp; (try with_reducible rfl)
  simp only [Act.put, List.setIfInBounds_toArray, List.set_cons_zero, List.set_cons_succ]
  refine reg_take (i := 1) (v := ?_) rfl (by kernel_rfl) (by kernel_rfl) (by kernel_rfl) (fun _ _ _ h => h) (by rfl) ?hy1 ?_
  case hy1 => intro w' hw'; go_simp; (try with_reducible rfl)
  simp only [Act.put, List.setIfInBounds_toArray, List.set_cons_zero, List.set_cons_succ]
  refine reg_take (i := 2) (v := (.string ⟨(x).dest.toArray⟩)) rfl (by kernel_rfl) (by kernel_rfl) (by kernel_rfl) (fun _ _ _ h => h) (by rfl) ?hy2 ?_
  case hy2 => intro w' hw'; have c := Her.At.at_dest (Whole.below X2.out hw' X2.out.lt); go_simp; (try with_reducible rfl)
  simp only [Act.put, List.setIfInBounds_toArray, List.set_cons_zero, List.set_cons_succ]
  refine reg_take (i := 3) (v := ?_) rfl (by kernel_rfl) (by kernel_rfl) (by kernel_rfl) (fun _ _ _ h => h) (by rfl) ?hy3 ?_
  case hy3 => intro w' hw'; go_simp; (try with_reducible rfl)
  simp only [Act.put, List.setIfInBounds_toArray, List.set_cons_zero, List.set_cons_succ]
  refine reg_take (i := 4) (v := (.int .u64 ((x).nonce : Int))) rfl (by kernel_rfl) (by kernel_rfl) (by kernel_rfl) (fun _ _ _ h => h) (by rfl) ?hy4 ?_
  case hy4 => intro w' hw'; have c := Her.At.at_nonce (Whole.below X2.out hw' X2.out.lt); go_simp; (try with_reducible rfl)
  simp only [Act.put, List.setIfInBounds_toArray, List.set_cons_zero, List.set_cons_succ]
  refine reg_take (i := 5) (v := ?_) rfl (by kernel_rfl) (by kernel_rfl) (by kernel_rfl) (fun _ _ _ h => h) (by rfl) ?hy5 ?_
  case hy5 => intro w' hw'; go_simp; (try with_reducible rfl)
  simp only [Act.put, List.setIfInBounds_toArray, List.set_cons_zero, List.set_cons_succ]
  refine reg_take (i := 6) (v := Ent.val (x).entry) rfl (by kernel_rfl) (by kernel_rfl) (by kernel_rfl) (fun _ _ _ h => h) (by rfl) ?hy6 ?_
  case hy6 => intro w' hw'; exact exec_load_rec Ent.isRec _ rfl gX 2 rfl _ (Ent.len _) w' (Her.At.part_entry (Whole.below X2.out hw' X2.out.lt))
  simp only [Act.put, List.setIfInBounds_toArray, List.set_cons_zero, List.set_cons_succ]
  refine reg_take (i := 8) (v := Her.val (x)) rfl (by kernel_rfl) (by kernel_rfl) (by kernel_rfl) (fun _ _ _ h => h) (by rfl) ?hy8 ?_
  case hy8 => intro w' hw'; exact exec_load_whole Her.isRec _ rfl gX rfl _ _ (Her.len _) w' (Whole.below X2.out hw' X2.out.lt)
  simp only [Act.put, List.setIfInBounds_toArray, List.set_cons_zero, List.set_cons_succ]
  refine reg_call (i := 7) rfl (by kernel_rfl) (fun K' hK => ?_)
  go_simp
  refine ((CG w2).out).mono ?_
  rintro e3 w3 ⟨rfl, b3⟩
  have X3 : Hid (Her.At w3 gX x) := Lib.hid (Whole.below X2.out b3 X2.out.lt)
  have B3 := Lib.hid (B2.out.trans (b3.mono B2.out.size))
  refine hK.out _ _ b3 ?_
  clear hK K' b3 X2 B2
  refine reg_take (i := 9) (v := .bool q) rfl (by kernel_rfl) (by kernel_rfl) (by kernel_rfl) (fun _ _ _ h => h) (by rfl) ?hy9 ?_
  case hy9 => intro w' hw'; exact exec_eq_rec Her.isRec _ _ _ rfl (Her.enc R) (Her.enc x) (Her.fits _) (Her.fits _) rfl rfl q (by rw [Her.same]; exact HQ.out.symm) w'
  simp only [Act.put, List.setIfInBounds_toArray, List.set_cons_zero, List.set_cons_succ]
  refine reg_take (i := 10) (v := ?_) rfl (by kernel_rfl) (by kernel_rfl) (by kernel_rfl) (fun _ _ _ h => h) (by rfl) ?hy10 ?_
  case hy10 => intro w' hw'; go_simp; (try with_reducible rfl)
  simp only [Act.put, List.setIfInBounds_toArray, List.set_cons_zero, List.set_cons_succ]
  refine reg_end (by kernel_rfl) ?_
  go_wp2
  go_ret
  exact ⟨rfl, B3.out⟩

set_option maxRecDepth 100000 in
set_option maxHeartbeats 1000000 in
theorem hfAgrees_any (k : List UInt8) (x : Wer) (a : Ent) (w : World) (hk : k.length ≤ 5000) (hm : x.fst < 18446744073709551616) (hs : x.snd < 18446744073709551616) (hn : a.name.length ≤ 1000) (ht : a.tag.length ≤ 1000) (hi : a.id < 18446744073709551616) (kn : x.entry.name.length ≤ 1000) (kt : x.entry.tag.length ≤ 1000) (ki : x.entry.id < 18446744073709551616) :
    Calls Tryd.prog 17 #[.string ⟨k.toArray⟩, Wer.val x, a.val] w fun e w' => e = .returned (.bool (agreesB k x a)) ∧ Below w.heap.size w w' := by
  have CG := fun w => Lib.hid (hfAnswer_any k ⟨[], x.fst, a, []⟩ x.snd x.entry w hk hm hs hn ht hi kn kt ki)
  have HQ := Lib.hid (agrees_eq k x a [] [])
  generalize agreesB k x a = q at *
  generalize answerW k ⟨[], x.fst, a, []⟩ x.snd x.entry = R at *
  clear hk hm hs hn ht hi kn kt ki
  go_enter Tryd.func17, Tryd.ntmps17
  go_wp2_with (refine wpList_box_row rfl 36 _ rfl (Wer.enc x).toArray (by with_unfolding_all exact rfl) ?_)
  intro w1 b1 x1 z1
  obtain ⟨gX, hgX⟩ : ∃ g, g = w.heap.size := ⟨_, rfl⟩
  have M_X := Lib.hid (show w.heap.size ≤ gX from by rw [hgX]; exact Nat.le_refl _)
  have B1 := Lib.hid b1
  rw [← hgX] at x1 ⊢
  have X1 : Hid (Wer.At w1 gX x) := Lib.hid x1
  clear b1 x1 z1 hgX 
  go_wp2_with (first | (with_reducible refine wpList_load_whole Wer.isRec rfl _ rfl gX (by with_unfolding_all exact rfl) _ _ (Wer.len _) X1.out ?_) | (with_reducible refine wpList_load_rec Ent.isRec rfl _ rfl gX 2 (by with_unfolding_all exact rfl) _ (Ent.len _) (Wer.At.part_entry X1.out) ?_) | (refine wpList_box_row rfl 24 _ rfl a.enc.toArray (by with_unfolding_all exact rfl) ?_))
  intro w2 b2 x2 z2
  obtain ⟨gE, hgE⟩ : ∃ g, g = w1.heap.size := ⟨_, rfl⟩
  have N_X_E := Lib.hid (show gX < gE from by rw [hgE]; exact X1.out.lt)
  have M_E := Lib.hid (show w.heap.size ≤ gE from by rw [hgE]; exact B1.out.size)
  have X2 : Hid (Wer.At w2 gX x) := Lib.hid (Whole.below X1.out b2 X1.out.lt)
  have B2 := Lib.hid (B1.out.trans (b2.mono B1.out.size))
  rw [← hgE] at x2 ⊢
  have E2 : Hid (Ent.At w2 gE a) := Lib.hid x2
  clear b2 x2 z2 hgE X1 B1
  go_wp2_with (first | (with_reducible refine wpList_load_whole Wer.isRec rfl _ rfl gX (by with_unfolding_all exact rfl) _ _ (Wer.len _) X2.out ?_) | (with_reducible refine wpList_load_rec Ent.isRec rfl _ rfl gX 2 (by with_unfolding_all exact rfl) _ (Ent.len _) (Wer.At.part_entry X2.out) ?_) | (with_reducible refine wpList_load_whole Ent.isRec rfl _ rfl gE (by with_unfolding_all exact rfl) _ _ (Ent.len _) E2.out ?_))
  refine reg_begin (by kernel_rfl) fun w3 b3 z3 => ?_
  have X3 : Hid (Wer.At w3 gX x) := Lib.hid (Whole.below X2.out b3 X2.out.lt)
  have E3 : Hid (Ent.At w3 gE a) := Lib.hid (Whole.below E2.out b3 E2.out.lt)
  have B3 := Lib.hid (B2.out.trans (b3.mono B2.out.size))
  clear b3 z3 X2 E2 B2
  refine reg_take (i := 0) (v := ?_) rfl (by kernel_rfl) (by kernel_rfl) (by kernel_rfl) (fun _ _ _ h => h) (by rfl) ?hy0 ?_
  case hy0 => intro w' hw'; go_simp; (try with_reducible rfl)
  simp only [Act.put, List.setIfInBounds_toArray, List.set_cons_zero, List.set_cons_succ]
  refine reg_take (i := 1) (v := ?_) rfl (by kernel_rfl) (by kernel_rfl) (by kernel_rfl) (fun _ _ _ h => h) (by rfl) ?hy1 ?_
  case hy1 => intro w' hw'; go_simp; (try with_reducible rfl)
  simp only [Act.put, List.setIfInBounds_toArray, List.set_cons_zero, List.set_cons_succ]
  refine reg_take (i := 2) (v := (.int .u64 ((x).fst : Int))) rfl (by kernel_rfl) (by kernel_rfl) (by kernel_rfl) (fun _ _ _ h => h) (by rfl) ?hy2 ?_
  case hy2 => intro w' hw'; have c := Wer.At.at_fst (Whole.below X3.out hw' X3.out.lt); go_simp; (try with_reducible rfl)
  simp only [Act.put, List.setIfInBounds_toArray, List.set_cons_zero, List.set_cons_succ]
  refine reg_take (i := 3) (v := Ent.val (a)) rfl (by kernel_rfl) (by kernel_rfl) (by kernel_rfl) (fun _ _ _ h => h) (by rfl) ?hy3 ?_
  case hy3 => intro w' hw'; exact exec_load_whole Ent.isRec _ rfl gE rfl _ _ (Ent.len _) w' (Whole.below E3.out hw' E3.out.lt)
  simp only [Act.put, List.setIfInBounds_toArray, List.set_cons_zero, List.set_cons_succ]
  refine reg_take (i := 4) (v := Her.val ⟨[], x.fst, a, []⟩) rfl (by kernel_rfl) (by kernel_rfl) (by kernel_rfl) (fun _ _ _ h => h) (by rfl) ?hy4 ?_
  case hy4 => intro w' hw'; exact exec_build_rec 34 _ rfl #[(1, .int .u64 (x.fst : Int)), (2, a.val)] (by with_unfolding_all exact rfl) _ (by kernel_rfl) w'
  simp only [Act.put, List.setIfInBounds_toArray, List.set_cons_zero, List.set_cons_succ]
  refine reg_take (i := 5) (v := ?_) rfl (by kernel_rfl) (by kernel_rfl) (by kernel_rfl) (fun _ _ _ h => h) (by rfl) ?hy5 ?_
  case hy5 => intro w' hw'; go_simp; (try with_reducible rfl)
  simp only [Act.put, List.setIfInBounds_toArray, List.set_cons_zero, List.set_cons_succ]
  refine reg_take (i := 6) (v := (.int .u64 ((x).snd : Int))) rfl (by kernel_rfl) (by kernel_rfl) (by kernel_rfl) (fun _ _ _ h => h) (by rfl) ?hy6 ?_
  case hy6 => intro w' hw'; have c := Wer.At.at_snd (Whole.below X3.out hw' X3.out.lt); go_simp; (try with_reducible rfl)
  simp only [Act.put, List.setIfInBounds_toArray, List.set_cons_zero, List.set_cons_succ]
  refine reg_take (i := 7) (v := ?_) rfl (by kernel_rfl) (by kernel_rfl) (by kernel_rfl) (fun _ _ _ h => h) (by rfl) ?hy7 ?_
  case hy7 => intro w' hw'; go_simp; (try with_reducible rfl)
  simp only [Act.put, List.setIfInBounds_toArray, List.set_cons_zero, List.set_cons_succ]
  refine reg_take (i := 8) (v := Ent.val (x).entry) rfl (by kernel_rfl) (by kernel_rfl) (by kernel_rfl) (fun _ _ _ h => h) (by rfl) ?hy8 ?_
  case hy8 => intro w' hw'; exact exec_load_rec Ent.isRec _ rfl gX 2 rfl _ (Ent.len _) w' (Wer.At.part_entry (Whole.below X3.out hw' X3.out.lt))
  simp only [Act.put, List.setIfInBounds_toArray, List.set_cons_zero, List.set_cons_succ]
  refine reg_take (i := 10) (v := Wer.val (x)) rfl (by kernel_rfl) (by kernel_rfl) (by kernel_rfl) (fun _ _ _ h => h) (by rfl) ?hy10 ?_
  case hy10 => intro w' hw'; exact exec_load_whole Wer.isRec _ rfl gX rfl _ _ (Wer.len _) w' (Whole.below X3.out hw' X3.out.lt)
  simp only [Act.put, List.setIfInBounds_toArray, List.set_cons_zero, List.set_cons_succ]
  refine reg_call (i := 9) rfl (by kernel_rfl) (fun K' hK => ?_)
  go_simp
  refine ((CG w3).out).mono ?_
  rintro e4 w4 ⟨rfl, b4⟩
  have X4 : Hid (Wer.At w4 gX x) := Lib.hid (Whole.below X3.out b4 X3.out.lt)
  have E4 : Hid (Ent.At w4 gE a) := Lib.hid (Whole.below E3.out b4 E3.out.lt)
  have B4 := Lib.hid (B3.out.trans (b4.mono B3.out.size))
  refine hK.out _ _ b4 ?_
  clear hK K' b4 X3 E3 B3
  refine reg_take (i := 11) (v := .bool q) rfl (by kernel_rfl) (by kernel_rfl) (by kernel_rfl) (fun _ _ _ h => h) (by rfl) ?hy11 ?_
  case hy11 => intro w' hw'; exact exec_eq_rec Wer.isRec _ _ _ rfl (Wer.enc R) (Wer.enc x) (Wer.fits _) (Wer.fits _) rfl rfl q (by rw [Wer.same]; exact HQ.out.symm) w'
  simp only [Act.put, List.setIfInBounds_toArray, List.set_cons_zero, List.set_cons_succ]
  refine reg_take (i := 12) (v := ?_) rfl (by kernel_rfl) (by kernel_rfl) (by kernel_rfl) (fun _ _ _ h => h) (by rfl) ?hy12 ?_
  case hy12 => intro w' hw'; go_simp; (try with_reducible rfl)
  simp only [Act.put, List.setIfInBounds_toArray, List.set_cons_zero, List.set_cons_succ]
  refine reg_end (by kernel_rfl) ?_
  go_wp2
  go_ret
  exact ⟨rfl, B4.out⟩
end Go.Proofs.YtpcdbpijgmninaaDoor
