/- The document's layer 19: Seal, Open. -/
import Derived.Test.YtmnhpkdldeifgaaGreatDoorGbq
import Derived.Test.YtmnhpkdldeifgaaGreatDoorGbu
import Derived.Test.YtmnhpkdldeifgaaGreatDoorGs
import Derived.Test.YtmnhpkdldeifgaaGreatDoorGt
import Derived.Test.YtmnhpkdldeifgaaGreatDoorGbn
namespace Go.Proofs.YtmnhpkdldeifgaaGreatDoor
set_option maxRecDepth 100000
open Go.RowKit

theorem rgSealBox_b (v0 v1 v2 v3 : Value) (key nonce wth msg : List UInt8) (w : World) (hk : key.length = 32) (hn : nonce.length = 12) (h2 : wth.length ≤ 100000) (h3 : msg.length ≤ 100000)
    (y0 : BytesAt w v0 key) (y1 : BytesAt w v1 nonce) (y2 : BytesAt w v2 wth) (y3 : BytesAt w v3 msg) :
    Calls Tryz.prog 17 #[v0, v1, v2, v3] w fun e w' => ∃ v', e = .returned (.tuple #[v', .int .i64 0]) ∧ BytesAt w' v' (sealC key nonce wth msg) ∧ Below w.heap.size w w' := by
  obtain ⟨A0, c0, rfl, -, -⟩ := id y0
  obtain ⟨A1, c1, rfl, -, -⟩ := id y1
  obtain ⟨A2, c2, rfl, -, -⟩ := id y2
  obtain ⟨A3, c3, rfl, -, -⟩ := id y3
  rw [hk] at y0 ⊢
  rw [hn] at y1 ⊢
  exact refSeal_any A0 A1 A2 A3 _ _ c0 c1 c2 c3 key nonce wth msg w h2 h3 y0 y1 y2 y3
theorem rgOpenBox_b (v0 v1 v2 v3 : Value) (key nonce wth msg : List UInt8) (w : World) (hk : key.length = 32) (hn : nonce.length = 12) (h2 : wth.length ≤ 100000) (h3 : msg.length ≤ 100000)
    (y0 : BytesAt w v0 key) (y1 : BytesAt w v1 nonce) (y2 : BytesAt w v2 wth) (y3 : BytesAt w v3 msg) :
    Calls Tryz.prog 23 #[v0, v1, v2, v3] w fun e w' => ∃ v', e = .returned (.tuple #[v', .int .i64 (opC 32 12 key nonce wth msg)]) ∧ BytesAt w' v' (opA 32 12 key nonce wth msg) ∧ Below w.heap.size w w' := by
  obtain ⟨A0, c0, rfl, -, -⟩ := id y0
  obtain ⟨A1, c1, rfl, -, -⟩ := id y1
  obtain ⟨A2, c2, rfl, -, -⟩ := id y2
  obtain ⟨A3, c3, rfl, -, -⟩ := id y3
  rw [hk] at y0 ⊢
  rw [hn] at y1 ⊢
  exact refOpen_all A0 A1 A2 A3 32 12 _ _ c0 c1 c2 c3 key nonce wth msg w h2 h3 y0 y1 y2 y3

set_option maxRecDepth 100000 in
set_option maxHeartbeats 2000000 in
theorem rgSeal_any (root : List UInt8) (h : Head) (ho : h.Ok) (v2 : Value) (text : List UInt8) (w : World) (hr : root.length ≤ 5000) (hm : BytesAt w v2 text) :
    Calls Tryz.prog 7 #[.string ⟨root.toArray⟩, Heaf.val h, v2] w fun e w' => ∃ v', e = .returned (.tuple #[v', .int .i64 (sealX h text)]) ∧ BytesAt w' v' (sealA root h text) ∧ Below w.heap.size w w' := by
  have M0 := Lib.hid hm
  have CR := fun w => Lib.hid (rgRight_any h w)
  have CP := fun w => Lib.hid (rgPut_any h ho.id_ok w)
  have CPA := fun w => Lib.hid ((rgPut_any h ho.id_ok w).mono (R' := fun e w' => ∃ v', e = .returned v' ∧ BytesAt w' v' (headB h) ∧ Below w.heap.size w w') fun _ _ ⟨v', he, ho, hb⟩ => ⟨v', he, BytesAt.of_own ho, hb⟩)
  have CE := fun w => Lib.hid (kfEpoch_any root h.epoch ho.epoch_ok.1 (by have := ho.epoch_ok.2; omega) w hr)
  have CN := fun w => Lib.hid (refNonce_any (uN h.seq) (uN_lt _) w)
  have r1 := uN_wrap h.seq
  have HX : Hid (sealX h text = if headR h = false then 2 else if 2016 < text.length then 3 else 0) := Lib.hid rfl
  have HA : Hid (sealA root h text = if sealX h text = 0 then sealR root h text else []) := Lib.hid rfl
  have HR : Hid (headB h ++ sealC (epochK root h.epoch) (nonceB (uN h.seq)) (headB h) text = sealR root h text) := Lib.hid rfl
  have LR := Lib.hid (sealR_length root h text)
  obtain ⟨A, cap, rfl, -, -⟩ := id hm
  obtain ⟨n, hn⟩ : ∃ n, n = text.length := ⟨_, rfl⟩
  have HN := Lib.hid hn
  have LK := epochK_length root h.epoch
  have LN := nonceB_length (uN h.seq)
  have LH := headB_length h
  have LS := Lib.hid (sealC_length (epochK root h.epoch) (nonceB (uN h.seq)) (headB h) text)
  have CB := fun v0 v1 v2 v3 w (q : n ≤ 2016) => fun y0 y1 y2 y3 => Lib.hid (rgSealBox_b v0 v1 v2 v3 (epochK root h.epoch) (nonceB (uN h.seq)) (headB h) text w LK LN (by rw [LH]; decide) (by omega) y0 y1 y2 y3)
  have LH := Lib.hid LH
  obtain ⟨X, hX⟩ : ∃ X, X = sealX h text := ⟨_, rfl⟩
  obtain ⟨R, hRR⟩ : ∃ R, R = sealR root h text := ⟨_, rfl⟩
  obtain ⟨SA, hSA⟩ : ∃ R, R = sealA root h text := ⟨_, rfl⟩
  simp only [← hX] at HX HA ⊢
  simp only [← hRR] at HA LR HR ⊢
  simp only [← hSA] at HA ⊢
  rw [← hn] at HX LR M0 LS ⊢
  obtain ⟨q, hq⟩ : ∃ q, q = headR h := ⟨_, rfl⟩
  rw [← hq] at HX
  simp only [← hq] at CR
  generalize sealC (epochK root h.epoch) (nonceB (uN h.seq)) (headB h) text = S at *
  generalize epochK root h.epoch = K at *
  generalize nonceB (uN h.seq) = N at *
  generalize uN h.seq = sq at *
  generalize headB h = H at *
  clear hX hRR hSA hq hn hm hr ho LK LN
  go_enter Tryz.func7, Tryz.ntmps7
  go_wp2_with (refine wpList_box_row rfl 32 _ rfl (Heaf.enc h).toArray (by with_unfolding_all exact rfl) ?_)
  intro w1 b1 x1 z1
  obtain ⟨gX, hgX⟩ : ∃ g, g = w.heap.size := ⟨_, rfl⟩
  have M_X := Lib.hid (show w.heap.size ≤ gX from by rw [hgX]; exact Nat.le_refl _)
  have B1 := Lib.hid b1
  rw [← hgX] at x1 ⊢
  have X1 : Hid (Heaf.At w1 gX h) := Lib.hid x1
  clear b1 x1 z1 hgX 
  go_wp2_with (with_reducible refine wpList_load_whole Heaf.isRec rfl _ rfl gX (by with_unfolding_all exact rfl) _ _ (Heaf.len _) X1.out ?_)
  refine ((CR w1).out).mono ?_
  rintro e2 w2 ⟨rfl, b2⟩
  have X2 : Hid (Heaf.At w2 gX h) := Lib.hid (Whole.below X1.out b2 X1.out.lt)
  have B2 := Lib.hid (B1.out.trans (b2.mono B1.out.size))
  clear b2 X1 B1
  clear CR
  cases q with
  | false =>
    have HF : Hid (X = 2) := Lib.hid HX.out
    have HG : Hid (SA = []) := Lib.hid (by rw [HA.out, HF.out, if_neg (by decide)])
    clear HX HA
    go_wp2
    go_ret2
    exact ⟨_, by rw [HF.out]; rfl, by rw [HG.out]; exact BytesAt.nil _, B2.out⟩
  | true =>
    by_cases h1 : 2016 < n
    · have d1 : (2016 : Int) < (n : Int) := by omega
      have HF : Hid (X = 3) := Lib.hid (by rw [HX.out, if_neg (by decide), if_pos h1])
      have HG : Hid (SA = []) := Lib.hid (by rw [HA.out, HF.out, if_neg (by decide)])
      clear HX HA h1
      go_wp2
      go_ret2
      exact ⟨_, by rw [HF.out]; rfl, by rw [HG.out]; exact BytesAt.nil _, B2.out⟩
    · have d1 : ¬ (2016 : Int) < (n : Int) := by omega
      have HF : Hid (X = 0) := Lib.hid (by rw [HX.out, if_neg (by decide), if_neg h1])
      have HG : Hid (SA = R) := Lib.hid (by rw [HA.out, HF.out, if_pos rfl])
      have N1 := Lib.hid (show n ≤ 2016 by omega)
      clear HX HA h1
      have c2 := Heaf.At.at_epoch X2.out
      go_wp2_with (with_reducible refine wpList_load_whole Heaf.isRec rfl _ rfl gX (by with_unfolding_all exact rfl) _ _ (Heaf.len _) X2.out ?_)
      refine ((CE w2).out).mono ?_
      rintro e3 w3 ⟨rfl, b3⟩
      have X3 : Hid (Heaf.At w3 gX h) := Lib.hid (Whole.below X2.out b3 X2.out.lt)
      have B3 := Lib.hid (B2.out.trans (b3.mono B2.out.size))
      clear b3 X2 B2
      clear CE c2 d1
      obtain ⟨vP, w4, rP, y4, b4⟩ := conv_str w3 ⟨(K).toArray⟩
      have X4 : Hid (Heaf.At w4 gX h) := Lib.hid (Whole.below X3.out b4 X3.out.lt)
      have B4 := Lib.hid (B3.out.trans (b4.mono B3.out.size))
      have P4 : Hid (BytesAt w4 vP (K)) := Lib.hid (by simpa using y4)
      clear b4 y4 X3 B3
      have c3 := Heaf.At.at_seq X4.out
      go_wp2_with (with_reducible refine wpList_load_whole Heaf.isRec rfl _ rfl gX (by with_unfolding_all exact rfl) _ _ (Heaf.len _) X4.out ?_)
      refine regS_begin (From w4) (by kernel_rfl) (Below.refl _ _).drew ?_
      have b5 : Below w4.heap.size w4 w4.drew := (Below.refl _ _).drew
      generalize w4.drew = w5 at b5 ⊢
      have X5 : Hid (Heaf.At w5 gX h) := Lib.hid (Whole.below X4.out b5 X4.out.lt)
      have P5 : Hid (BytesAt w5 vP (K)) := Lib.hid (P4.out.below b5)
      have B5 := Lib.hid (B4.out.trans (b5.mono B4.out.size))
      have HS5 : Hid (From w4 w5) := Lib.hid b5
      clear b5
      refine regS_take (i := 0) (v := ?_) rfl (by kernel_rfl) (by kernel_rfl) (by kernel_rfl) (fun _ _ _ h => h) (by rfl) HS5.out ?hy0 ?_
      case hy0 => intro w' hw'; go_simp; (try with_reducible rfl)
      simp only [Act.put, List.setIfInBounds_toArray, List.set_cons_zero, List.set_cons_succ]
      refine regS_take (i := 1) (v := ?_) rfl (by kernel_rfl) (by kernel_rfl) (by kernel_rfl) (fun _ _ _ h => h) (by rfl) HS5.out ?hy1 ?_
      case hy1 => intro w' hw'; go_simp; (try with_reducible rfl)
      simp only [Act.put, List.setIfInBounds_toArray, List.set_cons_zero, List.set_cons_succ]
      refine regS_take (i := 2) (v := (.int .i64 (h).seq)) rfl (by kernel_rfl) (by kernel_rfl) (by kernel_rfl) (fun _ _ _ h => h) (by rfl) HS5.out ?hy2 ?_
      case hy2 => intro w' hw'; have c := Heaf.At.at_seq (Whole.below X4.out hw' X4.out.lt); go_simp; (try with_reducible rfl)
      simp only [Act.put, List.setIfInBounds_toArray, List.set_cons_zero, List.set_cons_succ]
      refine regS_take (i := 3) (v := .int .u64 (sq : Int)) rfl (by kernel_rfl) (by kernel_rfl) (by kernel_rfl) (fun _ _ _ h => h) (by rfl) HS5.out ?hy3 ?_
      case hy3 => intro w' hw'; exact (by go_simp; (try with_reducible rfl))
      simp only [Act.put, List.setIfInBounds_toArray, List.set_cons_zero, List.set_cons_succ]
      refine regS_take (i := 5) (v := Heaf.val (h)) rfl (by kernel_rfl) (by kernel_rfl) (by kernel_rfl) (fun _ _ _ h => h) (by rfl) HS5.out ?hy5 ?_
      case hy5 => intro w' hw'; exact exec_load_whole Heaf.isRec _ rfl gX rfl _ _ (Heaf.len _) w' (Whole.below X4.out hw' X4.out.lt)
      simp only [Act.put, List.setIfInBounds_toArray, List.set_cons_zero, List.set_cons_succ]
      refine regS_take (i := 7) (v := ?_) rfl (by kernel_rfl) (by kernel_rfl) (by kernel_rfl) (fun _ _ _ h => h) (by rfl) HS5.out ?hy7 ?_
      case hy7 => intro w' hw'; go_simp; (try with_reducible rfl)
      simp only [Act.put, List.setIfInBounds_toArray, List.set_cons_zero, List.set_cons_succ]
      refine regS_do (i := 4) rfl (by kernel_rfl) (fun K' hK => ?_)
      go_simp
      refine ((CN w5).out).mono ?_
      rintro e6 w6 ⟨v27, rfl, y27, b6⟩
      have X6 : Hid (Heaf.At w6 gX h) := Lib.hid (Whole.below X5.out b6 X5.out.lt)
      have P6 : Hid (BytesAt w6 vP (K)) := Lib.hid (P5.out.below b6)
      have B6 := Lib.hid (B5.out.trans (b6.mono B5.out.size))
      have HS6 : Hid (From w4 w6) := Lib.hid (HS5.out.trans (b6.mono HS5.out.size))
      clear b6
      have N6 : Hid (BytesAt w6 v27 N) := Lib.hid y27
      refine hK.out _ _ HS6.out ?_
      clear hK K' X5 P5 B5 HS5 y27
      refine regS_do (i := 6) rfl (by kernel_rfl) (fun K' hK => ?_)
      go_simp
      refine ((CPA w6).out).mono ?_
      rintro e7 w7 ⟨v29, rfl, y29, b7⟩
      have X7 : Hid (Heaf.At w7 gX h) := Lib.hid (Whole.below X6.out b7 X6.out.lt)
      have P7 : Hid (BytesAt w7 vP (K)) := Lib.hid (P6.out.below b7)
      have N7 : Hid (BytesAt w7 v27 N) := Lib.hid (N6.out.below b7)
      have B7 := Lib.hid (B6.out.trans (b7.mono B6.out.size))
      have HS7 : Hid (From w4 w7) := Lib.hid (HS6.out.trans (b7.mono HS6.out.size))
      clear b7
      have H7 : Hid (BytesAt w7 v29 H) := Lib.hid y29
      refine hK.out _ _ HS7.out ?_
      clear hK K' X6 P6 N6 B6 HS6 y29
      refine regS_do (i := 8) rfl (by kernel_rfl) (fun K' hK => ?_)
      go_simp
      refine ((CB _ _ _ _ w7 N1.out P7.out N7.out H7.out (M0.out.below B7.out)).out).mono ?_
      rintro e8 w8 ⟨v31, rfl, y31, b8⟩
      have X8 : Hid (Heaf.At w8 gX h) := Lib.hid (Whole.below X7.out b8 X7.out.lt)
      have P8 : Hid (BytesAt w8 vP (K)) := Lib.hid (P7.out.below b8)
      have N8 : Hid (BytesAt w8 v27 N) := Lib.hid (N7.out.below b8)
      have H8 : Hid (BytesAt w8 v29 H) := Lib.hid (H7.out.below b8)
      have B8 := Lib.hid (B7.out.trans (b8.mono B7.out.size))
      have HS8 : Hid (From w4 w8) := Lib.hid (HS7.out.trans (b8.mono HS7.out.size))
      clear b8
      have S8 : Hid (BytesAt w8 v31 S) := Lib.hid y31
      refine hK.out _ _ HS8.out ?_
      clear hK K' X7 P7 N7 H7 B7 HS7 y31
      refine regS_take (i := 9) (v := ?_) rfl (by kernel_rfl) (by kernel_rfl) (by kernel_rfl) (fun _ _ _ h => h) (by rfl) HS8.out ?hy9 ?_
      case hy9 => intro w' hw'; go_simp; (try with_reducible rfl)
      simp only [Act.put, List.setIfInBounds_toArray, List.set_cons_zero, List.set_cons_succ]
      refine regS_take (i := 10) (v := ?_) rfl (by kernel_rfl) (by kernel_rfl) (by kernel_rfl) (fun _ _ _ h => h) (by rfl) HS8.out ?hy10 ?_
      case hy10 => intro w' hw'; go_simp; (try with_reducible rfl)
      simp only [Act.put, List.setIfInBounds_toArray, List.set_cons_zero, List.set_cons_succ]
      refine regS_take (i := 11) (v := ?_) rfl (by kernel_rfl) (by kernel_rfl) (by kernel_rfl) (fun _ _ _ h => h) (by rfl) HS8.out ?hy11 ?_
      case hy11 => intro w' hw'; go_simp; (try with_reducible rfl)
      simp only [Act.put, List.setIfInBounds_toArray, List.set_cons_zero, List.set_cons_succ]
      refine regS_take (i := 12) (v := ?_) rfl (by kernel_rfl) (by kernel_rfl) (by kernel_rfl) (fun _ _ _ h => h) (by rfl) HS8.out ?hy12 ?_
      case hy12 => intro w' hw'; go_simp; (try with_reducible rfl)
      simp only [Act.put, List.setIfInBounds_toArray, List.set_cons_zero, List.set_cons_succ]
      refine regS_take (i := 13) (v := ?_) rfl (by kernel_rfl) (by kernel_rfl) (by kernel_rfl) (fun _ _ _ h => h) (by rfl) HS8.out ?hy13 ?_
      case hy13 => intro w' hw'; go_simp; (try with_reducible rfl)
      simp only [Act.put, List.setIfInBounds_toArray, List.set_cons_zero, List.set_cons_succ]
      refine regS_end (by kernel_rfl) ?_
      clear HS8 X4 P4
      clear P8 N8 H8
      have SB := Lib.hid B8.out.size
      go_wp2_with (with_reducible refine wpList_load_whole Heaf.isRec rfl _ rfl gX (by with_unfolding_all exact rfl) _ _ (Heaf.len _) X8.out ?_)
      refine (CP w8).out.mono ?_
      rintro e wp ⟨vp, rfl, op, bp⟩
      have OP := Lib.hid op
      have YS := Lib.hid (S8.out.below bp)
      have BP := Lib.hid (B8.out.trans (bp.mono B8.out.size))
      have SP := Lib.hid bp.size
      clear op bp S8 X8 B8
      go_wp2_with (at_builtin; refine wpList_append_bytes rfl _ _ rfl w8.heap.size _ _ _ rfl OP.out _ S rfl YS.out ?c1 ?c2 ?_)
      case c1 => have := LH.out; have := LS.out; have := N1.out; omega
      case c2 => exact SP.out
      intro vz wz oz gz
      have OZ : Hid (BytesAt wz vz R) := Lib.hid (by
        rw [← HR.out]
        exact BytesAt.of_own (base := w8.heap.size) (by rw [List.length_append, bv_append, LH.out]; exact oz))
      have BZ := Lib.hid (BP.out.grown gz BP.out.size (fun k hk => by have := (OP.out.lt k hk).1; have := SB.out; omega))
      clear oz gz OP YS BP SP
      go_wp2
      go_ret2
      exact ⟨_, by rw [HF.out]; rfl, by rw [HG.out]; exact OZ.out, BZ.out⟩

set_option maxRecDepth 100000 in
set_option maxHeartbeats 2000000 in
theorem rgOpen_any (root b : List UInt8) (v : Value) (w : World) (hr : root.length ≤ 5000) (hv : BytesAt w v b) :
    Calls Tryz.prog 9 #[.string ⟨root.toArray⟩, v] w fun e w' => ∃ v', e = .returned (.tuple #[Heaf.val (openH root b), v', .int .i64 (openX root b)]) ∧ BytesAt w' v' (openB root b) ∧ Below w.heap.size w w' := by
  have M0 := Lib.hid hv
  have CT := fun w h => Lib.hid (rgTake_any v b w h)
  have CE := fun w => Lib.hid (kfEpoch_any root (headP b).epoch (headP_ok b).epoch_ok.1 (by have := (headP_ok b).epoch_ok.2; omega) w hr)
  have CN := fun w => Lib.hid (refNonce_any (uN (headP b).seq) (uN_lt _) w)
  have HX : Hid (openX root b = if takeHdX b ≠ 0 then takeHdX b else opnX root b (headP b)) := Lib.hid rfl
  have HH : Hid (openH root b = if openX root b = 0 then headP b else Head.zero) := Lib.hid rfl
  have HB : Hid (openB root b = if openX root b = 0 then opnB root b (headP b) else []) := Lib.hid rfl
  have HT := Lib.hid (fun h => takeHd_ok (b := b) h)
  have HT2 := Lib.hid (fun h => takeHd_not (b := b) h)
  obtain ⟨A, cap, rfl, -, -⟩ := id hv
  obtain ⟨n, hn⟩ : ∃ n, n = b.length := ⟨_, rfl⟩
  have HN := Lib.hid hn
  have CO := fun v0 v1 v2 v3 w (hl : b.length ≤ 2048) y0 y1 y2 y3 => Lib.hid (show Calls Tryz.prog 23 #[v0, v1, v2, v3] w fun e w' => ∃ v', e = .returned (.tuple #[v', .int .i64 (opnX root b (headP b))]) ∧ BytesAt w' v' (opnB root b (headP b)) ∧ Below w.heap.size w w' from
    rgOpenBox_b v0 v1 v2 v3 (epochK root (headP b).epoch) (nonceB (uN (headP b).seq)) (b.take 16) (b.drop 16) w (epochK_length ..) (nonceB_length _) (by rw [List.length_take]; omega) (by rw [List.length_drop]; omega) y0 y1 y2 y3)
  have R1 : Hid (IntKind.u64.wrap (headP b).seq = (uN (headP b).seq : Int)) := Lib.hid (uN_wrap _)
  obtain ⟨X, hX⟩ : ∃ X, X = openX root b := ⟨_, rfl⟩
  obtain ⟨OH, hOH⟩ : ∃ X, X = openH root b := ⟨_, rfl⟩
  obtain ⟨OB, hOB⟩ : ∃ X, X = openB root b := ⟨_, rfl⟩
  obtain ⟨t, ht⟩ : ∃ t, t = takeHdX b := ⟨_, rfl⟩
  obtain ⟨TH, hTH⟩ : ∃ t, t = takeHd b := ⟨_, rfl⟩
  simp only [← hX] at HX HH HB ⊢
  simp only [← hOH] at HH ⊢
  simp only [← hOB] at HB ⊢
  simp only [← ht] at HX CT HT HT2
  simp only [← hTH] at CT HT HT2
  generalize opnX root b (headP b) = ox at *
  generalize opnB root b (headP b) = ob at *
  rw [← hn] at M0 CT ⊢
  generalize epochK root (headP b).epoch = K at *
  generalize nonceB (uN (headP b).seq) = N at *
  generalize uN (headP b).seq = sq at *
  generalize headP b = HP at *
  clear hX hOH hOB ht hTH hn hv hr
  go_enter Tryz.func9, Tryz.ntmps9
  go_wp2_with (refine wpList_alloc_row rfl 32 rfl (Heaf.enc Heaf.zero).toArray Heaf.zero_is ?_)
  intro w1 b1 x1 z1
  obtain ⟨gO, hgO⟩ : ∃ g, g = w.heap.size := ⟨_, rfl⟩
  have M_O := Lib.hid (show w.heap.size ≤ gO from by rw [hgO]; exact Nat.le_refl _)
  have B1 := Lib.hid b1
  rw [← hgO] at x1 ⊢
  have O1 : Hid (Heaf.At w1 gO Heaf.zero) := Lib.hid x1
  clear b1 x1 z1 hgO 
  go_wp2_with (with_reducible refine wpList_load_whole Heaf.isRec rfl _ rfl gO (by with_unfolding_all exact rfl) _ _ (Heaf.len _) O1.out ?_)
  refine ((CT w1 (M0.out.below B1.out)).out).mono ?_
  rintro e2 w2 ⟨rfl, b2⟩
  have O2 : Hid (Heaf.At w2 gO Heaf.zero) := Lib.hid (Whole.below O1.out b2 O1.out.lt)
  have B2 := Lib.hid (B1.out.trans (b2.mono B1.out.size))
  clear b2 O1 B1
  clear CT
  go_wp2_with (first | (with_reducible refine wpList_load_whole Heaf.isRec rfl _ rfl gO (by with_unfolding_all exact rfl) _ _ (Heaf.len _) O2.out ?_) | (refine wpList_alloc_row rfl 32 rfl (Heaf.enc Heaf.zero).toArray Heaf.zero_is ?_))
  intro w3 b3 x3 z3
  obtain ⟨gM, hgM⟩ : ∃ g, g = w2.heap.size := ⟨_, rfl⟩
  have N_O_M := Lib.hid (show gO < gM from by rw [hgM]; exact O2.out.lt)
  have M_M := Lib.hid (show w.heap.size ≤ gM from by rw [hgM]; exact B2.out.size)
  have O3 : Hid (Heaf.At w3 gO Heaf.zero) := Lib.hid (Whole.below O2.out b3 O2.out.lt)
  have B3 := Lib.hid (B2.out.trans (b3.mono B2.out.size))
  rw [← hgM] at x3 ⊢
  have M3 : Hid (Heaf.At w3 gM Heaf.zero) := Lib.hid x3
  clear b3 x3 z3 hgM O2 B2
  go_wp2_with (first | (with_reducible refine wpList_load_whole Heaf.isRec rfl _ rfl gO (by with_unfolding_all exact rfl) _ _ (Heaf.len _) O3.out ?_) | (with_reducible refine wpList_load_whole Heaf.isRec rfl _ rfl gM (by with_unfolding_all exact rfl) _ _ (Heaf.len _) M3.out ?_) | (with_reducible refine wpList_store_whole rfl 32 _ _ rfl gM (Heaf.enc TH).toArray (by with_unfolding_all exact rfl) (by with_unfolding_all exact rfl) _ _ M3.out (Heaf.size _) rfl (Heaf.one _) ?_))
  intro w4 q4 x4 z4
  have M4 : Hid (Heaf.At w4 gM TH) := Lib.hid x4
  have O4 : Hid (Heaf.At w4 gO Heaf.zero) := Lib.hid (grown_far O3.out q4 (by have := N_O_M.out; omega))
  have B4 := Lib.hid (B3.out.grown q4 B3.out.size (fun k hk => by injection hk with hk; have := M_M.out; omega))
  clear q4 x4 z4 M3 O3 B3
  by_cases h0 : t = 0
  · subst h0
    obtain ⟨rfl, -, hl, hl2⟩ := HT.out rfl
    have HX2 : Hid (X = ox) := Lib.hid (by rw [HX.out, if_neg (by decide)])
    have L1 := Lib.hid hl
    have L2 := Lib.hid hl2
    have r1 := R1.out
    clear HT HT2 HX hl hl2 R1
    have c2 := Heaf.At.at_epoch M4.out
    go_wp2_with (first | (with_reducible refine wpList_load_whole Heaf.isRec rfl _ rfl gO (by with_unfolding_all exact rfl) _ _ (Heaf.len _) O4.out ?_) | (with_reducible refine wpList_load_whole Heaf.isRec rfl _ rfl gM (by with_unfolding_all exact rfl) _ _ (Heaf.len _) M4.out ?_))
    refine ((CE w4).out).mono ?_
    rintro e5 w5 ⟨rfl, b5⟩
    have O5 : Hid (Heaf.At w5 gO Heaf.zero) := Lib.hid (Whole.below O4.out b5 O4.out.lt)
    have M5 : Hid (Heaf.At w5 gM TH) := Lib.hid (Whole.below M4.out b5 M4.out.lt)
    have B5 := Lib.hid (B4.out.trans (b5.mono B4.out.size))
    clear b5 O4 M4 B4
    clear CE c2
    obtain ⟨vK, w6, rK, y6, b6⟩ := conv_str w5 ⟨(K).toArray⟩
    have O6 : Hid (Heaf.At w6 gO Heaf.zero) := Lib.hid (Whole.below O5.out b6 O5.out.lt)
    have M6 : Hid (Heaf.At w6 gM TH) := Lib.hid (Whole.below M5.out b6 M5.out.lt)
    have B6 := Lib.hid (B5.out.trans (b6.mono B5.out.size))
    have K6 : Hid (BytesAt w6 vK (K)) := Lib.hid (by simpa using y6)
    clear b6 y6 O5 M5 B5
    obtain ⟨-, hc, ad, rfl, hp, hq, -⟩ := record_parts (M0.out.below B6.out) L1.out
    have j1 : (16 : Int) ≤ (cap : Int) := by have := L1.out; omega
    have j2 : (16 : Int) ≤ (n : Int) := by have := L1.out; have := HN.out; omega
    have j3 : cap ≠ 16 := by have := L1.out; omega
    have j4 : (n : Int) ≤ (cap : Int) := by have := HN.out; omega
    have P6 : Hid (BytesAt w6 (.slice (some ad) 16 cap) (b.take 16)) := Lib.hid (hp)
    have Q6 : Hid (BytesAt w6 (.slice (some ⟨ad.block, ad.off + 16, none⟩) (n - 16) (cap - 16)) (b.drop 16)) := Lib.hid (hq)
    clear hp hq hc
    go_wp2_with (first | (with_reducible refine wpList_load_whole Heaf.isRec rfl _ rfl gO (by with_unfolding_all exact rfl) _ _ (Heaf.len _) O6.out ?_) | (with_reducible refine wpList_load_whole Heaf.isRec rfl _ rfl gM (by with_unfolding_all exact rfl) _ _ (Heaf.len _) M6.out ?_))
    refine reg_begin (by kernel_rfl) fun w7 b7 z7 => ?_
    have O7 : Hid (Heaf.At w7 gO Heaf.zero) := Lib.hid (Whole.below O6.out b7 O6.out.lt)
    have M7 : Hid (Heaf.At w7 gM TH) := Lib.hid (Whole.below M6.out b7 M6.out.lt)
    have K7 : Hid (BytesAt w7 vK (K)) := Lib.hid (K6.out.below b7)
    have P7 : Hid (BytesAt w7 (.slice (some ad) 16 cap) (b.take 16)) := Lib.hid (P6.out.below b7)
    have Q7 : Hid (BytesAt w7 (.slice (some ⟨ad.block, ad.off + 16, none⟩) (n - 16) (cap - 16)) (b.drop 16)) := Lib.hid (Q6.out.below b7)
    have B7 := Lib.hid (B6.out.trans (b7.mono B6.out.size))
    clear b7 z7 O6 M6 K6 P6 Q6 B6
    refine reg_take (i := 0) (v := ?_) rfl (by kernel_rfl) (by kernel_rfl) (by kernel_rfl) (fun _ _ _ h => h) (by rfl) ?hy0 ?_
    case hy0 => intro w' hw'; go_simp; (try with_reducible rfl)
    simp only [Act.put, List.setIfInBounds_toArray, List.set_cons_zero, List.set_cons_succ]
    refine reg_take (i := 1) (v := ?_) rfl (by kernel_rfl) (by kernel_rfl) (by kernel_rfl) (fun _ _ _ h => h) (by rfl) ?hy1 ?_
    case hy1 => intro w' hw'; go_simp; (try with_reducible rfl)
    simp only [Act.put, List.setIfInBounds_toArray, List.set_cons_zero, List.set_cons_succ]
    refine reg_take (i := 2) (v := (.int .i64 (TH).seq)) rfl (by kernel_rfl) (by kernel_rfl) (by kernel_rfl) (fun _ _ _ h => h) (by rfl) ?hy2 ?_
    case hy2 => intro w' hw'; have c := Heaf.At.at_seq (Whole.below M7.out hw' M7.out.lt); go_simp; (try with_reducible rfl)
    simp only [Act.put, List.setIfInBounds_toArray, List.set_cons_zero, List.set_cons_succ]
    refine reg_take (i := 3) (v := ?_) rfl (by kernel_rfl) (by kernel_rfl) (by kernel_rfl) (fun _ _ _ h => h) (by rfl) ?hy3 ?_
    case hy3 => intro w' hw'; go_simp; (try with_reducible rfl)
    simp only [Act.put, List.setIfInBounds_toArray, List.set_cons_zero, List.set_cons_succ]
    refine reg_take (i := 5) (v := ?_) rfl (by kernel_rfl) (by kernel_rfl) (by kernel_rfl) (fun _ _ _ h => h) (by rfl) ?hy5 ?_
    case hy5 => intro w' hw'; go_simp; (try with_reducible rfl)
    simp only [Act.put, List.setIfInBounds_toArray, List.set_cons_zero, List.set_cons_succ]
    refine reg_take (i := 6) (v := ?_) rfl (by kernel_rfl) (by kernel_rfl) (by kernel_rfl) (fun _ _ _ h => h) (by rfl) ?hy6 ?_
    case hy6 => intro w' hw'; go_simp; (try with_reducible rfl)
    simp only [Act.put, List.setIfInBounds_toArray, List.set_cons_zero, List.set_cons_succ]
    refine reg_take (i := 7) (v := ?_) rfl (by kernel_rfl) (by kernel_rfl) (by kernel_rfl) (fun _ _ _ h => h) (by rfl) ?hy7 ?_
    case hy7 => intro w' hw'; go_simp; (try with_reducible rfl)
    simp only [Act.put, List.setIfInBounds_toArray, List.set_cons_zero, List.set_cons_succ]
    refine reg_take (i := 8) (v := ?_) rfl (by kernel_rfl) (by kernel_rfl) (by kernel_rfl) (fun _ _ _ h => h) (by rfl) ?hy8 ?_
    case hy8 => intro w' hw'; go_simp; (try with_reducible rfl)
    simp only [Act.put, List.setIfInBounds_toArray, List.set_cons_zero, List.set_cons_succ]
    refine reg_call (i := 4) rfl (by kernel_rfl) (fun K' hK => ?_)
    go_simp
    refine ((CN w7).out).mono ?_
    rintro e8 w8 ⟨vn, rfl, yn, b8⟩
    have O8 : Hid (Heaf.At w8 gO Heaf.zero) := Lib.hid (Whole.below O7.out b8 O7.out.lt)
    have M8 : Hid (Heaf.At w8 gM TH) := Lib.hid (Whole.below M7.out b8 M7.out.lt)
    have K8 : Hid (BytesAt w8 vK (K)) := Lib.hid (K7.out.below b8)
    have P8 : Hid (BytesAt w8 (.slice (some ad) 16 cap) (b.take 16)) := Lib.hid (P7.out.below b8)
    have Q8 : Hid (BytesAt w8 (.slice (some ⟨ad.block, ad.off + 16, none⟩) (n - 16) (cap - 16)) (b.drop 16)) := Lib.hid (Q7.out.below b8)
    have B8 := Lib.hid (B7.out.trans (b8.mono B7.out.size))
    have N8 : Hid (BytesAt w8 vn N) := Lib.hid yn
    refine hK.out _ _ b8 ?_
    clear hK K' b8 O7 M7 K7 P7 Q7 B7 yn
    refine reg_call (i := 9) rfl (by kernel_rfl) (fun K' hK => ?_)
    go_simp
    refine ((CO _ vn _ _ w8 L2.out K8.out N8.out P8.out Q8.out).out).mono ?_
    rintro e9 w9 ⟨vt, rfl, yt, b9⟩
    have O9 : Hid (Heaf.At w9 gO Heaf.zero) := Lib.hid (Whole.below O8.out b9 O8.out.lt)
    have M9 : Hid (Heaf.At w9 gM TH) := Lib.hid (Whole.below M8.out b9 M8.out.lt)
    have K9 : Hid (BytesAt w9 vK (K)) := Lib.hid (K8.out.below b9)
    have P9 : Hid (BytesAt w9 (.slice (some ad) 16 cap) (b.take 16)) := Lib.hid (P8.out.below b9)
    have Q9 : Hid (BytesAt w9 (.slice (some ⟨ad.block, ad.off + 16, none⟩) (n - 16) (cap - 16)) (b.drop 16)) := Lib.hid (Q8.out.below b9)
    have N9 : Hid (BytesAt w9 vn N) := Lib.hid (N8.out.below b9)
    have B9 := Lib.hid (B8.out.trans (b9.mono B8.out.size))
    have T9 : Hid (BytesAt w9 vt ob) := Lib.hid yt
    refine hK.out _ _ b9 ?_
    clear hK K' b9 O8 M8 K8 P8 Q8 N8 B8 yt
    refine reg_take (i := 10) (v := ?_) rfl (by kernel_rfl) (by kernel_rfl) (by kernel_rfl) (fun _ _ _ h => h) (by rfl) ?hy10 ?_
    case hy10 => intro w' hw'; go_simp; (try with_reducible rfl)
    simp only [Act.put, List.setIfInBounds_toArray, List.set_cons_zero, List.set_cons_succ]
    refine reg_take (i := 11) (v := ?_) rfl (by kernel_rfl) (by kernel_rfl) (by kernel_rfl) (fun _ _ _ h => h) (by rfl) ?hy11 ?_
    case hy11 => intro w' hw'; go_simp; (try with_reducible rfl)
    simp only [Act.put, List.setIfInBounds_toArray, List.set_cons_zero, List.set_cons_succ]
    refine reg_take (i := 12) (v := ?_) rfl (by kernel_rfl) (by kernel_rfl) (by kernel_rfl) (fun _ _ _ h => h) (by rfl) ?hy12 ?_
    case hy12 => intro w' hw'; go_simp; (try with_reducible rfl)
    simp only [Act.put, List.setIfInBounds_toArray, List.set_cons_zero, List.set_cons_succ]
    refine reg_take (i := 13) (v := ?_) rfl (by kernel_rfl) (by kernel_rfl) (by kernel_rfl) (fun _ _ _ h => h) (by rfl) ?hy13 ?_
    case hy13 => intro w' hw'; go_simp; (try with_reducible rfl)
    simp only [Act.put, List.setIfInBounds_toArray, List.set_cons_zero, List.set_cons_succ]
    refine reg_take (i := 14) (v := ?_) rfl (by kernel_rfl) (by kernel_rfl) (by kernel_rfl) (fun _ _ _ h => h) (by rfl) ?hy14 ?_
    case hy14 => intro w' hw'; go_simp; (try with_reducible rfl)
    simp only [Act.put, List.setIfInBounds_toArray, List.set_cons_zero, List.set_cons_succ]
    refine reg_end (by kernel_rfl) ?_
    clear CO CN r1
    clear K9 N9 P9 Q9
    have U9 : Hid (BytesOff w9 vt ob gO) := Lib.hid (bytes_off T9.out O9.out)
    clear T9
    by_cases h1 : ox = 0
    · subst h1
      have HF : Hid (OH = TH) := Lib.hid (by rw [HH.out, if_pos HX2.out])
      have HG : Hid (OB = ob) := Lib.hid (by rw [HB.out, if_pos HX2.out])
      clear HH HB
      go_wp2_with (first | (with_reducible refine wpList_load_whole Heaf.isRec rfl _ rfl gO (by with_unfolding_all exact rfl) _ _ (Heaf.len _) O9.out ?_) | (with_reducible refine wpList_load_whole Heaf.isRec rfl _ rfl gM (by with_unfolding_all exact rfl) _ _ (Heaf.len _) M9.out ?_) | (with_reducible refine wpList_store_whole rfl 32 _ _ rfl gO (Heaf.enc TH).toArray (by with_unfolding_all exact rfl) (by with_unfolding_all exact rfl) _ _ O9.out (Heaf.size _) rfl (Heaf.one _) ?_))
      intro w10 q10 x10 z10
      have O10 : Hid (Heaf.At w10 gO TH) := Lib.hid x10
      have M10 : Hid (Heaf.At w10 gM TH) := Lib.hid (grown_far M9.out q10 (by have := N_O_M.out; omega))
      have U10 : Hid (BytesOff w10 vt ob gO) := Lib.hid (U9.out.far q10 (by omega))
      have B10 := Lib.hid (B9.out.grown q10 B9.out.size (fun k hk => by injection hk with hk; have := M_O.out; omega))
      clear q10 x10 z10 O9 M9 U9 B9
      go_wp2
      exact bodyPost_ret (results_rec_tmp2 Heaf.isRec rfl _ _ _ _ _ rfl rfl O10.out) rfl ⟨vt, by rw [HF.out, HX2.out]; rfl, by rw [HG.out]; exact U10.out.bytes, B10.out⟩
    · have e1 : (ox == 0) = false := by simpa using h1
      have e2 : (ox != 0) = true := by simpa using h1
      have HF : Hid (OH = Head.zero) := Lib.hid (by rw [HH.out, if_neg (by rw [HX2.out]; exact h1)])
      have HG : Hid (OB = []) := Lib.hid (by rw [HB.out, if_neg (by rw [HX2.out]; exact h1)])
      clear HH HB h1
      go_wp2_with (first | (with_reducible refine wpList_load_whole Heaf.isRec rfl _ rfl gO (by with_unfolding_all exact rfl) _ _ (Heaf.len _) O9.out ?_) | (with_reducible refine wpList_load_whole Heaf.isRec rfl _ rfl gM (by with_unfolding_all exact rfl) _ _ (Heaf.len _) M9.out ?_) | (with_reducible refine wpList_store_whole rfl 32 _ _ rfl gO (Heaf.enc Heaf.zero).toArray (by with_unfolding_all exact rfl) (by with_unfolding_all exact rfl) _ _ O9.out (Heaf.size _) rfl (Heaf.one _) ?_))
      intro w10 q10 x10 z10
      have O10 : Hid (Heaf.At w10 gO Heaf.zero) := Lib.hid x10
      have M10 : Hid (Heaf.At w10 gM TH) := Lib.hid (grown_far M9.out q10 (by have := N_O_M.out; omega))
      have U10 : Hid (BytesOff w10 vt ob gO) := Lib.hid (U9.out.far q10 (by omega))
      have B10 := Lib.hid (B9.out.grown q10 B9.out.size (fun k hk => by injection hk with hk; have := M_O.out; omega))
      clear q10 x10 z10 O9 M9 U9 B9
      go_wp2
      exact bodyPost_ret (results_rec_tmp2 Heaf.isRec rfl _ _ _ _ _ rfl rfl O10.out) rfl ⟨_, by rw [HF.out, HX2.out]; rfl, by rw [HG.out]; exact BytesAt.nil _, B10.out⟩
  · have e1 : (t == 0) = false := by simpa using h0
    have e2 : (t != 0) = true := by simpa using h0
    have HX2 : Hid (X = t) := Lib.hid (by rw [HX.out, if_pos h0])
    have HF : Hid (OH = Head.zero) := Lib.hid (by rw [HH.out, if_neg (by rw [HX2.out]; exact h0)])
    have HG : Hid (OB = []) := Lib.hid (by rw [HB.out, if_neg (by rw [HX2.out]; exact h0)])
    clear HH HB HX HT HT2 CE CN CO h0
    go_wp2_with (first | (with_reducible refine wpList_load_whole Heaf.isRec rfl _ rfl gO (by with_unfolding_all exact rfl) _ _ (Heaf.len _) O4.out ?_) | (with_reducible refine wpList_load_whole Heaf.isRec rfl _ rfl gM (by with_unfolding_all exact rfl) _ _ (Heaf.len _) M4.out ?_) | (with_reducible refine wpList_store_whole rfl 32 _ _ rfl gO (Heaf.enc Heaf.zero).toArray (by with_unfolding_all exact rfl) (by with_unfolding_all exact rfl) _ _ O4.out (Heaf.size _) rfl (Heaf.one _) ?_))
    intro w5 q5 x5 z5
    have O5 : Hid (Heaf.At w5 gO Heaf.zero) := Lib.hid x5
    have M5 : Hid (Heaf.At w5 gM TH) := Lib.hid (grown_far M4.out q5 (by have := N_O_M.out; omega))
    have B5 := Lib.hid (B4.out.grown q5 B4.out.size (fun k hk => by injection hk with hk; have := M_O.out; omega))
    clear q5 x5 z5 O4 M4 B4
    go_wp2
    exact bodyPost_ret (results_rec_tmp2 Heaf.isRec rfl _ _ _ _ _ rfl rfl O5.out) rfl ⟨_, by rw [HF.out, HX2.out]; rfl, by rw [HG.out]; exact BytesAt.nil _, B5.out⟩
end Go.Proofs.YtmnhpkdldeifgaaGreatDoor
