/- Package record, as landed: Seal, Open. What changed since a world: new blocks alone, and those that came behind it. -/
import Derived.Test.YtmnhpkdldeifgaaGreatDoorGbn
import Derived.Test.YtmnhpkdldeifgaaGreatDoorGba
import Derived.Test.YtmnhpkdldeifgaaGreatDoorGbk
import Derived.Test.YtmnhpkdldeifgaaGreatDoorGa
namespace Go.Proofs.YtmnhpkdldeifgaaGreatDoor
set_option maxRecDepth 100000
open Go.RowKit

theorem bxSeal_b (v0 v1 v2 v3 : Value) (key nonce wth msg : List UInt8) (w : World) (hk : key.length = 32) (hn : nonce.length = 12) (h2 : wth.length ≤ 100000) (h3 : msg.length ≤ 100000)
    (y0 : BytesAt w v0 key) (y1 : BytesAt w v1 nonce) (y2 : BytesAt w v2 wth) (y3 : BytesAt w v3 msg) :
    Calls Tryz.prog 13 #[v0, v1, v2, v3] w fun e w' => ∃ v', e = .returned (.tuple #[v', .int .i64 0]) ∧ BytesAt w' v' (sealC key nonce wth msg) ∧ Below w.heap.size w w' := by
  obtain ⟨A0, c0, rfl, -, -⟩ := id y0
  obtain ⟨A1, c1, rfl, -, -⟩ := id y1
  obtain ⟨A2, c2, rfl, -, -⟩ := id y2
  obtain ⟨A3, c3, rfl, -, -⟩ := id y3
  rw [hk] at y0 ⊢
  rw [hn] at y1 ⊢
  exact (box_is.seals A0 A1 A2 A3 _ _ c0 c1 c2 c3 key nonce wth msg w h2 h3 y0 y1 y2 y3).mono fun _ _ ⟨v', he, hf, hb⟩ => ⟨v', he, hf.bytes, hb⟩
theorem bxOpen_b (v0 v1 v2 v3 : Value) (key nonce wth msg : List UInt8) (w : World) (hk : key.length = 32) (hn : nonce.length = 12) (h2 : wth.length ≤ 100000) (h3 : msg.length ≤ 100000)
    (y0 : BytesAt w v0 key) (y1 : BytesAt w v1 nonce) (y2 : BytesAt w v2 wth) (y3 : BytesAt w v3 msg) :
    Calls Tryz.prog 21 #[v0, v1, v2, v3] w fun e w' => ∃ v', e = .returned (.tuple #[v', .int .i64 (opC 32 12 key nonce wth msg)]) ∧ BytesAt w' v' (opA 32 12 key nonce wth msg) ∧ Below w.heap.size w w' := by
  obtain ⟨A0, c0, rfl, -, -⟩ := id y0
  obtain ⟨A1, c1, rfl, -, -⟩ := id y1
  obtain ⟨A2, c2, rfl, -, -⟩ := id y2
  obtain ⟨A3, c3, rfl, -, -⟩ := id y3
  rw [hk] at y0 ⊢
  rw [hn] at y1 ⊢
  exact box_is.opens A0 A1 A2 A3 32 12 _ _ c0 c1 c2 c3 key nonce wth msg w h2 h3 y0 y1 y2 y3
theorem parts2_at (w : World) (va vb : Value) (a b : List UInt8) (ha : BytesAt w va a) (hb : BytesAt w vb b) :
    PartsAt (w.alloc (.cells #[va, vb] 25)) w.heap.size [a, b] := by
  have b1 : Below w.heap.size w (w.alloc (.cells #[va, vb] 25)) := (Below.refl _ _).alloc (Nat.le_refl _) _
  have y := Whole.new w 25 #[va, vb]
  refine ⟨y.lt, fun k l hk => ?_⟩
  have c := y.at_ k
  match k, hk, c with
  | 0, hk, c =>
    obtain rfl : a = l := by simpa using hk
    obtain ⟨A, cap, rfl, -, -⟩ := id ha
    exact ⟨A, cap, c, ha.below b1⟩
  | 1, hk, c =>
    obtain rfl : b = l := by simpa using hk
    obtain ⟨A, cap, rfl, -, -⟩ := id hb
    exact ⟨A, cap, c, hb.below b1⟩
  | k + 2, hk, c => simp at hk

set_option maxRecDepth 100000 in
set_option maxHeartbeats 2000000 in
theorem rcSeal_any (root : List UInt8) (h : Head) (ho : h.Ok) (v2 : Value) (text : List UInt8) (w : World) (hr : root.length ≤ 5000) (hm : BytesAt w v2 text) (T : Tab w) (PW : PowT w) :
    Calls Tryz.prog 6 #[.string ⟨root.toArray⟩, h.val, v2] w fun e w' => ∃ v', e = .returned (.tuple #[v', .int .i64 (sealX h text)]) ∧ (BytesAt w' v' (sealA root h text) ∧ (sealX h text = 0 → Fresh w' w.heap.size v' (sealR root h text))) ∧ Below w.heap.size w w' := by
  have T0 := Lib.hid T
  have P0 := Lib.hid PW
  have M0 := Lib.hid hm
  have CR := fun w => Lib.hid (rcRight_any h ho.id_ok w)
  have CP := fun w => Lib.hid (rcPut_any h w)
  have CS := fun w T PW => Lib.hid (rcSealer_any root h ho w hr T PW)
  have HX : Hid (sealX h text = if headR h = false then 2 else if 2016 < text.length then 3 else 0) := Lib.hid rfl
  have HA : Hid (sealA root h text = if sealX h text = 0 then sealR root h text else []) := Lib.hid rfl
  have HR : Hid ([headB h, sealC (epochK root h.epoch) (nonceB (uN h.seq)) (headB h) text].flatten = sealR root h text) := Lib.hid (by simp [sealR])
  have LR := Lib.hid (sealR_length root h text)
  obtain ⟨A, cap, rfl, -, -⟩ := id hm
  obtain ⟨n, hn⟩ : ∃ n, n = text.length := ⟨_, rfl⟩
  have HN := Lib.hid hn
  have LK := epochK_length root h.epoch
  have LN := nonceB_length (uN h.seq)
  have LH := headB_length h
  have CB := fun v0 v1 v2 v3 w (q : n ≤ 2016) => fun y0 y1 y2 y3 => Lib.hid (bxSeal_b v0 v1 v2 v3 (epochK root h.epoch) (nonceB (uN h.seq)) (headB h) text w LK LN (by rw [LH]; decide) (by omega) y0 y1 y2 y3)
  have CC := fun w va vb ha hb q => Lib.hid (concat_own w.heap.size 2 [headB h, sealC (epochK root h.epoch) (nonceB (uN h.seq)) (headB h) text] rfl (w.alloc (.cells #[va, vb] 25)) (parts2_at w va vb _ _ ha hb) (by decide) q)
  simp only [HR.out] at CC
  obtain ⟨X, hX⟩ : ∃ X, X = sealX h text := ⟨_, rfl⟩
  obtain ⟨R, hRR⟩ : ∃ R, R = sealR root h text := ⟨_, rfl⟩
  obtain ⟨SA, hSA⟩ : ∃ R, R = sealA root h text := ⟨_, rfl⟩
  simp only [← hX] at HX HA ⊢
  simp only [← hRR] at HA LR CC ⊢
  simp only [← hSA] at HA ⊢
  rw [← hn] at HX LR M0 ⊢
  obtain ⟨q, hq⟩ : ∃ q, q = headR h := ⟨_, rfl⟩
  rw [← hq] at HX
  simp only [← hq] at CR
  generalize sealC (epochK root h.epoch) (nonceB (uN h.seq)) (headB h) text = S at *
  generalize epochK root h.epoch = K at *
  generalize nonceB (uN h.seq) = N at *
  generalize headB h = H at *
  clear hX hRR hSA hq hn T PW hm hr ho HR LK LN LH
  go_enter Tryz.func6, Tryz.ntmps6
  go_wp2_with (refine wpList_box_row rfl 24 _ rfl h.enc.toArray (by with_unfolding_all exact rfl) ?_)
  intro w1 b1 x1 z1
  obtain ⟨gX, hgX⟩ : ∃ g, g = w.heap.size := ⟨_, rfl⟩
  have M_X := Lib.hid (show w.heap.size ≤ gX from by rw [hgX]; exact Nat.le_refl _)
  have B1 := Lib.hid b1
  rw [← hgX] at x1 ⊢
  have X1 : Hid (Head.At w1 gX h) := Lib.hid x1
  clear b1 x1 z1 hgX 
  go_wp2_with (with_reducible refine wpList_load_whole Head.isRec rfl _ rfl gX (by with_unfolding_all exact rfl) _ _ (Head.len _) X1.out ?_)
  refine ((CR w1).out).mono ?_
  rintro e2 w2 ⟨rfl, b2⟩
  have X2 : Hid (Head.At w2 gX h) := Lib.hid (Whole.below X1.out b2 X1.out.lt)
  have B2 := Lib.hid (B1.out.trans (b2.mono B1.out.size))
  clear b2 X1 B1
  clear CR
  cases q with
  | false =>
    have HF : Hid (X = 2) := Lib.hid HX.out
    have HG : Hid (SA = []) := Lib.hid (by rw [HA.out, HF.out, if_neg (by decide)])
    clear HX HA
    go_wp2
    go_ret2
    exact ⟨_, by rw [HF.out]; rfl, ⟨by rw [HG.out]; exact BytesAt.nil _, fun k => absurd (HF.out.symm.trans k) (by decide)⟩, B2.out⟩
  | true =>
    by_cases h1 : 2016 < n
    · have d1 : (2016 : Int) < (n : Int) := by omega
      have HF : Hid (X = 3) := Lib.hid (by rw [HX.out, if_neg (by decide), if_pos h1])
      have HG : Hid (SA = []) := Lib.hid (by rw [HA.out, HF.out, if_neg (by decide)])
      clear HX HA h1
      go_wp2
      go_ret2
      exact ⟨_, by rw [HF.out]; rfl, ⟨by rw [HG.out]; exact BytesAt.nil _, fun k => absurd (HF.out.symm.trans k) (by decide)⟩, B2.out⟩
    · have d1 : ¬ (2016 : Int) < (n : Int) := by omega
      have HF : Hid (X = 0) := Lib.hid (by rw [HX.out, if_neg (by decide), if_neg h1])
      have HG : Hid (SA = R) := Lib.hid (by rw [HA.out, HF.out, if_pos rfl])
      have N1 := Lib.hid (show n ≤ 2016 by omega)
      clear HX HA h1
      go_wp2_with (with_reducible refine wpList_load_whole Head.isRec rfl _ rfl gX (by with_unfolding_all exact rfl) _ _ (Head.len _) X2.out ?_)
      refine ((CP w2).out).mono ?_
      rintro e3 w3 ⟨vh, rfl, yh, b3⟩
      have X3 : Hid (Head.At w3 gX h) := Lib.hid (Whole.below X2.out b3 X2.out.lt)
      have B3 := Lib.hid (B2.out.trans (b3.mono B2.out.size))
      have P3 : Hid (BytesAt w3 vh H) := Lib.hid yh
      clear b3 X2 B2 yh
      clear CP
      go_wp2_with (with_reducible refine wpList_load_whole Head.isRec rfl _ rfl gX (by with_unfolding_all exact rfl) _ _ (Head.len _) X3.out ?_)
      refine ((CS w3 (T0.out.below B3.out T0.out.pos) (P0.out.below B3.out)).out).mono ?_
      rintro e4 w4 ⟨⟨vk, vn, rfl, yk, yn⟩, b4⟩
      have X4 : Hid (Head.At w4 gX h) := Lib.hid (Whole.below X3.out b4 X3.out.lt)
      have P4 : Hid (BytesAt w4 vh H) := Lib.hid (P3.out.below b4)
      have B4 := Lib.hid (B3.out.trans (b4.mono B3.out.size))
      have K4 : Hid (BytesAt w4 vk K) := Lib.hid yk
      have N4 : Hid (BytesAt w4 vn N) := Lib.hid yn
      clear b4 X3 P3 B3 yk yn
      clear CS d1
      go_wp2_with (with_reducible refine wpList_load_whole Head.isRec rfl _ rfl gX (by with_unfolding_all exact rfl) _ _ (Head.len _) X4.out ?_)
      refine ((CB vk vn vh _ w4 N1.out K4.out N4.out P4.out (M0.out.below B4.out)).out).mono ?_
      rintro e5 w5 ⟨vs, rfl, ys, b5⟩
      have X5 : Hid (Head.At w5 gX h) := Lib.hid (Whole.below X4.out b5 X4.out.lt)
      have P5 : Hid (BytesAt w5 vh H) := Lib.hid (P4.out.below b5)
      have K5 : Hid (BytesAt w5 vk K) := Lib.hid (K4.out.below b5)
      have N5 : Hid (BytesAt w5 vn N) := Lib.hid (N4.out.below b5)
      have B5 := Lib.hid (B4.out.trans (b5.mono B4.out.size))
      have S5 : Hid (BytesAt w5 vs S) := Lib.hid ys
      clear b5 X4 P4 K4 N4 B4 ys
      clear CB
      clear K5 N5 X5
      obtain ⟨Ah, ch, rfl, -, -⟩ := id P5.out
      obtain ⟨As, cs, rfl, -, -⟩ := id S5.out
      go_wp2_with fail
      refine (CC w5 _ _ P5.out S5.out (by rw [LR.out]; have := N1.out; omega)).out.mono ?_
      rintro e wz ⟨vz, rfl, oz, bz⟩
      have BZ := Lib.hid (B5.out.trans ((((Below.refl w5.heap.size w5).alloc (Nat.le_refl _) _).trans (bz.mono (by simp))).mono B5.out.size))
      have FZ := Lib.hid ((Fresh.of_own oz (by rw [LR.out]; omega)).less (show w.heap.size ≤ _ by have := B5.out.size; simp; omega))
      clear bz oz CC P5 S5 B5
      go_wp2
      go_ret2
      exact ⟨_, by rw [HF.out]; rfl, ⟨by rw [HG.out]; exact FZ.out.bytes, fun _ => FZ.out⟩, BZ.out⟩

set_option maxRecDepth 100000 in
set_option maxHeartbeats 2000000 in
theorem rcOpen_any (root b : List UInt8) (v : Value) (w : World) (hr : root.length ≤ 5000) (hv : BytesAt w v b) (T : Tab w) (PW : PowT w) :
    Calls Tryz.prog 8 #[.string ⟨root.toArray⟩, v] w fun e w' => ∃ v', e = .returned (.tuple #[(openH root b).val, v', .int .i64 (openX root b)]) ∧ BytesAt w' v' (openB root b) ∧ Below w.heap.size w w' := by
  have T0 := Lib.hid T
  have P0 := Lib.hid PW
  have M0 := Lib.hid hv
  have CT := fun w h => Lib.hid (rcTake_any v b w h)
  have CS := fun w T PW => Lib.hid (rcSealer_any root (headP b) (headP_ok b) w hr T PW)
  have HX : Hid (openX root b = if takeHdX b ≠ 0 then takeHdX b else opnX root b (headP b)) := Lib.hid rfl
  have HH : Hid (openH root b = if openX root b = 0 then headP b else Head.zero) := Lib.hid rfl
  have HB : Hid (openB root b = if openX root b = 0 then opnB root b (headP b) else []) := Lib.hid rfl
  have HT := Lib.hid (fun h => takeHd_ok (b := b) h)
  have HT2 := Lib.hid (fun h => takeHd_not (b := b) h)
  obtain ⟨A, cap, rfl, -, -⟩ := id hv
  obtain ⟨n, hn⟩ : ∃ n, n = b.length := ⟨_, rfl⟩
  have HN := Lib.hid hn
  have CO := fun v0 v1 v2 v3 w (hl : b.length ≤ 2048) y0 y1 y2 y3 => Lib.hid (show Calls Tryz.prog 21 #[v0, v1, v2, v3] w fun e w' => ∃ v', e = .returned (.tuple #[v', .int .i64 (opnX root b (headP b))]) ∧ BytesAt w' v' (opnB root b (headP b)) ∧ Below w.heap.size w w' from
    bxOpen_b v0 v1 v2 v3 (epochK root (headP b).epoch) (nonceB (uN (headP b).seq)) (b.take 16) (b.drop 16) w (epochK_length ..) (nonceB_length _) (by rw [List.length_take]; omega) (by rw [List.length_drop]; omega) y0 y1 y2 y3)
  obtain ⟨X, hX⟩ : ∃ X, X = openX root b := ⟨_, rfl⟩
  obtain ⟨OH, hOH⟩ : ∃ X, X = openH root b := ⟨_, rfl⟩
  obtain ⟨OB, hOB⟩ : ∃ X, X = openB root b := ⟨_, rfl⟩
  obtain ⟨t, ht⟩ : ∃ t, t = takeHdX b := ⟨_, rfl⟩
  obtain ⟨TH, hTH⟩ : ∃ t, t = takeHd b := ⟨_, rfl⟩
  simp only [← hX] at HX HH HB ⊢
  simp only [← hOH] at HH ⊢
  simp only [← hOB] at HB ⊢
  simp only [← ht] at HX CT HT HT2
  simp only [← hTH] at CT HT HT2
  generalize opnX root b (headP b) = ox at *
  generalize opnB root b (headP b) = ob at *
  rw [← hn] at M0 CT ⊢
  generalize epochK root (headP b).epoch = K at *
  generalize nonceB (uN (headP b).seq) = N at *
  generalize headP b = HP at *
  clear hX hOH hOB ht hTH hn hv T PW hr
  go_enter Tryz.func8, Tryz.ntmps8
  go_wp2_with (refine wpList_alloc_row rfl 24 rfl Head.zero.enc.toArray Head.zero_is ?_)
  intro w1 b1 x1 z1
  obtain ⟨gO, hgO⟩ : ∃ g, g = w.heap.size := ⟨_, rfl⟩
  have M_O := Lib.hid (show w.heap.size ≤ gO from by rw [hgO]; exact Nat.le_refl _)
  have B1 := Lib.hid b1
  rw [← hgO] at x1 ⊢
  have O1 : Hid (Head.At w1 gO Head.zero) := Lib.hid x1
  clear b1 x1 z1 hgO 
  go_wp2_with (with_reducible refine wpList_load_whole Head.isRec rfl _ rfl gO (by with_unfolding_all exact rfl) _ _ (Head.len _) O1.out ?_)
  refine ((CT w1 (M0.out.below B1.out)).out).mono ?_
  rintro e2 w2 ⟨rfl, b2⟩
  have O2 : Hid (Head.At w2 gO Head.zero) := Lib.hid (Whole.below O1.out b2 O1.out.lt)
  have B2 := Lib.hid (B1.out.trans (b2.mono B1.out.size))
  clear b2 O1 B1
  clear CT
  go_wp2_with (first | (with_reducible refine wpList_load_whole Head.isRec rfl _ rfl gO (by with_unfolding_all exact rfl) _ _ (Head.len _) O2.out ?_) | (refine wpList_alloc_row rfl 24 rfl Head.zero.enc.toArray Head.zero_is ?_))
  intro w3 b3 x3 z3
  obtain ⟨gM, hgM⟩ : ∃ g, g = w2.heap.size := ⟨_, rfl⟩
  have N_O_M := Lib.hid (show gO < gM from by rw [hgM]; exact O2.out.lt)
  have M_M := Lib.hid (show w.heap.size ≤ gM from by rw [hgM]; exact B2.out.size)
  have O3 : Hid (Head.At w3 gO Head.zero) := Lib.hid (Whole.below O2.out b3 O2.out.lt)
  have B3 := Lib.hid (B2.out.trans (b3.mono B2.out.size))
  rw [← hgM] at x3 ⊢
  have M3 : Hid (Head.At w3 gM Head.zero) := Lib.hid x3
  clear b3 x3 z3 hgM O2 B2
  go_wp2_with (first | (with_reducible refine wpList_load_whole Head.isRec rfl _ rfl gO (by with_unfolding_all exact rfl) _ _ (Head.len _) O3.out ?_) | (with_reducible refine wpList_load_whole Head.isRec rfl _ rfl gM (by with_unfolding_all exact rfl) _ _ (Head.len _) M3.out ?_) | (with_reducible refine wpList_store_whole rfl 24 _ _ rfl gM TH.enc.toArray (by with_unfolding_all exact rfl) (by with_unfolding_all exact rfl) _ _ M3.out (Head.size _) rfl (Head.one _) ?_))
  intro w4 q4 x4 z4
  have M4 : Hid (Head.At w4 gM TH) := Lib.hid x4
  have O4 : Hid (Head.At w4 gO Head.zero) := Lib.hid (grown_far O3.out q4 (by have := N_O_M.out; omega))
  have B4 := Lib.hid (B3.out.grown q4 B3.out.size (fun k hk => by injection hk with hk; have := M_M.out; omega))
  clear q4 x4 z4 M3 O3 B3
  by_cases h0 : t = 0
  · subst h0
    obtain ⟨rfl, -, hl, hl2⟩ := HT.out rfl
    have HX2 : Hid (X = ox) := Lib.hid (by rw [HX.out, if_neg (by decide)])
    have L1 := Lib.hid hl
    have L2 := Lib.hid hl2
    clear HT HT2 HX hl hl2
    go_wp2_with (first | (with_reducible refine wpList_load_whole Head.isRec rfl _ rfl gO (by with_unfolding_all exact rfl) _ _ (Head.len _) O4.out ?_) | (with_reducible refine wpList_load_whole Head.isRec rfl _ rfl gM (by with_unfolding_all exact rfl) _ _ (Head.len _) M4.out ?_))
    refine ((CS w4 (T0.out.below B4.out T0.out.pos) (P0.out.below B4.out)).out).mono ?_
    rintro e5 w5 ⟨⟨vk, vn, rfl, yk, yn⟩, b5⟩
    have O5 : Hid (Head.At w5 gO Head.zero) := Lib.hid (Whole.below O4.out b5 O4.out.lt)
    have M5 : Hid (Head.At w5 gM TH) := Lib.hid (Whole.below M4.out b5 M4.out.lt)
    have B5 := Lib.hid (B4.out.trans (b5.mono B4.out.size))
    have K5 : Hid (BytesAt w5 vk K) := Lib.hid yk
    have N5 : Hid (BytesAt w5 vn N) := Lib.hid yn
    clear b5 O4 M4 B4 yk yn
    clear CS
    obtain ⟨-, hc, ad, rfl, hp, hq, -⟩ := record_parts (M0.out.below B5.out) L1.out
    have j1 : (16 : Int) ≤ (cap : Int) := by have := L1.out; omega
    have j2 : (16 : Int) ≤ (n : Int) := by have := L1.out; have := HN.out; omega
    have j3 : cap ≠ 16 := by have := L1.out; omega
    have j4 : (n : Int) ≤ (cap : Int) := by have := HN.out; omega
    have P5 : Hid (BytesAt w5 (.slice (some ad) 16 cap) (b.take 16)) := Lib.hid (hp)
    have Q5 : Hid (BytesAt w5 (.slice (some ⟨ad.block, ad.off + 16, none⟩) (n - 16) (cap - 16)) (b.drop 16)) := Lib.hid (hq)
    clear hp hq hc
    go_wp2_with (first | (with_reducible refine wpList_load_whole Head.isRec rfl _ rfl gO (by with_unfolding_all exact rfl) _ _ (Head.len _) O5.out ?_) | (with_reducible refine wpList_load_whole Head.isRec rfl _ rfl gM (by with_unfolding_all exact rfl) _ _ (Head.len _) M5.out ?_))
    refine reg_begin (by kernel_rfl) fun w6 b6 z6 => ?_
    have O6 : Hid (Head.At w6 gO Head.zero) := Lib.hid (Whole.below O5.out b6 O5.out.lt)
    have M6 : Hid (Head.At w6 gM TH) := Lib.hid (Whole.below M5.out b6 M5.out.lt)
    have K6 : Hid (BytesAt w6 vk K) := Lib.hid (K5.out.below b6)
    have N6 : Hid (BytesAt w6 vn N) := Lib.hid (N5.out.below b6)
    have P6 : Hid (BytesAt w6 (.slice (some ad) 16 cap) (b.take 16)) := Lib.hid (P5.out.below b6)
    have Q6 : Hid (BytesAt w6 (.slice (some ⟨ad.block, ad.off + 16, none⟩) (n - 16) (cap - 16)) (b.drop 16)) := Lib.hid (Q5.out.below b6)
    have B6 := Lib.hid (B5.out.trans (b6.mono B5.out.size))
    clear b6 z6 O5 M5 K5 N5 P5 Q5 B5
    refine reg_take (i := 0) (v := ?_) rfl (by kernel_rfl) (by kernel_rfl) (by kernel_rfl) (fun _ _ _ h => h) (by rfl) ?hy0 ?_
    case hy0 => intro w' hw'; go_simp; (try with_reducible rfl)
    simp only [Act.put, List.setIfInBounds_toArray, List.set_cons_zero, List.set_cons_succ]
    refine reg_take (i := 1) (v := ?_) rfl (by kernel_rfl) (by kernel_rfl) (by kernel_rfl) (fun _ _ _ h => h) (by rfl) ?hy1 ?_
    case hy1 => intro w' hw'; go_simp; (try with_reducible rfl)
    simp only [Act.put, List.setIfInBounds_toArray, List.set_cons_zero, List.set_cons_succ]
    refine reg_take (i := 2) (v := ?_) rfl (by kernel_rfl) (by kernel_rfl) (by kernel_rfl) (fun _ _ _ h => h) (by rfl) ?hy2 ?_
    case hy2 => intro w' hw'; go_simp; (try with_reducible rfl)
    simp only [Act.put, List.setIfInBounds_toArray, List.set_cons_zero, List.set_cons_succ]
    refine reg_take (i := 3) (v := ?_) rfl (by kernel_rfl) (by kernel_rfl) (by kernel_rfl) (fun _ _ _ h => h) (by rfl) ?hy3 ?_
    case hy3 => intro w' hw'; go_simp; (try with_reducible rfl)
    simp only [Act.put, List.setIfInBounds_toArray, List.set_cons_zero, List.set_cons_succ]
    refine reg_take (i := 4) (v := ?_) rfl (by kernel_rfl) (by kernel_rfl) (by kernel_rfl) (fun _ _ _ h => h) (by rfl) ?hy4 ?_
    case hy4 => intro w' hw'; go_simp; (try with_reducible rfl)
    simp only [Act.put, List.setIfInBounds_toArray, List.set_cons_zero, List.set_cons_succ]
    refine reg_take (i := 5) (v := ?_) rfl (by kernel_rfl) (by kernel_rfl) (by kernel_rfl) (fun _ _ _ h => h) (by rfl) ?hy5 ?_
    case hy5 => intro w' hw'; go_simp; (try with_reducible rfl)
    simp only [Act.put, List.setIfInBounds_toArray, List.set_cons_zero, List.set_cons_succ]
    refine reg_call (i := 6) rfl (by kernel_rfl) (fun K' hK => ?_)
    go_simp
    refine ((CO vk vn _ _ w6 L2.out K6.out N6.out P6.out Q6.out).out).mono ?_
    rintro e7 w7 ⟨vt, rfl, yt, b7⟩
    have O7 : Hid (Head.At w7 gO Head.zero) := Lib.hid (Whole.below O6.out b7 O6.out.lt)
    have M7 : Hid (Head.At w7 gM TH) := Lib.hid (Whole.below M6.out b7 M6.out.lt)
    have K7 : Hid (BytesAt w7 vk K) := Lib.hid (K6.out.below b7)
    have N7 : Hid (BytesAt w7 vn N) := Lib.hid (N6.out.below b7)
    have P7 : Hid (BytesAt w7 (.slice (some ad) 16 cap) (b.take 16)) := Lib.hid (P6.out.below b7)
    have Q7 : Hid (BytesAt w7 (.slice (some ⟨ad.block, ad.off + 16, none⟩) (n - 16) (cap - 16)) (b.drop 16)) := Lib.hid (Q6.out.below b7)
    have B7 := Lib.hid (B6.out.trans (b7.mono B6.out.size))
    have T7 : Hid (BytesAt w7 vt ob) := Lib.hid yt
    refine hK.out _ _ b7 ?_
    clear hK K' b7 O6 M6 K6 N6 P6 Q6 B6 yt
    refine reg_take (i := 7) (v := ?_) rfl (by kernel_rfl) (by kernel_rfl) (by kernel_rfl) (fun _ _ _ h => h) (by rfl) ?hy7 ?_
    case hy7 => intro w' hw'; go_simp; (try with_reducible rfl)
    simp only [Act.put, List.setIfInBounds_toArray, List.set_cons_zero, List.set_cons_succ]
    refine reg_take (i := 8) (v := ?_) rfl (by kernel_rfl) (by kernel_rfl) (by kernel_rfl) (fun _ _ _ h => h) (by rfl) ?hy8 ?_
    case hy8 => intro w' hw'; go_simp; (try with_reducible rfl)
    simp only [Act.put, List.setIfInBounds_toArray, List.set_cons_zero, List.set_cons_succ]
    refine reg_take (i := 9) (v := ?_) rfl (by kernel_rfl) (by kernel_rfl) (by kernel_rfl) (fun _ _ _ h => h) (by rfl) ?hy9 ?_
    case hy9 => intro w' hw'; go_simp; (try with_reducible rfl)
    simp only [Act.put, List.setIfInBounds_toArray, List.set_cons_zero, List.set_cons_succ]
    refine reg_take (i := 10) (v := ?_) rfl (by kernel_rfl) (by kernel_rfl) (by kernel_rfl) (fun _ _ _ h => h) (by rfl) ?hy10 ?_
    case hy10 => intro w' hw'; go_simp; (try with_reducible rfl)
    simp only [Act.put, List.setIfInBounds_toArray, List.set_cons_zero, List.set_cons_succ]
    refine reg_take (i := 11) (v := ?_) rfl (by kernel_rfl) (by kernel_rfl) (by kernel_rfl) (fun _ _ _ h => h) (by rfl) ?hy11 ?_
    case hy11 => intro w' hw'; go_simp; (try with_reducible rfl)
    simp only [Act.put, List.setIfInBounds_toArray, List.set_cons_zero, List.set_cons_succ]
    refine reg_end (by kernel_rfl) ?_
    clear CO
    clear K7 N7 P7 Q7
    have U7 : Hid (BytesOff w7 vt ob gO) := Lib.hid (bytes_off T7.out O7.out)
    clear T7
    by_cases h1 : ox = 0
    · subst h1
      have HF : Hid (OH = TH) := Lib.hid (by rw [HH.out, if_pos HX2.out])
      have HG : Hid (OB = ob) := Lib.hid (by rw [HB.out, if_pos HX2.out])
      clear HH HB
      go_wp2_with (first | (with_reducible refine wpList_load_whole Head.isRec rfl _ rfl gO (by with_unfolding_all exact rfl) _ _ (Head.len _) O7.out ?_) | (with_reducible refine wpList_load_whole Head.isRec rfl _ rfl gM (by with_unfolding_all exact rfl) _ _ (Head.len _) M7.out ?_) | (with_reducible refine wpList_store_whole rfl 24 _ _ rfl gO TH.enc.toArray (by with_unfolding_all exact rfl) (by with_unfolding_all exact rfl) _ _ O7.out (Head.size _) rfl (Head.one _) ?_))
      intro w8 q8 x8 z8
      have O8 : Hid (Head.At w8 gO TH) := Lib.hid x8
      have M8 : Hid (Head.At w8 gM TH) := Lib.hid (grown_far M7.out q8 (by have := N_O_M.out; omega))
      have U8 : Hid (BytesOff w8 vt ob gO) := Lib.hid (U7.out.far q8 (by omega))
      have B8 := Lib.hid (B7.out.grown q8 B7.out.size (fun k hk => by injection hk with hk; have := M_O.out; omega))
      clear q8 x8 z8 O7 M7 U7 B7
      go_wp2
      exact bodyPost_ret (results_rec_tmp2 Head.isRec rfl _ _ _ _ _ rfl rfl O8.out) rfl ⟨vt, by rw [HF.out, HX2.out]; rfl, by rw [HG.out]; exact U8.out.bytes, B8.out⟩
    · have e1 : (ox == 0) = false := by simpa using h1
      have e2 : (ox != 0) = true := by simpa using h1
      have HF : Hid (OH = Head.zero) := Lib.hid (by rw [HH.out, if_neg (by rw [HX2.out]; exact h1)])
      have HG : Hid (OB = []) := Lib.hid (by rw [HB.out, if_neg (by rw [HX2.out]; exact h1)])
      clear HH HB h1
      go_wp2_with (first | (with_reducible refine wpList_load_whole Head.isRec rfl _ rfl gO (by with_unfolding_all exact rfl) _ _ (Head.len _) O7.out ?_) | (with_reducible refine wpList_load_whole Head.isRec rfl _ rfl gM (by with_unfolding_all exact rfl) _ _ (Head.len _) M7.out ?_) | (with_reducible refine wpList_store_whole rfl 24 _ _ rfl gO Head.zero.enc.toArray (by with_unfolding_all exact rfl) (by with_unfolding_all exact rfl) _ _ O7.out (Head.size _) rfl (Head.one _) ?_))
      intro w8 q8 x8 z8
      have O8 : Hid (Head.At w8 gO Head.zero) := Lib.hid x8
      have M8 : Hid (Head.At w8 gM TH) := Lib.hid (grown_far M7.out q8 (by have := N_O_M.out; omega))
      have U8 : Hid (BytesOff w8 vt ob gO) := Lib.hid (U7.out.far q8 (by omega))
      have B8 := Lib.hid (B7.out.grown q8 B7.out.size (fun k hk => by injection hk with hk; have := M_O.out; omega))
      clear q8 x8 z8 O7 M7 U7 B7
      go_wp2
      exact bodyPost_ret (results_rec_tmp2 Head.isRec rfl _ _ _ _ _ rfl rfl O8.out) rfl ⟨_, by rw [HF.out, HX2.out]; rfl, by rw [HG.out]; exact BytesAt.nil _, B8.out⟩
  · have e1 : (t == 0) = false := by simpa using h0
    have e2 : (t != 0) = true := by simpa using h0
    have HX2 : Hid (X = t) := Lib.hid (by rw [HX.out, if_pos h0])
    have HF : Hid (OH = Head.zero) := Lib.hid (by rw [HH.out, if_neg (by rw [HX2.out]; exact h0)])
    have HG : Hid (OB = []) := Lib.hid (by rw [HB.out, if_neg (by rw [HX2.out]; exact h0)])
    clear HH HB HX HT HT2 CS CO h0
    go_wp2_with (first | (with_reducible refine wpList_load_whole Head.isRec rfl _ rfl gO (by with_unfolding_all exact rfl) _ _ (Head.len _) O4.out ?_) | (with_reducible refine wpList_load_whole Head.isRec rfl _ rfl gM (by with_unfolding_all exact rfl) _ _ (Head.len _) M4.out ?_) | (with_reducible refine wpList_store_whole rfl 24 _ _ rfl gO Head.zero.enc.toArray (by with_unfolding_all exact rfl) (by with_unfolding_all exact rfl) _ _ O4.out (Head.size _) rfl (Head.one _) ?_))
    intro w5 q5 x5 z5
    have O5 : Hid (Head.At w5 gO Head.zero) := Lib.hid x5
    have M5 : Hid (Head.At w5 gM TH) := Lib.hid (grown_far M4.out q5 (by have := N_O_M.out; omega))
    have B5 := Lib.hid (B4.out.grown q5 B4.out.size (fun k hk => by injection hk with hk; have := M_O.out; omega))
    clear q5 x5 z5 O4 M4 B4
    go_wp2
    exact bodyPost_ret (results_rec_tmp2 Head.isRec rfl _ _ _ _ _ rfl rfl O5.out) rfl ⟨_, by rw [HF.out, HX2.out]; rfl, by rw [HG.out]; exact BytesAt.nil _, B5.out⟩
end Go.Proofs.YtmnhpkdldeifgaaGreatDoor

namespace Go.Proofs.YtmnhpkdldeifgaaGreatDoor
set_option maxRecDepth 100000
open Go.RowKit

/-- What changed since a world: blocks that came later alone. -/
structure Since (w0 w : World) : Prop where
  b : Below w0.heap.size w0 w
theorem Since.below {w0 w w' : World} (h : Since w0 w) (b : Below w.heap.size w w') : Since w0 w' := ⟨h.b.trans (b.mono h.b.size)⟩
theorem Since.far {w0 w w' : World} {g : Nat} (h : Since w0 w) (q : w.grownBy w' (some g)) (hg : w0.heap.size ≤ g) : Since w0 w' := ⟨h.b.grown q h.b.size (fun k hk => by injection hk with hk; omega)⟩
end Go.Proofs.YtmnhpkdldeifgaaGreatDoor
