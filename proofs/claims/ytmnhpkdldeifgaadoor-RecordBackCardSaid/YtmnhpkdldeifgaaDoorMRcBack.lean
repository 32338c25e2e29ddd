/- The core of RecordBack: what is sealed is opened, as it was; with one byte of its tag changed it is not. -/
import Derived.Test.YtmnhpkdldeifgaaDoorGbl
namespace Go.Proofs.YtmnhpkdldeifgaaDoor
set_option maxRecDepth 100000
open Go.RowKit

/-- What is opened when one byte of the tag is changed by y. -/
theorem recBack_math {root : List UInt8} {h : Head} {text : List UInt8} (q : headR h = true) (hi : h.id < 18446744073709551616) (ht : text.length ≤ 2016) (j : Nat) (c y : UInt8) (hj : j < 16) (hc : (sealR root h text)[16 + (text.length + j)]? = some c) :
    (y = 0 → openX root ((sealR root h text).set (16 + (text.length + j)) (c ^^^ y)) = 0) ∧ (y ≠ 0 → openX root ((sealR root h text).set (16 + (text.length + j)) (c ^^^ y)) = 21) := by
  constructor
  · rintro rfl
    obtain ⟨hlt, he⟩ := List.getElem?_eq_some_iff.1 hc
    have e : (sealR root h text).set (16 + (text.length + j)) (c ^^^ 0) = sealR root h text := by
      rw [UInt8.xor_zero, ← he, List.set_getElem_self]
    rw [e]
    exact (open_seal q hi ht).1
  · intro hy
    refine open_changed q hi ht j _ hj fun e => hy ?_
    have hxl : (xorC (epochK root h.epoch) (nonceB (uN h.seq)) 1 text).length = text.length := xorC_length ..
    have e2 : (sealR root h text)[16 + (text.length + j)]? = (boxTag (epochK root h.epoch) (nonceB (uN h.seq)) (headB h) (xorC (epochK root h.epoch) (nonceB (uN h.seq)) 1 text))[j]? := by
      rw [sealR, List.getElem?_append_right (by rw [headB_length]; omega), headB_length, Nat.add_sub_cancel_left, sealC, List.getElem?_append_right (by omega), hxl, Nat.add_sub_cancel_left]
    rw [e2, e] at hc
    injection hc with h1
    have h3 : c ^^^ (c ^^^ y) = c ^^^ c := by rw [h1]
    rw [xor_self_left] at h3
    simpa using h3

/-- Bytes in a block that is known whole. -/
structure RowOf (w : World) (g off cap : Nat) (t : TypeId) (cs : Array Value) (l : List UInt8) : Prop where
  whole : Whole w g t cs
  cell : ∀ j c, l[j]? = some c → cs[off + j]? = some (.int .u8 (c.toNat : Int))
  room : l.length ≤ cap
theorem RowOf.below {w w' : World} {g off cap : Nat} {t : TypeId} {cs : Array Value} {l : List UInt8} (h : RowOf w g off cap t cs l) (b : Below w.heap.size w w') : RowOf w' g off cap t cs l := ⟨Whole.below h.whole b h.whole.lt, h.cell, h.room⟩
theorem RowOf.far {w w' : World} {g off cap g' : Nat} {t : TypeId} {cs : Array Value} {l : List UInt8} (h : RowOf w g off cap t cs l) (q : w.grownBy w' (some g')) (e : g' ≠ g) : RowOf w' g off cap t cs l := ⟨Whole.grown h.whole q (fun k => e (by injection k with k; exact k.symm)), h.cell, h.room⟩
theorem RowOf.bytes {w : World} {g off cap : Nat} {t : TypeId} {cs : Array Value} {l : List UInt8} (h : RowOf w g off cap t cs l) : BytesAt w (.slice (some ⟨g, off, none⟩) l.length cap) l :=
  Fresh.bytes (B := 0) ⟨g, off, cap, t, cs, rfl, h.room, Nat.zero_le _, h.whole, h.cell⟩

set_option maxRecDepth 100000 in
set_option maxHeartbeats 4000000 in
theorem recordBack_core (root : List UInt8) (h : Head) (ho : h.Ok) (A : Option Addr) (n cap : Nat) (text : List UInt8) (at_ y : UInt8) (w : World) (hb : BytesAt w (.slice A n cap) text) (T : Tab w) (PW : PowT w) :
    Calls Tryd.prog 4 #[.string ⟨root.toArray⟩, h.val, .slice A n cap, .int .u8 (at_.toNat : Int), .int .u8 (y.toNat : Int)] w fun e w' => e = .returned (.bool true) ∧ Below w.heap.size w w' := by
  have T0 := Lib.hid T
  have P0 := Lib.hid PW
  have M0 := Lib.hid hb
  have CW := fun w T P => Lib.hid (works19 w T P)
  have CR := fun w => Lib.hid (rcRight_any h ho.id_ok w)
  obtain ⟨b0, h0⟩ : ∃ q, q = decide (300 < root.length) := ⟨_, rfl⟩
  obtain ⟨b1, h1⟩ : ∃ q, q = decide (500 < n) := ⟨_, rfl⟩
  obtain ⟨b2, h2⟩ : ∃ q, q = headR h := ⟨_, rfl⟩
  have p0 : decide ((300 : Int) < (root.length : Int)) = b0 := by rw [h0, Bool.eq_iff_iff, decide_eq_true_eq, decide_eq_true_eq]; omega
  have p1 : decide ((500 : Int) < (n : Int)) = b1 := by rw [h1, Bool.eq_iff_iff, decide_eq_true_eq, decide_eq_true_eq]; omega
  simp only [← h2] at CR
  have HR := Lib.hid (show b0 = false → root.length ≤ 300 from fun e => by rw [h0] at e; simpa using e)
  have HN := Lib.hid (show b1 = false → n ≤ 500 from fun e => by rw [h1] at e; simpa using e)
  have HQ := Lib.hid h2.symm
  have HO := Lib.hid ho
  clear T PW hb h0 h1 h2 ho
  go_enter Tryd.func4, Tryd.ntmps4
  go_wp2_with (refine wpList_box_row rfl 24 _ rfl h.enc.toArray (by with_unfolding_all exact rfl) ?_)
  intro w1 b1 x1 z1
  obtain ⟨gX, hgX⟩ : ∃ g, g = w.heap.size := ⟨_, rfl⟩
  have M_X := Lib.hid (show w.heap.size ≤ gX from by rw [hgX]; exact Nat.le_refl _)
  have B1 := Lib.hid b1
  rw [← hgX] at x1 ⊢
  have X1 : Hid (Head.At w1 gX h) := Lib.hid x1
  clear b1 x1 z1 hgX 
  go_wp2_with (with_reducible refine wpList_load_whole Head.isRec rfl _ rfl gX (by with_unfolding_all exact rfl) _ _ (Head.len _) X1.out ?_)
  refine ((CW w1 (T0.out.below B1.out T0.out.pos) (P0.out.below B1.out)).out).mono ?_
  rintro e2 w2 ⟨rfl, b2⟩
  have X2 : Hid (Head.At w2 gX h) := Lib.hid (Whole.below X1.out b2 X1.out.lt)
  have B2 := Lib.hid (B1.out.trans (b2.mono B1.out.size))
  clear b2 X1 B1
  clear CW
  cases b0 with
  | true =>
    go_wp2
    go_ret
    exact ⟨rfl, B2.out⟩
  | false =>
    cases b1 with
    | true =>
      go_wp2
      go_ret
      exact ⟨rfl, B2.out⟩
    | false =>
      go_wp2_with (first | (with_reducible refine wpList_load_whole Head.isRec rfl _ rfl gX (by with_unfolding_all exact rfl) _ _ (Head.len _) X2.out ?_) | (with_reducible refine wpList_load_whole_w Head.isRec (by kernel_rfl) _ rfl gX (by with_unfolding_all exact rfl) _ _ (Head.len _) X2.out ?_))
      refine ((CR w2).out).mono ?_
      rintro e3 w3 ⟨rfl, b3⟩
      have X3 : Hid (Head.At w3 gX h) := Lib.hid (Whole.below X2.out b3 X2.out.lt)
      have B3 := Lib.hid (B2.out.trans (b3.mono B2.out.size))
      clear b3 X2 B2
      clear CR p0 p1
      cases b2 with
      | false =>
        go_wp2
        go_ret
        exact ⟨rfl, B3.out⟩
      | true =>
        have L1 := Lib.hid (HR.out (by trivial))
        have L2 := Lib.hid (HN.out (by trivial))
        have ML := Lib.hid M0.out.size.1
        have hi := HO.out.id_ok
        have e1 : sealX h text = 0 := by
          rw [sealX, HQ.out, if_neg (by decide), if_neg (by have := L2.out; have := ML.out; omega)]
        have CA := fun w1 (qb : Below w.heap.size w w1) T P => rcSeal_any root h HO.out _ text w1 (by have := L1.out; omega) (M0.out.below qb) T P
        simp only [e1] at CA
        replace CA := fun w1 (qb : Below w.heap.size w w1) T P => Lib.hid ((CA w1 qb T P).mono (R' := fun e w' => ∃ v', e = .returned (.tuple #[v', .int .i64 0]) ∧ Fresh w' w1.heap.size v' (sealR root h text) ∧ Below w1.heap.size w1 w') fun _ _ ⟨v', he, ⟨_, hf⟩, hw⟩ => ⟨v', he, hf (by first | trivial | rfl), hw⟩)
        obtain ⟨k1, k2, k3⟩ := open_seal (root := root) (text := text) HQ.out hi (by have := L2.out; have := ML.out; omega)
        have CO := fun v S w hv T P => Lib.hid (rcOpen_any root S v w (by have := L1.out; omega) hv T P)
        have C1 := fun v w hv T P => rcOpen_any root (sealR root h text) v w (by have := L1.out; omega) hv T P
        simp only [k1, k2, k3] at C1
        replace C1 := fun v w hv T P => Lib.hid (C1 v w hv T P)
        have SL := Lib.hid (sealR_length root h text)
        have BM := Lib.hid (fun j c hj hc => recBack_math (root := root) (text := text) HQ.out hi (by have := L2.out; have := ML.out; omega) j c y hj hc)
        generalize sealR root h text = S at *
        rw [← ML.out] at SL
        simp only [← ML.out] at BM
        clear e1 k1 k2 k3 hi HR HN HQ HO
        obtain ⟨m, hm⟩ : ∃ m, m = S.length := ⟨_, rfl⟩
        have HM := Lib.hid hm
        have MM := Lib.hid (show m = n + 32 by rw [hm]; exact SL.out)
        clear hm
        have W3 := Lib.hid B3.out.size
        go_wp2_with (with_reducible refine wpList_load_whole Head.isRec rfl _ rfl gX (by with_unfolding_all exact rfl) _ _ (Head.len _) X3.out ?_)
        refine ((CA w3 B3.out (T0.out.below B3.out T0.out.pos) (P0.out.below B3.out)).out).mono ?_
        rintro e4 w4 ⟨v1, rfl, ⟨gS, off, capS, tS, cs, rfl, hcap, hB, hw, hcell⟩, b4⟩
        have X4 : Hid (Head.At w4 gX h) := Lib.hid (Whole.below X3.out b4 X3.out.lt)
        have B4 := Lib.hid (B3.out.trans (b4.mono B3.out.size))
        clear b4 X3 B3
        have S4 : Hid (RowOf w4 gS off capS tS cs S) := Lib.hid (⟨hw, hcell, hcap⟩)
        have GB := Lib.hid (show w.heap.size ≤ gS from Nat.le_trans W3.out hB)
        have HCAP := Lib.hid hcap
        have HC5 := Lib.hid hcell
        rw [← HM.out]
        have t0 : IntKind.i64.wrap ((n : Int) + 32) = (m : Int) := by have := L2.out; have := MM.out; rw [IntWalk.i64_in _ (by omega)]; omega
        clear CA hcap hB hw hcell W3
        go_wp2_with (with_reducible refine wpList_load_whole Head.isRec rfl _ rfl gX (by with_unfolding_all exact rfl) _ _ (Head.len _) X4.out ?_)
        refine ((C1 _ w4 (by rw [HM.out]; exact S4.out.bytes) (T0.out.below B4.out T0.out.pos) (P0.out.below B4.out)).out).mono ?_
        rintro e5 w5 ⟨v3, rfl, y3, b5⟩
        have X5 : Hid (Head.At w5 gX h) := Lib.hid (Whole.below X4.out b5 X4.out.lt)
        have S5 : Hid (RowOf w5 gS off capS tS cs S) := Lib.hid (S4.out.below b5)
        have B5 := Lib.hid (B4.out.trans (b5.mono B4.out.size))
        have Q5 : Hid (BytesAt w5 v3 text) := Lib.hid y3
        clear b5 X4 S4 B4 y3
        clear C1 t0
        have GS := Lib.hid (show gS < w5.heap.size from S5.out.whole.lt)
        have D5 : Hid (Since w5 w5) := Lib.hid (⟨Below.refl _ _⟩)
        have Q0 := Q5
        clear Q5
        go_wp2_with (first | (with_reducible refine wpList_load_whole Head.isRec rfl _ rfl gX (by with_unfolding_all exact rfl) _ _ (Head.len _) X5.out ?_) | (refine wpList_alloc_row rfl 24 rfl Head.zero.enc.toArray Head.zero_is ?_))
        intro w6 b6 x6 z6
        obtain ⟨gK, hgK⟩ : ∃ g, g = w5.heap.size := ⟨_, rfl⟩
        have N_X_K := Lib.hid (show gX < gK from by rw [hgK]; exact X5.out.lt)
        have L_D_K := Lib.hid (show w5.heap.size ≤ gK from by rw [hgK]; exact D5.out.b.size)
        have M_K := Lib.hid (show w.heap.size ≤ gK from by rw [hgK]; exact B5.out.size)
        have X6 : Hid (Head.At w6 gX h) := Lib.hid (Whole.below X5.out b6 X5.out.lt)
        have S6 : Hid (RowOf w6 gS off capS tS cs S) := Lib.hid (S5.out.below b6)
        have D6 : Hid (Since w5 w6) := Lib.hid (D5.out.below b6)
        have B6 := Lib.hid (B5.out.trans (b6.mono B5.out.size))
        rw [← hgK] at x6 ⊢
        have K6 : Hid (Head.At w6 gK Head.zero) := Lib.hid x6
        clear b6 x6 z6 hgK X5 S5 D5 B5
        have nk : gK ≠ gS := by have := L_D_K.out; have := GS.out; omega
        go_wp2_with (first | (with_reducible refine wpList_load_whole Head.isRec rfl _ rfl gX (by with_unfolding_all exact rfl) _ _ (Head.len _) X6.out ?_) | (with_reducible refine wpList_load_whole Head.isRec rfl _ rfl gK (by with_unfolding_all exact rfl) _ _ (Head.len _) K6.out ?_) | (with_reducible refine wpList_store_whole rfl 24 _ _ rfl gK h.enc.toArray (by with_unfolding_all exact rfl) (by with_unfolding_all exact rfl) _ _ K6.out (Head.size _) rfl (Head.one _) ?_))
        intro w7 q7 x7 z7
        have K7 : Hid (Head.At w7 gK h) := Lib.hid x7
        have X7 : Hid (Head.At w7 gX h) := Lib.hid (grown_far X6.out q7 (by have := N_X_K.out; omega))
        have S7 : Hid (RowOf w7 gS off capS tS cs S) := Lib.hid (S6.out.far q7 (by omega))
        have D7 : Hid (Since w5 w7) := Lib.hid (D6.out.far q7 L_D_K.out)
        have B7 := Lib.hid (B6.out.grown q7 B6.out.size (fun k hk => by injection hk with hk; have := M_K.out; omega))
        clear q7 x7 z7 K6 X6 S6 D6 B6
        clear nk
        have r1 := conv_bytes (Q0.out.below D7.out.b)
        have r2 := conv_bytes (M0.out.below B7.out)
        obtain ⟨j, hj⟩ : ∃ j, j = at_.toNat % 16 := ⟨_, rfl⟩
        have tj : (at_.toNat : Int).tmod 16 = (j : Int) := by rw [Int.tmod_eq_emod_of_nonneg (by omega)]; omega
        have tj2 : (at_.toNat : Int) % 16 = (j : Int) := by omega
        have J : Hid (j < 16) := Lib.hid (by omega)
        have t3 : IntKind.i64.wrap (j : Int) = (j : Int) := by rw [IntWalk.i64_in _ (by omega)]
        obtain ⟨m1, hm1⟩ : ∃ m1, m1 = n + 31 := ⟨_, rfl⟩
        have t1 : IntKind.i64.wrap ((m : Int) - 1) = (m1 : Int) := by have := L2.out; have := MM.out; rw [IntWalk.i64_in _ (by omega)]; omega
        obtain ⟨q, hq⟩ : ∃ q, q = 16 + (n + (15 - j)) := ⟨_, rfl⟩
        have t4 : IntKind.i64.wrap ((m1 : Int) - (j : Int)) = (q : Int) := by have := L2.out; rw [IntWalk.i64_in _ (by omega)]; omega
        have jq : (q : Int) < (m : Int) := by have h1 := MM.out; have h2 := J.out; omega
        have jq0 : (0 : Int) ≤ (q : Int) := by omega
        have QL : Hid (q < S.length) := Lib.hid (by have := HM.out; omega)
        obtain ⟨c, hc⟩ : ∃ c, S[q]? = some c := ⟨_, List.getElem?_eq_getElem QL.out⟩
        have HCj := Lib.hid (HC5.out q c hc)
        have cc := (S7.out.whole.at_ (off + q)).trans HCj.out
        obtain ⟨d, hd⟩ : ∃ d, d = c ^^^ y := ⟨_, rfl⟩
        have xc : bits .xor .u8 (c.toNat : Int) (y.toNat : Int) = (d.toNat : Int) := by rw [hd]; exact xor_cell c y
        have BMj := BM.out (15 - j) c (by omega) (by rw [← hq]; exact hc)
        rw [← hq, ← hd] at BMj
        have HBM := Lib.hid BMj
        clear hj hm1 hc hq hd BMj BM
        have NQ := Lib.hid (show false = !eqCells h.enc h.enc by simp [eqCells_refl (Head.fits h)])
        go_wp2_with (first | (with_reducible refine wpList_load_whole_w Head.isRec (by kernel_rfl) _ rfl gK (by with_unfolding_all exact rfl) _ _ (Head.len _) K7.out ?_) | (with_reducible refine wpList_load_whole_w Head.isRec (by kernel_rfl) _ rfl gX (by with_unfolding_all exact rfl) _ _ (Head.len _) X7.out ?_) | (with_reducible refine wpList_neq_rec_w Head.isRec (by kernel_rfl) _ _ rfl h.enc h.enc (Head.fits _) (Head.fits _) (by with_unfolding_all exact rfl) (by with_unfolding_all exact rfl) false NQ.out ?_) | (with_reducible refine wpList_put_at rfl _ _ rfl gS (off + q) (by with_unfolding_all exact rfl) d (by with_unfolding_all exact rfl) tS cs S7.out.whole _ HCj.out ?_))
        intro w9 g9 x9 z9
        have YT : Hid (BytesAt w9 (.slice (some ⟨gS, off, none⟩) m capS) (S.set q d)) := Lib.hid (by
          have e := bytes_changed (cap := capS) x9 HC5.out QL.out HCAP.out
          rw [← HM.out] at e
          exact e)
        have B9 : Hid (Below w.heap.size w w9) := Lib.hid (B7.out.grown g9 B7.out.size (fun k hk => by have := GB.out; injection hk; omega))
        clear g9 x9 z9 tj tj2 t1 t3 t4 jq jq0 cc xc r1 r2 HC5 HCj S7 K7 X7 B7 D7
        obtain ⟨S', hS'⟩ : ∃ S', S' = S.set q d := ⟨_, rfl⟩
        have HBM2 := HBM.out
        rw [← hS'] at YT HBM2
        have C2 := (CO _ S' w9 YT.out (T0.out.below B9.out T0.out.pos) (P0.out.below B9.out)).out
        generalize openH root S' = oh at C2
        generalize openB root S' = ob at C2
        clear hS' HBM CO
        by_cases hy : y = 0
        · rw [HBM2.1 hy] at C2
          have C2 := Lib.hid C2
          subst hy
          clear HBM2
          have z1 : ((((0 : UInt8).toNat : Nat) : Int) == 0) = true := rfl
          go_wp2_with fail
          refine (C2.out).mono ?_
          rintro e8 w8 ⟨v4, rfl, y4, b8⟩
          have B8 := Lib.hid (B9.out.trans (b8.mono B9.out.size))
          clear b8 B9
          clear y4 C2
          go_wp2_with (refine wpList_alloc_row rfl 24 rfl Head.zero.enc.toArray Head.zero_is ?_)
          intro w9 b9 x9 z9
          obtain ⟨gN, hgN⟩ : ∃ g, g = w8.heap.size := ⟨_, rfl⟩
          have M_N := Lib.hid (show w.heap.size ≤ gN from by rw [hgN]; exact B8.out.size)
          have B9 := Lib.hid (B8.out.trans (b9.mono B8.out.size))
          rw [← hgN] at x9 ⊢
          have N9 : Hid (Head.At w9 gN Head.zero) := Lib.hid x9
          clear b9 x9 z9 hgN B8
          go_wp2_with (first | (with_reducible refine wpList_load_whole Head.isRec rfl _ rfl gN (by with_unfolding_all exact rfl) _ _ (Head.len _) N9.out ?_) | (with_reducible refine wpList_store_whole rfl 24 _ _ rfl gN oh.enc.toArray (by with_unfolding_all exact rfl) (by with_unfolding_all exact rfl) _ _ N9.out (Head.size _) rfl (Head.one _) ?_))
          intro w10 q10 x10 z10
          have N10 : Hid (Head.At w10 gN oh) := Lib.hid x10
          have B10 := Lib.hid (B9.out.grown q10 B9.out.size (fun k hk => by injection hk with hk; have := M_N.out; omega))
          clear q10 x10 z10 N9 B9
          go_wp2
          go_ret
          exact ⟨rfl, B10.out⟩
        · rw [HBM2.2 hy] at C2
          have C2 := Lib.hid C2
          have z0 : (y.toNat : Int) ≠ 0 := fun e => hy (UInt8.toNat_inj.1 (by simpa using e))
          have z1 : ((y.toNat : Int) == 0) = false := by simpa using z0
          have z2 : ((y.toNat : Int) != 0) = true := by simpa using z0
          clear HBM2 hy z0
          go_wp2_with fail
          refine (C2.out).mono ?_
          rintro e11 w11 ⟨v4, rfl, y4, b11⟩
          have B11 := Lib.hid (B9.out.trans (b11.mono B9.out.size))
          clear b11 B9
          clear y4 C2
          go_wp2_with (refine wpList_alloc_row rfl 24 rfl Head.zero.enc.toArray Head.zero_is ?_)
          intro w12 b12 x12 z12
          obtain ⟨gN, hgN⟩ : ∃ g, g = w11.heap.size := ⟨_, rfl⟩
          have M_N := Lib.hid (show w.heap.size ≤ gN from by rw [hgN]; exact B11.out.size)
          have B12 := Lib.hid (B11.out.trans (b12.mono B11.out.size))
          rw [← hgN] at x12 ⊢
          have N12 : Hid (Head.At w12 gN Head.zero) := Lib.hid x12
          clear b12 x12 z12 hgN B11
          go_wp2_with (first | (with_reducible refine wpList_load_whole Head.isRec rfl _ rfl gN (by with_unfolding_all exact rfl) _ _ (Head.len _) N12.out ?_) | (with_reducible refine wpList_store_whole rfl 24 _ _ rfl gN oh.enc.toArray (by with_unfolding_all exact rfl) (by with_unfolding_all exact rfl) _ _ N12.out (Head.size _) rfl (Head.one _) ?_))
          intro w13 q13 x13 z13
          have N13 : Hid (Head.At w13 gN oh) := Lib.hid x13
          have B13 := Lib.hid (B12.out.grown q13 B12.out.size (fun k hk => by injection hk with hk; have := M_N.out; omega))
          clear q13 x13 z13 N12 B12
          go_wp2
          go_ret
          exact ⟨rfl, B13.out⟩
end Go.Proofs.YtmnhpkdldeifgaaDoor
