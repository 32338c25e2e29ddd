/- What the document's Expand and Named (carcanetref05) answer. The document's Step, Back, Key and Leads of layer 12. The document's Leads of layer 12; gates in memory. What the texts of layer 12's statements lean on of package chain, as one thing to prove: each call's answer, where digest's table lies as it was laid. -/
import Derived.Test.YtfcjemedheccgaaDoorGba
import Derived.Test.YtfcjemedheccgaaDoorGbc
import Derived.Test.YtfcjemedheccgaaDoorGm
import Derived.Test.YtfcjemedheccgaaDoorGb
import Derived.Deep.LoopGhost
import Derived.Test.YtfcjemedheccgaaDoorGp
namespace Go.Proofs.YtfcjemedheccgaaDoor
set_option maxRecDepth 100000
open Go.RowKit

set_option maxHeartbeats 1000000 in
theorem refExpand_bad (v0 v1 : Value) (z : Int) (hz : z < 0 ∨ 8160 < z) (w : World) :
    Calls Tryd.prog 54 #[v0, v1, .int .i64 z] w fun e w' => e = .returned (.tuple #[.slice none 0 0, .int .i64 2]) ∧ Below w.heap.size w w' := by
  by_cases h0 : z < 0
  · have d0 : decide (z < 0) = true := by simpa using h0
    clear hz
    go_enter Tryd.func54, Tryd.ntmps54
    go_wp2
    go_ret2
    exact ⟨rfl, Below.refl _ _⟩
  · have d0 : decide (z < 0) = false := by simpa using h0
    have d1 : decide (8160 < z) = true := by simp; omega
    clear hz
    go_enter Tryd.func54, Tryd.ntmps54
    go_wp2
    go_ret2
    exact ⟨rfl, Below.refl _ _⟩

set_option maxHeartbeats 4000000 in
theorem refExpand_any (v0 v1 : Value) (key info : List UInt8) (n : Nat) (w : World) (h0 : BytesAt w v0 key) (h1 : BytesAt w v1 info) (hk : key.length ≤ 5000) (hi : info.length ≤ 4800) (hn : n ≤ 8160) :
    Calls Tryd.prog 54 #[v0, v1, .int .i64 (n : Int)] w fun e w' => ∃ v', e = .returned (.tuple #[v', .int .i64 0]) ∧ BytesAt w' v' (expandL key info n) ∧ Below w.heap.size w w' := by
  have d0 : decide ((n : Int) < 0) = false := by simp
  have d1 : decide ((8160 : Int) < (n : Int)) = false := by simp; omega
  have H0 := Lib.hid h0
  have H1 := Lib.hid h1
  obtain ⟨A0, cap0, rfl, -, -⟩ := h0
  obtain ⟨A1, cap1, rfl, -, -⟩ := h1
  go_enter Tryd.func54, Tryd.ntmps54
  go_wp2_with fail
  go_loopw [8, 9, 10] (fun s8 s9 s10 wr => ∃ k : Nat, 32 * k < n + 32 ∧ s10 = .int .i64 ((k + 1 : Nat) : Int) ∧ wr.ownsRow w.heap.size 5 1 s8 (32 * k) (bv (exOut key info k)) ∧ BytesAt wr s9 (exT key info k) ∧ Below w.heap.size w wr) (fun _ _ s10 _ => 300 - (intOf s10).toNat)
  case atStart => exact ⟨0, by omega, rfl, World.ownsRow_nil _ _ _ _, BytesAt.nil _, Below.refl _ _⟩
  case round =>
    obtain ⟨k, hkn, rfl, ho, hb9, hb⟩ := hrel
    have HB := Lib.hid hb
    have H9 := Lib.hid hb9
    obtain ⟨A9, cap9, rfl, -, -⟩ := hb9
    obtain ⟨A8, cap8, rfl⟩ := own_form ho
    have HO := Lib.hid ho
    clear ho hb
    by_cases hlt : 32 * k < n
    · have hx : IntKind.u8.wrap ((k + 1 : Nat) : Int) = ((UInt8.ofNat (k + 1)).toNat : Int) := by
        rw [ofNat_u8 _ (by omega), IntWalk.u8_in _ (by omega)]
      obtain ⟨q, hq⟩ : ∃ q, q = 32 * k := ⟨_, rfl⟩
      have HQ := Lib.hid hq
      rw [← hq] at HO hlt ⊢
      have dq : decide ((q : Int) < (n : Int)) = true := by simp; omega
      have HM : Hid (macL key (exT key info k ++ info ++ [UInt8.ofNat (k + 1)]) = exT key info (k + 1)) := Lib.hid rfl
      have HTM := Lib.hid (exT_most key info k)
      have HL : Hid ((exT key info (k + 1)).length = 32) := exT_length key info k
      have HE : Hid (exOut key info k ++ exT key info (k + 1) = exOut key info (k + 1)) := Lib.hid rfl
      generalize UInt8.ofNat (k + 1) = x at *
      clear hq
      generalize hp : k + 1 = p at *
      have HP := Lib.hid hp
      clear hp
      generalize exT key info k = T0 at *
      have o1 := own_empty wr
      have b1 : Below wr.heap.size wr (wr.alloc (.cells #[] 5)) := (Below.refl _ _).alloc (Nat.le_refl _) _
      go_wp2_with (with_reducible refine wpList_append_bytes rfl _ _ rfl wr.heap.size _ _ _ ?hv o1 _ _ ?hx (H9.out.below b1) ?hlen ?hbase ?_)
      case hv => exact rfl
      case hx => exact rfl
      case hlen => have := HTM.out; omega
      case hbase => exact b1.size
      intro v2 w2 ho2 hg2
      have lt2 := o1.lt
      have B2 := Lib.hid (b1.grown hg2 b1.size (fun k hk => (lt2 k hk).1))
      have O2 : Hid (w2.ownsRow wr.heap.size 5 1 v2 T0.length (bv T0)) := by simpa [Hid] using ho2
      obtain ⟨A2, cap2, rfl⟩ := own_form O2.out
      clear lt2 ho2 hg2 o1 b1
      have HI2 := Lib.hid (H1.out.below (HB.out.trans (B2.out.mono HB.out.size)))
      go_wp2_with (with_reducible refine wpList_append_bytes rfl _ _ rfl wr.heap.size _ _ _ ?hv O2.out _ _ ?hx HI2.out ?hlen ?hbase ?_)
      case hv => exact rfl
      case hx => exact rfl
      case hlen => have := HTM.out; omega
      case hbase => exact B2.out.size
      intro v3 w3 ho3 hg3
      have lt3 := O2.out.lt
      have B3 := Lib.hid (B2.out.grown hg3 B2.out.size (fun k hk => (lt3 k hk).1))
      rw [← bv_append] at ho3
      have O3 := Lib.hid ho3
      obtain ⟨A3, cap3, rfl⟩ := own_form ho3
      clear lt3 ho3 hg3 O2 B2 HI2
      have z3 : BytesAt (w3.alloc (.cells #[.int .u8 (x.toNat : Int)] 5)) (.slice (some ⟨w3.heap.size, 0, none⟩) 1 1) [x] := BytesAt.lit w3 [x] _ rfl
      have o3 := O3.out.alloc (.cells #[.int .u8 (x.toNat : Int)] 5)
      have b3 := B3.out.alloc B3.out.size (.cells #[.int .u8 (x.toNat : Int)] 5)
      go_wp2_with (with_reducible refine wpList_append_bytes rfl _ _ rfl wr.heap.size _ _ _ ?hv o3 _ _ ?hx z3 ?hlen ?hbase ?_)
      case hv => exact rfl
      case hx => exact rfl
      case hlen => have := HTM.out; simp; omega
      case hbase => exact b3.size
      intro v4 w4 ho4 hg4
      have lt4 := o3.lt
      have B4 := Lib.hid (b3.grown hg4 b3.size (fun k hk => (lt4 k hk).1))
      rw [← bv_append] at ho4
      have Y4 := Lib.hid (BytesAt.of_own (l := T0 ++ info ++ [x]) (by simpa [Nat.add_assoc] using ho4))
      have LY : Hid ((T0 ++ info ++ [x]).length ≤ 4900) := by
        have := HTM.out
        simp [Hid]
        omega
      clear lt4 ho4 hg4 o3 b3 z3 O3 B3
      have BW := Lib.hid (HB.out.trans (B4.out.mono HB.out.size))
      have OW := Lib.hid (kept_below HO.out B4.out rfl)
      generalize T0 ++ info ++ [x] = M at *
      go_wp2_with fail
      refine (refMac_own _ v4 key M w4 (H0.out.below BW.out) Y4.out hk LY.out).mono ?_
      rintro e w5 ⟨v5, rfl, o5, b5⟩
      rw [HM.out] at o5
      have B5 := Lib.hid (BW.out.trans (b5.mono BW.out.size))
      have O5 := Lib.hid (kept_below OW.out b5 rfl)
      have Y5 := Lib.hid (BytesAt.of_own o5)
      have A5 : Hid (v5.ownBlock = none ∨ v5.ownBlock ≠ (Value.slice A8 q cap8).ownBlock) := by
        rcases hb : v5.ownBlock with _ | b
        · exact .inl rfl
        · refine .inr fun e => ?_
          have q1 := (o5.lt b hb).1
          have q2 := (OW.out.lt b e.symm).2
          omega
      clear o5 b5 BW OW Y4 B4 HO HB
      go_wp2_with (with_reducible refine wpList_append_bytes rfl _ _ rfl w.heap.size _ _ _ ?hv O5.out _ _ ?hx Y5.out ?hlen ?hbase ?_)
      case hv => exact rfl
      case hx => exact rfl
      case hlen => have := HL.out; omega
      case hbase => exact B5.out.size
      intro v6 w6 ho6 hg6
      have lt6 := O5.out.lt
      have B6 := Lib.hid (B5.out.grown hg6 B5.out.size (fun k hk => (lt6 k hk).1))
      have Y6 := Lib.hid (Y5.out.keep (w' := w6) fun _ b hb hv => hg6.block b hb (by rw [← hv]; exact (A5.out.resolve_left (by rw [hv]; simp))))
      rw [← bv_append, HE.out, show q + (exT key info p).length = 32 * p by have := HL.out; have := HQ.out; have := HP.out; omega] at ho6
      have O6 := Lib.hid ho6
      obtain ⟨A6, cap6, rfl⟩ := own_form ho6
      clear lt6 ho6 hg6 O5 Y5 A5 B5 hx
      have hp : p ≤ 255 := by have := HP.out; have := HQ.out; omega
      have tw : IntKind.i64.wrap ((p : Int) + 1) = ((p + 1 : Nat) : Int) := by rw [IntWalk.i64_in _ (by omega)]; omega
      go_wp2_with fail
      exact ⟨⟨p, by have := HP.out; have := HQ.out; omega, by go_num, O6.out, Y6.out, B6.out⟩, by simp [intOf]; omega⟩
    · obtain ⟨q, hq⟩ : ∃ q, q = 32 * k := ⟨_, rfl⟩
      have HQ := Lib.hid hq
      rw [← hq] at HO hlt ⊢
      have dq : decide ((q : Int) < (n : Int)) = false := by simp; omega
      have YO := Lib.hid (BytesAt.of_own (l := exOut key info k) (by have e := exOut_length key info k; rw [e, ← hq]; exact HO.out))
      have EX : Hid ((exOut key info k).take n = expandL key info n) := expandL_at key info n k (by omega) (by omega)
      have hcap := YO.out.size.2
      have hnc : n ≤ cap8 := by omega
      have YF := Lib.hid (YO.out.first n (by omega))
      rw [EX.out] at YF
      clear hq
      go_wp2
      go_ret2
      exact ⟨_, rfl, YF.out, HB.out⟩

theorem carc_str' (s : ByteArray) : ((⟨#[99, 97, 114, 99, 97, 110, 101, 116, 32]⟩ : ByteArray) ++ s).data.toList = carc ++ s.data.toList := by
  simp [carc]

set_option maxHeartbeats 1000000 in
theorem refNamed_any (v0 : Value) (s : ByteArray) (key : List UInt8) (w : World) (h0 : BytesAt w v0 key) (hk : key.length ≤ 5000) (hs : s.size ≤ 4700) :
    Calls Tryd.prog 39 #[v0, .string s] w fun e w' => ∃ v', e = .returned v' ∧ BytesAt w' v' (namedL key s.data.toList) ∧ Below w.heap.size w w' := by
  have H0 := Lib.hid h0
  have CS := Lib.hid (carc_str' s)
  have HI : Hid ((carc ++ s.data.toList).length ≤ 4800) := by
    simp [Hid, carc]; omega
  have HD : Hid (expandL key (carc ++ s.data.toList) 32 = namedL key s.data.toList) := Lib.hid rfl
  obtain ⟨vs, w1, hr, y1, b1⟩ := conv_str w ((⟨#[99, 97, 114, 99, 97, 110, 101, 116, 32]⟩ : ByteArray) ++ s)
  rw [CS.out] at y1
  have Y1 := Lib.hid y1
  have B1 := Lib.hid b1
  clear h0 y1 b1
  go_enter Tryd.func39, Tryd.ntmps39
  go_wp2_with fail
  refine (refExpand_any v0 vs key _ 32 w1 (H0.out.below B1.out) Y1.out hk HI.out (by decide)).mono ?_
  rintro e w2 ⟨v4, rfl, y2, b2⟩
  rw [HD.out] at y2
  have B2 := Lib.hid (B1.out.trans (b2.mono B1.out.size))
  have Y2 := Lib.hid y2
  clear y2 b2 hr
  go_wp2
  go_ret
  exact ⟨_, rfl, Y2.out, B2.out⟩
end Go.Proofs.YtfcjemedheccgaaDoor

namespace Go.Proofs.YtfcjemedheccgaaDoor
set_option maxRecDepth 100000
open Go.RowKit

theorem link_plus (k : List UInt8) : (⟨#[99, 97, 114, 99, 97, 110, 101, 116, 32, 108, 105, 110, 107]⟩ : ByteArray) ++ ⟨k.toArray⟩ = ⟨(linkL ++ k).toArray⟩ := str_plus linkL k

set_option maxHeartbeats 1000000 in
theorem refStep_any (k : List UInt8) (w : World) (hk : k.length ≤ 4000) :
    Calls Tryd.prog 40 #[.string ⟨k.toArray⟩] w fun e w' => e = .returned (.string ⟨(stepL k).toArray⟩) ∧ Below w.heap.size w w' := by
  have r0 := link_plus k
  obtain ⟨vs, w1, r1, y1, b1⟩ := conv_str w ⟨(linkL ++ k).toArray⟩
  have Y1 := Lib.hid y1
  have B1 := Lib.hid b1
  have HL : Hid ((linkL ++ k).length ≤ 5000) := Lib.hid (by simp [linkL]; omega)
  have HS : Hid (sumL (linkL ++ k) = stepL k) := Lib.hid rfl
  obtain ⟨T, hT⟩ : ∃ T, T = linkL ++ k := ⟨_, rfl⟩
  rw [← hT] at r0 r1 Y1 HL HS
  clear y1 b1 hT
  have C := Lib.hid (refSum_any vs T HL.out w1 (by simpa using Y1.out))
  rw [HS.out] at C
  go_enter Tryd.func40, Tryd.ntmps40
  go_wp2_with fail
  refine C.out.mono ?_
  rintro e w2 ⟨v2, rfl, y2, b2⟩
  have r2 := conv_bytes y2
  have B2 := Lib.hid (B1.out.trans (b2.mono B1.out.size))
  clear y2 b2 r1 r0 C
  go_wp2
  go_ret
  exact ⟨rfl, B2.out⟩

set_option maxHeartbeats 1000000 in
theorem refChKey_bad (seed : List UInt8) (len idx : Int) (h : keyBad len idx) (w : World) :
    Calls Tryd.prog 24 #[.string ⟨seed.toArray⟩, .int .i64 len, .int .i64 idx] w fun e w' => e = .returned (.tuple #[.string ⟨([] : List UInt8).toArray⟩, .int .i64 2]) ∧ Below w.heap.size w w' := by
  rw [keyBad] at h
  by_cases h1 : len < 1
  · have d1 : decide (len < 1) = true := by simpa using h1
    go_enter Tryd.func24, Tryd.ntmps24
    go_wp2
    go_ret2
    exact ⟨rfl, Below.refl _ _⟩
  have d1 : decide (len < 1) = false := by simpa using h1
  by_cases h2 : 64 < len
  · have d2 : decide (64 < len) = true := by simpa using h2
    go_enter Tryd.func24, Tryd.ntmps24
    go_wp2
    go_ret2
    exact ⟨rfl, Below.refl _ _⟩
  have d2 : decide (64 < len) = false := by simpa using h2
  by_cases h3 : idx < 0
  · have d3 : decide (idx < 0) = true := by simpa using h3
    go_enter Tryd.func24, Tryd.ntmps24
    go_wp2
    go_ret2
    exact ⟨rfl, Below.refl _ _⟩
  have d3 : decide (idx < 0) = false := by simpa using h3
  have d4 : decide (len < idx) = true := by simp; omega
  go_enter Tryd.func24, Tryd.ntmps24
  go_wp2
  go_ret2
  exact ⟨rfl, Below.refl _ _⟩

set_option maxHeartbeats 2000000 in
theorem refChKey_good (seed : List UInt8) (l i : Nat) (h1 : 1 ≤ l) (h2 : l ≤ 64) (h3 : i ≤ l) (w : World) (hs : seed.length ≤ 4000) :
    Calls Tryd.prog 24 #[.string ⟨seed.toArray⟩, .int .i64 (l : Int), .int .i64 (i : Int)] w fun e w' => e = .returned (.tuple #[.string ⟨(backL (namedL seed chainN) (l - i)).toArray⟩, .int .i64 0]) ∧ Below w.heap.size w w' := by
  have d1 : decide ((l : Int) < 1) = false := by simp; omega
  have d2 : decide (64 < (l : Int)) = false := by simp; omega
  have d3 : decide ((i : Int) < 0) = false := by simp
  have d4 : decide ((l : Int) < (i : Int)) = false := by simp; omega
  have d5 : decide (l < i) = false := by simp; omega
  obtain ⟨vs, w1, r1, y1, b1⟩ := conv_str w ⟨seed.toArray⟩
  have Y1 : Hid (BytesAt w1 vs seed) := Lib.hid (by simpa using y1)
  have B1 := Lib.hid b1
  have C : Hid (Calls Tryd.prog 39 #[vs, .string ⟨chainN.toArray⟩] w1 _) := Lib.hid (refNamed_any vs ⟨chainN.toArray⟩ seed w1 Y1.out (by omega) (by decide))
  obtain ⟨K, hK⟩ : ∃ K, K = namedL seed chainN := ⟨_, rfl⟩
  have HKL := Lib.hid (show K.length = 32 by rw [hK]; exact namedL_length _ _)
  have HKN : Hid (namedL seed (⟨chainN.toArray⟩ : ByteArray).data.toList = K) := Lib.hid (by rw [hK])
  rw [← hK]
  have HB := Lib.hid (And.intro h1 (And.intro h2 h3))
  clear y1 b1 hK hs h1 h2 h3
  rw [HKN.out] at C
  go_enter Tryd.func24, Tryd.ntmps24
  go_wp2_with fail
  refine C.out.mono ?_
  rintro e w2 ⟨v2, rfl, y2, b2⟩
  have r2 := conv_bytes y2
  have B2 := Lib.hid (B1.out.trans (b2.mono B1.out.size))
  clear y2 b2 r1 C
  go_wp2_with fail
  go_loopw [8, 9] (fun s t wr => ∃ j m : Nat, i ≤ j ∧ j ≤ l ∧ m = l - j ∧ t = .int .i64 (j : Int) ∧ s = .string ⟨(backL K m).toArray⟩ ∧ Below w.heap.size w wr) (fun _ t _ => (intOf t).toNat)
  case atStart => exact ⟨l, 0, HB.out.2.2, Nat.le_refl _, by omega, rfl, rfl, B2.out⟩
  case round =>
    obtain ⟨j, m, hij, hjl, hm, rfl, rfl, hb⟩ := hrel
    have BR := Lib.hid hb
    have HM := Lib.hid (And.intro hij (And.intro hjl hm))
    clear hb
    by_cases hlt : i < j
    · have dk : decide ((i : Int) < (j : Int)) = true := by simp; omega
      have dkn : decide (i < j) = true := by simp; omega
      have r4 : IntKind.i64.wrap ((j : Int) - 1) = ((j - 1 : Nat) : Int) := by rw [IntWalk.i64_in _ (by have := HB.out; omega)]; omega
      have CS := Lib.hid (refStep_any (backL K m) wr (backL_length K m (by rw [HKL.out]; decide)))
      rw [← backL_succ] at CS
      have HJ := Lib.hid (show i ≤ j - 1 ∧ j - 1 ≤ l ∧ m + 1 = l - (j - 1) ∧ j - 1 < j by omega)
      generalize j - 1 = j' at *
      clear hij hjl hm hlt
      go_wp2_with fail
      refine CS.out.mono ?_
      rintro e w3 ⟨rfl, b3⟩
      have B3 := Lib.hid (BR.out.trans (b3.mono BR.out.size))
      clear b3 CS
      go_wp2_with fail
      exact ⟨⟨j', m + 1, HJ.out.1, HJ.out.2.1, HJ.out.2.2.1, rfl, rfl, B3.out⟩, by have := HJ.out; simp [intOf]; omega⟩
    · obtain rfl : j = i := by omega
      have dk : decide ((j : Int) < (j : Int)) = false := by simp
      have dkn : decide (j < j) = false := by simp
      subst hm
      clear hij hjl hlt
      go_wp2
      go_ret2
      exact ⟨rfl, BR.out⟩

theorem refChKey_any (seed : List UInt8) (len idx : Int) (w : World) (hs : seed.length ≤ 4000) :
    Calls Tryd.prog 24 #[.string ⟨seed.toArray⟩, .int .i64 len, .int .i64 idx] w fun e w' => e = .returned (.tuple #[.string ⟨(keyA seed len idx).toArray⟩, .int .i64 (chKeyC len idx)]) ∧ Below w.heap.size w w' := by
  by_cases h : keyBad len idx
  · rw [keyA, chKeyC, if_pos h, if_pos h]
    exact refChKey_bad seed len idx h w
  · rw [keyA, chKeyC, if_neg h, if_neg h]
    simp only [keyBad, not_or, Int.not_lt] at h
    obtain ⟨l, rfl⟩ := Int.eq_ofNat_of_zero_le (show 0 ≤ len by omega)
    obtain ⟨i, rfl⟩ := Int.eq_ofNat_of_zero_le (show 0 ≤ idx by omega)
    have e : ((l : Int) - (i : Int)).toNat = l - i := by omega
    rw [e]
    exact refChKey_good seed l i (by omega) (by omega) (by omega) w hs
end Go.Proofs.YtfcjemedheccgaaDoor

namespace Go.Proofs.YtfcjemedheccgaaDoor
set_option maxRecDepth 100000
open Go.RowKit

/-- What Leads answers, in the order in which it asks. -/
theorem leads_no {yi oi : Int} {yk ok : List UInt8} (h : ¬ (0 ≤ oi ∧ oi ≤ yi ∧ yk.length = 32)) : leadsB yi yk oi ok = false := by
  rw [leadsB, decide_eq_false_iff_not]
  intro k
  exact h ⟨k.1, k.2.1, k.2.2.1⟩
theorem leads_yes {yi oi : Int} {yk ok : List UInt8} (h1 : 0 ≤ oi) (h2 : oi ≤ yi) (h3 : yk.length = 32) : leadsB yi yk oi ok = (decide (backC (yi - oi) = 0) && decide (backA yk (yi - oi) = ok)) := by
  rw [leadsB, backC, backA]
  by_cases h : yi - oi < 0 ∨ 64 < yi - oi
  · rw [if_pos h, if_pos h]
    have : ¬ yi - oi ≤ 64 := by omega
    simp [this]
  · rw [if_neg h, if_neg h]
    have : yi - oi ≤ 64 := by omega
    simp [h1, h2, h3, this]

end Go.Proofs.YtfcjemedheccgaaDoor

namespace Go.Proofs.YtfcjemedheccgaaDoor
set_option maxRecDepth 100000
open Go.RowKit

structure ChainIs : Prop where
  step : ∀ (k : List UInt8) (w : World) (_ : k.length ≤ 4000) (_ : Tab w),
    Calls Tryd.prog 52 #[.string ⟨k.toArray⟩] w fun e w' => e = .returned (.string ⟨(stepL k).toArray⟩) ∧ Below w.heap.size w w'
  back : ∀ (k : List UInt8) (z : Int) (w : World) (_ : k.length ≤ 4000) (_ : Tab w),
    Calls Tryd.prog 37 #[.string ⟨k.toArray⟩, .int .i64 z] w fun e w' => e = .returned (.tuple #[.string ⟨(backA k z).toArray⟩, .int .i64 (backC z)]) ∧ Below w.heap.size w w'
  key : ∀ (seed : List UInt8) (len idx : Int) (w : World) (_ : seed.length ≤ 4000) (_ : Tab w),
    Calls Tryd.prog 23 #[.string ⟨seed.toArray⟩, .int .i64 len, .int .i64 idx] w fun e w' => e = .returned (.tuple #[.string ⟨(keyA seed len idx).toArray⟩, .int .i64 (chKeyC len idx)]) ∧ Below w.heap.size w w'

def seedN : List UInt8 := [115, 101, 101, 100]
theorem ex_key0 : ∃ a b : List UInt8, keyA seedN 3 0 = a ∧ keyA seedN 3 2 = b ∧ a.length = 32 ∧ b.length = 32 ∧ stepL (stepL b) = a ∧ leadsB 2 b 0 a = true := by
  refine ⟨_, _, rfl, rfl, key_len _ _ _ (by decide), key_len _ _ _ (by decide), ?_, keys_lead seedN 3 2 0 (by decide) (by decide) (by decide)⟩
  rw [key_step seedN 3 2 (by decide) (by decide)]
  exact key_step seedN 3 1 (by decide) (by decide)

end Go.Proofs.YtfcjemedheccgaaDoor
