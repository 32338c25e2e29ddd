/- The document's Step, Back, Key and Leads of layer 12. The document's Leads of layer 12; gates in memory. What the texts of layer 12's statements lean on of package chain, as one thing to prove: each call's answer, where digest's table lies as it was laid. What package derive's Named answers. Package chain as landed: Step, Back, Key, Leads; and all of them as ChainIs. -/
import Derived.Test.YtfcjemedheccgaaDoorGj
import Derived.Test.YtfcjemedheccgaaDoorGv
import Derived.Test.YtfcjemedheccgaaDoorGb
import Derived.Deep.LoopGhost
import Derived.Test.YtfcjemedheccgaaDoorGl
import Derived.Test.YtfcjemedheccgaaDoorGp
import Derived.Lib.SlBytesConst
namespace Go.Proofs.YtfcjemedheccgaaDoor
set_option maxRecDepth 100000
open Go.RowKit

theorem link_plus (k : List UInt8) : (⟨#[99, 97, 114, 99, 97, 110, 101, 116, 32, 108, 105, 110, 107]⟩ : ByteArray) ++ ⟨k.toArray⟩ = ⟨(linkL ++ k).toArray⟩ := str_plus linkL k

set_option maxHeartbeats 1000000 in
theorem refStep_any (k : List UInt8) (w : World) (hk : k.length ≤ 4000) :
    Calls Tryd.prog 40 #[.string ⟨k.toArray⟩] w fun e w' => e = .returned (.string ⟨(stepL k).toArray⟩) ∧ Below w.heap.size w w' := by
  have r0 := link_plus k
  obtain ⟨vs, w1, r1, y1, b1⟩ := conv_str w ⟨(linkL ++ k).toArray⟩
  have Y1 := Lib.hid y1
  have B1 := Lib.hid b1
  have HL : Hid ((linkL ++ k).length ≤ 5000) := Lib.hid (by simp [linkL]; omega)
  have HS : Hid (sumL (linkL ++ k) = stepL k) := Lib.hid rfl
  obtain ⟨T, hT⟩ : ∃ T, T = linkL ++ k := ⟨_, rfl⟩
  rw [← hT] at r0 r1 Y1 HL HS
  clear y1 b1 hT
  have C := Lib.hid (refSum_any vs T HL.out w1 (by simpa using Y1.out))
  rw [HS.out] at C
  go_enter Tryd.func40, Tryd.ntmps40
  go_wp2_with fail
  refine C.out.mono ?_
  rintro e w2 ⟨v2, rfl, y2, b2⟩
  have r2 := conv_bytes y2
  have B2 := Lib.hid (B1.out.trans (b2.mono B1.out.size))
  clear y2 b2 r1 r0 C
  go_wp2
  go_ret
  exact ⟨rfl, B2.out⟩

set_option maxHeartbeats 1000000 in
theorem refChKey_bad (seed : List UInt8) (len idx : Int) (h : keyBad len idx) (w : World) :
    Calls Tryd.prog 24 #[.string ⟨seed.toArray⟩, .int .i64 len, .int .i64 idx] w fun e w' => e = .returned (.tuple #[.string ⟨([] : List UInt8).toArray⟩, .int .i64 2]) ∧ Below w.heap.size w w' := by
  rw [keyBad] at h
  by_cases h1 : len < 1
  · have d1 : decide (len < 1) = true := by simpa using h1
    go_enter Tryd.func24, Tryd.ntmps24
    go_wp2
    go_ret2
    exact ⟨rfl, Below.refl _ _⟩
  have d1 : decide (len < 1) = false := by simpa using h1
  by_cases h2 : 64 < len
  · have d2 : decide (64 < len) = true := by simpa using h2
    go_enter Tryd.func24, Tryd.ntmps24
    go_wp2
    go_ret2
    exact ⟨rfl, Below.refl _ _⟩
  have d2 : decide (64 < len) = false := by simpa using h2
  by_cases h3 : idx < 0
  · have d3 : decide (idx < 0) = true := by simpa using h3
    go_enter Tryd.func24, Tryd.ntmps24
    go_wp2
    go_ret2
    exact ⟨rfl, Below.refl _ _⟩
  have d3 : decide (idx < 0) = false := by simpa using h3
  have d4 : decide (len < idx) = true := by simp; omega
  go_enter Tryd.func24, Tryd.ntmps24
  go_wp2
  go_ret2
  exact ⟨rfl, Below.refl _ _⟩

set_option maxHeartbeats 2000000 in
theorem refChKey_good (seed : List UInt8) (l i : Nat) (h1 : 1 ≤ l) (h2 : l ≤ 64) (h3 : i ≤ l) (w : World) (hs : seed.length ≤ 4000) :
    Calls Tryd.prog 24 #[.string ⟨seed.toArray⟩, .int .i64 (l : Int), .int .i64 (i : Int)] w fun e w' => e = .returned (.tuple #[.string ⟨(backL (namedL seed chainN) (l - i)).toArray⟩, .int .i64 0]) ∧ Below w.heap.size w w' := by
  have d1 : decide ((l : Int) < 1) = false := by simp; omega
  have d2 : decide (64 < (l : Int)) = false := by simp; omega
  have d3 : decide ((i : Int) < 0) = false := by simp
  have d4 : decide ((l : Int) < (i : Int)) = false := by simp; omega
  have d5 : decide (l < i) = false := by simp; omega
  obtain ⟨vs, w1, r1, y1, b1⟩ := conv_str w ⟨seed.toArray⟩
  have Y1 : Hid (BytesAt w1 vs seed) := Lib.hid (by simpa using y1)
  have B1 := Lib.hid b1
  have C : Hid (Calls Tryd.prog 39 #[vs, .string ⟨chainN.toArray⟩] w1 _) := Lib.hid (refNamed_any vs ⟨chainN.toArray⟩ seed w1 Y1.out (by omega) (by decide))
  obtain ⟨K, hK⟩ : ∃ K, K = namedL seed chainN := ⟨_, rfl⟩
  have HKL := Lib.hid (show K.length = 32 by rw [hK]; exact namedL_length _ _)
  have HKN : Hid (namedL seed (⟨chainN.toArray⟩ : ByteArray).data.toList = K) := Lib.hid (by rw [hK])
  rw [← hK]
  have HB := Lib.hid (And.intro h1 (And.intro h2 h3))
  clear y1 b1 hK hs h1 h2 h3
  rw [HKN.out] at C
  go_enter Tryd.func24, Tryd.ntmps24
  go_wp2_with fail
  refine C.out.mono ?_
  rintro e w2 ⟨v2, rfl, y2, b2⟩
  have r2 := conv_bytes y2
  have B2 := Lib.hid (B1.out.trans (b2.mono B1.out.size))
  clear y2 b2 r1 C
  go_wp2_with fail
  go_loopw [8, 9] (fun s t wr => ∃ j m : Nat, i ≤ j ∧ j ≤ l ∧ m = l - j ∧ t = .int .i64 (j : Int) ∧ s = .string ⟨(backL K m).toArray⟩ ∧ Below w.heap.size w wr) (fun _ t _ => (intOf t).toNat)
  case atStart => exact ⟨l, 0, HB.out.2.2, Nat.le_refl _, by omega, rfl, rfl, B2.out⟩
  case round =>
    obtain ⟨j, m, hij, hjl, hm, rfl, rfl, hb⟩ := hrel
    have BR := Lib.hid hb
    have HM := Lib.hid (And.intro hij (And.intro hjl hm))
    clear hb
    by_cases hlt : i < j
    · have dk : decide ((i : Int) < (j : Int)) = true := by simp; omega
      have dkn : decide (i < j) = true := by simp; omega
      have r4 : IntKind.i64.wrap ((j : Int) - 1) = ((j - 1 : Nat) : Int) := by rw [IntWalk.i64_in _ (by have := HB.out; omega)]; omega
      have CS := Lib.hid (refStep_any (backL K m) wr (backL_length K m (by rw [HKL.out]; decide)))
      rw [← backL_succ] at CS
      have HJ := Lib.hid (show i ≤ j - 1 ∧ j - 1 ≤ l ∧ m + 1 = l - (j - 1) ∧ j - 1 < j by omega)
      generalize j - 1 = j' at *
      clear hij hjl hm hlt
      go_wp2_with fail
      refine CS.out.mono ?_
      rintro e w3 ⟨rfl, b3⟩
      have B3 := Lib.hid (BR.out.trans (b3.mono BR.out.size))
      clear b3 CS
      go_wp2_with fail
      exact ⟨⟨j', m + 1, HJ.out.1, HJ.out.2.1, HJ.out.2.2.1, rfl, rfl, B3.out⟩, by have := HJ.out; simp [intOf]; omega⟩
    · obtain rfl : j = i := by omega
      have dk : decide ((j : Int) < (j : Int)) = false := by simp
      have dkn : decide (j < j) = false := by simp
      subst hm
      clear hij hjl hlt
      go_wp2
      go_ret2
      exact ⟨rfl, BR.out⟩

theorem refChKey_any (seed : List UInt8) (len idx : Int) (w : World) (hs : seed.length ≤ 4000) :
    Calls Tryd.prog 24 #[.string ⟨seed.toArray⟩, .int .i64 len, .int .i64 idx] w fun e w' => e = .returned (.tuple #[.string ⟨(keyA seed len idx).toArray⟩, .int .i64 (chKeyC len idx)]) ∧ Below w.heap.size w w' := by
  by_cases h : keyBad len idx
  · rw [keyA, chKeyC, if_pos h, if_pos h]
    exact refChKey_bad seed len idx h w
  · rw [keyA, chKeyC, if_neg h, if_neg h]
    simp only [keyBad, not_or, Int.not_lt] at h
    obtain ⟨l, rfl⟩ := Int.eq_ofNat_of_zero_le (show 0 ≤ len by omega)
    obtain ⟨i, rfl⟩ := Int.eq_ofNat_of_zero_le (show 0 ≤ idx by omega)
    have e : ((l : Int) - (i : Int)).toNat = l - i := by omega
    rw [e]
    exact refChKey_good seed l i (by omega) (by omega) (by omega) w hs
end Go.Proofs.YtfcjemedheccgaaDoor

namespace Go.Proofs.YtfcjemedheccgaaDoor
set_option maxRecDepth 100000
open Go.RowKit

/-- What Leads answers, in the order in which it asks. -/
theorem leads_no {yi oi : Int} {yk ok : List UInt8} (h : ¬ (0 ≤ oi ∧ oi ≤ yi ∧ yk.length = 32)) : leadsB yi yk oi ok = false := by
  rw [leadsB, decide_eq_false_iff_not]
  intro k
  exact h ⟨k.1, k.2.1, k.2.2.1⟩
theorem leads_yes {yi oi : Int} {yk ok : List UInt8} (h1 : 0 ≤ oi) (h2 : oi ≤ yi) (h3 : yk.length = 32) : leadsB yi yk oi ok = (decide (backC (yi - oi) = 0) && decide (backA yk (yi - oi) = ok)) := by
  rw [leadsB, backC, backA]
  by_cases h : yi - oi < 0 ∨ 64 < yi - oi
  · rw [if_pos h, if_pos h]
    have : ¬ yi - oi ≤ 64 := by omega
    simp [this]
  · rw [if_neg h, if_neg h]
    have : yi - oi ≤ 64 := by omega
    simp [h1, h2, h3, this]

end Go.Proofs.YtfcjemedheccgaaDoor

namespace Go.Proofs.YtfcjemedheccgaaDoor
set_option maxRecDepth 100000
open Go.RowKit

structure ChainIs : Prop where
  step : ∀ (k : List UInt8) (w : World) (_ : k.length ≤ 4000) (_ : Tab w),
    Calls Tryd.prog 52 #[.string ⟨k.toArray⟩] w fun e w' => e = .returned (.string ⟨(stepL k).toArray⟩) ∧ Below w.heap.size w w'
  back : ∀ (k : List UInt8) (z : Int) (w : World) (_ : k.length ≤ 4000) (_ : Tab w),
    Calls Tryd.prog 37 #[.string ⟨k.toArray⟩, .int .i64 z] w fun e w' => e = .returned (.tuple #[.string ⟨(backA k z).toArray⟩, .int .i64 (backC z)]) ∧ Below w.heap.size w w'
  key : ∀ (seed : List UInt8) (len idx : Int) (w : World) (_ : seed.length ≤ 4000) (_ : Tab w),
    Calls Tryd.prog 23 #[.string ⟨seed.toArray⟩, .int .i64 len, .int .i64 idx] w fun e w' => e = .returned (.tuple #[.string ⟨(keyA seed len idx).toArray⟩, .int .i64 (chKeyC len idx)]) ∧ Below w.heap.size w w'

def seedN : List UInt8 := [115, 101, 101, 100]
theorem ex_key0 : ∃ a b : List UInt8, keyA seedN 3 0 = a ∧ keyA seedN 3 2 = b ∧ a.length = 32 ∧ b.length = 32 ∧ stepL (stepL b) = a ∧ leadsB 2 b 0 a = true := by
  refine ⟨_, _, rfl, rfl, key_len _ _ _ (by decide), key_len _ _ _ (by decide), ?_, keys_lead seedN 3 2 0 (by decide) (by decide) (by decide)⟩
  rw [key_step seedN 3 2 (by decide) (by decide)]
  exact key_step seedN 3 1 (by decide) (by decide)

end Go.Proofs.YtfcjemedheccgaaDoor

namespace Go.Proofs.YtfcjemedheccgaaDoor
set_option maxRecDepth 100000
open Go.RowKit

theorem carc_str (s : ByteArray) : ((⟨#[99, 97, 114, 99, 97, 110, 101, 116, 32]⟩ : ByteArray) ++ s).data.toList = carc ++ s.data.toList := by
  simp [carc]

set_option maxHeartbeats 1000000 in
theorem named_any (v0 : Value) (s : ByteArray) (key : List UInt8) (w : World) (h0 : BytesAt w v0 key) (hk : key.length ≤ 5000) (hs : s.size ≤ 4700) (T : Tab w) :
    Calls Tryd.prog 38 #[v0, .string s] w fun e w' => ∃ v', e = .returned v' ∧ BytesAt w' v' (namedL key s.data.toList) ∧ Below w.heap.size w w' := by
  have T0 := Lib.hid T
  have H0 := Lib.hid h0
  have CS := Lib.hid (carc_str s)
  have HI : Hid ((carc ++ s.data.toList).length ≤ 4800) := by
    simp [Hid, carc]; omega
  have HD : Hid (expandL key (carc ++ s.data.toList) 32 = namedL key s.data.toList) := Lib.hid rfl
  obtain ⟨vs, w1, hr, y1, b1⟩ := conv_str w ((⟨#[99, 97, 114, 99, 97, 110, 101, 116, 32]⟩ : ByteArray) ++ s)
  rw [CS.out] at y1
  have Y1 := Lib.hid y1
  have B1 := Lib.hid b1
  clear T h0 y1 b1
  go_enter Tryd.func38, Tryd.ntmps38
  go_wp2_with fail
  refine (expand_any v0 vs key _ 32 w1 (H0.out.below B1.out) Y1.out hk HI.out (by decide) (T0.out.below B1.out T0.out.pos)).mono ?_
  rintro e w2 ⟨v4, rfl, y2, b2⟩
  rw [HD.out] at y2
  have B2 := Lib.hid (B1.out.trans (b2.mono B1.out.size))
  have Y2 := Lib.hid y2
  clear y2 b2 hr
  go_wp2
  go_ret
  exact ⟨_, rfl, Y2.out, B2.out⟩
end Go.Proofs.YtfcjemedheccgaaDoor

namespace Go.Proofs.YtfcjemedheccgaaDoor
set_option maxRecDepth 100000
open Go.RowKit

theorem two_any_l (v0 v1 : Value) (l0 l1 : List UInt8) (hl : l0.length + l1.length ≤ 5000) (w : World) (h0 : BytesAt w v0 l0) (h1 : BytesAt w v1 l1) (T : Tab w) :
    Calls Tryd.prog 64 #[v0, v1] w fun e w' => ∃ v', e = .returned v' ∧ BytesAt w' v' (sumL (l0 ++ l1)) ∧ Below w.heap.size w w' :=
  (two_own v0 v1 l0 l1 hl w h0 h1 T).mono fun _ _ ⟨v', he, ho, hb⟩ => ⟨v', he, BytesAt.of_own ho, hb⟩

theorem link_conv (w : World) : (convert 78 78 (.slice (some ⟨w.heap.size, 0, none⟩) 13 13)).run Tryd.prog (w.alloc (.cells #[.int .u8 99, .int .u8 97, .int .u8 114, .int .u8 99, .int .u8 97, .int .u8 110, .int .u8 101, .int .u8 116, .int .u8 32, .int .u8 108, .int .u8 105, .int .u8 110, .int .u8 107] 5)) =
    .ok (.slice (some ⟨w.heap.size, 0, none⟩) 13 13) (w.alloc (.cells #[.int .u8 99, .int .u8 97, .int .u8 114, .int .u8 99, .int .u8 97, .int .u8 110, .int .u8 101, .int .u8 116, .int .u8 32, .int .u8 108, .int .u8 105, .int .u8 110, .int .u8 107] 5 (13, 14))) :=
  Lib.run_convert_bytes_const w 78 5 _ 13 13 Tryd.underlying78 Tryd.underlying5
theorem link_lit (w : World) : BytesAt (w.alloc (.cells #[.int .u8 99, .int .u8 97, .int .u8 114, .int .u8 99, .int .u8 97, .int .u8 110, .int .u8 101, .int .u8 116, .int .u8 32, .int .u8 108, .int .u8 105, .int .u8 110, .int .u8 107] 5 (13, 14))) (.slice (some ⟨w.heap.size, 0, none⟩) 13 13) linkL := by
  refine ⟨_, _, rfl, Nat.le_refl _, fun _ => ⟨_, rfl, fun j c hj => ?_⟩⟩
  have ha : (⟨w.heap.size, 0, none⟩ : Addr).add j = ⟨w.heap.size, j, none⟩ := by unfold Addr.add; split <;> simp_all
  rw [ha, cell_of_row _ _ j _ _ _ (heap_alloc_new w _)]
  have e : (#[.int .u8 99, .int .u8 97, .int .u8 114, .int .u8 99, .int .u8 97, .int .u8 110, .int .u8 101, .int .u8 116, .int .u8 32, .int .u8 108, .int .u8 105, .int .u8 110, .int .u8 107] : Array Value) = (bv linkL).toArray := rfl
  rw [e]
  simp [bv, hj]

set_option maxHeartbeats 1000000 in
theorem step_any (k : List UInt8) (w : World) (hk : k.length ≤ 4000) (T : Tab w) :
    Calls Tryd.prog 52 #[.string ⟨k.toArray⟩] w fun e w' => e = .returned (.string ⟨(stepL k).toArray⟩) ∧ Below w.heap.size w w' := by
  have T0 := Lib.hid T
  have rc := link_conv w
  have y1 := link_lit w
  have b1 : Below w.heap.size w (w.alloc (.cells #[.int .u8 99, .int .u8 97, .int .u8 114, .int .u8 99, .int .u8 97, .int .u8 110, .int .u8 101, .int .u8 116, .int .u8 32, .int .u8 108, .int .u8 105, .int .u8 110, .int .u8 107] 5 (13, 14))) := (Below.refl _ _).alloc (Nat.le_refl _) _
  obtain ⟨v2, w2, r2, y2, b2⟩ := conv_str (w.alloc (.cells #[.int .u8 99, .int .u8 97, .int .u8 114, .int .u8 99, .int .u8 97, .int .u8 110, .int .u8 101, .int .u8 116, .int .u8 32, .int .u8 108, .int .u8 105, .int .u8 110, .int .u8 107] 5 (13, 14))) ⟨k.toArray⟩
  have Y1 := Lib.hid (BytesAt.below y1 b2)
  have Y2 : Hid (BytesAt w2 v2 k) := Lib.hid (by simpa using y2)
  have B2 := Lib.hid (b1.trans (b2.mono b1.size))
  have HS : Hid (sumL (linkL ++ k) = stepL k) := Lib.hid rfl
  have C := Lib.hid (two_any_l _ v2 linkL k (by simp [linkL]; omega) w2 Y1.out Y2.out (T0.out.below B2.out T0.out.pos))
  rw [HS.out] at C
  clear y1 b1 y2 b2 T
  go_enter Tryd.func52, Tryd.ntmps52
  go_wp2_with fail
  refine C.out.mono ?_
  rintro e w3 ⟨v3, rfl, y3, b3⟩
  have r3 := conv_bytes y3
  have B3 := Lib.hid (B2.out.trans (b3.mono B2.out.size))
  clear y3 b3 r2 rc C
  go_wp2
  go_ret
  exact ⟨rfl, B3.out⟩

set_option maxHeartbeats 1000000 in
theorem back_bad (k : List UInt8) (z : Int) (h : z < 0 ∨ 64 < z) (w : World) :
    Calls Tryd.prog 37 #[.string ⟨k.toArray⟩, .int .i64 z] w fun e w' => e = .returned (.tuple #[.string ⟨([] : List UInt8).toArray⟩, .int .i64 2]) ∧ Below w.heap.size w w' := by
  by_cases h0 : z < 0
  · have d : decide (z < 0) = true := by simpa using h0
    go_enter Tryd.func37, Tryd.ntmps37
    go_wp2
    go_ret2
    exact ⟨rfl, Below.refl _ _⟩
  · have d : decide (z < 0) = false := by simpa using h0
    have d2 : decide (64 < z) = true := by simp; omega
    go_enter Tryd.func37, Tryd.ntmps37
    go_wp2
    go_ret2
    exact ⟨rfl, Below.refl _ _⟩

set_option maxHeartbeats 1000000 in
theorem back_good (k : List UInt8) (n : Nat) (w : World) (hn : n ≤ 64) (hk : k.length ≤ 4000) (T : Tab w) :
    Calls Tryd.prog 37 #[.string ⟨k.toArray⟩, .int .i64 (n : Int)] w fun e w' => e = .returned (.tuple #[.string ⟨(backL k n).toArray⟩, .int .i64 0]) ∧ Below w.heap.size w w' := by
  have T0 := Lib.hid T
  have HN := Lib.hid hn
  have HK := Lib.hid hk
  have d : decide ((n : Int) < 0) = false := by simp
  have d2 : decide (64 < (n : Int)) = false := by simp; omega
  clear T hn hk
  go_enter Tryd.func37, Tryd.ntmps37
  go_wp2_with fail
  go_loopw [0, 13] (fun s i wr => ∃ j : Nat, j ≤ n ∧ i = .int .i64 (j : Int) ∧ s = .string ⟨(backL k j).toArray⟩ ∧ Below w.heap.size w wr) (fun _ i _ => n - (intOf i).toNat)
  case atStart => exact ⟨0, Nat.zero_le _, rfl, rfl, Below.refl _ _⟩
  case round =>
    obtain ⟨j, hj, rfl, rfl, hb⟩ := hrel
    have BR := Lib.hid hb
    clear hb
    by_cases hlt : j < n
    · have dk : decide ((j : Int) < (n : Int)) = true := by simp; omega
      have dkn : decide (j < n) = true := by simp; omega
      have r4 : IntKind.i64.wrap ((j : Int) + 1) = ((j + 1 : Nat) : Int) := by rw [IntWalk.i64_in _ (by have := HN.out; omega)]; omega
      have CS := Lib.hid (step_any (backL k j) wr (backL_length k j HK.out) (T0.out.below BR.out T0.out.pos))
      rw [← backL_succ] at CS
      have HJ := Lib.hid (show j + 1 ≤ n ∧ j < j + 1 by omega)
      clear hj hlt
      go_wp2_with fail
      refine CS.out.mono ?_
      rintro e w3 ⟨rfl, b3⟩
      have B3 := Lib.hid (BR.out.trans (b3.mono BR.out.size))
      clear b3 CS
      go_wp2_with fail
      exact ⟨⟨j + 1, HJ.out.1, rfl, rfl, B3.out⟩, by have := HJ.out; simp [intOf]; omega⟩
    · obtain rfl : j = n := by omega
      have dk : decide ((j : Int) < (j : Int)) = false := by simp
      have dkn : decide (j < j) = false := by simp
      clear hj hlt
      go_wp2
      go_ret2
      exact ⟨rfl, BR.out⟩

theorem back_any (k : List UInt8) (z : Int) (w : World) (hk : k.length ≤ 4000) (T : Tab w) :
    Calls Tryd.prog 37 #[.string ⟨k.toArray⟩, .int .i64 z] w fun e w' => e = .returned (.tuple #[.string ⟨(backA k z).toArray⟩, .int .i64 (backC z)]) ∧ Below w.heap.size w w' := by
  by_cases h : z < 0 ∨ 64 < z
  · rw [backA, backC, if_pos h, if_pos h]
    exact back_bad k z h w
  · rw [backA, backC, if_neg h, if_neg h]
    obtain ⟨n, rfl⟩ := Int.eq_ofNat_of_zero_le (show 0 ≤ z by omega)
    exact back_good k n w (by omega) hk T

set_option maxHeartbeats 1000000 in
theorem chKey_bad (seed : List UInt8) (len idx : Int) (h : keyBad len idx) (w : World) :
    Calls Tryd.prog 23 #[.string ⟨seed.toArray⟩, .int .i64 len, .int .i64 idx] w fun e w' => e = .returned (.tuple #[.string ⟨([] : List UInt8).toArray⟩, .int .i64 2]) ∧ Below w.heap.size w w' := by
  rw [keyBad] at h
  by_cases h1 : len < 1
  · have d1 : decide (len < 1) = true := by simpa using h1
    go_enter Tryd.func23, Tryd.ntmps23
    go_wp2
    go_ret2
    exact ⟨rfl, Below.refl _ _⟩
  have d1 : decide (len < 1) = false := by simpa using h1
  by_cases h2 : 64 < len
  · have d2 : decide (64 < len) = true := by simpa using h2
    go_enter Tryd.func23, Tryd.ntmps23
    go_wp2
    go_ret2
    exact ⟨rfl, Below.refl _ _⟩
  have d2 : decide (64 < len) = false := by simpa using h2
  by_cases h3 : idx < 0
  · have d3 : decide (idx < 0) = true := by simpa using h3
    go_enter Tryd.func23, Tryd.ntmps23
    go_wp2
    go_ret2
    exact ⟨rfl, Below.refl _ _⟩
  have d3 : decide (idx < 0) = false := by simpa using h3
  have d4 : decide (len < idx) = true := by simp; omega
  go_enter Tryd.func23, Tryd.ntmps23
  go_wp2
  go_ret2
  exact ⟨rfl, Below.refl _ _⟩

set_option maxHeartbeats 2000000 in
theorem chKey_good (seed : List UInt8) (len idx : Int) (h1 : 1 ≤ len) (h2 : len ≤ 64) (h0 : 0 ≤ idx) (h3 : idx ≤ len) (w : World) (hs : seed.length ≤ 4000) (T : Tab w) :
    Calls Tryd.prog 23 #[.string ⟨seed.toArray⟩, .int .i64 len, .int .i64 idx] w fun e w' => e = .returned (.tuple #[.string ⟨(backL (namedL seed chainN) (len - idx).toNat).toArray⟩, .int .i64 0]) ∧ Below w.heap.size w w' := by
  have T0 := Lib.hid T
  have d1 : decide (len < 1) = false := by simp; omega
  have d2 : decide (64 < len) = false := by simp; omega
  have d3 : decide (idx < 0) = false := by simp; omega
  have d4 : decide (len < idx) = false := by simp; omega
  obtain ⟨vs, w1, r1, y1, b1⟩ := conv_str w ⟨seed.toArray⟩
  have Y1 : Hid (BytesAt w1 vs seed) := Lib.hid (by simpa using y1)
  have B1 := Lib.hid b1
  have C : Hid (Calls Tryd.prog 38 #[vs, .string ⟨chainN.toArray⟩] w1 _) := Lib.hid (named_any vs ⟨chainN.toArray⟩ seed w1 Y1.out (by omega) (by decide) (T0.out.below B1.out T0.out.pos))
  obtain ⟨K, hK⟩ : ∃ K, K = namedL seed chainN := ⟨_, rfl⟩
  have HKL := Lib.hid (show K.length = 32 by rw [hK]; exact namedL_length _ _)
  have HKN : Hid (namedL seed (⟨chainN.toArray⟩ : ByteArray).data.toList = K) := Lib.hid (by rw [hK])
  rw [← hK]
  obtain ⟨n, hn⟩ : ∃ n, n = (len - idx).toNat := ⟨_, rfl⟩
  have HN := Lib.hid (show n ≤ 64 by omega)
  have r2 : IntKind.i64.wrap (len - idx) = (n : Int) := by rw [IntWalk.i64_in _ (by omega)]; omega
  rw [← hn]
  clear y1 b1 hK hs h0 h1 h2 h3 hn T
  rw [HKN.out] at C
  go_enter Tryd.func23, Tryd.ntmps23
  go_wp2_with fail
  refine C.out.mono ?_
  rintro e w2 ⟨v2, rfl, y2, b2⟩
  have r3 := conv_bytes y2
  have B2 := Lib.hid (B1.out.trans (b2.mono B1.out.size))
  clear y2 b2 r1 C
  go_wp2_with fail
  refine (back_good K n w2 HN.out (by rw [HKL.out]; decide) (T0.out.below B2.out T0.out.pos)).mono ?_
  rintro e w3 ⟨rfl, b3⟩
  have B3 := Lib.hid (B2.out.trans (b3.mono B2.out.size))
  clear b3 r2
  go_wp2
  go_ret2
  exact ⟨rfl, B3.out⟩

theorem chKey_any (seed : List UInt8) (len idx : Int) (w : World) (hs : seed.length ≤ 4000) (T : Tab w) :
    Calls Tryd.prog 23 #[.string ⟨seed.toArray⟩, .int .i64 len, .int .i64 idx] w fun e w' => e = .returned (.tuple #[.string ⟨(keyA seed len idx).toArray⟩, .int .i64 (chKeyC len idx)]) ∧ Below w.heap.size w w' := by
  by_cases h : keyBad len idx
  · rw [keyA, chKeyC, if_pos h, if_pos h]
    exact chKey_bad seed len idx h w
  · rw [keyA, chKeyC, if_neg h, if_neg h]
    simp only [keyBad, not_or, Int.not_lt] at h
    exact chKey_good seed len idx (by omega) (by omega) (by omega) (by omega) w hs T


theorem chain_is : ChainIs where
  step := step_any
  back := back_any
  key := chKey_any
end Go.Proofs.YtfcjemedheccgaaDoor
