/- What package derive's Named answers. Package chain as landed: Step, Back, Key, Leads; and all of them as ChainIs. -/
import Derived.Test.YtehalcopkjfdkaaDoorGu
import Derived.Test.YtehalcopkjfdkaaDoorGx
import Derived.Test.YtehalcopkjfdkaaDoorGn
import Derived.Lib.SlBytesConst
namespace Go.Proofs.YtehalcopkjfdkaaDoor
set_option maxRecDepth 100000
open Go.RowKit

theorem carc_str (s : ByteArray) : ((⟨#[99, 97, 114, 99, 97, 110, 101, 116, 32]⟩ : ByteArray) ++ s).data.toList = carc ++ s.data.toList := by
  simp [carc]

set_option maxHeartbeats 1000000 in
theorem named_any (v0 : Value) (s : ByteArray) (key : List UInt8) (w : World) (h0 : BytesAt w v0 key) (hk : key.length ≤ 5000) (hs : s.size ≤ 4700) (T : Tab w) :
    Calls Tryd.prog 32 #[v0, .string s] w fun e w' => ∃ v', e = .returned v' ∧ BytesAt w' v' (namedL key s.data.toList) ∧ Below w.heap.size w w' := by
  have T0 := Lib.hid T
  have H0 := Lib.hid h0
  have CS := Lib.hid (carc_str s)
  have HI : Hid ((carc ++ s.data.toList).length ≤ 4800) := by
    simp [Hid, carc]; omega
  have HD : Hid (expandL key (carc ++ s.data.toList) 32 = namedL key s.data.toList) := Lib.hid rfl
  obtain ⟨vs, w1, hr, y1, b1⟩ := conv_str w ((⟨#[99, 97, 114, 99, 97, 110, 101, 116, 32]⟩ : ByteArray) ++ s)
  rw [CS.out] at y1
  have Y1 := Lib.hid y1
  have B1 := Lib.hid b1
  clear T h0 y1 b1
  go_enter Tryd.func32, Tryd.ntmps32
  go_wp2_with fail
  refine (expand_any v0 vs key _ 32 w1 (H0.out.below B1.out) Y1.out hk HI.out (by decide) (T0.out.below B1.out T0.out.pos)).mono ?_
  rintro e w2 ⟨v4, rfl, y2, b2⟩
  rw [HD.out] at y2
  have B2 := Lib.hid (B1.out.trans (b2.mono B1.out.size))
  have Y2 := Lib.hid y2
  clear y2 b2 hr
  go_wp2
  go_ret
  exact ⟨_, rfl, Y2.out, B2.out⟩
end Go.Proofs.YtehalcopkjfdkaaDoor

namespace Go.Proofs.YtehalcopkjfdkaaDoor
set_option maxRecDepth 100000
open Go.RowKit

theorem two_any_l (v0 v1 : Value) (l0 l1 : List UInt8) (hl : l0.length + l1.length ≤ 5000) (w : World) (h0 : BytesAt w v0 l0) (h1 : BytesAt w v1 l1) (T : Tab w) :
    Calls Tryd.prog 45 #[v0, v1] w fun e w' => ∃ v', e = .returned v' ∧ BytesAt w' v' (sumL (l0 ++ l1)) ∧ Below w.heap.size w w' :=
  (two_own v0 v1 l0 l1 hl w h0 h1 T).mono fun _ _ ⟨v', he, ho, hb⟩ => ⟨v', he, BytesAt.of_own ho, hb⟩

theorem link_conv (w : World) : (convert 59 59 (.slice (some ⟨w.heap.size, 0, none⟩) 13 13)).run Tryd.prog (w.alloc (.cells #[.int .u8 99, .int .u8 97, .int .u8 114, .int .u8 99, .int .u8 97, .int .u8 110, .int .u8 101, .int .u8 116, .int .u8 32, .int .u8 108, .int .u8 105, .int .u8 110, .int .u8 107] 5)) =
    .ok (.slice (some ⟨w.heap.size, 0, none⟩) 13 13) (w.alloc (.cells #[.int .u8 99, .int .u8 97, .int .u8 114, .int .u8 99, .int .u8 97, .int .u8 110, .int .u8 101, .int .u8 116, .int .u8 32, .int .u8 108, .int .u8 105, .int .u8 110, .int .u8 107] 5 (13, 14))) :=
  Lib.run_convert_bytes_const w 59 5 _ 13 13 Tryd.underlying59 Tryd.underlying5
theorem link_lit (w : World) : BytesAt (w.alloc (.cells #[.int .u8 99, .int .u8 97, .int .u8 114, .int .u8 99, .int .u8 97, .int .u8 110, .int .u8 101, .int .u8 116, .int .u8 32, .int .u8 108, .int .u8 105, .int .u8 110, .int .u8 107] 5 (13, 14))) (.slice (some ⟨w.heap.size, 0, none⟩) 13 13) linkL := by
  refine ⟨_, _, rfl, Nat.le_refl _, fun _ => ⟨_, rfl, fun j c hj => ?_⟩⟩
  have ha : (⟨w.heap.size, 0, none⟩ : Addr).add j = ⟨w.heap.size, j, none⟩ := by unfold Addr.add; split <;> simp_all
  rw [ha, cell_of_row _ _ j _ _ _ (heap_alloc_new w _)]
  have e : (#[.int .u8 99, .int .u8 97, .int .u8 114, .int .u8 99, .int .u8 97, .int .u8 110, .int .u8 101, .int .u8 116, .int .u8 32, .int .u8 108, .int .u8 105, .int .u8 110, .int .u8 107] : Array Value) = (bv linkL).toArray := rfl
  rw [e]
  simp [bv, hj]

set_option maxHeartbeats 1000000 in
theorem step_any (k : List UInt8) (w : World) (hk : k.length ≤ 4000) (T : Tab w) :
    Calls Tryd.prog 42 #[.string ⟨k.toArray⟩] w fun e w' => e = .returned (.string ⟨(stepL k).toArray⟩) ∧ Below w.heap.size w w' := by
  have T0 := Lib.hid T
  have rc := link_conv w
  have y1 := link_lit w
  have b1 : Below w.heap.size w (w.alloc (.cells #[.int .u8 99, .int .u8 97, .int .u8 114, .int .u8 99, .int .u8 97, .int .u8 110, .int .u8 101, .int .u8 116, .int .u8 32, .int .u8 108, .int .u8 105, .int .u8 110, .int .u8 107] 5 (13, 14))) := (Below.refl _ _).alloc (Nat.le_refl _) _
  obtain ⟨v2, w2, r2, y2, b2⟩ := conv_str (w.alloc (.cells #[.int .u8 99, .int .u8 97, .int .u8 114, .int .u8 99, .int .u8 97, .int .u8 110, .int .u8 101, .int .u8 116, .int .u8 32, .int .u8 108, .int .u8 105, .int .u8 110, .int .u8 107] 5 (13, 14))) ⟨k.toArray⟩
  have Y1 := Lib.hid (BytesAt.below y1 b2)
  have Y2 : Hid (BytesAt w2 v2 k) := Lib.hid (by simpa using y2)
  have B2 := Lib.hid (b1.trans (b2.mono b1.size))
  have HS : Hid (sumL (linkL ++ k) = stepL k) := Lib.hid rfl
  have C := Lib.hid (two_any_l _ v2 linkL k (by simp [linkL]; omega) w2 Y1.out Y2.out (T0.out.below B2.out T0.out.pos))
  rw [HS.out] at C
  clear y1 b1 y2 b2 T
  go_enter Tryd.func42, Tryd.ntmps42
  go_wp2_with fail
  refine C.out.mono ?_
  rintro e w3 ⟨v3, rfl, y3, b3⟩
  have r3 := conv_bytes y3
  have B3 := Lib.hid (B2.out.trans (b3.mono B2.out.size))
  clear y3 b3 r2 rc C
  go_wp2
  go_ret
  exact ⟨rfl, B3.out⟩

set_option maxHeartbeats 1000000 in
theorem back_bad (k : List UInt8) (z : Int) (h : z < 0 ∨ 64 < z) (w : World) :
    Calls Tryd.prog 31 #[.string ⟨k.toArray⟩, .int .i64 z] w fun e w' => e = .returned (.tuple #[.string ⟨([] : List UInt8).toArray⟩, .int .i64 2]) ∧ Below w.heap.size w w' := by
  by_cases h0 : z < 0
  · have d : decide (z < 0) = true := by simpa using h0
    go_enter Tryd.func31, Tryd.ntmps31
    go_wp2
    go_ret2
    exact ⟨rfl, Below.refl _ _⟩
  · have d : decide (z < 0) = false := by simpa using h0
    have d2 : decide (64 < z) = true := by simp; omega
    go_enter Tryd.func31, Tryd.ntmps31
    go_wp2
    go_ret2
    exact ⟨rfl, Below.refl _ _⟩

set_option maxHeartbeats 1000000 in
theorem back_good (k : List UInt8) (n : Nat) (w : World) (hn : n ≤ 64) (hk : k.length ≤ 4000) (T : Tab w) :
    Calls Tryd.prog 31 #[.string ⟨k.toArray⟩, .int .i64 (n : Int)] w fun e w' => e = .returned (.tuple #[.string ⟨(backL k n).toArray⟩, .int .i64 0]) ∧ Below w.heap.size w w' := by
  have T0 := Lib.hid T
  have HN := Lib.hid hn
  have HK := Lib.hid hk
  have d : decide ((n : Int) < 0) = false := by simp
  have d2 : decide (64 < (n : Int)) = false := by simp; omega
  clear T hn hk
  go_enter Tryd.func31, Tryd.ntmps31
  go_wp2_with fail
  go_loopw [0, 13] (fun s i wr => ∃ j : Nat, j ≤ n ∧ i = .int .i64 (j : Int) ∧ s = .string ⟨(backL k j).toArray⟩ ∧ Below w.heap.size w wr) (fun _ i _ => n - (intOf i).toNat)
  case atStart => exact ⟨0, Nat.zero_le _, rfl, rfl, Below.refl _ _⟩
  case round =>
    obtain ⟨j, hj, rfl, rfl, hb⟩ := hrel
    have BR := Lib.hid hb
    clear hb
    by_cases hlt : j < n
    · have dk : decide ((j : Int) < (n : Int)) = true := by simp; omega
      have dkn : decide (j < n) = true := by simp; omega
      have r4 : IntKind.i64.wrap ((j : Int) + 1) = ((j + 1 : Nat) : Int) := by rw [IntWalk.i64_in _ (by have := HN.out; omega)]; omega
      have CS := Lib.hid (step_any (backL k j) wr (backL_length k j HK.out) (T0.out.below BR.out T0.out.pos))
      rw [← backL_succ] at CS
      have HJ := Lib.hid (show j + 1 ≤ n ∧ j < j + 1 by omega)
      clear hj hlt
      go_wp2_with fail
      refine CS.out.mono ?_
      rintro e w3 ⟨rfl, b3⟩
      have B3 := Lib.hid (BR.out.trans (b3.mono BR.out.size))
      clear b3 CS
      go_wp2_with fail
      exact ⟨⟨j + 1, HJ.out.1, rfl, rfl, B3.out⟩, by have := HJ.out; simp [intOf]; omega⟩
    · obtain rfl : j = n := by omega
      have dk : decide ((j : Int) < (j : Int)) = false := by simp
      have dkn : decide (j < j) = false := by simp
      clear hj hlt
      go_wp2
      go_ret2
      exact ⟨rfl, BR.out⟩

theorem back_any (k : List UInt8) (z : Int) (w : World) (hk : k.length ≤ 4000) (T : Tab w) :
    Calls Tryd.prog 31 #[.string ⟨k.toArray⟩, .int .i64 z] w fun e w' => e = .returned (.tuple #[.string ⟨(backA k z).toArray⟩, .int .i64 (backC z)]) ∧ Below w.heap.size w w' := by
  by_cases h : z < 0 ∨ 64 < z
  · rw [backA, backC, if_pos h, if_pos h]
    exact back_bad k z h w
  · rw [backA, backC, if_neg h, if_neg h]
    obtain ⟨n, rfl⟩ := Int.eq_ofNat_of_zero_le (show 0 ≤ z by omega)
    exact back_good k n w (by omega) hk T

set_option maxHeartbeats 1000000 in
theorem chKey_bad (seed : List UInt8) (len idx : Int) (h : keyBad len idx) (w : World) :
    Calls Tryd.prog 19 #[.string ⟨seed.toArray⟩, .int .i64 len, .int .i64 idx] w fun e w' => e = .returned (.tuple #[.string ⟨([] : List UInt8).toArray⟩, .int .i64 2]) ∧ Below w.heap.size w w' := by
  rw [keyBad] at h
  by_cases h1 : len < 1
  · have d1 : decide (len < 1) = true := by simpa using h1
    go_enter Tryd.func19, Tryd.ntmps19
    go_wp2
    go_ret2
    exact ⟨rfl, Below.refl _ _⟩
  have d1 : decide (len < 1) = false := by simpa using h1
  by_cases h2 : 64 < len
  · have d2 : decide (64 < len) = true := by simpa using h2
    go_enter Tryd.func19, Tryd.ntmps19
    go_wp2
    go_ret2
    exact ⟨rfl, Below.refl _ _⟩
  have d2 : decide (64 < len) = false := by simpa using h2
  by_cases h3 : idx < 0
  · have d3 : decide (idx < 0) = true := by simpa using h3
    go_enter Tryd.func19, Tryd.ntmps19
    go_wp2
    go_ret2
    exact ⟨rfl, Below.refl _ _⟩
  have d3 : decide (idx < 0) = false := by simpa using h3
  have d4 : decide (len < idx) = true := by simp; omega
  go_enter Tryd.func19, Tryd.ntmps19
  go_wp2
  go_ret2
  exact ⟨rfl, Below.refl _ _⟩

set_option maxHeartbeats 2000000 in
theorem chKey_good (seed : List UInt8) (len idx : Int) (h1 : 1 ≤ len) (h2 : len ≤ 64) (h0 : 0 ≤ idx) (h3 : idx ≤ len) (w : World) (hs : seed.length ≤ 4000) (T : Tab w) :
    Calls Tryd.prog 19 #[.string ⟨seed.toArray⟩, .int .i64 len, .int .i64 idx] w fun e w' => e = .returned (.tuple #[.string ⟨(backL (namedL seed chainN) (len - idx).toNat).toArray⟩, .int .i64 0]) ∧ Below w.heap.size w w' := by
  have T0 := Lib.hid T
  have d1 : decide (len < 1) = false := by simp; omega
  have d2 : decide (64 < len) = false := by simp; omega
  have d3 : decide (idx < 0) = false := by simp; omega
  have d4 : decide (len < idx) = false := by simp; omega
  obtain ⟨vs, w1, r1, y1, b1⟩ := conv_str w ⟨seed.toArray⟩
  have Y1 : Hid (BytesAt w1 vs seed) := Lib.hid (by simpa using y1)
  have B1 := Lib.hid b1
  have C : Hid (Calls Tryd.prog 32 #[vs, .string ⟨chainN.toArray⟩] w1 _) := Lib.hid (named_any vs ⟨chainN.toArray⟩ seed w1 Y1.out (by omega) (by decide) (T0.out.below B1.out T0.out.pos))
  obtain ⟨K, hK⟩ : ∃ K, K = namedL seed chainN := ⟨_, rfl⟩
  have HKL := Lib.hid (show K.length = 32 by rw [hK]; exact namedL_length _ _)
  have HKN : Hid (namedL seed (⟨chainN.toArray⟩ : ByteArray).data.toList = K) := Lib.hid (by rw [hK])
  rw [← hK]
  obtain ⟨n, hn⟩ : ∃ n, n = (len - idx).toNat := ⟨_, rfl⟩
  have HN := Lib.hid (show n ≤ 64 by omega)
  have r2 : IntKind.i64.wrap (len - idx) = (n : Int) := by rw [IntWalk.i64_in _ (by omega)]; omega
  rw [← hn]
  clear y1 b1 hK hs h0 h1 h2 h3 hn T
  rw [HKN.out] at C
  go_enter Tryd.func19, Tryd.ntmps19
  go_wp2_with fail
  refine C.out.mono ?_
  rintro e w2 ⟨v2, rfl, y2, b2⟩
  have r3 := conv_bytes y2
  have B2 := Lib.hid (B1.out.trans (b2.mono B1.out.size))
  clear y2 b2 r1 C
  go_wp2_with fail
  refine (back_good K n w2 HN.out (by rw [HKL.out]; decide) (T0.out.below B2.out T0.out.pos)).mono ?_
  rintro e w3 ⟨rfl, b3⟩
  have B3 := Lib.hid (B2.out.trans (b3.mono B2.out.size))
  clear b3 r2
  go_wp2
  go_ret2
  exact ⟨rfl, B3.out⟩

theorem chKey_any (seed : List UInt8) (len idx : Int) (w : World) (hs : seed.length ≤ 4000) (T : Tab w) :
    Calls Tryd.prog 19 #[.string ⟨seed.toArray⟩, .int .i64 len, .int .i64 idx] w fun e w' => e = .returned (.tuple #[.string ⟨(keyA seed len idx).toArray⟩, .int .i64 (chKeyC len idx)]) ∧ Below w.heap.size w w' := by
  by_cases h : keyBad len idx
  · rw [keyA, chKeyC, if_pos h, if_pos h]
    exact chKey_bad seed len idx h w
  · rw [keyA, chKeyC, if_neg h, if_neg h]
    simp only [keyBad, not_or, Int.not_lt] at h
    exact chKey_good seed len idx (by omega) (by omega) (by omega) (by omega) w hs T

set_option maxRecDepth 100000 in
set_option maxHeartbeats 1000000 in
theorem chLeads_any (yi oi : Int) (yk ok : List UInt8) (hy : yi ≤ 9223372036854775807) (ho : -9223372036854775808 ≤ oi) (ho2 : oi ≤ 9223372036854775807) (w : World) (T : Tab w) :
    Calls Tryd.prog 25 #[gateV yi yk, gateV oi ok] w fun e w' => e = .returned (.bool (leadsB yi yk oi ok)) ∧ Below w.heap.size w w' := by
  have T0 := Lib.hid T
  clear T
  obtain ⟨R, hR⟩ : ∃ R, R = leadsB yi yk oi ok := ⟨_, rfl⟩
  rw [← hR]
  have HR := Lib.hid hR
  clear hR
  simp only [gateV]
  go_enter Tryd.func25, Tryd.ntmps25
  go_wp2_with (refine wpList_box_row rfl 23 (.tmp 0) rfl (gateC yi yk) rfl ?_)
  intro w1 b1 x1 z1
  have X1 : Hid (GateAt w1 w.heap.size yi yk) := Lib.hid x1
  have B1 := Lib.hid b1
  clear b1 x1 z1
  go_wp2_with (refine wpList_box_row rfl 23 _ rfl (gateC oi ok) rfl ?_)
  intro w2 b2 x2 z2
  have X2 : Hid (GateAt w2 w.heap.size yi yk) := Lib.hid (Whole.below X1.out b2 X1.out.lt)
  have Y2 : Hid (GateAt w2 w1.heap.size oi ok) := Lib.hid x2
  have B2 := Lib.hid (B1.out.trans (b2.mono B1.out.size))
  obtain ⟨g, hg⟩ : ∃ g, g = w.heap.size := ⟨_, rfl⟩
  rw [← hg] at X2 ⊢
  obtain ⟨x, hx⟩ : ∃ x, x = w1.heap.size := ⟨_, rfl⟩
  rw [← hx] at Y2 ⊢
  clear b2 x2 z2 X1 B1 hg hx
  obtain ⟨a0, a1⟩ := X2.out.two
  obtain ⟨c0, c1⟩ := Y2.out.two
  by_cases h2 : yi < 0
  · have d2 : decide (yi < 0) = true := by simpa using h2
    have HF : Hid (R = false) := Lib.hid (by rw [HR.out]; exact leads_no (by omega))
    clear h2
    go_wp2
    go_ret
    exact ⟨by rw [HF.out]; rfl, B2.out⟩
  have d2 : decide (yi < 0) = false := by simpa using h2
  by_cases h1 : oi < 0
  · have d1 : decide (oi < 0) = true := by simpa using h1
    have HF : Hid (R = false) := Lib.hid (by rw [HR.out]; exact leads_no (by omega))
    clear h1 h2
    go_wp2
    go_ret
    exact ⟨by rw [HF.out]; rfl, B2.out⟩
  have d1 : decide (oi < 0) = false := by simpa using h1
  by_cases h3 : yk.length = 32
  · have d3 : ((yk.length : Int) != 32) = false := by rw [h3]; rfl
    have d3n : (yk.length != 32) = false := by rw [h3]; rfl
    have HF : Hid (R = (decide (backC (yi - oi) = 0) && decide (backA yk (yi - oi) = ok))) := Lib.hid (by
      rw [HR.out]
      by_cases h4 : yi < oi
      · rw [leads_no (by omega), backC, if_pos (by omega)]
        rfl
      · exact leads_yes (ok := ok) (by omega : 0 ≤ oi) (by omega : oi ≤ yi) h3)
    have C := Lib.hid (back_any yk (yi - oi) w2 (by omega) (T0.out.below B2.out T0.out.pos))
    obtain ⟨z, hz⟩ : ∃ z, z = yi - oi := ⟨_, rfl⟩
    have r : IntKind.i64.wrap (yi - oi) = z := by rw [hz]; exact IntWalk.i64_in _ (by omega)
    rw [← hz] at HF C
    obtain ⟨ec, hec⟩ : ∃ ec, ec = backC z := ⟨_, rfl⟩
    obtain ⟨ek, hek⟩ : ∃ ek, ek = backA yk z := ⟨_, rfl⟩
    rw [← hec, ← hek] at HF C
    clear h1 h2 h3 hz hec hek
    go_wp2_with fail
    refine C.out.mono ?_
    rintro e w3 ⟨rfl, b3⟩
    have Y3 : Hid (GateAt w3 x oi ok) := Lib.hid (Whole.below Y2.out b3 Y2.out.lt)
    have B3 := Lib.hid (B2.out.trans (b3.mono B2.out.size))
    clear b3 C X2 Y2 B2 a0 a1 c0 c1
    obtain ⟨c0, c1⟩ := Y3.out.two
    by_cases he : ec = 0
    · have de : (ec == 0) = true := by simp [he]
      obtain ⟨q, hq⟩ : ∃ q, q = decide (ek = ok) := ⟨_, rfl⟩
      have dq : (ek == ok) = q := by rw [hq]; by_cases k : ek = ok <;> simp [k]
      have dq2 : decide (ek = ok) = q := hq.symm
      have HQ : Hid (R = q) := Lib.hid (by rw [HF.out, ← hq, he]; simp)
      clear he hq
      go_wp2
      go_ret
      exact ⟨by rw [HQ.out]; rfl, B3.out⟩
    · have de : (ec == 0) = false := by simp [he]
      have HQ : Hid (R = false) := Lib.hid (by rw [HF.out, decide_eq_false he]; rfl)
      clear he
      go_wp2
      go_ret
      exact ⟨by rw [HQ.out]; rfl, B3.out⟩
  · have d3 : ((yk.length : Int) != 32) = true := by simp; omega
    have d3n : (yk.length != 32) = true := by simp; omega
    have HF : Hid (R = false) := Lib.hid (by rw [HR.out]; exact leads_no (fun k => h3 k.2.2))
    clear h1 h2 h3
    go_wp2
    go_ret
    exact ⟨by rw [HF.out]; rfl, B2.out⟩

theorem chain_is : ChainIs where
  step := step_any
  back := back_any
  key := chKey_any
  leads := fun yi oi yk ok w hy ho ho2 _ T => chLeads_any yi oi yk ok hy ho ho2 w T
end Go.Proofs.YtehalcopkjfdkaaDoor
