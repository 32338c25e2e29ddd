/- What package derive's Extract, Key and Named answer. -/
import Derived.Test.YtjkbbcnbdjhdbaaDoorDrA
namespace Go.Proofs.YtjkbbcnbdjhdbaaDoor
open Go.RowKit

set_option maxHeartbeats 1000000 in
theorem extract_any (v0 v1 : Value) (salt secret : List UInt8) (w : World) (h0 : BytesAt w v0 salt) (h1 : BytesAt w v1 secret) (hk : salt.length ≤ 5000) (hm : secret.length ≤ 4900) (T : Tab w) :
    Calls Tryd.prog 10 #[v0, v1] w fun e w' => ∃ v', e = .returned v' ∧ BytesAt w' v' (extractL salt secret) ∧ Below w.heap.size w w' := by
  have T0 := Lib.hid T
  have H0 := Lib.hid h0
  have H1 := Lib.hid h1
  obtain ⟨i0, hi0, hz0, hz1, hz2⟩ := info_parts byte_info
  obtain ⟨A0, cap0, rfl, -, -⟩ := h0
  obtain ⟨A1, cap1, rfl, -, -⟩ := h1
  clear T
  by_cases hs : salt.length = 0
  · have HE : Hid (macL (List.replicate 32 0) secret = extractL salt secret) := by
      rw [Hid, extractL, if_pos hs]
    go_enter Tryd.func10, Tryd.ntmps10
    go_wp2_with (at_make; refine wpList_make_full _ rfl _ _ 22 rfl w.heap.size 5 i0 (.int .u8 0) 1 Tryd.underlying22 hi0 hz0 hz1 .i64 .i64 _ _ 32 rfl rfl rfl rfl (by rw [hz2]; decide) (by simp [maxLen]) (Nat.le_refl _) ?_)
    intro w1 ho1 hg1
    rw [made_bytes] at ho1
    have HB1 := Lib.hid ((Below.refl w.heap.size w).grown hg1 (Nat.le_refl _) (fun k hk => by cases hk))
    have Y1 := Lib.hid (BytesAt.of_own (l := List.replicate 32 0) ho1)
    clear ho1 hg1
    go_wp2_with fail
    refine (mac_any _ _ (List.replicate 32 0) secret w1 Y1.out (H1.out.below HB1.out) (by decide) hm (T0.out.below HB1.out T0.out.pos)).mono ?_
    rintro e w2 ⟨v2, rfl, y2, b2⟩
    rw [HE.out] at y2
    have B2 := Lib.hid (HB1.out.trans (b2.mono HB1.out.size))
    have Y2 := Lib.hid y2
    clear y2 b2
    go_wp2
    go_ret
    exact ⟨_, rfl, Y2.out, B2.out⟩
  · have HE : Hid (macL salt secret = extractL salt secret) := by
      rw [Hid, extractL, if_neg hs]
    have d : ((salt.length : Int) == 0) = false := by simp; intro e; exact hs (by rw [e]; rfl)
    have HS := Lib.hid hs
    clear hs
    go_enter Tryd.func10, Tryd.ntmps10
    go_wp2_with fail
    refine (mac_any _ _ salt secret w H0.out H1.out hk hm T0.out).mono ?_
    rintro e w2 ⟨v2, rfl, y2, b2⟩
    rw [HE.out] at y2
    have B2 := Lib.hid b2
    have Y2 := Lib.hid y2
    clear y2 b2
    go_wp2
    go_ret
    exact ⟨_, rfl, Y2.out, B2.out⟩

set_option maxHeartbeats 1000000 in
theorem derKey_bad (v0 v1 v2 : Value) (salt secret : List UInt8) (z : Int) (hz : z < 0 ∨ 8160 < z) (w : World) (h0 : BytesAt w v0 salt) (h1 : BytesAt w v1 secret) (hk : salt.length ≤ 5000) (hm : secret.length ≤ 4900) (T : Tab w) :
    Calls Tryd.prog 8 #[v0, v1, v2, .int .i64 z] w fun e w' => e = .returned (.tuple #[.slice none 0 0, .int .i64 2]) ∧ Below w.heap.size w w' := by
  have C := Lib.hid (extract_any v0 v1 salt secret w h0 h1 hk hm T)
  clear T h0 h1
  go_enter Tryd.func8, Tryd.ntmps8
  go_wp2_with fail
  refine C.out.mono ?_
  rintro e w1 ⟨v3, rfl, y1, b1⟩
  have B1 := Lib.hid b1
  clear y1 b1
  go_wp2_with fail
  refine (expand_bad v3 v2 z hz w1).mono ?_
  rintro e w2 ⟨rfl, b2⟩
  have B2 := Lib.hid (B1.out.trans (b2.mono B1.out.size))
  clear b2
  go_wp2
  go_ret2
  exact ⟨rfl, B2.out⟩

set_option maxHeartbeats 1000000 in
theorem derKey_any (v0 v1 v2 : Value) (salt secret info : List UInt8) (n : Nat) (w : World) (h0 : BytesAt w v0 salt) (h1 : BytesAt w v1 secret) (h2 : BytesAt w v2 info) (hk : salt.length ≤ 5000) (hm : secret.length ≤ 4900) (hi : info.length ≤ 4800) (hn : n ≤ 8160) (T : Tab w) :
    Calls Tryd.prog 8 #[v0, v1, v2, .int .i64 (n : Int)] w fun e w' => ∃ v', e = .returned (.tuple #[v', .int .i64 0]) ∧ BytesAt w' v' (expandL (extractL salt secret) info n) ∧ Below w.heap.size w w' := by
  have C := Lib.hid (extract_any v0 v1 salt secret w h0 h1 hk hm T)
  have EL := Lib.hid (extractL_length salt secret)
  have T0 := Lib.hid T
  have H2 := Lib.hid h2
  clear T h0 h1 h2
  generalize extractL salt secret = E at *
  go_enter Tryd.func8, Tryd.ntmps8
  go_wp2_with fail
  refine C.out.mono ?_
  rintro e w1 ⟨v3, rfl, y1, b1⟩
  have B1 := Lib.hid b1
  have Y1 := Lib.hid y1
  clear y1 b1
  go_wp2_with fail
  refine (expand_any v3 v2 E info n w1 Y1.out (H2.out.below B1.out) (by have := EL.out; omega) hi hn (T0.out.below B1.out T0.out.pos)).mono ?_
  rintro e w2 ⟨v4, rfl, y2, b2⟩
  have B2 := Lib.hid (B1.out.trans (b2.mono B1.out.size))
  have Y2 := Lib.hid y2
  clear y2 b2
  go_wp2
  go_ret2
  exact ⟨_, rfl, Y2.out, B2.out⟩

theorem carc_str (s : ByteArray) : ((⟨#[99, 97, 114, 99, 97, 110, 101, 116, 32]⟩ : ByteArray) ++ s).data.toList = carc ++ s.data.toList := by
  simp [carc]

set_option maxHeartbeats 1000000 in
theorem named_any (v0 : Value) (s : ByteArray) (key : List UInt8) (w : World) (h0 : BytesAt w v0 key) (hk : key.length ≤ 5000) (hs : s.size ≤ 4700) (T : Tab w) :
    Calls Tryd.prog 11 #[v0, .string s] w fun e w' => ∃ v', e = .returned v' ∧ BytesAt w' v' (namedL key s.data.toList) ∧ Below w.heap.size w w' := by
  have T0 := Lib.hid T
  have H0 := Lib.hid h0
  have CS := Lib.hid (carc_str s)
  have HI : Hid ((carc ++ s.data.toList).length ≤ 4800) := by
    simp [Hid, carc]; omega
  have HD : Hid (expandL key (carc ++ s.data.toList) 32 = namedL key s.data.toList) := Lib.hid rfl
  obtain ⟨vs, w1, hr, y1, b1⟩ := conv_str w ((⟨#[99, 97, 114, 99, 97, 110, 101, 116, 32]⟩ : ByteArray) ++ s)
  rw [CS.out] at y1
  have Y1 := Lib.hid y1
  have B1 := Lib.hid b1
  clear T h0 y1 b1
  go_enter Tryd.func11, Tryd.ntmps11
  go_wp2_with fail
  refine (expand_any v0 vs key _ 32 w1 (H0.out.below B1.out) Y1.out hk HI.out (by decide) (T0.out.below B1.out T0.out.pos)).mono ?_
  rintro e w2 ⟨v4, rfl, y2, b2⟩
  rw [HD.out] at y2
  have B2 := Lib.hid (B1.out.trans (b2.mono B1.out.size))
  have Y2 := Lib.hid y2
  clear y2 b2 hr
  go_wp2
  go_ret
  exact ⟨_, rfl, Y2.out, B2.out⟩
end Go.Proofs.YtjkbbcnbdjhdbaaDoor
