/- What package equal's calls answer: contracts. gather and Bytes change no memory that was there; Xor answers new bytes. Package poly is what layer 7's statements ask of it. Package box as landed is what layer 8's statements ask of it: Seal and Open. -/
import Derived.Test.YtmnhpkdldeifgaaGreatDoorGl
import Derived.RegionTactic
import Derived.ChangeAlike
import Derived.Test.YtmnhpkdldeifgaaGreatDoorGbl
import Derived.Test.YtmnhpkdldeifgaaGreatDoorGbg
import Derived.Test.YtmnhpkdldeifgaaGreatDoorGt
import Derived.Test.YtmnhpkdldeifgaaGreatDoorGbk
namespace Go.Proofs.YtmnhpkdldeifgaaGreatDoor
set_option maxRecDepth 100000
open Go.RowKit

set_option maxHeartbeats 400000 in
theorem gather_any (v : Value) (l : List UInt8) (w : World) (h : BytesAt w v l) (hl : l.length ≤ 1000000) :
    Calls Tryz.prog 87 #[v] w fun e w' => e = .returned (.int .u8 ((orAll l).toNat : Int)) ∧ w = w' := by
  have hs := h
  obtain ⟨A, cap, rfl, hcap, -⟩ := hs
  have H := Lib.hid h
  clear h
  go_enter Tryz.func87, Tryz.ntmps87
  go_wp2_with fail
  go_loop [3, 8] (fun u i => ∃ k : Nat, k ≤ l.length ∧ i = .int .i64 k ∧ u = .int .u8 ((orAll (l.take k)).toNat : Int)) (fun _ i => l.length - (intOf i).toNat)
  case atStart => exact ⟨0, Nat.zero_le _, rfl, by simp [orAll]⟩
  case round =>
    obtain ⟨k, hk, rfl, rfl⟩ := hrel
    by_cases hlt : k < l.length
    · obtain ⟨b, off, rfl, hb, hcell⟩ := H.out.spots (by rintro rfl; simp at hlt)
      have hx : l[k]? = some l[k] := List.getElem?_eq_getElem hlt
      have c0 := hcell k _ hx
      have HB : Hid (bits .or .u8 ((orAll (l.take k)).toNat : Int) (l[k].toNat : Int) = ((orAll (l.take (k + 1))).toNat : Int)) := by rw [take_at hx, orAll_snoc]; exact or_cell _ _
      generalize l[k] = c at *
      generalize orAll (l.take k) = o at *
      clear hcell hx
      go_wp2
      go_round
      case rel => exact ⟨k + 1, by omega, by go_num, by rw [HB.out]⟩
      case measure => simp [intOf]; omega
    · obtain rfl : k = l.length := by omega
      go_wp2
      go_ret
      exact ⟨by simp, rfl⟩

theorem zero_test (l : List UInt8) : (((orAll l).toNat : Int) == 0) = decide (∀ c ∈ l, c = 0) := by
  rw [Bool.eq_iff_iff]
  simp only [beq_iff_eq, decide_eq_true_eq, ← orAll_zero]
  rw [← UInt8.toNat_inj]
  simp

set_option maxHeartbeats 1000000 in
theorem xor_any (v0 v1 : Value) (l0 l1 : List UInt8) (w : World) (h0 : BytesAt w v0 l0) (h1 : BytesAt w v1 l1) (hl0 : l0.length ≤ 1000000) (hl1 : l1.length ≤ 1000000) :
    Calls Tryz.prog 88 #[v0, v1] w fun e w' => ∃ v', e = .returned v' ∧ BytesAt w' v' (xorL l0 l1) ∧ Below w.heap.size w w' := by
  obtain ⟨i0, hi0, hz0, hz1, hz2⟩ := info_parts byte_info
  have hs0 := h0
  have hs1 := h1
  obtain ⟨A0, cap0, rfl, hcap0, -⟩ := hs0
  obtain ⟨A1, cap1, rfl, hcap1, -⟩ := hs1
  have H0 := Lib.hid h0
  have H1 := Lib.hid h1
  clear h0 h1
  obtain ⟨n, hn⟩ : ∃ n, n = min l0.length l1.length := ⟨_, rfl⟩
  have HF : Hid ((xorL l0 l1).length = n) := by rw [xorL_length, hn]; exact rfl
  have hn0 : n ≤ l0.length := by omega
  have hn1 : n ≤ l1.length := by omega
  have HN := Lib.hid hn
  clear hn
  rcases Nat.lt_or_ge l1.length l0.length with hlt | hge
  all_goals
    go_enter Tryz.func88, Tryz.ntmps88
    go_wp2_with (at_make; refine wpList_make_full _ rfl (.tmp 11) (.tmp 11) 25 rfl w.heap.size 5 i0 (.int .u8 0) 1 Tryz.underlying25 hi0 hz0 hz1 .i64 .i64 _ _ n rfl rfl ?c1 ?c2 ?c3 ?c4 ?c5 ?_)
    case c1 => have := HN.out; omega
    case c2 => have := HN.out; omega
    case c3 => rw [hz2]; omega
    case c4 => simp only [maxLen]; omega
    case c5 => exact Nat.le_refl _
    intro w1 ho1 hg1
    rw [made_bytes, ← doneTo_zero (xorL l0 l1) n] at ho1
    have hb1 : Below w.heap.size w w1 := (Below.refl _ _).grown hg1 (Nat.le_refl _) (fun k hk => by cases hk)
    have HO1 := Lib.hid ho1
    have HB1 := Lib.hid hb1
    clear ho1 hg1 hb1
    go_wp2_with fail
    go_loopw [15] (fun i wr => ∃ k : Nat, k ≤ n ∧ i = .int .i64 k ∧ wr.ownsRow w.heap.size 5 1 (.slice (some ⟨w.heap.size, 0, none⟩) n n) n (bv (doneTo (xorL l0 l1) n k)) ∧ Below w.heap.size w wr) (fun i _ => n - (intOf i).toNat)
    case atStart => exact ⟨0, Nat.zero_le _, rfl, HO1.out, HB1.out⟩
    case round =>
      obtain ⟨k, hk, rfl, ho, hbel⟩ := hrel
      have HO := Lib.hid ho
      have HBe := Lib.hid hbel
      have zr := hbel.size
      clear ho hbel
      by_cases hkn : k < n
      · have hk0 : k < l0.length := by omega
        have hk1 : k < l1.length := by omega
        obtain ⟨b0, off0, rfl, hb0, hcell0⟩ := H0.out.spots (by rintro rfl; simp at hk0)
        obtain ⟨b1, off1, rfl, hb1, hcell1⟩ := H1.out.spots (by rintro rfl; simp at hk1)
        have hx0 : l0[k]? = some l0[k] := List.getElem?_eq_getElem hk0
        have hx1 : l1[k]? = some l1[k] := List.getElem?_eq_getElem hk1
        have c0 : wr.cell? ⟨b0, off0 + k, none⟩ = some (.int .u8 (l0[k].toNat : Int)) := (HBe.out.cell (p := ⟨b0, off0 + k, none⟩) hb0).trans (hcell0 k _ hx0)
        have c1 : wr.cell? ⟨b1, off1 + k, none⟩ = some (.int .u8 (l1[k].toNat : Int)) := (HBe.out.cell (p := ⟨b1, off1 + k, none⟩) hb1).trans (hcell1 k _ hx1)
        have HS := Lib.hid (doneTo_set (xorL l0 l1) n k _ HF.out (xorL_at l0 l1 k _ _ hx0 hx1))
        have HX := Lib.hid (xor_cell l0[k] l1[k])
        have c2 := HO.out.cellAt k (by omega)
        have f2 := HO.out.frozenAt k
        have hlen : k < (bv (doneTo (xorL l0 l1) n k)).length := by rw [bv_length, doneTo_length _ _ _ HF.out hk]; exact hkn
        rw [List.getElem?_eq_getElem hlen] at c2
        generalize (bv (doneTo (xorL l0 l1) n k))[k] = old at c2
        generalize l0[k] = x0 at *
        generalize l1[k] = x1 at *
        clear hx0 hx1 hcell0 hcell1 hlen
        go_wp2_with fail
        go_region
        all_goals
          go_wp2
          refine ⟨⟨k + 1, by omega, by go_num, ?_, (HBe.out.setCell (Nat.le_refl _) _).drew⟩, by simp [intOf]; omega⟩
          have q := HO.out.stored k (.int .u8 ((x0 ^^^ x1).toNat : Int))
          rw [HS.out] at q
          rw [HX.out]
          exact q.1
      · obtain rfl : k = n := by omega
        have ho := HO.out
        rw [doneTo_all _ _ HF.out] at ho
        have hy : BytesAt wr (.slice (some ⟨w.heap.size, 0, none⟩) k k) (xorL l0 l1) := by
          apply BytesAt.of_own (base := w.heap.size)
          rw [HF.out]
          exact ho
        have HY := Lib.hid hy
        clear ho hy
        go_wp2
        go_ret
        exact ⟨_, rfl, HY.out, HBe.out⟩

theorem bytes_test (l0 l1 : List UInt8) (h : l0.length = l1.length) : (((orAll (xorL l0 l1)).toNat : Int) == 0) = decide (l0 = l1) := by
  rw [zero_test, Bool.eq_iff_iff]
  simp only [decide_eq_true_eq]
  exact xorL_zero l0 l1 h

set_option maxHeartbeats 400000 in
theorem bytes_any (v0 v1 : Value) (l0 l1 : List UInt8) (w : World) (h0 : BytesAt w v0 l0) (h1 : BytesAt w v1 l1) (hl0 : l0.length ≤ 1000000) (hl1 : l1.length ≤ 1000000) :
    Calls Tryz.prog 69 #[v0, v1] w fun e w' => e = .returned (.bool (decide (l0 = l1))) ∧ Below w.heap.size w w' := by
  have C := Lib.hid (xor_any v0 v1 l0 l1 w h0 h1 hl0 hl1)
  obtain ⟨A0, cap0, rfl, hcap0, -⟩ := h0
  obtain ⟨A1, cap1, rfl, hcap1, -⟩ := h1
  by_cases hlen : l0.length = l1.length
  · have hb : ((l0.length : Int) == (l1.length : Int)) = true := by simp; omega
    rw [← bytes_test l0 l1 hlen]
    have HL : Hid ((xorL l0 l1).length ≤ 1000000) := by rw [xorL_length]; exact Lib.hid (by omega)
    have G : Hid (∀ v2 w2, BytesAt w2 v2 (xorL l0 l1) → Calls Tryz.prog 87 #[v2] w2 fun e w' => e = .returned (.int .u8 ((orAll (xorL l0 l1)).toNat : Int)) ∧ w2 = w') := fun v2 w2 hy => gather_any v2 _ w2 hy HL.out
    generalize ((orAll (xorL l0 l1)).toNat : Int) = o at *
    clear hlen
    go_enter Tryz.func69, Tryz.ntmps69
    go_wp2_with fail
    refine C.out.mono ?_
    rintro e w1 ⟨v1, rfl, hy, hbe⟩
    have HY := Lib.hid hy
    clear hy
    go_wp2_with fail
    refine (G.out v1 w1 HY.out).mono ?_
    rintro e w2 ⟨rfl, rfl⟩
    go_wp2
    go_ret
    exact ⟨rfl, hbe⟩
  · have hb : ((l0.length : Int) == (l1.length : Int)) = false := by simp; omega
    have hd : decide (l0 = l1) = false := by
      simp only [decide_eq_false_iff_not]
      rintro rfl
      exact hlen rfl
    rw [hd]
    clear hlen hd
    go_enter Tryz.func69, Tryz.ntmps69
    go_wp2
    go_ret
    exact ⟨rfl, Below.refl _ _⟩

end Go.Proofs.YtmnhpkdldeifgaaGreatDoor

namespace Go.Proofs.YtmnhpkdldeifgaaGreatDoor
set_option maxRecDepth 100000
open Go.RowKit

set_option maxHeartbeats 1000000 in
theorem poCheck_any (A0 A1 A2 : Option Addr) (n0 n1 n2 cap0 cap1 cap2 : Nat) (key msg tag : List UInt8) (w : World) (hn : n1 ≤ 1000000) (hn2 : n2 ≤ 1000000) (h0 : BytesAt w (.slice A0 n0 cap0) key) (h1 : BytesAt w (.slice A1 n1 cap1) msg) (h2 : BytesAt w (.slice A2 n2 cap2) tag) :
    Calls Tryz.prog 42 #[.slice A0 n0 cap0, .slice A1 n1 cap1, .slice A2 n2 cap2] w fun e w' => e = .returned (.bool (decide (n0 = 32 ∧ tagL key msg = tag))) ∧ Below w.heap.size w w' := by
  have H2 := Lib.hid h2
  have L2 := Lib.hid (show tag.length ≤ 1000000 by have := h2.size.1; omega)
  by_cases h : n0 = 32
  · subst h
    have CT := Lib.hid (tag_any A0 A1 n1 cap0 cap1 key msg w hn h0 h1)
    have LT := Lib.hid (show (tagL key msg).length ≤ 1000000 by rw [tagL_length]; decide)
    have HD : Hid (decide (32 = 32 ∧ tagL key msg = tag) = decide (tagL key msg = tag)) := Lib.hid (by simp)
    obtain ⟨TL, hTL⟩ : ∃ TL, TL = tagL key msg := ⟨_, rfl⟩
    rw [← hTL] at CT LT HD ⊢
    rw [HD.out]
    clear h0 h1 h2 hn hn2 hTL HD
    go_enter Tryz.func42, Tryz.ntmps42
    go_wp2_with fail
    refine CT.out.mono ?_
    rintro e w1 ⟨v1, rfl, y1, b1⟩
    have CB := Lib.hid (bytes_any v1 (.slice A2 n2 cap2) TL tag w1 y1.bytes (H2.out.below b1) LT.out L2.out)
    have B1 := Lib.hid b1
    clear y1 b1 CT
    go_wp2_with fail
    refine CB.out.mono ?_
    rintro e w2 ⟨rfl, b2⟩
    have B2 := Lib.hid (B1.out.trans (b2.mono B1.out.size))
    clear b2
    go_wp2
    go_ret
    exact ⟨rfl, B2.out⟩
  · have CT := Lib.hid (tag_bad A0 A1 n0 n1 cap0 cap1 w h)
    have d : decide (n0 = 32 ∧ tagL key msg = tag) = false := by simp [h]
    rw [d]
    clear d h0 h1 h2 hn hn2
    go_enter Tryz.func42, Tryz.ntmps42
    go_wp2_with fail
    refine CT.out.mono ?_
    rintro e w1 ⟨v1, rfl, -, b1⟩
    have B1 := Lib.hid b1
    clear b1
    go_wp2
    go_ret
    exact ⟨rfl, B1.out⟩

theorem poly_is : PolyIs where
  clamp A n cap l w _ h := clamp_any A n cap l w h
  tagBad A0 A1 n0 n1 cap0 cap1 w h _ := tag_bad A0 A1 n0 n1 cap0 cap1 w h
  tag A0 A1 n cap0 cap1 key msg w hn h0 h1 := tag_any A0 A1 n cap0 cap1 key msg w hn h0 h1
  check A0 A1 A2 n0 n1 n2 cap0 cap1 cap2 key msg tag w h1 h2 k0 k1 k2 := poCheck_any A0 A1 A2 n0 n1 n2 cap0 cap1 cap2 key msg tag w h1 h2 k0 k1 k2
end Go.Proofs.YtmnhpkdldeifgaaGreatDoor

namespace Go.Proofs.YtmnhpkdldeifgaaGreatDoor
set_option maxRecDepth 100000
open Go.RowKit

set_option maxHeartbeats 1000000 in
theorem seal_bad (A0 A1 A3 : Option Addr) (n0 n1 n3 cap0 cap1 cap3 : Nat) (v2 : Value) (w : World) (h : n0 ≠ 32 ∨ n1 ≠ 12) (hn : n3 ≤ 1000000) :
    Calls Tryz.prog 13 #[.slice A0 n0 cap0, .slice A1 n1 cap1, v2, .slice A3 n3 cap3] w fun e w' => e = .returned (.tuple #[.slice none 0 0, .int .i64 2]) ∧ Below w.heap.size w w' := by
  have C : Hid (Calls Tryz.prog 30 #[.slice A0 n0 cap0, .slice A1 n1 cap1, .int .u32 1, .slice A3 n3 cap3] w _) := Lib.hid (cipher_is.xorBad A0 A1 A3 n0 n1 n3 cap0 cap1 cap3 1 h hn w)
  clear h hn
  go_enter Tryz.func13, Tryz.ntmps13
  go_wp2_with fail
  refine C.out.mono ?_
  rintro e w1 ⟨rfl, b1⟩
  have B1 := Lib.hid b1
  clear b1
  go_wp2
  go_ret2
  exact ⟨rfl, B1.out⟩

set_option maxRecDepth 100000 in
set_option maxHeartbeats 4000000 in
theorem seal_any (A0 A1 A2 A3 : Option Addr) (n2 n3 cap0 cap1 cap2 cap3 : Nat) (key nonce wth msg : List UInt8) (w : World) (hn2 : n2 ≤ 100000) (hn3 : n3 ≤ 100000)
    (h0 : BytesAt w (.slice A0 32 cap0) key) (h1 : BytesAt w (.slice A1 12 cap1) nonce) (h2 : BytesAt w (.slice A2 n2 cap2) wth) (h3 : BytesAt w (.slice A3 n3 cap3) msg) :
    Calls Tryz.prog 13 #[.slice A0 32 cap0, .slice A1 12 cap1, .slice A2 n2 cap2, .slice A3 n3 cap3] w fun e w' => ∃ v', e = .returned (.tuple #[v', .int .i64 0]) ∧ Fresh w' w.heap.size v' (sealC key nonce wth msg) ∧ Below w.heap.size w w' := by
  have C : Hid (Calls Tryz.prog 30 #[.slice A0 32 cap0, .slice A1 12 cap1, .int .u32 1, .slice A3 n3 cap3] w _) := Lib.hid (cipher_is.xor A0 A1 A3 n3 cap0 cap1 cap3 key nonce msg 1 (by have : (1 : UInt32).toNat = 1 := rfl; omega) (by omega) w h0 h1 h3)
  have H0 := Lib.hid h0
  have H1 := Lib.hid h1
  have H2 := Lib.hid h2
  have XL : (xorC key nonce 1 msg).length = n3 := (xorC_length key nonce 1 msg).trans h3.size.1.symm
  have E : Hid (xorC key nonce 1 msg ++ boxTag key nonce wth (xorC key nonce 1 msg) = sealC key nonce wth msg) := Lib.hid rfl
  obtain ⟨X, hX⟩ : ∃ X, X = xorC key nonce 1 msg := ⟨_, rfl⟩
  rw [← hX] at C XL E
  have TT : Hid (tagL ((blockC key nonce 0).take 32) (tagged wth X) = boxTag key nonce wth X) := Lib.hid rfl
  have GL := Lib.hid (tagged_length wth X)
  have z2 := h2.size.1
  have GM := Lib.hid (show (tagged wth X).length ≤ 1000000 by have := tagged_length wth X; omega)
  obtain ⟨B, hB⟩ : ∃ B, B = (blockC key nonce 0).take 32 := ⟨_, rfl⟩
  have HB0 := Lib.hid hB
  rw [← hB] at TT
  obtain ⟨M, hM⟩ : ∃ M, M = tagged wth X := ⟨_, rfl⟩
  have HM0 := Lib.hid hM
  rw [← hM] at TT GM
  obtain ⟨T, hT⟩ : ∃ T, T = boxTag key nonce wth X := ⟨_, rfl⟩
  have TL := Lib.hid (show T.length = 16 by rw [hT]; exact boxTag_length ..)
  rw [← hT] at TT E
  obtain ⟨S, hS⟩ : ∃ S, S = sealC key nonce wth msg := ⟨_, rfl⟩
  rw [← hS] at E ⊢
  clear hX h0 h1 h2 h3 z2 hB hM hT hS
  have XL0 := Lib.hid XL
  go_enter Tryz.func13, Tryz.ntmps13
  go_wp2_with fail
  refine C.out.mono ?_
  rintro e w1 ⟨v1, rfl, y1, b1⟩
  obtain ⟨Ax, capx, rfl, hcx, -⟩ := id y1
  rw [XL] at y1 hcx ⊢
  clear XL
  have Y1 := Lib.hid y1
  have B1 := Lib.hid b1
  have C2 := Lib.hid (oneKey_any A0 A1 cap0 cap1 key nonce w1 (H0.out.below b1) (H1.out.below b1))
  rw [← HB0.out] at C2
  clear y1 b1 C hcx
  go_wp2_with fail
  refine C2.out.mono ?_
  rintro e w2 ⟨Ak, capk, rfl, y2, b2⟩
  have Y2 := Lib.hid y2
  have B2 := Lib.hid (B1.out.trans (b2.mono B1.out.size))
  have X2 := Lib.hid (Y1.out.below b2)
  have C3 := Lib.hid (tagged_any A2 Ax n2 n3 cap2 capx wth X w2 hn2 hn3 (H2.out.below B2.out) X2.out)
  rw [← HM0.out] at C3
  clear y2 b2 C2 B1 Y1
  go_wp2_with fail
  refine C3.out.mono ?_
  rintro e w3 ⟨v3, rfl, y3, b3⟩
  obtain ⟨Am, capm, rfl, -, -⟩ := id y3
  have B3 := Lib.hid (B2.out.trans (b3.mono B2.out.size))
  have X3 := Lib.hid (X2.out.below b3)
  have C4 := Lib.hid (poly_is.tag Ak Am M.length capk capm B M w3 GM.out (Y2.out.below b3) y3)
  rw [TT.out] at C4
  clear y3 b3 C3 B2 X2 Y2
  go_wp2_with fail
  refine C4.out.mono ?_
  rintro e w4 ⟨v4, rfl, y4, b4⟩
  have Y4 := Lib.hid y4.bytes
  have B4 := Lib.hid (B3.out.trans (b4.mono B3.out.size))
  have X4 := Lib.hid (X3.out.below b4)
  clear y4 b4 C4 B3 X3
  have r1 : IntKind.i64.wrap ((n3 : Int) + 16) = ((n3 + 16 : Nat) : Int) := by rw [IntWalk.i64_in _ (by omega)]; omega
  obtain ⟨m, hm⟩ : ∃ m, m = n3 + 16 := ⟨_, rfl⟩
  rw [← hm] at r1
  have hmle : m ≤ 10000000 := by omega
  have HMm := Lib.hid hm
  have j1 : (n3 : Int) ≤ (m : Int) := by omega
  have j2 : m ≠ n3 := by omega
  have j3 : m - n3 = 16 := by omega
  clear hm
  go_wp2_with (at_make; refine wpList_make_block rfl _ _ rfl m rfl rfl hmle ?_)
  intro w5 x5 b5 z5
  obtain ⟨w6, hr6, x6, g6, z6⟩ := run_copy_in w5 3 w4.heap.size m m 5 (List.replicate m 0) _ X x5 (by simp) (X4.out.below b5) n3 (by have := XL0.out; have := HMm.out; omega)
  have e6 : X.take m ++ (List.replicate m 0).drop n3 = X ++ List.replicate 16 0 := by
    rw [List.take_of_length_le (by have := XL0.out; have := HMm.out; omega), List.drop_replicate]
    congr 2
  rw [e6] at x6
  have BB := Lib.hid (Below.grown b5 g6 b5.size (fun k hk => by injection hk; omega))
  have Y6 := Lib.hid (Y4.out.below BB.out)
  obtain ⟨w7, hr7, x7, g7, z7⟩ := run_copy_at w6 3 w4.heap.size n3 16 16 5 (X ++ List.replicate 16 0) _ T x6 (by have := XL0.out; simp; omega) Y6.out 16 (by have := TL.out; omega)
  have e7 : (X ++ List.replicate 16 0).take n3 ++ T.take 16 ++ (X ++ List.replicate 16 0).drop (n3 + 16) = S := by
    rw [← E.out, List.take_left' XL0.out, List.take_of_length_le (by have := TL.out; omega), List.drop_eq_nil_of_le (by have := XL0.out; simp; omega), List.append_nil]
  rw [e7] at x7
  have B7 := Lib.hid (B4.out.trans ((Below.grown BB.out g7 BB.out.size (fun k hk => by injection hk; omega)).mono B4.out.size))
  have F7 := Lib.hid (Fresh.of_whole (n := m) (cap := m) x7 (by rw [← E.out, List.length_append]; have := XL0.out; have := TL.out; have := HMm.out; omega) (Nat.le_refl _) B4.out.size)
  have hr8 : (Builtin.copy_ #[25, 25] 3 #[.slice (some ⟨w4.heap.size, n3, none⟩) 16 16, v4]).run Tryz.prog w6 = .ok (goInt 16) w7 := hr7
  clear x5 b5 z5 x6 g6 z6 e6 x7 g7 z7 e7 BB Y6 hr7
  go_wp2
  go_ret2
  exact ⟨_, rfl, F7.out, B7.out⟩

theorem open_bad (A0 A1 : Option Addr) (n0 n1 cap0 cap1 : Nat) (v2 v3 : Value) (w : World) (h : n0 ≠ 32 ∨ n1 ≠ 12) :
    Calls Tryz.prog 21 #[.slice A0 n0 cap0, .slice A1 n1 cap1, v2, v3] w fun e w' => e = .returned (.tuple #[.slice none 0 0, .int .i64 2]) ∧ Below w.heap.size w w' := by
  have C := Lib.hid (oneKey_bad A0 A1 n0 n1 cap0 cap1 w h)
  clear h
  go_enter Tryz.func21, Tryz.ntmps21
  go_wp2_with fail
  refine C.out.mono ?_
  rintro e w1 ⟨rfl, b1⟩
  have B1 := Lib.hid b1
  clear b1
  go_wp2
  go_ret2
  exact ⟨rfl, B1.out⟩
set_option maxHeartbeats 1000000 in
theorem open_short (A0 A1 A3 : Option Addr) (n3 cap0 cap1 cap3 : Nat) (v2 : Value) (key nonce : List UInt8) (w : World) (h0 : BytesAt w (.slice A0 32 cap0) key) (h1 : BytesAt w (.slice A1 12 cap1) nonce) (h : n3 < 16) :
    Calls Tryz.prog 21 #[.slice A0 32 cap0, .slice A1 12 cap1, v2, .slice A3 n3 cap3] w fun e w' => e = .returned (.tuple #[.slice none 0 0, .int .i64 10]) ∧ Below w.heap.size w w' := by
  have C := Lib.hid (oneKey_any A0 A1 cap0 cap1 key nonce w h0 h1)
  have d1 : decide ((n3 : Int) < 16) = true := by simp; omega
  clear h h0 h1
  go_enter Tryz.func21, Tryz.ntmps21
  go_wp2_with fail
  refine C.out.mono ?_
  rintro e w1 ⟨A, cap, rfl, y1, b1⟩
  have B1 := Lib.hid b1
  clear b1 y1
  go_wp2
  go_ret2
  exact ⟨rfl, B1.out⟩

set_option maxRecDepth 100000 in
set_option maxHeartbeats 4000000 in
theorem open_any (A0 A1 A2 A3 : Option Addr) (n2 m cap0 cap1 cap2 cap3 : Nat) (key nonce wth sealed : List UInt8) (w : World) (hn2 : n2 ≤ 100000) (hn3 : m ≤ 100000)
    (h0 : BytesAt w (.slice A0 32 cap0) key) (h1 : BytesAt w (.slice A1 12 cap1) nonce) (h2 : BytesAt w (.slice A2 n2 cap2) wth) (h3 : BytesAt w (.slice A3 (m + 16) cap3) sealed) :
    Calls Tryz.prog 21 #[.slice A0 32 cap0, .slice A1 12 cap1, .slice A2 n2 cap2, .slice A3 (m + 16 : Nat) cap3] w fun e w' => ∃ v', e = .returned (.tuple #[v', .int .i64 (if boxTag key nonce wth (sealed.take m) = sealed.drop m then 0 else 21)]) ∧ BytesAt w' v' (if boxTag key nonce wth (sealed.take m) = sealed.drop m then xorC key nonce 1 (sealed.take m) else []) ∧ Below w.heap.size w w' := by
  have H0 := Lib.hid h0
  have H1 := Lib.hid h1
  have H2 := Lib.hid h2
  obtain ⟨s1, s2⟩ := h3.size
  have HT := Lib.hid (h3.first m (by omega))
  have HD := h3.rest m (by omega)
  rw [if_neg (show ¬ cap3 = m by omega), Nat.add_sub_cancel_left] at HD
  obtain ⟨ad, rfl, -⟩ := h3.lt (by intro e; rw [e] at s1; simp at s1)
  have TT : Hid (tagL ((blockC key nonce 0).take 32) (tagged wth (sealed.take m)) = boxTag key nonce wth (sealed.take m)) := Lib.hid rfl
  have z2 := h2.size.1
  have GM := Lib.hid (show (tagged wth (sealed.take m)).length ≤ 1000000 by have := tagged_length wth (sealed.take m); rw [List.length_take] at this; omega)
  obtain ⟨T, hT⟩ : ∃ T, T = sealed.take m := ⟨_, rfl⟩
  obtain ⟨D, hD⟩ : ∃ D, D = sealed.drop m := ⟨_, rfl⟩
  rw [← hT] at HT TT GM ⊢
  rw [← hD] at HD ⊢
  rw [Option.map_some] at HD
  have HD0 := Lib.hid HD
  obtain ⟨B, hB⟩ : ∃ B, B = (blockC key nonce 0).take 32 := ⟨_, rfl⟩
  have HB0 := Lib.hid hB
  rw [← hB] at TT
  obtain ⟨M, hM⟩ : ∃ M, M = tagged wth T := ⟨_, rfl⟩
  have HM0 := Lib.hid hM
  rw [← hM] at TT GM
  obtain ⟨n3, hn⟩ : ∃ n3, n3 = m + 16 := ⟨_, rfl⟩
  rw [← hn]
  have d1 : decide ((n3 : Int) < 16) = false := by simp; omega
  have r1 : IntKind.i64.wrap ((n3 : Int) - 16) = (m : Int) := by rw [IntWalk.i64_in _ (by omega)]; omega
  have j1 : (m : Int) ≤ (n3 : Int) := by omega
  have j2 : (m : Int) ≤ (cap3 : Int) := by omega
  have j3 : (n3 : Int) ≤ (cap3 : Int) := by omega
  have j4 : cap3 ≠ m := by omega
  have j5 : n3 - m = 16 := by omega
  obtain ⟨G, hG⟩ : ∃ G, G = boxTag key nonce wth T := ⟨_, rfl⟩
  rw [← hG] at TT ⊢
  have C1 := Lib.hid (oneKey_any A0 A1 cap0 cap1 key nonce w h0 h1)
  rw [← HB0.out] at C1
  obtain ⟨q, hq⟩ : ∃ q : Bool, q = decide (G = D) := ⟨_, rfl⟩
  have HQ := Lib.hid hq
  obtain ⟨ec, hec⟩ : ∃ ec : Int, ec = if G = D then 0 else 21 := ⟨_, rfl⟩
  obtain ⟨er, her⟩ : ∃ er, er = if G = D then xorC key nonce 1 T else [] := ⟨_, rfl⟩
  rw [← hec, ← her]
  have HE := Lib.hid (And.intro hec her)
  clear h0 h1 h2 h3 HD hT hD hn s1 hG z2 hB hM hq hec her
  go_enter Tryz.func21, Tryz.ntmps21
  go_wp2_with fail
  refine C1.out.mono ?_
  rintro e w1 ⟨Ak, capk, rfl, y1, b1⟩
  have Y1 := Lib.hid y1
  have B1 := Lib.hid b1
  clear y1 b1 C1
  go_wp2_with fail
  refine still_all (by kernel_rfl) (by kernel_rfl) fun w2 h2 b2 => ?_
  repeat still_step
  refine wpStill_nil ?_
  have B2 := Lib.hid (B1.out.trans (b2.mono B1.out.size))
  have Y2 := Lib.hid (Y1.out.of_heap h2)
  have C2 := Lib.hid (tagged_any A2 (some ad) n2 m cap2 cap3 wth T w2 hn2 (by omega) (H2.out.below B2.out) (HT.out.below B2.out))
  rw [← HM0.out] at C2
  clear h2 b2 B1 Y1
  go_wp2_with fail
  refine C2.out.mono ?_
  rintro e w3 ⟨v3, rfl, y3, b3⟩
  obtain ⟨Am, capm, rfl, -, -⟩ := id y3
  have B3 := Lib.hid (B2.out.trans (b3.mono B2.out.size))
  have C3 := Lib.hid (poly_is.check Ak Am _ 32 M.length 16 capk capm _ B M D w3 GM.out (by decide) (Y2.out.below b3) y3 (HD0.out.below B3.out))
  have eq : decide (32 = 32 ∧ G = D) = q := by rw [HQ.out]; simp
  rw [TT.out, eq] at C3
  clear eq
  clear y3 b3 C2 B2 Y2
  go_wp2_with fail
  refine C3.out.mono ?_
  rintro e w4 ⟨rfl, b4⟩
  have B4 := Lib.hid (B3.out.trans (b4.mono B3.out.size))
  clear b4 C3 B3
  by_cases hg : G = D
  · have hq : q = true := by rw [HQ.out]; simp [hg]
    obtain ⟨e1, e2⟩ := HE.out
    rw [if_pos hg] at e1 e2
    have e2 := Lib.hid e2
    subst hq e1
    clear hg HE HQ
    have C4 : Hid (Calls Tryz.prog 30 #[.slice A0 32 cap0, .slice A1 12 cap1, .int .u32 1, .slice (some ad) m cap3] w4 _) := Lib.hid (cipher_is.xor A0 A1 (some ad) m cap0 cap1 cap3 key nonce T 1 (by have : (1 : UInt32).toNat = 1 := rfl; omega) (by omega) w4 (H0.out.below B4.out) (H1.out.below B4.out) (HT.out.below B4.out))
    go_wp2_with fail
    refine C4.out.mono ?_
    rintro e w5 ⟨v5, rfl, y5, b5⟩
    have Y5 := Lib.hid y5
    have B5 := Lib.hid (B4.out.trans (b5.mono B4.out.size))
    clear y5 b5 C4
    go_wp2
    go_ret2
    exact ⟨_, rfl, by rw [e2.out]; exact Y5.out, B5.out⟩
  · have hq : q = false := by rw [HQ.out]; simp [hg]
    obtain ⟨e1, e2⟩ := HE.out
    rw [if_neg hg] at e1 e2
    have e2 := Lib.hid e2
    subst hq e1
    clear hg HE HQ
    go_wp2
    go_ret2
    exact ⟨_, rfl, by rw [e2.out]; exact BytesAt.nil _, B4.out⟩

theorem box_is : BoxIs where
  nonce n w _ := nonce_any n w
  sealBad A0 A1 A2 A3 n0 n1 n2 n3 cap0 cap1 cap2 cap3 key nonce wth msg w h hn2 hn3 _ _ _ _ := (seal_bad A0 A1 A3 n0 n1 n3 cap0 cap1 cap3 _ w h (by omega)).mono fun _ w' ⟨he, hb⟩ => ⟨_, he, BytesAt.nil w', hb⟩
  seals A0 A1 A2 A3 n2 n3 cap0 cap1 cap2 cap3 key nonce wth msg w hn2 hn3 h0 h1 h2 h3 := seal_any A0 A1 A2 A3 n2 n3 cap0 cap1 cap2 cap3 key nonce wth msg w hn2 hn3 h0 h1 h2 h3
  opens A0 A1 A2 A3 n0 n1 n2 n3 cap0 cap1 cap2 cap3 key nonce wth sealed w hn2 hn3 h0 h1 h2 h3 := by
    by_cases h : n0 ≠ 32 ∨ n1 ≠ 12
    · rw [opA, opC, if_pos h, if_pos h]
      exact (open_bad A0 A1 n0 n1 cap0 cap1 _ _ w h).mono fun _ _ ⟨he, hb⟩ => ⟨_, he, BytesAt.nil _, hb⟩
    · rw [opA, opC, if_neg h, if_neg h]
      obtain rfl : n0 = 32 := by omega
      obtain rfl : n1 = 12 := by omega
      obtain ⟨rfl, -⟩ := h3.size
      by_cases hs : sealed.length < 16
      · rw [if_pos hs, if_pos hs]
        exact (open_short A0 A1 A3 _ cap0 cap1 cap3 _ key nonce w h0 h1 hs).mono fun _ _ ⟨he, hb⟩ => ⟨_, he, BytesAt.nil _, hb⟩
      · rw [if_neg hs, if_neg hs]
        have e : sealed.length = (sealed.length - 16) + 16 := by omega
        rw [e] at h3 ⊢
        exact open_any A0 A1 A2 A3 n2 (sealed.length - 16) cap0 cap1 cap2 cap3 key nonce wth sealed w hn2 (by omega) h0 h1 h2 h3
end Go.Proofs.YtmnhpkdldeifgaaGreatDoor
