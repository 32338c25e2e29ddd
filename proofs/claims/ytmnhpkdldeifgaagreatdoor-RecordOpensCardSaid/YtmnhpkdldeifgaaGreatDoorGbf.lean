/- What package cipher's stream and Block answer. -/
import Derived.Test.YtmnhpkdldeifgaaGreatDoorGbe
namespace Go.Proofs.YtmnhpkdldeifgaaGreatDoor
set_option maxRecDepth 100000
open Go.RowKit

theorem zero_b64 : (Tryz.prog.info? 77).map (·.zero) = some (some (.agg (bv (List.replicate 64 0)).toArray)) := by kernel_rfl
theorem size_b64 : (Tryz.prog.info? 77).map (·.size) = some 64 := by kernel_rfl
theorem size_of64 (l : List UInt8) (hl : l.length = 64) : (Tryz.prog.info? 77).map (·.size) = some (bv l).toArray.size := by rw [ba_size, hl]; exact size_b64
theorem same64 (l l' : List UInt8) (hl : l.length = 64) (hl' : l'.length = 64) : (bv l).toArray.size = (bv l').toArray.size := by rw [ba_size, ba_size, hl, hl']

/-- The bytes that the words make which are so at first. -/
def streamC (F : List UInt32) : List UInt8 := lstream (sumW (drounds F 10) F)
theorem streamC_length (F : List UInt32) (hF : F.length = 16) : (streamC F).length = 64 := by
  have hD : (drounds F 10).length = 16 := (drounds_length F 10).trans hF
  rw [streamC, lstream_length, sumW_length _ _ 16 hD hF]
theorem streamC_words (key nonce : List UInt8) (c : UInt32) : streamC (words16C key nonce c) = blockC key nonce c := by rw [streamC, blockC]
theorem streamC_at (F D : List UInt32) (hD : D = drounds F 10) (m q r s : Nat) (x y : UInt32) (hq : q = m / 4) (hr : r = m % 4) (hs : s = 8 * r) (hx : F[q]? = some x) (hy : D[q]? = some y) : (streamC F)[m]? = some ((x + y) >>> UInt32.ofNat s).toUInt8 := by
  rw [hq] at hx hy
  rw [streamC, ← hD, hs, hr]
  apply lstream_at
  simp only [sumW, List.getElem?_zipWith, hx, hy]
  rw [UInt32.add_comm]

set_option maxRecDepth 100000 in
set_option maxHeartbeats 4000000 in
theorem stream_any (F : List UInt32) (hF : F.length = 16) (w : World) :
    Calls Tryz.prog 51 #[.agg (wv F)] w fun e w' => e = .returned (.agg (bv (streamC F)).toArray) ∧ Below w.heap.size w w' := by
  have L0 := Lib.hid hF
  have L1 : ∀ k, Hid ((drounds F k).length = 16) := fun k => by rw [Hid, drounds_length]; exact hF
  have L2 := Lib.hid (streamC_length F hF)
  have S16 := Lib.hid (size_of16 F hF)
  obtain ⟨R, hR⟩ : ∃ R, R = streamC F := ⟨_, rfl⟩
  rw [← hR] at L2
  have HR := Lib.hid hR
  have S64 := Lib.hid (size_of64 R L2.out)
  have Z64 := Lib.hid (same64 (List.replicate 64 0) R rfl L2.out)
  clear hF hR
  go_enter Tryz.func51, Tryz.ntmps51
  go_wp2_with (refine wpList_box_row rfl 75 _ rfl _ rfl ?_)
  intro w1 b1 x1 z1
  go_wp2_with (refine wpList_alloc_row rfl 77 rfl _ zero_b64 ?_)
  intro w2 b2 x2 z2
  have X1 : Hid (Whole w2 w.heap.size 75 (wv F)) := x1.below b2 (by omega)
  have B2 : Hid (Below w.heap.size w w2) := b1.trans (b2.mono (by omega))
  have X2 : Hid (Whole w2 (w.heap.size + 1) 77 (bv (List.replicate 64 0)).toArray) := x2
  have Z2 : Hid (w2.heap.size = w.heap.size + 2) := Lib.hid (by omega)
  clear b1 b2 x1 x2 z1 z2
  go_wp2_with (first | refine wpList_load_row rfl 75 _ rfl _ rfl _ _ _ _ X1.out Tryz.underlying75 rfl S16.out ?_ | refine wpList_alloc_row rfl 75 rfl _ zero_w16 ?_)
  intro w3 b3 x3 z3
  have X3 : Hid (Whole w3 w2.heap.size 75 (wv (List.replicate 16 0))) := x3
  have Y1 := Lib.hid (X1.out.below b3 (X1.out.lt))
  have Y2 := Lib.hid (X2.out.below b3 (X2.out.lt))
  have B3 := Lib.hid (B2.out.trans (b3.mono B2.out.size))
  clear b3 x3 z3 X1 X2 B2
  go_wp2_with (refine wpList_store_whole rfl 75 _ _ rfl _ _ rfl rfl _ _ X3.out S16.out (same16 _ F rfl L0.out) (wv_one _) ?_)
  intro w4 g4 x4 z4
  have X4 : Hid (Whole w4 w2.heap.size 75 (wv (drounds F 0))) := x4
  have Y14 := Lib.hid (Y1.out.grown g4 (by have := Z2.out; simp; omega))
  have Y24 := Lib.hid (Y2.out.grown g4 (by have := Z2.out; simp; omega))
  have B4 := Lib.hid (B3.out.grown g4 B3.out.size (fun k hk => by have := Z2.out; injection hk; omega))
  clear g4 x4 z4 X3 Y1 Y2 B3
  obtain ⟨g3, hg3⟩ : ∃ g3, g3 = w2.heap.size := ⟨_, rfl⟩
  rw [← hg3] at X4 Z2 ⊢
  clear hg3
  go_wp2_with fail
  go_loopw [8] (fun i wr => ∃ k : Nat, k ≤ 10 ∧ i = .int .i64 (k : Int) ∧ Whole wr g3 75 (wv (drounds F k)) ∧ Whole wr w.heap.size 75 (wv F) ∧ Whole wr (w.heap.size + 1) 77 (bv (List.replicate 64 0)).toArray ∧ Below w.heap.size w wr) (fun i _ => 10 - (intOf i).toNat)
  case atStart => exact ⟨0, Nat.zero_le _, rfl, X4.out, Y14.out, Y24.out, B4.out⟩
  case round =>
    obtain ⟨k, hk, rfl, x3, x1, x2, hb⟩ := hrel
    have X3 := Lib.hid x3
    have X1 := Lib.hid x1
    have X2 := Lib.hid x2
    have HB := Lib.hid hb
    clear x3 x1 x2 hb X4 Y14 Y24 B4
    by_cases hlt : k < 10
    · have dk : decide ((k : Int) < 10) = true := by simp; omega
      have CT := Lib.hid (turn_any (drounds F k) (L1 k).out wr)
      have LN := L1 (k + 1)
      have LK := L1 k
      have EN : Hid (dround (drounds F k) = drounds F (k + 1)) := by rw [Hid, drounds]
      rw [EN.out] at CT
      obtain ⟨D', hD'⟩ : ∃ D', D' = drounds F (k + 1) := ⟨_, rfl⟩
      obtain ⟨D, hD⟩ : ∃ D, D = drounds F k := ⟨_, rfl⟩
      rw [← hD'] at LN CT
      rw [← hD] at LK CT X3
      have HN := Lib.hid hD'
      clear hD hD' EN
      have SD := Lib.hid (size_of16 D LK.out)
      go_wp2_with (refine wpList_load_row rfl 75 _ rfl _ rfl _ _ _ _ X3.out Tryz.underlying75 rfl SD.out ?_)
      refine CT.out.mono ?_
      rintro e w5 ⟨rfl, b5⟩
      have U3 := Lib.hid (X3.out.below b5 X3.out.lt)
      have U1 := Lib.hid (X1.out.below b5 X1.out.lt)
      have U2 := Lib.hid (X2.out.below b5 X2.out.lt)
      have B5 := Lib.hid (HB.out.trans (b5.mono HB.out.size))
      clear b5 X3 X1 X2 HB CT
      go_wp2_with (refine wpList_store_whole rfl 75 _ _ rfl _ _ rfl rfl _ _ U3.out (size_of16 _ LN.out) (same16 _ _ LK.out LN.out) (wv_one _) ?_)
      intro w6 g6 x6 z6
      have V3 := Lib.hid x6
      have V1 := Lib.hid (U1.out.grown g6 (by have := Z2.out; simp; omega))
      have V2 := Lib.hid (U2.out.grown g6 (by have := Z2.out; simp; omega))
      have B6 := Lib.hid (B5.out.grown g6 B5.out.size (fun k hk => by have := Z2.out; injection hk; omega))
      clear g6 x6 z6 U3 U1 U2 B5
      go_wp2_with fail
      exact ⟨⟨k + 1, by omega, by go_num, by rw [← HN.out]; exact V3.out, V1.out, V2.out, B6.out⟩, by simp [intOf]; omega⟩
    · obtain rfl : k = 10 := by omega
      have LD := L1 10
      obtain ⟨D, hD⟩ : ∃ D, D = drounds F 10 := ⟨_, rfl⟩
      rw [← hD] at X3 LD
      have HD := Lib.hid hD
      clear hD hk hlt
      have Z3 := Lib.hid X3.out.lt
      go_wp2_with (refine wpList_alloc_row rfl 77 rfl _ zero_b64 ?_)
      intro w5 b5 x5 z5
      have W4 : Hid (Whole w5 wr.heap.size 77 (bv (doneTo R 64 0)).toArray) := x5
      have W3 := Lib.hid (X3.out.below b5 X3.out.lt)
      have W1 := Lib.hid (X1.out.below b5 X1.out.lt)
      have W2 := Lib.hid (X2.out.below b5 X2.out.lt)
      have HB5 := Lib.hid (HB.out.trans (b5.mono HB.out.size))
      clear b5 x5 z5 X3 X1 X2 HB
      obtain ⟨g4, hg4⟩ : ∃ g4, g4 = wr.heap.size := ⟨_, rfl⟩
      rw [← hg4] at W4 Z3 ⊢
      clear hg4
      go_wp2_with fail
      go_loopw [13] (fun i wr => ∃ m : Nat, m ≤ 64 ∧ i = .int .i64 (m : Int) ∧ Whole wr g4 77 (bv (doneTo R 64 m)).toArray ∧ Whole wr g3 75 (wv D) ∧ Whole wr w.heap.size 75 (wv F) ∧ Whole wr (w.heap.size + 1) 77 (bv (List.replicate 64 0)).toArray ∧ Below w.heap.size w wr) (fun i _ => 64 - (intOf i).toNat)
      case atStart => exact ⟨0, Nat.zero_le _, rfl, W4.out, W3.out, W1.out, W2.out, HB5.out⟩
      case round =>
        rename_i wr
        obtain ⟨m, hm, rfl, x4, x3, x1, x2, hb⟩ := hrel
        have X4 := Lib.hid x4
        have X3 := Lib.hid x3
        have X1 := Lib.hid x1
        have X2 := Lib.hid x2
        have HB := Lib.hid hb
        clear x4 x3 x1 x2 hb W4 W3 W1 W2 HB5
        by_cases hlt : m < 64
        · have dm : decide ((m : Int) < 64) = true := by simp; omega
          obtain ⟨q, hq⟩ : ∃ q, q = m / 4 := ⟨_, rfl⟩
          obtain ⟨r, hr⟩ : ∃ r, r = m % 4 := ⟨_, rfl⟩
          obtain ⟨s, hs⟩ : ∃ s, s = 8 * r := ⟨_, rfl⟩
          obtain ⟨x, hx⟩ := at16 F L0.out q (by omega)
          obtain ⟨y, hy⟩ := at16 D LD.out q (by omega)
          have HV := Lib.hid (streamC_at F D HD.out m q r s x y hq hr hs hx hy)
          rw [← HR.out] at HV
          have tq : IntKind.i64.wrap ((m : Int) / 4) = (q : Int) := by rw [IntWalk.i64_in _ (by omega)]; omega
          have tr : (m : Int).tmod 4 = (r : Int) := by rw [Int.tmod_eq_emod_of_nonneg (by omega)]; omega
          have ts : IntKind.i64.wrap (8 * (r : Int)) = (s : Int) := by rw [IntWalk.i64_in _ (by omega)]; omega
          have jq : (q : Int) < 16 := by omega
          have jm : (m : Int) < 64 := by omega
          have sh := run_shr_i s (by omega)
          have HS := Lib.hid (doneTo_put R 64 m _ L2.out HV.out)
          have HL := Lib.hid (doneTo_length R 64 m L2.out hm)
          have KX := Lib.hid ((X1.out.at_ q).trans (wv_at _ _ _ hx))
          have KY := Lib.hid ((X3.out.at_ q).trans (wv_at _ _ _ hy))
          have HM := Lib.hid (And.intro hm hlt)
          clear hq hr hs hx hy hm hlt HV
          obtain ⟨r1, -, -, -, -⟩ := rules_w
          go_wp2_with fail
          refine still_all (by kernel_rfl) (by kernel_rfl) fun w7 h7 b7 => ?_
          have kx := (World.cell?_of_block (a := ⟨w.heap.size, q, none⟩) (by rw [h7])).trans KX.out
          have ky := (World.cell?_of_block (a := ⟨g3, q, none⟩) (by rw [h7])).trans KY.out
          repeat still_step
          refine wpStill_nil ?_
          have U4 := Lib.hid (X4.out.of_heap h7)
          have U3 := Lib.hid (X3.out.of_heap h7)
          have U1 := Lib.hid (X1.out.of_heap h7)
          have U2 := Lib.hid (X2.out.of_heap h7)
          have B7 := Lib.hid (HB.out.trans (b7.mono HB.out.size))
          clear kx ky h7 b7 KX KY X4 X3 X1 X2 HB tq jq
          have cb := wd_byte ((x + y) >>> UInt32.ofNat s)
          generalize ((x + y) >>> UInt32.ofNat s).toUInt8 = c at *
          go_wp2_with (with_reducible refine wpList_put_b rfl _ _ rfl _ m ?hx c ?hy _ _ U4.out ?hi ?_)
          case hx => exact rfl
          case hy => exact rfl
          case hi => rw [HL.out]; exact HM.out.2
          intro w8 g8 x8 z8
          rw [HS.out] at x8
          have V4 := Lib.hid x8
          have V3 := Lib.hid (U3.out.grown g8 (by have := Z3.out; simp; omega))
          have V1 := Lib.hid (U1.out.grown g8 (by have := Z2.out; have := Z3.out; simp; omega))
          have V2 := Lib.hid (U2.out.grown g8 (by have := Z2.out; have := Z3.out; simp; omega))
          have B8 := Lib.hid (B7.out.grown g8 B7.out.size (fun k hk => by have := Z2.out; have := Z3.out; injection hk; omega))
          clear g8 x8 z8 U4 U3 U1 U2 B7 cb tr ts sh r1 jm
          have hlt := HM.out.2
          go_wp2_with fail
          exact ⟨⟨m + 1, by omega, by go_num, V4.out, V3.out, V1.out, V2.out, B8.out⟩, by simp [intOf]; omega⟩
        · obtain rfl : m = 64 := by omega
          have X5 : Hid (Whole wr g4 77 (bv R).toArray) := by
            have q := X4.out
            rw [doneTo_all R 64 L2.out] at q
            exact q
          clear X4
          go_upto_region 13 with fail
          refine wp_region_lit (wpList_load_row rfl 77 _ rfl _ rfl _ _ _ _ X5.out Tryz.underlying77 rfl S64.out (wpList_store_whole rfl 77 _ _ rfl _ _ rfl rfl _ _ X2.out S64.out Z64.out (ba_one _) ?_))
          intro w6 g6 x6 z6
          refine wpList_nil ?_
          have X6 := Lib.hid x6
          have HB6 := Lib.hid (HB.out.grown g6 HB.out.size (fun k hk => by injection hk; omega))
          clear x6 g6 z6
          go_wp2_with fail
          refine bodyPost_ret (v := .agg (bv R).toArray) ?_ rfl ⟨by rw [HR.out], HB6.out⟩
          exact results_cell_row rfl _ _ _ _ _ _ _ rfl X6.out Tryz.underlying77 rfl S64.out

/-- An array of bytes as a slice. -/
theorem bytes_of_row {w : World} {g : Nat} {t : TypeId} {l : List UInt8} {n : Nat} (h : Whole w g t (bv l).toArray) (hl : l.length = n) : BytesAt w (.slice (some ⟨g, 0, none⟩) n n) l := by
  subst hl
  refine ⟨_, _, rfl, Nat.le_refl _, fun _ => ⟨_, rfl, fun j c hj => ?_⟩⟩
  have ha : (⟨g, 0, none⟩ : Addr).add j = ⟨g, j, none⟩ := by unfold Addr.add; split <;> simp_all
  rw [ha, h.at_ j]
  exact ba_at _ _ _ hj

theorem block_bad (A0 A1 : Option Addr) (n0 n1 cap0 cap1 : Nat) (c : UInt32) (hn : n0 ≠ 32 ∨ n1 ≠ 12) (w : World) :
    Calls Tryz.prog 52 #[.slice A0 n0 cap0, .slice A1 n1 cap1, wd c] w fun e w' => e = .returned (.tuple #[.slice none 0 0, .int .i64 2]) ∧ Below w.heap.size w w' := by
  have CF := Lib.hid (fit_any A0 A1 n0 n1 cap0 cap1 w)
  have e : decide (n0 = 32 ∧ n1 = 12) = false := by simp; omega
  rw [e] at CF
  clear hn e
  go_enter Tryz.func52, Tryz.ntmps52
  go_wp2_with fail
  refine CF.out.mono ?_
  rintro e w1 ⟨rfl, rfl⟩
  go_wp2
  go_ret2
  exact ⟨rfl, Below.refl _ _⟩

set_option maxHeartbeats 1000000 in
theorem ciBlock_any (A0 A1 : Option Addr) (cap0 cap1 : Nat) (key nonce : List UInt8) (c : UInt32) (w : World) (h0 : BytesAt w (.slice A0 32 cap0) key) (h1 : BytesAt w (.slice A1 12 cap1) nonce) :
    Calls Tryz.prog 52 #[.slice A0 32 cap0, .slice A1 12 cap1, wd c] w fun e w' => ∃ v', e = .returned (.tuple #[v', .int .i64 0]) ∧ BytesAt w' v' (blockC key nonce c) ∧ Below w.heap.size w w' := by
  have CF := Lib.hid (fit_any A0 A1 32 12 cap0 cap1 w)
  have CB := Lib.hid (begin_any A0 A1 cap0 cap1 key nonce c w h0 h1)
  have CS := Lib.hid (stream_any (words16C key nonce c) (words16C_length key nonce c))
  have LB := Lib.hid (blockC_length key nonce c)
  rw [streamC_words] at CS
  obtain ⟨R, hR⟩ : ∃ R, R = blockC key nonce c := ⟨_, rfl⟩
  rw [← hR] at CS LB
  have HR := Lib.hid hR
  have S64 := Lib.hid (size_of64 R LB.out)
  have Z64 := Lib.hid (same64 (List.replicate 64 0) R rfl LB.out)
  have DT : decide (32 = 32 ∧ 12 = 12) = true := rfl
  rw [DT] at CF
  clear h0 h1 hR DT
  generalize words16C key nonce c = W at *
  go_enter Tryz.func52, Tryz.ntmps52
  go_wp2_with fail
  refine CF.out.mono ?_
  rintro e w1 ⟨rfl, rfl⟩
  go_wp2_with fail
  refine CB.out.mono ?_
  rintro e w2 ⟨rfl, b2⟩
  have B2 := Lib.hid b2
  clear b2 CF CB
  go_wp2_with fail
  refine (CS.out w2).mono ?_
  rintro e w3 ⟨rfl, b3⟩
  have B3 := Lib.hid (B2.out.trans (b3.mono B2.out.size))
  clear b3 B2 CS
  go_wp2_with (refine wpList_alloc_row rfl 77 rfl _ zero_b64 ?_)
  intro w4 b4 x4 z4
  have X4 := Lib.hid x4
  have B4 := Lib.hid (B3.out.trans (b4.mono B3.out.size))
  have Z3 := Lib.hid B3.out.size
  clear x4 b4 z4 B3
  go_wp2_with (refine wpList_store_whole rfl 77 _ _ rfl _ _ rfl rfl _ _ X4.out S64.out Z64.out (ba_one _) ?_)
  intro w5 g5 x5 z5
  have B5 := Lib.hid (B4.out.grown g5 B4.out.size (fun k hk => by have := Z3.out; injection hk; omega))
  have Y5 : Hid (BytesAt w5 (.slice (some ⟨w3.heap.size, 0, none⟩) 64 64) (blockC key nonce c)) := by
    rw [← HR.out]
    exact Lib.hid (bytes_of_row x5 LB.out)
  clear x5 g5 z5 B4 X4
  go_wp2
  go_ret2
  exact ⟨_, rfl, Y5.out, B5.out⟩
end Go.Proofs.YtmnhpkdldeifgaaGreatDoor
