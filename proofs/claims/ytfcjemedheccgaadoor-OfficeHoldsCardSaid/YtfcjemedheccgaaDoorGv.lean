/- What package derive's Extract and Expand answer. What the document's Expand and Named (carcanetref05) answer. -/
import Derived.Test.YtfcjemedheccgaaDoorGu
import Derived.Test.YtfcjemedheccgaaDoorGb
import Derived.Test.YtfcjemedheccgaaDoorGj
import Derived.Deep.LoopGhost
import Derived.OwnWalk
namespace Go.Proofs.YtfcjemedheccgaaDoor
set_option maxRecDepth 100000
open Go.RowKit

set_option maxHeartbeats 1000000 in
theorem expand_bad (v0 v1 : Value) (z : Int) (hz : z < 0 ∨ 8160 < z) (w : World) :
    Calls Tryd.prog 53 #[v0, v1, .int .i64 z] w fun e w' => e = .returned (.tuple #[.slice none 0 0, .int .i64 2]) ∧ Below w.heap.size w w' := by
  by_cases h0 : z < 0
  · have d0 : decide (z < 0) = true := by simpa using h0
    clear hz
    go_enter Tryd.func53, Tryd.ntmps53
    go_wp2
    go_step3
    go_wp2
    rw [Exit.noGoto_ret]
    go_ret2
    exact ⟨rfl, Below.refl _ _⟩
  · have d0 : decide (z < 0) = false := by simpa using h0
    have d1 : decide (8160 < z) = true := by simp; omega
    clear hz
    go_enter Tryd.func53, Tryd.ntmps53
    go_wp2
    go_step3
    go_wp2
    rw [Exit.noGoto_ret]
    go_ret2
    exact ⟨rfl, Below.refl _ _⟩


theorem u8_wrap (k : Nat) (h : k + 2 ≤ 255) : IntKind.u8.wrap (((k + 1 : Nat) : Int) + 1) = ((k + 2 : Nat) : Int) := by
  rw [IntWalk.u8_in _ (by omega)]
  omega
theorem ofNat_u8 (k : Nat) (h : k ≤ 255) : (((UInt8.ofNat k).toNat : Nat) : Int) = (k : Int) := by
  have : (UInt8.ofNat k).toNat = k := by simp; omega
  rw [this]

set_option maxHeartbeats 4000000 in
theorem expand_any (v0 v1 : Value) (key info : List UInt8) (n : Nat) (w : World) (h0 : BytesAt w v0 key) (h1 : BytesAt w v1 info) (hk : key.length ≤ 5000) (hi : info.length ≤ 4800) (hn : n ≤ 8160) (T : Tab w) :
    Calls Tryd.prog 53 #[v0, v1, .int .i64 (n : Int)] w fun e w' => ∃ v', e = .returned (.tuple #[v', .int .i64 0]) ∧ BytesAt w' v' (expandL key info n) ∧ Below w.heap.size w w' := by
  have d0 : decide ((n : Int) < 0) = false := by simp
  have d1 : decide ((8160 : Int) < (n : Int)) = false := by simp; omega
  by_cases hz : n = 0
  · subst hz
    go_enter Tryd.func53, Tryd.ntmps53
    go_wp2
    go_step3
    go_wp2
    rw [Exit.noGoto_ret]
    go_ret2
    have e : expandL key info 0 = [] := List.eq_nil_of_length_eq_zero (expandL_length key info 0)
    rw [e]
    exact ⟨_, rfl, BytesAt.nil _, Below.refl _ _⟩
  · obtain ⟨i0, hi0, hz0, hz1, hz2⟩ := info_parts byte_info
    have T0 := Lib.hid T
    have H0 := Lib.hid h0
    have H1 := Lib.hid h1
    have d2 : ((n : Int) == 0) = false := by simp; omega
    obtain ⟨A0, cap0, rfl, -, -⟩ := h0
    obtain ⟨A1, cap1, rfl, -, -⟩ := h1
    clear T
    go_enter Tryd.func53, Tryd.ntmps53
    go_wp2
    go_step3
    go_wp2_with (at_make; refine wpList_make_own _ rfl _ _ 78 rfl w.heap.size 5 i0 (.int .u8 0) 1 Tryd.underlying78 hi0 hz0 hz1 .i64 .i64 _ n rfl rfl rfl (by rw [hz2]; omega) (by simp only [maxLen]; omega) (Nat.le_refl _) ?_)
    intro w1 ho1 hg1
    have HO1 := Lib.hid ho1
    have HB1 := Lib.hid ((Below.refl w.heap.size w).grown hg1 (Nat.le_refl _) (fun k hk => by cases hk))
    clear ho1 hg1
    go_wp2
    go_step3
    go_wp2
    go_loopg [8, 9, 10] 255 (fun g s8 s9 s10 wr => ∃ k : Nat, k + g = 255 ∧ 32 * k < n ∧ s10 = .int .u8 ((UInt8.ofNat (k + 1)).toNat : Int) ∧ wr.ownsRow w.heap.size 5 1 s8 (32 * k) (bv (exOut key info k)) ∧ BytesAt wr s9 (exT key info k) ∧ Below w.heap.size w wr)
    case atStart => exact ⟨0, rfl, by omega, rfl, HO1.out, BytesAt.nil _, HB1.out⟩
    case round =>
      obtain ⟨k, hkg, hkn, rfl, ho, hb9, hb⟩ := hrel
      have HB := Lib.hid hb
      have H9 := Lib.hid hb9
      obtain ⟨A9, cap9, rfl, -, -⟩ := hb9
      obtain ⟨A8, cap8, rfl⟩ := own_form ho
      have HO := Lib.hid ho
      have HR : Hid (macL key [exT key info k, info, [UInt8.ofNat (k + 1)]].flatten = exT key info (k + 1)) := by
        show macL key _ = macL key _
        simp
      have HF : Hid ([exT key info k, info, [UInt8.ofNat (k + 1)]].flatten.length ≤ 4900) := by
        have := exT_most key info k
        simp [Hid]
        omega
      have HL : Hid ((exT key info (k + 1)).length = 32) := exT_length key info k
      have HE : Hid (exOut key info k ++ exT key info (k + 1) = exOut key info (k + 1)) := Lib.hid rfl
      have HEL := Lib.hid (exOut_length key info k)
      have HX : Hid (n ≤ 32 * (k + 1) → (exOut key info k ++ exT key info (k + 1)).take n = expandL key info n) := fun h => by
        have := expandL_at key info n (k + 1) h (by omega)
        exact this
      have HT : Hid (exT key info (k + 1) = exT key info (k + 1)) := Lib.hid rfl
      obtain ⟨x2, hx2⟩ : ∃ y, y = UInt8.ofNat (k + 1 + 1) := ⟨_, rfl⟩
      have HW : Hid (k + 2 ≤ 255 → IntKind.u8.wrap (((UInt8.ofNat (k + 1)).toNat : Int) + 1) = (x2.toNat : Int)) := fun h => by
        rw [hx2, ofNat_u8 _ (by omega), ofNat_u8 _ (by omega)]
        exact u8_wrap k h
      have HX2 := Lib.hid hx2
      clear hx2
      generalize hx : UInt8.ofNat (k + 1) = x at *
      clear ho hb HO1 HB1 hx
      go_wp2_with fail
      have P3 := parts3_at wr (.slice A9 (exT key info k).length cap9) (.slice A1 info.length cap1) (exT key info k) info x H9.out (H1.out.below HB.out)
      have bc : Below wr.heap.size wr ((wr.alloc (.cells #[.int .u8 (x.toNat : Int)] 5)).alloc (.cells #[.slice A9 (exT key info k).length cap9, .slice A1 info.length cap1, .slice (some ⟨wr.heap.size, 0, none⟩) 1 1] 78)) := by
        have q := (Below.refl wr.heap.size wr).alloc (Nat.le_refl _) (.cells #[.int .u8 (x.toNat : Int)] 5)
        exact q.alloc q.size _
      generalize (wr.alloc (.cells #[.int .u8 (x.toNat : Int)] 5)).alloc (.cells #[.slice A9 (exT key info k).length cap9, .slice A1 info.length cap1, .slice (some ⟨wr.heap.size, 0, none⟩) 1 1] 78) = wc at *
      have BC := Lib.hid (HB.out.trans (bc.mono HB.out.size))
      have OC := Lib.hid (kept_below HO.out bc rfl)
      refine (parts_list _ _ 3 key [exT key info k, info, [x]] rfl wc P3 (H0.out.below BC.out) hk (by decide) HF.out (T0.out.below BC.out T0.out.pos)).mono ?_
      rintro e w2 ⟨v9, rfl, o9, b9⟩
      rw [HR.out] at o9
      obtain ⟨R, hR⟩ : ∃ R, R = exT key info (k + 1) := ⟨_, rfl⟩
      have HRR := Lib.hid hR
      rw [← hR] at o9 HL HE HX
      clear hR HT
      have B2 := Lib.hid (BC.out.trans (b9.mono BC.out.size))
      have O2 := Lib.hid (kept_below OC.out b9 rfl)
      have Y9 := Lib.hid (BytesAt.of_own o9)
      rw [HL.out] at o9
      obtain ⟨g, capg, rfl, hgb, hgl⟩ := o9.form (by omega)
      have HA : Hid (Apt (.slice A8 (32 * k) cap8) (.slice (some ⟨g, 0, none⟩) 32 capg)) := by
        refine .inr fun e => ?_
        have q := (HO.out.lt g e).2
        have := bc.size
        omega
      have hjk : 32 * (k + 1) = 32 * k + 32 := by omega
      obtain ⟨wo, hwo⟩ : ∃ wo, wo = wr := ⟨_, rfl⟩
      obtain ⟨go, hgo⟩ : ∃ go, go = gk := ⟨_, rfl⟩
      subst hwo hgo
      clear HB H9 P3 BC OC b9 hgl hgb o9 bc HF HR
      clear HO
      generalize exOut key info k = S at *
      go_wp2_with fail
      go_loopg [8, 36] 32 (fun g2 s8 s36 wy => ∃ j q : Nat, j + g2 = 32 ∧ q = 32 * k + j ∧ s36 = .int .i64 (j : Int) ∧ q < n ∧ wy.ownsRow w.heap.size 5 1 s8 q (bv (S ++ R.take j)) ∧ BytesAt wy (.slice (some ⟨g, 0, none⟩) 32 capg) R ∧ Apt s8 (.slice (some ⟨g, 0, none⟩) 32 capg) ∧ Below w.heap.size w wy)
      case atStart => exact ⟨0, _, rfl, rfl, rfl, hkn, by simpa using O2.out, Y9.out, HA.out, B2.out⟩
      case round =>
        obtain ⟨j, q, hj, hq, rfl, hqn, ho, hy, ha, hb⟩ := hrel
        obtain ⟨A8', cap8', rfl⟩ := own_form ho
        have HQ := Lib.hid hq
        have HY := Lib.hid hy
        have HAp := Lib.hid ha
        have HB := Lib.hid hb
        have HO := Lib.hid ho
        clear hq ho hb ha hy
        by_cases hj32 : j < 32
        · have dj : decide ((j : Int) < 32) = true := by simp; omega
          obtain ⟨c, hc⟩ : ∃ c, R[j]? = some c := ⟨_, List.getElem?_eq_getElem (by rw [HL.out]; exact hj32)⟩
          obtain ⟨b9, off9, e9, hb9, hcell⟩ := HY.out.spots (by intro e; have := HL.out; rw [e] at this; simp at this)
          injection e9 with e9
          injection e9 with e9 e10 _
          subst e9 e10
          have cj := hcell j c hc
          rw [Nat.zero_add] at cj
          have HN : Hid (bv (S ++ R.take j) ++ bv [c] = bv (S ++ R.take (j + 1))) := by
            rw [Hid, ← bv_append, take_at hc, List.append_assoc]
          have z1 : BytesAt (wr.alloc (.cells #[.int .u8 (c.toNat : Int)] 5)) (.slice (some ⟨wr.heap.size, 0, none⟩) 1 1) [c] := BytesAt.lit wr [c] _ rfl
          have hO1 := HO.out.alloc (.cells #[.int .u8 (c.toNat : Int)] 5)
          have hB1 := HB.out.alloc HB.out.size (.cells #[.int .u8 (c.toNat : Int)] 5)
          have hY1 := Lib.hid (HY.out.below ((Below.refl _ _).alloc (Nat.le_refl _) (.cells #[.int .u8 (c.toNat : Int)] 5)))
          clear hcell hc
          go_wp2_with (with_reducible refine wpList_append_bytes_at rfl _ _ rfl w.heap.size _ _ _ ?hv hO1 _ _ ?hx z1 ?hlen ?hbase ?_)
          case hlen => omega
          case hbase => simpa using hB1.size
          intro v8 w3 ho3 hg3 hat3
          obtain ⟨m, hm⟩ : ∃ m, m = q + 1 := ⟨_, rfl⟩
          rw [HN.out, ← hm] at ho3
          have lt3 := hO1.lt
          have B3 := Lib.hid (hB1.grown hg3 hB1.size (fun k hk => (lt3 k hk).1))
          have Y3 := Lib.hid (hY1.out.keep (w' := w3) fun _ b hb hv => hg3.block b hb (by rw [← hv]; exact (HAp.out.far.resolve_left (by simp [Value.ownBlock]))))
          have A3 : Hid (Apt v8 (.slice (some ⟨g, 0, none⟩) 32 capg)) := by
            rcases hat3 with e1 | e1
            · unfold Hid Apt; rw [e1]; exact HAp.out
            · refine .inr fun e2 => ?_
              rw [e1] at e2
              simp [Value.ownBlock] at e2
              omega
          obtain ⟨A3', cap3, rfl⟩ := own_form ho3
          have O3 := Lib.hid ho3
          clear lt3 hg3 hat3 ho3 hO1 hB1 hY1 z1 cj
          by_cases hend : m = n
          · subst hend
            have HZ : Hid (BytesAt w3 (.slice A3' m cap3) (expandL key info m)) := by
              have e : bv (S ++ R.take (j + 1)) = bv (expandL key info m) := by
                have e1 : m = S.length + (j + 1) := by have := HQ.out; have := HEL.out; omega
                rw [← HX.out (by have := HQ.out; omega), e1, List.take_length_add_append]
              have q3 := O3.out
              rw [e] at q3
              exact BytesAt.of_own (base := w.heap.size) (by rw [expandL_length]; exact q3)
            clear O3 HN HX HE
            go_wp2
            rw [Exit.noGoto_ret]
            go_ret2
            exact ⟨_, rfl, HZ.out, B3.out⟩
          · have dm : ((m : Int) == (n : Int)) = false := by simp; omega
            have HM : Hid (m = q + 1) := hm
            clear hm HN
            go_wp2_with fail
            go_roundg (gk - 1)
            case measure => omega
            case rel => exact ⟨j + 1, m, by omega, by have := HM.out; have := HQ.out; omega, by go_num, by have := HM.out; omega, O3.out, Y3.out, A3.out, B3.out⟩
        · have dj : decide ((j : Int) < 32) = false := by simp; omega
          have hj' : j = 32 := by omega
          have HZ : Hid (wr.ownsRow w.heap.size 5 1 (.slice A8' q cap8') (32 * (k + 1)) (bv (exOut key info (k + 1)))) := by
            have e : R.take j = R := List.take_of_length_le (by rw [HL.out]; omega)
            have q3 := HO.out
            rw [e, HE.out, show q = 32 * (k + 1) by have := HQ.out; omega] at q3
            rw [show q = 32 * (k + 1) by have := HQ.out; omega]
            exact q3
          have hkn2 : 32 * (k + 1) < n := by have := HQ.out; omega
          have tw := HW.out (by omega)
          have hq2 : q = 32 * (k + 1) := by have := HQ.out; omega
          have HQ2 := Lib.hid hq2
          clear hq2 HO
          go_wp2_with fail
          go_roundg (go - 1)
          case measure => omega
          case rel => exact ⟨k + 1, by omega, hkn2, by rw [← HX2.out], HZ.out, by rw [← HRR.out]; exact HY.out, HB.out⟩
end Go.Proofs.YtfcjemedheccgaaDoor

namespace Go.Proofs.YtfcjemedheccgaaDoor
set_option maxRecDepth 100000
open Go.RowKit

set_option maxHeartbeats 1000000 in
theorem refExpand_bad (v0 v1 : Value) (z : Int) (hz : z < 0 ∨ 8160 < z) (w : World) :
    Calls Tryd.prog 54 #[v0, v1, .int .i64 z] w fun e w' => e = .returned (.tuple #[.slice none 0 0, .int .i64 2]) ∧ Below w.heap.size w w' := by
  by_cases h0 : z < 0
  · have d0 : decide (z < 0) = true := by simpa using h0
    clear hz
    go_enter Tryd.func54, Tryd.ntmps54
    go_wp2
    go_ret2
    exact ⟨rfl, Below.refl _ _⟩
  · have d0 : decide (z < 0) = false := by simpa using h0
    have d1 : decide (8160 < z) = true := by simp; omega
    clear hz
    go_enter Tryd.func54, Tryd.ntmps54
    go_wp2
    go_ret2
    exact ⟨rfl, Below.refl _ _⟩

set_option maxHeartbeats 4000000 in
theorem refExpand_any (v0 v1 : Value) (key info : List UInt8) (n : Nat) (w : World) (h0 : BytesAt w v0 key) (h1 : BytesAt w v1 info) (hk : key.length ≤ 5000) (hi : info.length ≤ 4800) (hn : n ≤ 8160) :
    Calls Tryd.prog 54 #[v0, v1, .int .i64 (n : Int)] w fun e w' => ∃ v', e = .returned (.tuple #[v', .int .i64 0]) ∧ BytesAt w' v' (expandL key info n) ∧ Below w.heap.size w w' := by
  have d0 : decide ((n : Int) < 0) = false := by simp
  have d1 : decide ((8160 : Int) < (n : Int)) = false := by simp; omega
  have H0 := Lib.hid h0
  have H1 := Lib.hid h1
  obtain ⟨A0, cap0, rfl, -, -⟩ := h0
  obtain ⟨A1, cap1, rfl, -, -⟩ := h1
  go_enter Tryd.func54, Tryd.ntmps54
  go_wp2_with fail
  go_loopw [8, 9, 10] (fun s8 s9 s10 wr => ∃ k : Nat, 32 * k < n + 32 ∧ s10 = .int .i64 ((k + 1 : Nat) : Int) ∧ wr.ownsRow w.heap.size 5 1 s8 (32 * k) (bv (exOut key info k)) ∧ BytesAt wr s9 (exT key info k) ∧ Below w.heap.size w wr) (fun _ _ s10 _ => 300 - (intOf s10).toNat)
  case atStart => exact ⟨0, by omega, rfl, World.ownsRow_nil _ _ _ _, BytesAt.nil _, Below.refl _ _⟩
  case round =>
    obtain ⟨k, hkn, rfl, ho, hb9, hb⟩ := hrel
    have HB := Lib.hid hb
    have H9 := Lib.hid hb9
    obtain ⟨A9, cap9, rfl, -, -⟩ := hb9
    obtain ⟨A8, cap8, rfl⟩ := own_form ho
    have HO := Lib.hid ho
    clear ho hb
    by_cases hlt : 32 * k < n
    · have hx : IntKind.u8.wrap ((k + 1 : Nat) : Int) = ((UInt8.ofNat (k + 1)).toNat : Int) := by
        rw [ofNat_u8 _ (by omega), IntWalk.u8_in _ (by omega)]
      obtain ⟨q, hq⟩ : ∃ q, q = 32 * k := ⟨_, rfl⟩
      have HQ := Lib.hid hq
      rw [← hq] at HO hlt ⊢
      have dq : decide ((q : Int) < (n : Int)) = true := by simp; omega
      have HM : Hid (macL key (exT key info k ++ info ++ [UInt8.ofNat (k + 1)]) = exT key info (k + 1)) := Lib.hid rfl
      have HTM := Lib.hid (exT_most key info k)
      have HL : Hid ((exT key info (k + 1)).length = 32) := exT_length key info k
      have HE : Hid (exOut key info k ++ exT key info (k + 1) = exOut key info (k + 1)) := Lib.hid rfl
      generalize UInt8.ofNat (k + 1) = x at *
      clear hq
      generalize hp : k + 1 = p at *
      have HP := Lib.hid hp
      clear hp
      generalize exT key info k = T0 at *
      have o1 := own_empty wr
      have b1 : Below wr.heap.size wr (wr.alloc (.cells #[] 5)) := (Below.refl _ _).alloc (Nat.le_refl _) _
      go_wp2_with (with_reducible refine wpList_append_bytes rfl _ _ rfl wr.heap.size _ _ _ ?hv o1 _ _ ?hx (H9.out.below b1) ?hlen ?hbase ?_)
      case hv => exact rfl
      case hx => exact rfl
      case hlen => have := HTM.out; omega
      case hbase => exact b1.size
      intro v2 w2 ho2 hg2
      have lt2 := o1.lt
      have B2 := Lib.hid (b1.grown hg2 b1.size (fun k hk => (lt2 k hk).1))
      have O2 : Hid (w2.ownsRow wr.heap.size 5 1 v2 T0.length (bv T0)) := by simpa [Hid] using ho2
      obtain ⟨A2, cap2, rfl⟩ := own_form O2.out
      clear lt2 ho2 hg2 o1 b1
      have HI2 := Lib.hid (H1.out.below (HB.out.trans (B2.out.mono HB.out.size)))
      go_wp2_with (with_reducible refine wpList_append_bytes rfl _ _ rfl wr.heap.size _ _ _ ?hv O2.out _ _ ?hx HI2.out ?hlen ?hbase ?_)
      case hv => exact rfl
      case hx => exact rfl
      case hlen => have := HTM.out; omega
      case hbase => exact B2.out.size
      intro v3 w3 ho3 hg3
      have lt3 := O2.out.lt
      have B3 := Lib.hid (B2.out.grown hg3 B2.out.size (fun k hk => (lt3 k hk).1))
      rw [← bv_append] at ho3
      have O3 := Lib.hid ho3
      obtain ⟨A3, cap3, rfl⟩ := own_form ho3
      clear lt3 ho3 hg3 O2 B2 HI2
      have z3 : BytesAt (w3.alloc (.cells #[.int .u8 (x.toNat : Int)] 5)) (.slice (some ⟨w3.heap.size, 0, none⟩) 1 1) [x] := BytesAt.lit w3 [x] _ rfl
      have o3 := O3.out.alloc (.cells #[.int .u8 (x.toNat : Int)] 5)
      have b3 := B3.out.alloc B3.out.size (.cells #[.int .u8 (x.toNat : Int)] 5)
      go_wp2_with (with_reducible refine wpList_append_bytes rfl _ _ rfl wr.heap.size _ _ _ ?hv o3 _ _ ?hx z3 ?hlen ?hbase ?_)
      case hv => exact rfl
      case hx => exact rfl
      case hlen => have := HTM.out; simp; omega
      case hbase => exact b3.size
      intro v4 w4 ho4 hg4
      have lt4 := o3.lt
      have B4 := Lib.hid (b3.grown hg4 b3.size (fun k hk => (lt4 k hk).1))
      rw [← bv_append] at ho4
      have Y4 := Lib.hid (BytesAt.of_own (l := T0 ++ info ++ [x]) (by simpa [Nat.add_assoc] using ho4))
      have LY : Hid ((T0 ++ info ++ [x]).length ≤ 4900) := by
        have := HTM.out
        simp [Hid]
        omega
      clear lt4 ho4 hg4 o3 b3 z3 O3 B3
      have BW := Lib.hid (HB.out.trans (B4.out.mono HB.out.size))
      have OW := Lib.hid (kept_below HO.out B4.out rfl)
      generalize T0 ++ info ++ [x] = M at *
      go_wp2_with fail
      refine (refMac_own _ v4 key M w4 (H0.out.below BW.out) Y4.out hk LY.out).mono ?_
      rintro e w5 ⟨v5, rfl, o5, b5⟩
      rw [HM.out] at o5
      have B5 := Lib.hid (BW.out.trans (b5.mono BW.out.size))
      have O5 := Lib.hid (kept_below OW.out b5 rfl)
      have Y5 := Lib.hid (BytesAt.of_own o5)
      have A5 : Hid (v5.ownBlock = none ∨ v5.ownBlock ≠ (Value.slice A8 q cap8).ownBlock) := by
        rcases hb : v5.ownBlock with _ | b
        · exact .inl rfl
        · refine .inr fun e => ?_
          have q1 := (o5.lt b hb).1
          have q2 := (OW.out.lt b e.symm).2
          omega
      clear o5 b5 BW OW Y4 B4 HO HB
      go_wp2_with (with_reducible refine wpList_append_bytes rfl _ _ rfl w.heap.size _ _ _ ?hv O5.out _ _ ?hx Y5.out ?hlen ?hbase ?_)
      case hv => exact rfl
      case hx => exact rfl
      case hlen => have := HL.out; omega
      case hbase => exact B5.out.size
      intro v6 w6 ho6 hg6
      have lt6 := O5.out.lt
      have B6 := Lib.hid (B5.out.grown hg6 B5.out.size (fun k hk => (lt6 k hk).1))
      have Y6 := Lib.hid (Y5.out.keep (w' := w6) fun _ b hb hv => hg6.block b hb (by rw [← hv]; exact (A5.out.resolve_left (by rw [hv]; simp))))
      rw [← bv_append, HE.out, show q + (exT key info p).length = 32 * p by have := HL.out; have := HQ.out; have := HP.out; omega] at ho6
      have O6 := Lib.hid ho6
      obtain ⟨A6, cap6, rfl⟩ := own_form ho6
      clear lt6 ho6 hg6 O5 Y5 A5 B5 hx
      have hp : p ≤ 255 := by have := HP.out; have := HQ.out; omega
      have tw : IntKind.i64.wrap ((p : Int) + 1) = ((p + 1 : Nat) : Int) := by rw [IntWalk.i64_in _ (by omega)]; omega
      go_wp2_with fail
      exact ⟨⟨p, by have := HP.out; have := HQ.out; omega, by go_num, O6.out, Y6.out, B6.out⟩, by simp [intOf]; omega⟩
    · obtain ⟨q, hq⟩ : ∃ q, q = 32 * k := ⟨_, rfl⟩
      have HQ := Lib.hid hq
      rw [← hq] at HO hlt ⊢
      have dq : decide ((q : Int) < (n : Int)) = false := by simp; omega
      have YO := Lib.hid (BytesAt.of_own (l := exOut key info k) (by have e := exOut_length key info k; rw [e, ← hq]; exact HO.out))
      have EX : Hid ((exOut key info k).take n = expandL key info n) := expandL_at key info n k (by omega) (by omega)
      have hcap := YO.out.size.2
      have hnc : n ≤ cap8 := by omega
      have YF := Lib.hid (YO.out.first n (by omega))
      rw [EX.out] at YF
      clear hq
      go_wp2
      go_ret2
      exact ⟨_, rfl, YF.out, HB.out⟩

theorem carc_str' (s : ByteArray) : ((⟨#[99, 97, 114, 99, 97, 110, 101, 116, 32]⟩ : ByteArray) ++ s).data.toList = carc ++ s.data.toList := by
  simp [carc]

set_option maxHeartbeats 1000000 in
theorem refNamed_any (v0 : Value) (s : ByteArray) (key : List UInt8) (w : World) (h0 : BytesAt w v0 key) (hk : key.length ≤ 5000) (hs : s.size ≤ 4700) :
    Calls Tryd.prog 39 #[v0, .string s] w fun e w' => ∃ v', e = .returned v' ∧ BytesAt w' v' (namedL key s.data.toList) ∧ Below w.heap.size w w' := by
  have H0 := Lib.hid h0
  have CS := Lib.hid (carc_str' s)
  have HI : Hid ((carc ++ s.data.toList).length ≤ 4800) := by
    simp [Hid, carc]; omega
  have HD : Hid (expandL key (carc ++ s.data.toList) 32 = namedL key s.data.toList) := Lib.hid rfl
  obtain ⟨vs, w1, hr, y1, b1⟩ := conv_str w ((⟨#[99, 97, 114, 99, 97, 110, 101, 116, 32]⟩ : ByteArray) ++ s)
  rw [CS.out] at y1
  have Y1 := Lib.hid y1
  have B1 := Lib.hid b1
  clear h0 y1 b1
  go_enter Tryd.func39, Tryd.ntmps39
  go_wp2_with fail
  refine (refExpand_any v0 vs key _ 32 w1 (H0.out.below B1.out) Y1.out hk HI.out (by decide)).mono ?_
  rintro e w2 ⟨v4, rfl, y2, b2⟩
  rw [HD.out] at y2
  have B2 := Lib.hid (B1.out.trans (b2.mono B1.out.size))
  have Y2 := Lib.hid y2
  clear y2 b2 hr
  go_wp2
  go_ret
  exact ⟨_, rfl, Y2.out, B2.out⟩
end Go.Proofs.YtfcjemedheccgaaDoor
