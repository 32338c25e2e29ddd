/- What the document's Pad answers. What the document's Sum and Id answer. -/
import Derived.Test.YtmnhpkdldeifgaaGreatDoorGy
import Derived.Test.YtmnhpkdldeifgaaGreatDoorGbr
import Derived.Test.YtmnhpkdldeifgaaGreatDoorGz
import Derived.Deep.Onto
namespace Go.Proofs.YtmnhpkdldeifgaaGreatDoor
set_option maxRecDepth 100000
open Go.RowKit

theorem refPad_neg (n : Int) (hn : n < 0) (w : World) : Calls Tryz.prog 100 #[.int .i64 n] w fun e w' => e = .returned (.slice none 0 0) ∧ w = w' := by
  have d : decide (n < 0) = true := by simp; omega
  go_enter Tryz.func100, Tryz.ntmps100
  go_wp2
  go_ret
  exact ⟨rfl, rfl⟩

theorem lit1 (w : World) (a : UInt8) : BytesAt (w.alloc (.cells #[.int .u8 (a.toNat : Int)] 5)) (.slice (some ⟨w.heap.size, 0, none⟩) 1 1) [a] := BytesAt.lit w [a] _ rfl
theorem lit0 (w : World) : BytesAt (w.alloc (.cells #[.int .u8 0] 5)) (.slice (some ⟨w.heap.size, 0, none⟩) 1 1) [0] := lit1 w 0
/-- What 2^56 is divided by, once a round. -/
def pw (i : Nat) : Nat := if i = 8 then 0 else 256 ^ (7 - i)
theorem pw_next (i : Nat) (hi : i < 8) : pw i / 256 = pw (i + 1) := by
  have h : i = 0 ∨ i = 1 ∨ i = 2 ∨ i = 3 ∨ i = 4 ∨ i = 5 ∨ i = 6 ∨ i = 7 := by omega
  rcases h with rfl | rfl | rfl | rfl | rfl | rfl | rfl | rfl <;> rfl
theorem pw_pos (i : Nat) (hi : i < 8) : 0 < pw i ∧ pw i ≤ 72057594037927936 := by
  have h : i = 0 ∨ i = 1 ∨ i = 2 ∨ i = 3 ∨ i = 4 ∨ i = 5 ∨ i = 6 ∨ i = 7 := by omega
  rcases h with rfl | rfl | rfl | rfl | rfl | rfl | rfl | rfl <;> decide
theorem pw_byte (n i B : Nat) (hi : i < 8) (hB : B = n * 8 % 18446744073709551616) : (be8 (n * 8))[i]? = some (UInt8.ofNat (B / pw i)) := by
  have e : 7 - (7 - i) = i := by omega
  have q := be8_at (n * 8) (7 - i) (by omega)
  rw [e] at q
  rw [q]
  congr 1
  apply UInt8.toNat_inj.1
  subst hB
  have h : i = 0 ∨ i = 1 ∨ i = 2 ∨ i = 3 ∨ i = 4 ∨ i = 5 ∨ i = 6 ∨ i = 7 := by omega
  rcases h with rfl | rfl | rfl | rfl | rfl | rfl | rfl | rfl <;> simp [pw] <;> omega

set_option maxHeartbeats 1000000 in
theorem refPad_any (n : Nat) (hn : n < 9223372036854775808) (w : World) :
    Calls Tryz.prog 100 #[.int .i64 (n : Int)] w fun e w' => ∃ v, e = .returned v ∧ BytesAt w' v (padL n) ∧ Below w.heap.size w w' := by
  have d0 : decide ((n : Int) < 0) = false := by simp
  go_enter Tryz.func100, Tryz.ntmps100
  go_wp2_with fail
  go_loopw [3] (fun v wr => ∃ j : Nat, j ≤ zerosFor n ∧ wr.ownsRow w.heap.size 5 1 v (1 + j) (bv (128 :: List.replicate j 0)) ∧ Below w.heap.size w wr) (fun v _ => match v with | .slice _ k _ => 100 - k | _ => 0)
  case atStart => exact ⟨0, Nat.zero_le _, World.ownsRow_lit w #[.int .u8 128] 1 (Nat.le_refl _) (by simp [maxLen]) rfl, (Below.refl _ _).alloc (Nat.le_refl _) _⟩
  case round =>
    obtain ⟨j, hj, ho, hb⟩ := hrel
    have HO := Lib.hid ho
    have HB := Lib.hid hb
    obtain ⟨g, cap, hv, -⟩ := ho.form (by omega)
    subst hv
    have hz : zerosFor n < 64 := by rw [zerosFor]; omega
    by_cases hlt : j < zerosFor n
    · have d1 : (((n : Int) % 64 + ((1 + j : Nat) : Int) + 8) % 64 != 0) = true := by
        rw [bne_iff_ne]
        simp only [zerosFor] at hlt
        omega
      clear ho hb
      go_wp2_with (with_reducible refine wpList_append_bytes rfl _ _ rfl w.heap.size _ _ _ ?hv (HO.out.alloc _) _ _ ?hx (lit0 wr) ?hlen ?hbase ?_)
      case hv => exact rfl
      case hx => exact rfl
      case hlen => simp; omega
      case hbase => simp; have := HB.out.size; omega
      intro v' w2 ho2 hg2
      have hlt2 := HO.out.lt
      have HB2 := Lib.hid ((HB.out.alloc HB.out.size (.cells #[.int .u8 0] 5)).grown hg2 (by simp; have := HB.out.size; omega) (fun k hk => (hlt2 k hk).1))
      have e2 : (128 :: List.replicate j 0 : List UInt8) ++ [0] = 128 :: List.replicate (j + 1) 0 := by rw [List.replicate_succ']; rfl
      rw [← bv_append, e2] at ho2
      obtain ⟨g2, cap2, hv2, -⟩ := ho2.form (by omega)
      subst hv2
      have HO2 := Lib.hid ho2
      clear ho2 hg2 hlt2 d1 e2
      go_wp2_with fail
      refine ⟨⟨j + 1, by omega, HO2.out, HB2.out⟩, ?_⟩
      show 100 - (1 + j + 1) < 100 - (1 + j)
      omega
    · have hjz : j = zerosFor n := by omega
      have d1 : ((((n : Int) % 64 + (1 + (j : Int)) + 8) % 64) != 0) = false := by
        rw [bne_eq_false_iff_eq]
        simp only [zerosFor] at hjz
        omega
      obtain ⟨B, hB⟩ : ∃ B, B = n * 8 % 18446744073709551616 := ⟨_, rfl⟩
      have hBi : IntKind.u64.wrap ((n : Int) * 8) = (B : Int) := by
        rw [hB]
        simp [IntKind.wrap, IntKind.bits, IntKind.signed]
      have hB64 : B < 18446744073709551616 := by omega
      have PB : Hid (∀ i, i < 8 → (be8 (n * 8))[i]? = some (UInt8.ofNat (B / pw i))) := fun i hi => pw_byte n i B hi hB
      have PL : Hid (padL n = 128 :: List.replicate j 0 ++ be8 (n * 8)) := by rw [hjz]; exact rfl
      have PE := Lib.hid (be8_length (n * 8))
      generalize be8 (n * 8) = E at *
      have hj64 : j < 64 := by omega
      clear ho hb hlt hj hz hB hjz
      go_wp2_with fail
      go_loopw [3, 5] (fun v u wr => ∃ i : Nat, i ≤ 8 ∧ u = .int .u64 (pw i : Int) ∧ wr.ownsRow w.heap.size 5 1 v (1 + j + i) (bv (128 :: List.replicate j 0 ++ E.take i)) ∧ Below w.heap.size w wr) (fun v _ _ => match v with | .slice _ k _ => 1 + j + 9 - k | _ => 0)
      case atStart => exact ⟨0, Nat.zero_le _, rfl, by simpa using HO.out, HB.out⟩
      case round =>
        obtain ⟨i, hi, rfl, ho, hb⟩ := hrel
        clear HO HB
        have HO := Lib.hid ho
        have HB := Lib.hid hb
        obtain ⟨g', cap', hv, -⟩ := ho.form (by omega)
        subst hv
        by_cases hlt : i < 8
        · have hp := pw_pos i hlt
          have hnx := pw_next i hlt
          have hE := PB.out i hlt
          have HN := Lib.hid hnx
          generalize pw i = p at *
          have d2 : decide ((0 : Int) < (p : Int)) = true := by simp; omega
          have hp1 := hp.1
          have hp2 := hp.2
          obtain ⟨D, hD⟩ : ∃ D, D = B / p := ⟨_, rfl⟩
          have hDB : D ≤ B := by rw [hD]; exact Nat.div_le_self _ _
          have hDw : IntKind.u64.wrap ((B : Int) / (p : Int)) = (D : Int) := by
            rw [hD, ← Int.natCast_ediv, IntWalk.u64_in _ (by rw [← hD]; omega)]
          rw [← hD] at hE
          obtain ⟨c, hc⟩ : ∃ c : UInt8, c = UInt8.ofNat D := ⟨_, rfl⟩
          have hcb : (D : Int) % 256 = (c.toNat : Int) := by
            rw [hc]
            simp
          rw [← hc] at hE
          have HT := Lib.hid (take_at hE)
          have HC := Lib.hid hc
          clear ho hb hnx hE hc hp hD
          go_wp2_with (with_reducible refine wpList_append_bytes rfl _ _ rfl w.heap.size _ _ _ ?hv (HO.out.alloc _) _ _ ?hx (lit1 wr c) ?hlen ?hbase ?_)
          case hv => exact rfl
          case hx => exact rfl
          case hlen => simp; omega
          case hbase => simp; have := HB.out.size; omega
          intro v' w2 ho2 hg2
          have hlt2 := HO.out.lt
          have HB2 := Lib.hid ((HB.out.alloc HB.out.size (.cells #[.int .u8 (c.toNat : Int)] 5)).grown hg2 (by simp; have := HB.out.size; omega) (fun k hk => (hlt2 k hk).1))
          have e2 : (128 :: (List.replicate j 0 ++ E.take i) : List UInt8) ++ [c] = 128 :: (List.replicate j 0 ++ E.take (i + 1)) := by rw [HT.out]; simp
          rw [← bv_append, e2] at ho2
          obtain ⟨g2, cap2, hv2, -⟩ := ho2.form (by omega)
          subst hv2
          have HO2 := Lib.hid ho2
          clear ho2 hg2 hlt2
          go_wp2_with fail
          refine ⟨⟨i + 1, by omega, ?_, HO2.out, HB2.out⟩, ?_⟩
          · rw [← HN.out]
            go_num
          · show 1 + j + 9 - (1 + j + i + 1) < 1 + j + 9 - (1 + j + i)
            omega
        · have hi8 : i = 8 := by omega
          subst hi8
          have d2 : decide ((0 : Int) < (pw 8 : Int)) = false := by decide
          have HY : Hid (BytesAt wr (.slice (some ⟨g', 0, none⟩) (1 + j + 8) cap') (padL n)) := by
            apply BytesAt.of_own (base := w.heap.size)
            have e : E.take 8 = E := List.take_of_length_le (by rw [PE.out]; omega)
            rw [e] at ho
            have el : (padL n).length = 1 + j + 8 := by rw [PL.out]; simp [PE.out]; omega
            rw [el, PL.out]
            exact ho
          clear ho hb HO
          go_wp2
          go_ret
          exact ⟨_, rfl, HY.out, HB.out⟩
end Go.Proofs.YtmnhpkdldeifgaaGreatDoor

namespace Go.Proofs.YtmnhpkdldeifgaaGreatDoor
set_option maxRecDepth 100000
open Go.RowKit

theorem ofU32 (k : Nat) (hk : k < 32) (x : UInt32) (w : World) (d : Int) (hd : d = ((2 ^ k : Nat) : Int)) (t : TypeId) : (binOp .quo t (wd x) (.int .u32 d)).run Tryz.prog w = .ok (wd (x >>> UInt32.ofNat k)) w := run_quo k hk d hd t x w

set_option maxRecDepth 100000 in
set_option maxHeartbeats 4000000 in
theorem refSum_own (v : Value) (l : List UInt8) (hl : l.length ≤ 5000) (w : World) (hv : BytesAt w v l) :
    Calls Tryz.prog 93 #[v] w fun e w' => ∃ v', e = .returned v' ∧ w'.ownsRow w.heap.size 5 1 v' (sumL l).length (bv (sumL l)) ∧ Below w.heap.size w w' := by
  have H0 := Lib.hid hv
  obtain ⟨A, cap, rfl, hcap, -⟩ := hv
  go_enter Tryz.func93, Tryz.ntmps93
  go_wp2_with (with_reducible refine wpList_append_bytes rfl _ _ rfl w.heap.size _ _ _ ?hv (own_empty w) _ _ ?hx (H0.out.below ((Below.refl _ _).alloc (Nat.le_refl _) _)) ?hlen ?hbase ?_)
  case hv => exact rfl
  case hx => exact rfl
  case hlen => omega
  case hbase => simp
  intro v2 w2 ho2 hg2
  have B2 := Lib.hid (((Below.refl w.heap.size w).alloc (Nat.le_refl _) (.cells #[] 5)).grown hg2 (by simp) (fun k hk => ((own_empty w).lt k hk).1))
  have HO2 := Lib.hid ho2
  clear ho2 hg2
  go_wp2_with fail
  refine (refPad_any l.length (by omega) w2).mono ?_
  rintro e w3 ⟨vp, rfl, yp, b3⟩
  have hg3 : w2.grownBy w3 none := ⟨b3.os, b3.tape, b3.output, b3.size, fun k hk _ => b3.block k hk⟩
  have HO3 := Lib.hid (HO2.out.kept hg3 (Classical.em _))
  have YP := Lib.hid yp
  have B3 := Lib.hid (B2.out.trans (b3.mono B2.out.size))
  have PM := padL_most l.length
  have PW := padL_whole l.length
  have HAL : Hid (bv l ++ bv (padL l.length) = bv (allOf l)) := (bv_append _ _).symm
  have HAN : Hid (l.length + (padL l.length).length = (allOf l).length) := (allOf_length l).symm
  have hpl : (padL l.length).length ≤ 72 := PM.2
  clear b3 yp hg3 HO2 B2
  go_wp2_with (with_reducible refine wpList_append_bytes rfl _ _ rfl w.heap.size _ _ _ ?hv HO3.out _ _ ?hx YP.out ?hlen ?hbase ?_)
  case hv => exact rfl
  case hx => exact rfl
  case hlen => omega
  case hbase => exact B3.out.size
  intro v4 w4 ho4 hg4
  rw [HAL.out, HAN.out] at ho4
  have hlt4 := HO3.out.lt
  have B4 := Lib.hid (B3.out.grown hg4 B3.out.size (fun k hk => (hlt4 k hk).1))
  rw [HAN.out] at PW
  have hn9 : l.length + 9 ≤ (allOf l).length := by rw [← HAN.out]; omega
  have hn72 : (allOf l).length ≤ l.length + 72 := by rw [← HAN.out]; omega
  obtain ⟨ga, cap4, hv4, -⟩ := ho4.form (by omega)
  subst hv4
  have Y4 := Lib.hid (BytesAt.of_own ho4)
  have hcap4 := Y4.out.size.2
  have HSS : Hid (sumS l = blocks start (allOf l) ((allOf l).length / 64)) := Lib.hid rfl
  clear hlt4 ho4 hg4 HO3 YP B3 HAL HAN PM hpl
  generalize allOf l = all at *
  obtain ⟨n, hn⟩ : ∃ n, n = all.length := ⟨_, rfl⟩
  rw [← hn] at Y4 hcap4 hn9 hn72 PW HSS ⊢
  have HN := Lib.hid hn
  have HWN := Lib.hid PW
  have hn6 : n ≤ 6000 := by omega
  clear hn PW hn9 hn72 H0
  go_wp2_with fail
  refine (refStart_any w4).mono ?_
  rintro e w5 ⟨v5, rfl, y5, b5⟩
  have B5 := Lib.hid b5
  have Y5 := Lib.hid y5
  clear b5 y5
  go_wp2_with fail
  go_loopw [4, 5] (fun u i wr => ∃ k t : Nat, t = 64 * k ∧ t ≤ n ∧ i = .int .i64 (t : Int) ∧ WordsAt wr u (blocks start all k) ∧ Below w4.heap.size w4 wr) (fun _ i _ => n - (intOf i).toNat)
  case atStart => exact ⟨0, 0, rfl, Nat.zero_le _, rfl, Y5.out, B5.out⟩
  case round =>
    obtain ⟨k, t, ht, htn, rfl, x, hb⟩ := hrel
    clear Y5 B5
    have HB := Lib.hid hb
    have X1 := Lib.hid x
    have H8 := Lib.hid (blocks_length start all k rfl)
    have HT := Lib.hid ht
    clear hb x
    by_cases hlt : t < n
    · have h64 : t + 64 ≤ n := by have := HWN.out; omega
      have dt : decide ((t : Int) < (n : Int)) = true := by simp; omega
      have hct : cap4 ≠ t := by omega
      have hc64 : t + 64 ≤ cap4 := by omega
      have V8 := Lib.hid ((Y4.out.below HB.out).from t htn)
      rw [if_neg hct] at V8
      have h64l : 64 ≤ (all.drop t).length := by rw [List.length_drop, ← HN.out]; omega
      have V64 := Lib.hid (V8.out.first 64 (by omega))
      have ha : (⟨ga, 0, none⟩ : Addr).add t = ⟨ga, t, none⟩ := by unfold Addr.add; split <;> simp_all
      rw [Option.map_some, ha] at V64
      have CB := Lib.hid (refBlock_any u4 (.slice (some ⟨ga, t, none⟩) 64 (cap4 - t)) (blocks start all k) H8.out ((all.drop t).take 64) (by simp only [List.length_take]; omega) wr X1.out V64.out)
      have eB : blockS (blocks start all k) ((all.drop t).take 64) = blocks start all (k + 1) := by
        rw [HT.out]
        exact rfl
      rw [eB] at CB
      clear V8 V64 h64l ha eB ht
      generalize hB : blocks start all (k + 1) = R1 at *
      have HBB := Lib.hid hB
      clear hB
      go_wp2_with fail
      refine CB.out.mono ?_
      rintro e w9 ⟨v9, rfl, y9, b9⟩
      have Y9 := Lib.hid y9
      have HB9 := Lib.hid (HB.out.trans (b9.mono HB.out.size))
      clear b9 CB y9 HB
      have tw : IntKind.i64.wrap ((t : Int) + 64) = ((t + 64 : Nat) : Int) := by rw [IntWalk.i64_in _ (by omega)]; omega
      go_wp2_with fail
      have htk := HT.out
      rw [← HBB.out] at Y9
      refine ⟨⟨k + 1, t + 64, by omega, by omega, ?_, Y9.out, HB9.out⟩, by simp [intOf]; omega⟩
      go_num
    · have htn' : t = n := by omega
      have dt : decide ((t : Int) < (n : Int)) = false := by simp; omega
      have eS : blocks start all k = sumS l := by
        have h1 : n / 64 = k := by have := HT.out; omega
        rw [HSS.out, h1]
      rw [eS] at X1
      have BW := Lib.hid (B4.out.trans (HB.out.mono B4.out.size))
      have LS := Lib.hid (sumS_length l)
      have HSL : Hid (sumL l = stBytes (sumS l)) := Lib.hid rfl
      obtain ⟨bs, ofs, caps, hvs, hcs, hbs, hcells⟩ := X1.out
      have HC := Lib.hid hcells
      rw [LS.out] at hvs
      subst hvs
      generalize hS : sumS l = S at *
      have htb : t ≤ 6000 := by omega
      clear eS hS HSS ht htn htn' dt H8 HT hcells hcs Y4 X1
      go_wp2_with fail
      obtain ⟨wo, hwo⟩ : ∃ wo, wo = wr := ⟨_, rfl⟩
      subst hwo
      go_loopw [6, 7] (fun v i W0 => ∃ j : Nat, j ≤ 8 ∧ i = .int .i64 j ∧ W0.ownsRow wo.heap.size 5 1 v (4 * j) (bv (stBytes (S.take j))) ∧ Below wo.heap.size wo W0) (fun _ i _ => 8 - (intOf i).toNat)
      case atStart => exact ⟨0, Nat.zero_le _, rfl, World.ownsRow_nil _ _ _ _, Below.refl _ _⟩
      case round =>
        obtain ⟨j, hj, rfl, ho, hb⟩ := hrel
        have HO := Lib.hid ho
        have HBx := Lib.hid hb
        by_cases hj8 : j < 8
        · obtain ⟨x, hx⟩ : ∃ x, S[j]? = some x := ⟨_, List.getElem?_eq_getElem (show j < S.length by rw [LS.out]; exact hj8)⟩
          have hnx : stBytes (S.take (j + 1)) = stBytes (S.take j) ++ [(x >>> 24).toUInt8, (x >>> 16).toUInt8, (x >>> 8).toUInt8, x.toUInt8] := stBytes_next S j _ hx
          have HNX := Lib.hid hnx
          have KC := Lib.hid (HC.out j x hx)
          have d1 : decide ((j : Int) < 8) = true := by simp; omega
          have jj : (j : Int) < 8 := by omega
          have s24 := run_quo 24 (by decide) 16777216 rfl
          have s16 := run_quo 16 (by decide) 65536 rfl
          have s8 := run_quo 8 (by decide) 256 rfl
          have c24 := wd_byte (x >>> 24)
          have c16 := wd_byte (x >>> 16)
          have c8 := wd_byte (x >>> 8)
          have c0 := wd_byte x
          clear ho hb hx hnx
          generalize (x >>> 24).toUInt8 = y3 at *
          generalize (x >>> 16).toUInt8 = y2 at *
          generalize (x >>> 8).toUInt8 = y1 at *
          generalize x.toUInt8 = y0 at *
          go_upto_region 11 with fail
          refine regS_begin (fun w' => Below wo.heap.size wo w') (by kernel_rfl) HBx.out.drew ?_
          have hS : Below wo.heap.size wo wr.drew := HBx.out.drew
          have kc : ∀ w', Below wo.heap.size wo w' → w'.cell? ⟨bs, ofs + j, none⟩ = some (wd x) := fun w' h => (h.cell (p := ⟨bs, ofs + j, none⟩) hbs).trans KC.out
          have HO1 : Hid (wr.drew.ownsRow wo.heap.size 5 1 u6 (4 * j) (bv (stBytes (S.take j)))) := HO.out
          clear HO HBx
          generalize wr.drew = w1 at *
          refine regS_take (i := 0) (v := ?_) rfl (by kernel_rfl) (by kernel_rfl) (by kernel_rfl) (fun _ _ _ h => h) (by rfl) hS ?hy0 ?_
          case hy0 => intro w' hw'; go_simp; (try with_reducible rfl)
          simp only [Act.put, List.setIfInBounds_toArray, List.set_cons_zero, List.set_cons_succ]
          refine regS_take (i := 1) (v := ?_) rfl (by kernel_rfl) (by kernel_rfl) (by kernel_rfl) (fun _ _ _ h => h) (by rfl) hS ?hy1 ?_
          case hy1 => intro w' hw'; go_simp; (try with_reducible rfl)
          simp only [Act.put, List.setIfInBounds_toArray, List.set_cons_zero, List.set_cons_succ]
          refine regS_take (i := 2) (v := ?_) rfl (by kernel_rfl) (by kernel_rfl) (by kernel_rfl) (fun _ _ _ h => h) (by rfl) hS ?hy2 ?_
          case hy2 => intro w' hw'; go_simp; (try with_reducible rfl)
          simp only [Act.put, List.setIfInBounds_toArray, List.set_cons_zero, List.set_cons_succ]
          refine regS_take (i := 3) (v := ?_) rfl (by kernel_rfl) (by kernel_rfl) (by kernel_rfl) (fun _ _ _ h => h) (by rfl) hS ?hy3 ?_
          case hy3 => intro w' hw'; go_simp; (try with_reducible rfl)
          simp only [Act.put, List.setIfInBounds_toArray, List.set_cons_zero, List.set_cons_succ]
          refine regS_take (i := 4) (v := ?_) rfl (by kernel_rfl) (by kernel_rfl) (by kernel_rfl) (fun _ _ _ h => h) (by rfl) hS ?hy4 ?_
          case hy4 => intro w' hw'; go_simp; (try with_reducible rfl)
          simp only [Act.put, List.setIfInBounds_toArray, List.set_cons_zero, List.set_cons_succ]
          refine regS_take (i := 5) (v := ?_) rfl (by kernel_rfl) (by kernel_rfl) (by kernel_rfl) (fun _ _ _ h => h) (by rfl) hS ?hy5 ?_
          case hy5 => intro w' hw'; go_simp; (try with_reducible rfl)
          simp only [Act.put, List.setIfInBounds_toArray, List.set_cons_zero, List.set_cons_succ]
          refine regS_take (i := 6) (v := ?_) rfl (by kernel_rfl) (by kernel_rfl) (by kernel_rfl) (fun _ _ _ h => h) (by rfl) hS ?hy6 ?_
          case hy6 => intro w' hw'; go_simp; (try with_reducible rfl)
          simp only [Act.put, List.setIfInBounds_toArray, List.set_cons_zero, List.set_cons_succ]
          refine regS_take (i := 7) (v := ?_) rfl (by kernel_rfl) (by kernel_rfl) (by kernel_rfl) (fun _ _ _ h => h) (by rfl) hS ?hy7 ?_
          case hy7 => intro w' hw'; go_simp; (try with_reducible rfl)
          simp only [Act.put, List.setIfInBounds_toArray, List.set_cons_zero, List.set_cons_succ]
          refine regS_take (i := 8) (v := ?_) rfl (by kernel_rfl) (by kernel_rfl) (by kernel_rfl) (fun _ _ _ h => h) (by rfl) hS ?hy8 ?_
          case hy8 => intro w' hw'; go_simp; (try with_reducible rfl)
          simp only [Act.put, List.setIfInBounds_toArray, List.set_cons_zero, List.set_cons_succ]
          refine regS_take (i := 9) (v := ?_) rfl (by kernel_rfl) (by kernel_rfl) (by kernel_rfl) (fun _ _ _ h => h) (by rfl) hS ?hy9 ?_
          case hy9 => intro w' hw'; go_simp; (try with_reducible rfl)
          simp only [Act.put, List.setIfInBounds_toArray, List.set_cons_zero, List.set_cons_succ]
          refine regS_take (i := 10) (v := ?_) rfl (by kernel_rfl) (by kernel_rfl) (by kernel_rfl) (fun _ _ _ h => h) (by rfl) hS ?hy10 ?_
          case hy10 => intro w' hw'; go_simp; (try with_reducible rfl)
          simp only [Act.put, List.setIfInBounds_toArray, List.set_cons_zero, List.set_cons_succ]
          refine regS_take (i := 11) (v := ?_) rfl (by kernel_rfl) (by kernel_rfl) (by kernel_rfl) (fun _ _ _ h => h) (by rfl) hS ?hy11 ?_
          case hy11 => intro w' hw'; go_simp; (try with_reducible rfl)
          simp only [Act.put, List.setIfInBounds_toArray, List.set_cons_zero, List.set_cons_succ]
          refine regS_take (i := 12) (v := ?_) rfl (by kernel_rfl) (by kernel_rfl) (by kernel_rfl) (fun _ _ _ h => h) (by rfl) hS ?hy12 ?_
          case hy12 => intro w' hw'; go_simp; (try with_reducible rfl)
          simp only [Act.put, List.setIfInBounds_toArray, List.set_cons_zero, List.set_cons_succ]
          refine regS_take (i := 13) (v := ?_) rfl (by kernel_rfl) (by kernel_rfl) (by kernel_rfl) (fun _ _ _ h => h) (by rfl) hS ?hy13 ?_
          case hy13 => intro w' hw'; go_simp; (try with_reducible rfl)
          simp only [Act.put, List.setIfInBounds_toArray, List.set_cons_zero, List.set_cons_succ]
          refine regS_take (i := 14) (v := ?_) rfl (by kernel_rfl) (by kernel_rfl) (by kernel_rfl) (fun _ _ _ h => h) (by rfl) hS ?hy14 ?_
          case hy14 => intro w' hw'; go_simp; (try with_reducible rfl)
          simp only [Act.put, List.setIfInBounds_toArray, List.set_cons_zero, List.set_cons_succ]
          refine regS_take (i := 15) (v := ?_) rfl (by kernel_rfl) (by kernel_rfl) (by kernel_rfl) (fun _ _ _ h => h) (by rfl) hS ?hy15 ?_
          case hy15 => intro w' hw'; go_simp; (try with_reducible rfl)
          simp only [Act.put, List.setIfInBounds_toArray, List.set_cons_zero, List.set_cons_succ]
          refine regS_take (i := 16) (v := ?_) rfl (by kernel_rfl) (by kernel_rfl) (by kernel_rfl) (fun _ _ _ h => h) (by rfl) hS ?hy16 ?_
          case hy16 => intro w' hw'; go_simp; (try with_reducible rfl)
          simp only [Act.put, List.setIfInBounds_toArray, List.set_cons_zero, List.set_cons_succ]
          refine regS_take (i := 17) (v := ?_) rfl (by kernel_rfl) (by kernel_rfl) (by kernel_rfl) (fun _ _ _ h => h) (by rfl) hS ?hy17 ?_
          case hy17 => intro w' hw'; go_simp; (try with_reducible rfl)
          simp only [Act.put, List.setIfInBounds_toArray, List.set_cons_zero, List.set_cons_succ]
          refine regS_take (i := 18) (v := ?_) rfl (by kernel_rfl) (by kernel_rfl) (by kernel_rfl) (fun _ _ _ h => h) (by rfl) hS ?hy18 ?_
          case hy18 => intro w' hw'; go_simp; (try with_reducible rfl)
          simp only [Act.put, List.setIfInBounds_toArray, List.set_cons_zero, List.set_cons_succ]
          refine regS_take (i := 19) (v := ?_) rfl (by kernel_rfl) (by kernel_rfl) (by kernel_rfl) (fun _ _ _ h => h) (by rfl) hS ?hy19 ?_
          case hy19 => intro w' hw'; go_simp; (try with_reducible rfl)
          simp only [Act.put, List.setIfInBounds_toArray, List.set_cons_zero, List.set_cons_succ]
          refine regS_take (i := 20) (v := ?_) rfl (by kernel_rfl) (by kernel_rfl) (by kernel_rfl) (fun _ _ _ h => h) (by rfl) hS ?hy20 ?_
          case hy20 => intro w' hw'; go_simp; (try with_reducible rfl)
          simp only [Act.put, List.setIfInBounds_toArray, List.set_cons_zero, List.set_cons_succ]
          refine regS_take (i := 21) (v := ?_) rfl (by kernel_rfl) (by kernel_rfl) (by kernel_rfl) (fun _ _ _ h => h) (by rfl) hS ?hy21 ?_
          case hy21 => intro w' hw'; go_simp; (try with_reducible rfl)
          simp only [Act.put, List.setIfInBounds_toArray, List.set_cons_zero, List.set_cons_succ]
          refine regS_take (i := 22) (v := ?_) rfl (by kernel_rfl) (by kernel_rfl) (by kernel_rfl) (fun _ _ _ h => h) (by rfl) hS ?hy22 ?_
          case hy22 => intro w' hw'; go_simp; (try with_reducible rfl)
          simp only [Act.put, List.setIfInBounds_toArray, List.set_cons_zero, List.set_cons_succ]
          refine regS_take (i := 23) (v := ?_) rfl (by kernel_rfl) (by kernel_rfl) (by kernel_rfl) (fun _ _ _ h => h) (by rfl) hS ?hy23 ?_
          case hy23 => intro w' hw'; go_simp; (try with_reducible rfl)
          simp only [Act.put, List.setIfInBounds_toArray, List.set_cons_zero, List.set_cons_succ]
          clear kc s24 s16 s8 c24 c16 c8 c0
          refine regS_do (i := 24) rfl (by kernel_rfl) (fun K' hK => ?_)
          go_simp
          have sb : Below wo.heap.size wo (w1.alloc (.cells #[.int .u8 (y3.toNat : Int), .int .u8 (y2.toNat : Int), .int .u8 (y1.toNat : Int), .int .u8 (y0.toNat : Int)] 5)) := hS.alloc hS.size _
          have L4 := lit4 w1 y3 y2 y1 y0
          have O4 := HO1.out.alloc (.cells #[.int .u8 (y3.toNat : Int), .int .u8 (y2.toNat : Int), .int .u8 (y1.toNat : Int), .int .u8 (y0.toNat : Int)] 5)
          refine hK.out _ _ sb ?_
          clear hK K'
          generalize w1.alloc (.cells #[.int .u8 (y3.toNat : Int), .int .u8 (y2.toNat : Int), .int .u8 (y1.toNat : Int), .int .u8 (y0.toNat : Int)] 5) = w2 at *
          refine regS_do (i := 25) rfl (by kernel_rfl) (fun K' hK => ?_)
          rw [if_pos (by rfl)]
          refine wp_append_bytes _ _ rfl wo.heap.size _ _ _ rfl O4 _ _ rfl L4 (by simp; omega) sb.size ?_
          intro v' w5 ho5 hg5
          have hlt5 := O4.lt
          have sc : Below wo.heap.size wo w5 := sb.grown hg5 sb.size (fun k hk => (hlt5 k hk).1)
          rw [← bv_append, ← HNX.out] at ho5
          have HO5 := Lib.hid ho5
          refine hK.out _ _ sc ?_
          have SC := Lib.hid sc
          clear hK K' ho5 hg5 hlt5 L4 O4 sb hS
          simp only [Act.put, List.setIfInBounds_toArray, List.set_cons_zero, List.set_cons_succ]
          have hS := SC.out
          refine regS_take (i := 26) (v := ?_) rfl (by kernel_rfl) (by kernel_rfl) (by kernel_rfl) (fun _ _ _ h => h) (by rfl) hS ?hy26 ?_
          case hy26 => intro w' hw'; go_simp; (try with_reducible rfl)
          simp only [Act.put, List.setIfInBounds_toArray, List.set_cons_zero, List.set_cons_succ]
          refine regS_end (by kernel_rfl) ?_
          clear hS sc
          go_wp2_with fail
          refine ⟨⟨j + 1, by omega, by go_num, ?_, SC.out⟩, by simp [intOf]; omega⟩
          have q5 := HO5.out
          have e : 4 * j + 4 = 4 * (j + 1) := by omega
          rw [← e]
          exact q5
        · have hj8' : j = 8 := by omega
          have d1 : decide ((j : Int) < 8) = false := by simp; omega
          have HY : Hid (wr.ownsRow w.heap.size 5 1 u6 (sumL l).length (bv (sumL l))) := by
            refine World.ownsRow.mono (base := wo.heap.size) ?_ BW.out.size
            have e : S.take j = S := List.take_of_length_le (by rw [LS.out]; omega)
            rw [e] at ho
            rw [HSL.out, stBytes_length, LS.out, ← hj8']
            exact ho
          clear ho hb HO hj8' hj8
          go_wp2
          go_ret
          exact ⟨_, rfl, HY.out, BW.out.trans (HBx.out.mono BW.out.size)⟩
theorem refSum_any (v : Value) (l : List UInt8) (hl : l.length ≤ 5000) (w : World) (hv : BytesAt w v l) :
    Calls Tryz.prog 93 #[v] w fun e w' => ∃ v', e = .returned v' ∧ BytesAt w' v' (sumL l) ∧ Below w.heap.size w w' :=
  (refSum_own v l hl w hv).mono fun _ _ ⟨v', he, ho, hb⟩ => ⟨v', he, BytesAt.of_own ho, hb⟩
end Go.Proofs.YtmnhpkdldeifgaaGreatDoor
