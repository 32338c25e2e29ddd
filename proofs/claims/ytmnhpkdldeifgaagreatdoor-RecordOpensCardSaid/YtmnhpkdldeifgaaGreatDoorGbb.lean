/- What package derive's Extract and Expand answer. What package derive's Named answers. The library's table of powers of ten, as a condition on the world. DERIVED: THE SHELF's CONTRACTS AT THIS DUMP, IN PLAIN WORDS (tools/lay-plain.mjs out of 'YtmnhpkdldeifgaaGreatDoorShSoft.lean', which tools/lay-shelf.mjs wrote): THE SAME DECLARATIONS UNDER THE SAME NAMES: 'import', 'namespace', 'open', 'def', 'theorem' AND NOTHING ELSE: no command of the shelf's: FOR A HAND-IN. Each laying: the table of numbers ('.._ren') and one theorem, a field a fact of the dump's own or the kernel's comparison; each contract: ONE APPLICATION. strconv's Itoa, and package label's Number, as landed. Strings as lists of bytes. Package keys, as landed: Epoch. The parts of a record; results of three, a struct among them. -/
import Derived.Test.YtmnhpkdldeifgaaGreatDoorGba
import Derived.Test.YtmnhpkdldeifgaaGreatDoorGb
import Derived.Test.YtmnhpkdldeifgaaGreatDoorGg
import Derived.Deep.LoopGhost
import Derived.OwnWalk
import Derived.Lib.SmallJoins
import Derived.Lib.ItoaNum
import Derived.Lib.LaidTab
import Derived.Shelf.LaysM
import Derived.Shelf.Strconv.Itoa3
import Derived.Test.YtmnhpkdldeifgaaGreatDoorProg
import Derived.Test.YtmnhpkdldeifgaaGreatDoorGh
import Derived.Test.YtmnhpkdldeifgaaGreatDoorGa
import Derived.Test.YtmnhpkdldeifgaaGreatDoorGz
import Derived.Test.YtmnhpkdldeifgaaGreatDoorGc
namespace Go.Proofs.YtmnhpkdldeifgaaGreatDoor
set_option maxRecDepth 100000
open Go.RowKit

set_option maxHeartbeats 1000000 in
theorem expand_bad (v0 v1 : Value) (z : Int) (hz : z < 0 ∨ 8160 < z) (w : World) :
    Calls Tryz.prog 71 #[v0, v1, .int .i64 z] w fun e w' => e = .returned (.tuple #[.slice none 0 0, .int .i64 2]) ∧ Below w.heap.size w w' := by
  by_cases h0 : z < 0
  · have d0 : decide (z < 0) = true := by simpa using h0
    clear hz
    go_enter Tryz.func71, Tryz.ntmps71
    go_wp2
    go_step3
    go_wp2
    rw [Exit.noGoto_ret]
    go_ret2
    exact ⟨rfl, Below.refl _ _⟩
  · have d0 : decide (z < 0) = false := by simpa using h0
    have d1 : decide (8160 < z) = true := by simp; omega
    clear hz
    go_enter Tryz.func71, Tryz.ntmps71
    go_wp2
    go_step3
    go_wp2
    rw [Exit.noGoto_ret]
    go_ret2
    exact ⟨rfl, Below.refl _ _⟩


theorem u8_wrap (k : Nat) (h : k + 2 ≤ 255) : IntKind.u8.wrap (((k + 1 : Nat) : Int) + 1) = ((k + 2 : Nat) : Int) := by
  rw [IntWalk.u8_in _ (by omega)]
  omega
theorem ofNat_u8 (k : Nat) (h : k ≤ 255) : (((UInt8.ofNat k).toNat : Nat) : Int) = (k : Int) := by
  have : (UInt8.ofNat k).toNat = k := by simp; omega
  rw [this]

set_option maxHeartbeats 4000000 in
theorem expand_any (v0 v1 : Value) (key info : List UInt8) (n : Nat) (w : World) (h0 : BytesAt w v0 key) (h1 : BytesAt w v1 info) (hk : key.length ≤ 5000) (hi : info.length ≤ 4800) (hn : n ≤ 8160) (T : Tab w) :
    Calls Tryz.prog 71 #[v0, v1, .int .i64 (n : Int)] w fun e w' => ∃ v', e = .returned (.tuple #[v', .int .i64 0]) ∧ BytesAt w' v' (expandL key info n) ∧ Below w.heap.size w w' := by
  have d0 : decide ((n : Int) < 0) = false := by simp
  have d1 : decide ((8160 : Int) < (n : Int)) = false := by simp; omega
  by_cases hz : n = 0
  · subst hz
    go_enter Tryz.func71, Tryz.ntmps71
    go_wp2
    go_step3
    go_wp2
    rw [Exit.noGoto_ret]
    go_ret2
    have e : expandL key info 0 = [] := List.eq_nil_of_length_eq_zero (expandL_length key info 0)
    rw [e]
    exact ⟨_, rfl, BytesAt.nil _, Below.refl _ _⟩
  · obtain ⟨i0, hi0, hz0, hz1, hz2⟩ := info_parts byte_info
    have T0 := Lib.hid T
    have H0 := Lib.hid h0
    have H1 := Lib.hid h1
    have d2 : ((n : Int) == 0) = false := by simp; omega
    obtain ⟨A0, cap0, rfl, -, -⟩ := h0
    obtain ⟨A1, cap1, rfl, -, -⟩ := h1
    clear T
    go_enter Tryz.func71, Tryz.ntmps71
    go_wp2
    go_step3
    go_wp2_with (at_make; refine wpList_make_own _ rfl _ _ 25 rfl w.heap.size 5 i0 (.int .u8 0) 1 Tryz.underlying25 hi0 hz0 hz1 .i64 .i64 _ n rfl rfl rfl (by rw [hz2]; omega) (by simp only [maxLen]; omega) (Nat.le_refl _) ?_)
    intro w1 ho1 hg1
    have HO1 := Lib.hid ho1
    have HB1 := Lib.hid ((Below.refl w.heap.size w).grown hg1 (Nat.le_refl _) (fun k hk => by cases hk))
    clear ho1 hg1
    go_wp2
    go_step3
    go_wp2
    go_loopg [8, 9, 10] 255 (fun g s8 s9 s10 wr => ∃ k : Nat, k + g = 255 ∧ 32 * k < n ∧ s10 = .int .u8 ((UInt8.ofNat (k + 1)).toNat : Int) ∧ wr.ownsRow w.heap.size 5 1 s8 (32 * k) (bv (exOut key info k)) ∧ BytesAt wr s9 (exT key info k) ∧ Below w.heap.size w wr)
    case atStart => exact ⟨0, rfl, by omega, rfl, HO1.out, BytesAt.nil _, HB1.out⟩
    case round =>
      obtain ⟨k, hkg, hkn, rfl, ho, hb9, hb⟩ := hrel
      have HB := Lib.hid hb
      have H9 := Lib.hid hb9
      obtain ⟨A9, cap9, rfl, -, -⟩ := hb9
      obtain ⟨A8, cap8, rfl⟩ := own_form ho
      have HO := Lib.hid ho
      have HR : Hid (macL key [exT key info k, info, [UInt8.ofNat (k + 1)]].flatten = exT key info (k + 1)) := by
        show macL key _ = macL key _
        simp
      have HF : Hid ([exT key info k, info, [UInt8.ofNat (k + 1)]].flatten.length ≤ 4900) := by
        have := exT_most key info k
        simp [Hid]
        omega
      have HL : Hid ((exT key info (k + 1)).length = 32) := exT_length key info k
      have HE : Hid (exOut key info k ++ exT key info (k + 1) = exOut key info (k + 1)) := Lib.hid rfl
      have HEL := Lib.hid (exOut_length key info k)
      have HX : Hid (n ≤ 32 * (k + 1) → (exOut key info k ++ exT key info (k + 1)).take n = expandL key info n) := fun h => by
        have := expandL_at key info n (k + 1) h (by omega)
        exact this
      have HT : Hid (exT key info (k + 1) = exT key info (k + 1)) := Lib.hid rfl
      obtain ⟨x2, hx2⟩ : ∃ y, y = UInt8.ofNat (k + 1 + 1) := ⟨_, rfl⟩
      have HW : Hid (k + 2 ≤ 255 → IntKind.u8.wrap (((UInt8.ofNat (k + 1)).toNat : Int) + 1) = (x2.toNat : Int)) := fun h => by
        rw [hx2, ofNat_u8 _ (by omega), ofNat_u8 _ (by omega)]
        exact u8_wrap k h
      have HX2 := Lib.hid hx2
      clear hx2
      generalize hx : UInt8.ofNat (k + 1) = x at *
      clear ho hb HO1 HB1 hx
      go_wp2_with fail
      have P3 := parts3_at wr (.slice A9 (exT key info k).length cap9) (.slice A1 info.length cap1) (exT key info k) info x H9.out (H1.out.below HB.out)
      have bc : Below wr.heap.size wr ((wr.alloc (.cells #[.int .u8 (x.toNat : Int)] 5)).alloc (.cells #[.slice A9 (exT key info k).length cap9, .slice A1 info.length cap1, .slice (some ⟨wr.heap.size, 0, none⟩) 1 1] 25)) := by
        have q := (Below.refl wr.heap.size wr).alloc (Nat.le_refl _) (.cells #[.int .u8 (x.toNat : Int)] 5)
        exact q.alloc q.size _
      generalize (wr.alloc (.cells #[.int .u8 (x.toNat : Int)] 5)).alloc (.cells #[.slice A9 (exT key info k).length cap9, .slice A1 info.length cap1, .slice (some ⟨wr.heap.size, 0, none⟩) 1 1] 25) = wc at *
      have BC := Lib.hid (HB.out.trans (bc.mono HB.out.size))
      have OC := Lib.hid (kept_below HO.out bc rfl)
      refine (parts_list _ _ 3 key [exT key info k, info, [x]] rfl wc P3 (H0.out.below BC.out) hk (by decide) HF.out (T0.out.below BC.out T0.out.pos)).mono ?_
      rintro e w2 ⟨v9, rfl, o9, b9⟩
      rw [HR.out] at o9
      obtain ⟨R, hR⟩ : ∃ R, R = exT key info (k + 1) := ⟨_, rfl⟩
      have HRR := Lib.hid hR
      rw [← hR] at o9 HL HE HX
      clear hR HT
      have B2 := Lib.hid (BC.out.trans (b9.mono BC.out.size))
      have O2 := Lib.hid (kept_below OC.out b9 rfl)
      have Y9 := Lib.hid (BytesAt.of_own o9)
      rw [HL.out] at o9
      obtain ⟨g, capg, rfl, hgb, hgl⟩ := o9.form (by omega)
      have HA : Hid (Apt (.slice A8 (32 * k) cap8) (.slice (some ⟨g, 0, none⟩) 32 capg)) := by
        refine .inr fun e => ?_
        have q := (HO.out.lt g e).2
        have := bc.size
        omega
      have hjk : 32 * (k + 1) = 32 * k + 32 := by omega
      obtain ⟨wo, hwo⟩ : ∃ wo, wo = wr := ⟨_, rfl⟩
      obtain ⟨go, hgo⟩ : ∃ go, go = gk := ⟨_, rfl⟩
      subst hwo hgo
      clear HB H9 P3 BC OC b9 hgl hgb o9 bc HF HR
      clear HO
      generalize exOut key info k = S at *
      go_wp2_with fail
      go_loopg [8, 36] 32 (fun g2 s8 s36 wy => ∃ j q : Nat, j + g2 = 32 ∧ q = 32 * k + j ∧ s36 = .int .i64 (j : Int) ∧ q < n ∧ wy.ownsRow w.heap.size 5 1 s8 q (bv (S ++ R.take j)) ∧ BytesAt wy (.slice (some ⟨g, 0, none⟩) 32 capg) R ∧ Apt s8 (.slice (some ⟨g, 0, none⟩) 32 capg) ∧ Below w.heap.size w wy)
      case atStart => exact ⟨0, _, rfl, rfl, rfl, hkn, by simpa using O2.out, Y9.out, HA.out, B2.out⟩
      case round =>
        obtain ⟨j, q, hj, hq, rfl, hqn, ho, hy, ha, hb⟩ := hrel
        obtain ⟨A8', cap8', rfl⟩ := own_form ho
        have HQ := Lib.hid hq
        have HY := Lib.hid hy
        have HAp := Lib.hid ha
        have HB := Lib.hid hb
        have HO := Lib.hid ho
        clear hq ho hb ha hy
        by_cases hj32 : j < 32
        · have dj : decide ((j : Int) < 32) = true := by simp; omega
          obtain ⟨c, hc⟩ : ∃ c, R[j]? = some c := ⟨_, List.getElem?_eq_getElem (by rw [HL.out]; exact hj32)⟩
          obtain ⟨b9, off9, e9, hb9, hcell⟩ := HY.out.spots (by intro e; have := HL.out; rw [e] at this; simp at this)
          injection e9 with e9
          injection e9 with e9 e10 _
          subst e9 e10
          have cj := hcell j c hc
          rw [Nat.zero_add] at cj
          have HN : Hid (bv (S ++ R.take j) ++ bv [c] = bv (S ++ R.take (j + 1))) := by
            rw [Hid, ← bv_append, take_at hc, List.append_assoc]
          have z1 : BytesAt (wr.alloc (.cells #[.int .u8 (c.toNat : Int)] 5)) (.slice (some ⟨wr.heap.size, 0, none⟩) 1 1) [c] := BytesAt.lit wr [c] _ rfl
          have hO1 := HO.out.alloc (.cells #[.int .u8 (c.toNat : Int)] 5)
          have hB1 := HB.out.alloc HB.out.size (.cells #[.int .u8 (c.toNat : Int)] 5)
          have hY1 := Lib.hid (HY.out.below ((Below.refl _ _).alloc (Nat.le_refl _) (.cells #[.int .u8 (c.toNat : Int)] 5)))
          clear hcell hc
          go_wp2_with (with_reducible refine wpList_append_bytes_at rfl _ _ rfl w.heap.size _ _ _ ?hv hO1 _ _ ?hx z1 ?hlen ?hbase ?_)
          case hlen => omega
          case hbase => simpa using hB1.size
          intro v8 w3 ho3 hg3 hat3
          obtain ⟨m, hm⟩ : ∃ m, m = q + 1 := ⟨_, rfl⟩
          rw [HN.out, ← hm] at ho3
          have lt3 := hO1.lt
          have B3 := Lib.hid (hB1.grown hg3 hB1.size (fun k hk => (lt3 k hk).1))
          have Y3 := Lib.hid (hY1.out.keep (w' := w3) fun _ b hb hv => hg3.block b hb (by rw [← hv]; exact (HAp.out.far.resolve_left (by simp [Value.ownBlock]))))
          have A3 : Hid (Apt v8 (.slice (some ⟨g, 0, none⟩) 32 capg)) := by
            rcases hat3 with e1 | e1
            · unfold Hid Apt; rw [e1]; exact HAp.out
            · refine .inr fun e2 => ?_
              rw [e1] at e2
              simp [Value.ownBlock] at e2
              omega
          obtain ⟨A3', cap3, rfl⟩ := own_form ho3
          have O3 := Lib.hid ho3
          clear lt3 hg3 hat3 ho3 hO1 hB1 hY1 z1 cj
          by_cases hend : m = n
          · subst hend
            have HZ : Hid (BytesAt w3 (.slice A3' m cap3) (expandL key info m)) := by
              have e : bv (S ++ R.take (j + 1)) = bv (expandL key info m) := by
                have e1 : m = S.length + (j + 1) := by have := HQ.out; have := HEL.out; omega
                rw [← HX.out (by have := HQ.out; omega), e1, List.take_length_add_append]
              have q3 := O3.out
              rw [e] at q3
              exact BytesAt.of_own (base := w.heap.size) (by rw [expandL_length]; exact q3)
            clear O3 HN HX HE
            go_wp2
            rw [Exit.noGoto_ret]
            go_ret2
            exact ⟨_, rfl, HZ.out, B3.out⟩
          · have dm : ((m : Int) == (n : Int)) = false := by simp; omega
            have HM : Hid (m = q + 1) := hm
            clear hm HN
            go_wp2_with fail
            go_roundg (gk - 1)
            case measure => omega
            case rel => exact ⟨j + 1, m, by omega, by have := HM.out; have := HQ.out; omega, by go_num, by have := HM.out; omega, O3.out, Y3.out, A3.out, B3.out⟩
        · have dj : decide ((j : Int) < 32) = false := by simp; omega
          have hj' : j = 32 := by omega
          have HZ : Hid (wr.ownsRow w.heap.size 5 1 (.slice A8' q cap8') (32 * (k + 1)) (bv (exOut key info (k + 1)))) := by
            have e : R.take j = R := List.take_of_length_le (by rw [HL.out]; omega)
            have q3 := HO.out
            rw [e, HE.out, show q = 32 * (k + 1) by have := HQ.out; omega] at q3
            rw [show q = 32 * (k + 1) by have := HQ.out; omega]
            exact q3
          have hkn2 : 32 * (k + 1) < n := by have := HQ.out; omega
          have tw := HW.out (by omega)
          have hq2 : q = 32 * (k + 1) := by have := HQ.out; omega
          have HQ2 := Lib.hid hq2
          clear hq2 HO
          go_wp2_with fail
          go_roundg (go - 1)
          case measure => omega
          case rel => exact ⟨k + 1, by omega, hkn2, by rw [← HX2.out], HZ.out, by rw [← HRR.out]; exact HY.out, HB.out⟩
end Go.Proofs.YtmnhpkdldeifgaaGreatDoor

namespace Go.Proofs.YtmnhpkdldeifgaaGreatDoor
set_option maxRecDepth 100000
open Go.RowKit

theorem carc_str (s : ByteArray) : ((⟨#[99, 97, 114, 99, 97, 110, 101, 116, 32]⟩ : ByteArray) ++ s).data.toList = carc ++ s.data.toList := by
  simp [carc]

set_option maxHeartbeats 1000000 in
theorem named_any (v0 : Value) (s : ByteArray) (key : List UInt8) (w : World) (h0 : BytesAt w v0 key) (hk : key.length ≤ 5000) (hs : s.size ≤ 4700) (T : Tab w) :
    Calls Tryz.prog 47 #[v0, .string s] w fun e w' => ∃ v', e = .returned v' ∧ BytesAt w' v' (namedL key s.data.toList) ∧ Below w.heap.size w w' := by
  have T0 := Lib.hid T
  have H0 := Lib.hid h0
  have CS := Lib.hid (carc_str s)
  have HI : Hid ((carc ++ s.data.toList).length ≤ 4800) := by
    simp [Hid, carc]; omega
  have HD : Hid (expandL key (carc ++ s.data.toList) 32 = namedL key s.data.toList) := Lib.hid rfl
  obtain ⟨vs, w1, hr, y1, b1⟩ := conv_str w ((⟨#[99, 97, 114, 99, 97, 110, 101, 116, 32]⟩ : ByteArray) ++ s)
  rw [CS.out] at y1
  have Y1 := Lib.hid y1
  have B1 := Lib.hid b1
  clear T h0 y1 b1
  go_enter Tryz.func47, Tryz.ntmps47
  go_wp2_with fail
  refine (expand_any v0 vs key _ 32 w1 (H0.out.below B1.out) Y1.out hk HI.out (by decide) (T0.out.below B1.out T0.out.pos)).mono ?_
  rintro e w2 ⟨v4, rfl, y2, b2⟩
  rw [HD.out] at y2
  have B2 := Lib.hid (B1.out.trans (b2.mono B1.out.size))
  have Y2 := Lib.hid y2
  clear y2 b2 hr
  go_wp2
  go_ret
  exact ⟨_, rfl, Y2.out, B2.out⟩
end Go.Proofs.YtmnhpkdldeifgaaGreatDoor

namespace Go.Proofs.YtmnhpkdldeifgaaGreatDoor
set_option maxRecDepth 100000
open Go.RowKit

/-- The library's table of powers of ten lies as its initialiser lays it. -/
def PowT (w : World) : Prop := Lib.TabIs Tryz.prog w "internal/strconv.uint64pow10" .u64 Lib.pow10Tab
theorem gPow : Tryz.prog.globalNamed "internal/strconv.uint64pow10" = some 0 := by kernel_rfl
theorem PowT.below {w w' : World} (h : PowT w) (hb : Below w.heap.size w w') : PowT w' := Joins.tab_stays gPow h hb (Nat.le_refl _)
end Go.Proofs.YtmnhpkdldeifgaaGreatDoor

namespace Go.Proofs
open Go.Shelf
def Tryz.laysM171_ren : Go.Shelf.Ren := ⟨fun | 171 => 72 | 243 => 90 | 246 => 98 | 283 => 106 | 284 => 107 | 285 => 108 | 286 => 109 | 129 => 115 | 317 => 114 | 318 => 116 | 319 => 117 | 320 => 118 | 337 => 122 | 338 => 123 | n => n, fun | 3 => 3 | 9 => 9 | 2 => 2 | 4 => 4 | 171 => 125 | 0 => 0 | 53 => 22 | 37 => 25 | 5 => 5 | 173 => 128 | 212 => 132 | 51 => 57 | 20 => 20 | 213 => 133 | 46 => 103 | 232 => 140 | 233 => 77 | n => n, fun | 17 => 0 | 18 => 1 | 19 => 2 | n => n⟩
theorem Tryz.laysM171 : Go.Proofs.LaysM.n171 Tryz.prog Tryz.laysM171_ren := {
  mixed := by kernel_rfl
  f129 := Tryz.func115.trans (congrArg some (by kernel_rfl))
  f171 := Tryz.func72.trans (congrArg some (by kernel_rfl))
  f243 := Tryz.func90.trans (congrArg some (by kernel_rfl))
  f246 := Tryz.func98.trans (congrArg some (by kernel_rfl))
  f283 := Tryz.func106.trans (congrArg some (by kernel_rfl))
  f284 := Tryz.func107.trans (congrArg some (by kernel_rfl))
  f285 := Tryz.func108.trans (congrArg some (by kernel_rfl))
  f286 := Tryz.func109.trans (congrArg some (by kernel_rfl))
  f317 := Tryz.func114.trans (congrArg some (by kernel_rfl))
  f318 := Tryz.func116.trans (congrArg some (by kernel_rfl))
  f319 := Tryz.func117.trans (congrArg some (by kernel_rfl))
  f320 := Tryz.func118.trans (congrArg some (by kernel_rfl))
  f337 := Tryz.func122.trans (congrArg some (by kernel_rfl))
  f338 := Tryz.func123.trans (congrArg some (by kernel_rfl))
  t0 := Tryz.underlying0
  a0 := Tryz.isAgg0
  z0 := Tryz.sizeOf0
  v0 := Tryz.zeroValue0
  t2 := Tryz.underlying2
  a2 := Tryz.isAgg2
  z2 := Tryz.sizeOf2
  v2 := Tryz.zeroValue2
  t3 := Tryz.underlying3
  a3 := Tryz.isAgg3
  z3 := Tryz.sizeOf3
  v3 := Tryz.zeroValue3
  t4 := Tryz.underlying4
  a4 := Tryz.isAgg4
  z4 := Tryz.sizeOf4
  v4 := Tryz.zeroValue4
  t5 := Tryz.underlying5
  a5 := Tryz.isAgg5
  z5 := Tryz.sizeOf5
  v5 := Tryz.zeroValue5
  t9 := Tryz.underlying9
  a9 := Tryz.isAgg9
  z9 := Tryz.sizeOf9
  v9 := Tryz.zeroValue9
  t20 := Tryz.underlying20
  a20 := Tryz.isAgg20
  z20 := Tryz.sizeOf20
  v20 := Tryz.zeroValue20
  t37 := Tryz.underlying25
  a37 := Tryz.isAgg25
  z37 := Tryz.sizeOf25
  v37 := Tryz.zeroValue25
  t46 := Tryz.underlying103
  a46 := Tryz.isAgg103
  z46 := Tryz.sizeOf103
  v46 := Tryz.zeroValue103
  t51 := Tryz.underlying57
  a51 := Tryz.isAgg57
  z51 := Tryz.sizeOf57
  v51 := Tryz.zeroValue57
  t53 := Tryz.underlying22
  a53 := Tryz.isAgg22
  z53 := Tryz.sizeOf22
  v53 := Tryz.zeroValue22
  t171 := Tryz.underlying125
  a171 := Tryz.isAgg125
  z171 := Tryz.sizeOf125
  v171 := Tryz.zeroValue125
  t173 := Tryz.underlying128
  a173 := Tryz.isAgg128
  z173 := Tryz.sizeOf128
  v173 := Tryz.zeroValue128
  t212 := Tryz.underlying132
  a212 := Tryz.isAgg132
  z212 := Tryz.sizeOf132
  v212 := Tryz.zeroValue132
  t213 := Tryz.underlying133
  a213 := Tryz.isAgg133
  z213 := Tryz.sizeOf133
  t232 := Tryz.underlying140
  a232 := Tryz.isAgg140
  z232 := Tryz.sizeOf140
  v232 := Tryz.zeroValue140
  t233 := Tryz.underlying77
  a233 := Tryz.isAgg77
  z233 := Tryz.sizeOf77
  v233 := Tryz.zeroValue77
  g17 := by kernel_rfl
  g18 := by kernel_rfl
  g19 := by kernel_rfl
  i0 := by kernel_rfl
  i2 := by kernel_rfl
  i3 := by kernel_rfl
  i4 := by kernel_rfl
  i5 := by kernel_rfl
  i9 := by kernel_rfl
  i20 := by kernel_rfl
  i37 := by kernel_rfl
  i46 := by kernel_rfl
  i51 := by kernel_rfl
  i53 := by kernel_rfl
  i171 := by kernel_rfl
  i173 := by kernel_rfl
  i212 := by kernel_rfl
  i232 := by kernel_rfl
  i233 := by kernel_rfl
  m17 := by kernel_rfl
  m18 := by kernel_rfl
  m19 := by kernel_rfl }
open Go.RowKit Go.Sort Go.Lib in
/-- strconv.Itoa: "Itoa is equivalent to FormatInt(int64(i), 10).": i's DECIMAL NUMERAL ('Lib.itoa': a '-' where i is negative, then the digits), FOR EVERY int. The world behind the call: the world before it, new blocks behind the heap (the library's 'var a [24]byte'), draws. (LAID: no walk: one application.) -/
theorem Tryz.strconv_Itoa (n : Int) (h0 : -9223372036854775808 ≤ n) (h1 : n ≤ 9223372036854775807) (w : World) (htab : Lib.TabIs Tryz.prog w "internal/strconv.uint64pow10" .u64 Lib.pow10Tab) :
    Calls Tryz.prog 72 #[.int .i64 n] w fun e w' => e = .returned (.string ⟨(Lib.itoa n).toArray⟩) ∧ ∃ k os, w' = grow (w.drewN k) os := Any.strconv_Itoa Tryz.laysM171 n h0 h1 w htab
end Go.Proofs

namespace Go.Proofs.YtmnhpkdldeifgaaGreatDoor
set_option maxRecDepth 100000
open Go.RowKit

theorem hexC_num (d : Nat) (h : d < 10) : UInt8.ofNat (48 + d) = hexC d := by
  have : ∀ d : Fin 10, UInt8.ofNat (48 + d.val) = hexC d.val := by decide
  exact this ⟨d, h⟩
theorem decDigits_is (m : Nat) : ∀ n : Nat, n ≤ m → Lib.decDigits n = decL n := by
  induction m with
  | zero =>
    intro n hn
    obtain rfl : n = 0 := by omega
    rw [Lib.decDigits, dif_pos (by decide), decL_lt 0 (by decide), hexC_num 0 (by decide)]
  | succ m ih =>
    intro n hn
    by_cases h : n < 10
    · rw [Lib.decDigits, dif_pos h, decL_lt n h, hexC_num n h]
    · rw [Lib.decDigits, dif_neg h, decL_ge n h, hexC_num _ (Nat.mod_lt _ (by decide)), ih _ (by omega)]
theorem itoa_is (k : Int) : Lib.itoa k = numL k := by
  rw [Lib.itoa, numL, decDigits_is _ _ (Nat.le_refl _), decDigits_is _ _ (Nat.le_refl _)]
theorem itoa_any (k : Int) (h1 : -9223372036854775808 ≤ k) (h2 : k < 9223372036854775808) (w : World) (T : PowT w) :
    Calls Tryz.prog 72 #[.int .i64 k] w fun e w' => e = .returned (.string ⟨(numL k).toArray⟩) ∧ Below w.heap.size w w' := by
  refine (Tryz.strconv_Itoa k h1 (by omega) w T).mono ?_
  rintro e w' ⟨rfl, q, os, rfl⟩
  rw [itoa_is]
  exact ⟨rfl, ⟨rfl, rfl, rfl, by show w.heap.size ≤ (w.heap ++ os).size; rw [Array.size_append]; omega, fun j hj => Sort.heap_grow_old (w.drewN q) os hj⟩⟩

theorem labelNumber_any (k : Int) (h1 : -9223372036854775808 ≤ k) (h2 : k < 9223372036854775808) (w : World) (T : PowT w) :
    Calls Tryz.prog 48 #[.int .i64 k] w fun e w' => e = .returned (.string ⟨(numL k).toArray⟩) ∧ Below w.heap.size w w' := by
  have C := Lib.hid (itoa_any k h1 h2 w T)
  clear T h1 h2
  go_enter Tryz.func48, Tryz.ntmps48
  go_wp2_with fail
  refine C.out.mono ?_
  rintro e w1 ⟨rfl, b1⟩
  have B1 := Lib.hid b1
  clear b1
  go_wp2
  go_ret
  exact ⟨rfl, B1.out⟩
end Go.Proofs.YtmnhpkdldeifgaaGreatDoor

namespace Go.Proofs.YtmnhpkdldeifgaaGreatDoor
set_option maxRecDepth 100000
open Go.RowKit

theorem str_cons (c : UInt8) (l : List UInt8) : (⟨#[c]⟩ : ByteArray) ++ ⟨l.toArray⟩ = ⟨(c :: l).toArray⟩ := by
  apply ByteArray.ext
  simp
theorem str_snoc (l : List UInt8) (c : UInt8) : (⟨l.toArray⟩ : ByteArray) ++ ⟨#[c]⟩ = ⟨(l ++ [c]).toArray⟩ := by
  apply ByteArray.ext
  simp
theorem str_plus (a b : List UInt8) : (⟨a.toArray⟩ : ByteArray) ++ ⟨b.toArray⟩ = ⟨(a ++ b).toArray⟩ := by
  apply ByteArray.ext
  simp

theorem str_at (l : List UInt8) (k : Nat) (c : UInt8) (hc : l[k]? = some c) (h : k < (⟨l.toArray⟩ : ByteArray).size) : (⟨l.toArray⟩ : ByteArray)[k]'h = c := by
  obtain ⟨h1, rfl⟩ := List.getElem?_eq_some_iff.1 hc
  rfl
end Go.Proofs.YtmnhpkdldeifgaaGreatDoor

namespace Go.Proofs.YtmnhpkdldeifgaaGreatDoor
set_option maxRecDepth 100000
open Go.RowKit

set_option maxRecDepth 100000 in
set_option maxHeartbeats 1000000 in
theorem keEpoch_any (r : List UInt8) (e : Int) (h1 : -9223372036854775808 ≤ e) (h2 : e < 9223372036854775808) (w : World) (hr : r.length ≤ 5000) (T : Tab w) (PW : PowT w) :
    Calls Tryz.prog 28 #[.string ⟨r.toArray⟩, .int .i64 e] w fun x w' => x = .returned (.string ⟨(epochK r e).toArray⟩) ∧ Below w.heap.size w w' := by
  have T0 := Lib.hid T
  have P0 := Lib.hid PW
  have CN := fun w T => Lib.hid (labelNumber_any e h1 h2 w T)
  have LN : ((⟨#[101, 112, 111, 99, 104, 32]⟩ : ByteArray) ++ ⟨(numL e).toArray⟩).size ≤ 4700 := by
    have := numL_most e h1 h2
    show ((⟨#[101, 112, 111, 99, 104, 32]⟩ : ByteArray) ++ ⟨(numL e).toArray⟩).data.size ≤ 4700
    simp
    omega
  have CK := fun v w h T => Lib.hid (show Calls Tryz.prog 47 #[v, .string ((⟨#[101, 112, 111, 99, 104, 32]⟩ : ByteArray) ++ ⟨(numL e).toArray⟩)] w fun x w' => ∃ v', x = .returned v' ∧ BytesAt w' v' (epochK r e) ∧ Below w.heap.size w w' from by
    have := named_any v _ r w h hr LN T
    rw [epoch_str] at this
    exact this)
  have lm := numL_most e h1 h2
  generalize epochK r e = G at *
  generalize numL e = M at *
  have j1 : 6 + M.length < 9223372036854775807 := by omega
  clear T PW h1 h2 hr LN
  go_enter Tryz.func28, Tryz.ntmps28
  obtain ⟨vK, w1, rK, y1, b1⟩ := conv_str w ⟨(r).toArray⟩
  have B1 := Lib.hid b1
  have K1 : Hid (BytesAt w1 vK (r)) := Lib.hid (by simpa using y1)
  clear b1 y1 
  go_wp2_with fail
  refine ((CN w1 (P0.out.below B1.out)).out).mono ?_
  rintro e2 w2 ⟨rfl, b2⟩
  have K2 : Hid (BytesAt w2 vK (r)) := Lib.hid (K1.out.below b2)
  have B2 := Lib.hid (B1.out.trans (b2.mono B1.out.size))
  clear b2 K1 B1
  go_wp2_with fail
  refine ((CK vK w2 K2.out (T0.out.below B2.out T0.out.pos)).out).mono ?_
  rintro e3 w3 ⟨v9, rfl, y9, b3⟩
  have K3 : Hid (BytesAt w3 vK (r)) := Lib.hid (K2.out.below b3)
  have B3 := Lib.hid (B2.out.trans (b3.mono B2.out.size))
  have G3 : Hid (BytesAt w3 v9 G) := Lib.hid y9
  clear b3 K2 B2 y9
  have rm := conv_bytes G3.out
  go_wp2
  go_ret
  exact ⟨rfl, B3.out⟩
end Go.Proofs.YtmnhpkdldeifgaaGreatDoor

namespace Go.Proofs.YtmnhpkdldeifgaaGreatDoor
set_option maxRecDepth 100000
open Go.RowKit

/-- Results: such a struct in a block, and two in slots. -/
theorem results_rec_tmp2 {P : Program} {fn : Func} {p r s : Tmp} {t : TypeId} {ks : List CK} (R : Rec P t ks) (h : fn.results = #[.cell p t, .tmp r, .tmp s]) (tmps : Array Value) (w : World) (g : Nat) (T : TypeId) (cs : List Value) (hl : cs.length = ks.length)
    (hp : tmps.getD p undef = .pointer (some ⟨g, 0, none⟩)) (hg : Whole w g T cs.toArray) : (results fn tmps).run P w = .ok (.tuple #[.agg cs.toArray, tmps.getD r undef, tmps.getD s undef]) w := by
  have q := load_whole R cs hl hg
  have hp' : tmps[p]?.getD undef = .pointer (some ⟨g, 0, none⟩) := by simpa using hp
  simp [results, h, hp', asAddr, q]

/-- The parts of a record. -/
theorem record_parts {w : World} {A : Option Addr} {n cap : Nat} {b : List UInt8} (h : BytesAt w (.slice A n cap) b) (hl : 32 ≤ b.length) :
    n = b.length ∧ b.length ≤ cap ∧ ∃ ad, A = some ad ∧ BytesAt w (.slice (some ad) 16 cap) (b.take 16) ∧ BytesAt w (.slice (some ⟨ad.block, ad.off + 16, none⟩) (n - 16) (cap - 16)) (b.drop 16) ∧
      BytesAt w (.slice (some ⟨ad.block, ad.off + 1, none⟩) 15 (cap - 1)) ((b.take 16).drop 1) := by
  obtain ⟨hn, hc⟩ := h.size
  obtain ⟨ad, rfl, -⟩ := h.lt (by intro e; rw [e] at hl; simp at hl)
  have e16 : ad.add 16 = ⟨ad.block, ad.off + 16, none⟩ := by simp [Addr.add]
  have e1 : ad.add 1 = ⟨ad.block, ad.off + 1, none⟩ := by simp [Addr.add]
  have q0 := h.first 16 (by omega)
  have q1 := h.from 16 (by omega)
  have q2 := q0.from 1 (by omega)
  rw [if_neg (show ¬ cap = 16 by omega), Option.map_some, e16] at q1
  rw [if_neg (show ¬ cap = 1 by omega), Option.map_some, e1] at q2
  exact ⟨hn, by omega, ad, rfl, q0, q1, q2⟩
end Go.Proofs.YtmnhpkdldeifgaaGreatDoor
