/- What package digest's spread answers: w0 to w63 of a block. What package digest's Block answers. -/
import Derived.Test.YtmnhpkdldeifgaaGreatDoorGg
import Derived.Test.YtmnhpkdldeifgaaGreatDoorGb
import Derived.RegionTactic
import Derived.ChangeAlike
import Derived.Deep.DeepCutAuto
namespace Go.Proofs.YtmnhpkdldeifgaaGreatDoor
set_option maxRecDepth 100000
open Go.RowKit

theorem bva_size (l : List UInt8) : (bv l).toArray.size = l.length := by simp [bv]

/-- Words that are 0. -/
def zw (n : Nat) : List UInt32 := List.replicate n 0

/-- How far the block's words have been put together. -/
def packed (l : List UInt8) (k : Nat) : List UInt32 := (List.range 64).map fun j => word4 (((l.take k).drop (4 * j)).take 4)
theorem packed_length (l : List UInt8) (k : Nat) : (packed l k).length = 64 := by simp [packed]
theorem packed_zero (l : List UInt8) : packed l 0 = zw 64 := by simp [packed, word4]; rfl
theorem word4_snoc (l : List UInt8) (c : UInt8) : word4 (l ++ [c]) = word4 l <<< 8 ||| c.toUInt32 := by simp [word4]
theorem packed_next (l : List UInt8) (k : Nat) (c : UInt8) (hc : l[k]? = some c) (hk : k < 64) : ∃ x, (packed l k)[k / 4]? = some x ∧ (packed l k).set (k / 4) (x <<< 8 ||| c.toUInt32) = packed l (k + 1) := by
  have hl : k < l.length := (List.getElem?_eq_some_iff.1 hc).1
  refine ⟨word4 (((l.take k).drop (4 * (k / 4))).take 4), by simp [packed, List.getElem?_range (show k / 4 < 64 by omega)], ?_⟩
  apply List.ext_getElem?
  intro j
  rw [List.getElem?_set]
  by_cases hj : k / 4 = j
  · subst hj
    simp only [if_true, packed_length]
    have h64 : k / 4 < 64 := by omega
    simp only [h64, if_true, packed, List.getElem?_map, List.getElem?_range h64, Option.map_some]
    have e1 : ((l.take k).drop (4 * (k / 4))).take 4 = (l.take k).drop (4 * (k / 4)) := List.take_of_length_le (by simp; omega)
    have e2 : ((l.take (k + 1)).drop (4 * (k / 4))).take 4 = (l.take k).drop (4 * (k / 4)) ++ [c] := by
      rw [take_at hc, List.drop_append_of_le_length (by simp; omega)]
      exact List.take_of_length_le (by simp; omega)
    rw [e1, e2, word4_snoc]
  · simp only [hj, if_false, packed, List.getElem?_map]
    by_cases hj6 : j < 64
    · simp only [List.getElem?_range hj6, Option.map_some]
      congr 2
      rcases Nat.lt_or_ge j (k / 4) with h | h
      · rw [List.drop_take, List.drop_take, List.take_take, List.take_take]
        congr 1
        omega
      · rw [List.drop_eq_nil_of_le (by simp; omega), List.drop_eq_nil_of_le (by simp; omega)]
    · rw [List.getElem?_eq_none (by simp; omega)]
      rfl
theorem packed_all (l : List UInt8) (hl : l.length = 64) : packed l 64 = schedN (words16 l) 0 ++ List.replicate 48 0 := by
  apply List.ext_getElem?
  intro j
  rw [schedN, packed, List.take_of_length_le (by omega), List.getElem?_append, words16_length]
  by_cases h : j < 16
  · simp [h, words16, List.getElem?_range (show j < 64 by omega)]
  · simp only [h, if_false, List.getElem?_map, List.getElem?_replicate]
    by_cases hj6 : j < 64
    · have h48 : j - 16 < 48 := by omega
      rw [List.getElem?_range hj6, if_pos h48, Option.map_some, List.drop_eq_nil_of_le (by omega)]
      rfl
    · have h48 : ¬ (j - 16 < 48) := by omega
      rw [List.getElem?_eq_none (by simp; omega), if_neg h48]
      rfl
/-- How far w has been made. -/
def madeTo (b : List UInt32) (n : Nat) : List UInt32 := schedN b n ++ List.replicate (48 - n) 0
theorem madeTo_length (b : List UInt32) (n : Nat) (hb : b.length = 16) (hn : n ≤ 48) : (madeTo b n).length = 64 := by simp [madeTo, schedN_length, hb]; omega
theorem madeTo_set (b : List UInt32) (n : Nat) (hb : b.length = 16) (hn : n < 48) : (madeTo b n).set (16 + n) (nextW (schedN b n)) = madeTo b (n + 1) := by
  have e : 48 - n = (48 - (n + 1)) + 1 := by omega
  rw [madeTo, madeTo, schedN, e, List.replicate_succ, List.set_append_right _ _ (by rw [schedN_length, hb]; omega), schedN_length, hb, Nat.sub_self]
  simp
theorem madeTo_at (b : List UInt32) (n j : Nat) (hb : b.length = 16) (hj : j < 16 + n) : (madeTo b n)[j]? = some ((schedN b n).getD j 0) := by
  have h : j < (schedN b n).length := by rw [schedN_length, hb]; exact hj
  rw [madeTo, List.getElem?_append_left h, List.getElem?_eq_getElem h]
  simp [List.getD, List.getElem?_eq_getElem h]

theorem zero43 : (Tryz.prog.info? 141).map (·.zero) = some (some (.agg (wv (zw 64)))) := by kernel_rfl
theorem size43 : (Tryz.prog.info? 141).map (·.size) = some 64 := by kernel_rfl
theorem size24 : (Tryz.prog.info? 77).map (·.size) = some 64 := by kernel_rfl
theorem size23 : (Tryz.prog.info? 135).map (·.size) = some 8 := by kernel_rfl
theorem zero23 : (Tryz.prog.info? 135).map (·.zero) = some (some (.agg (wv (zw 8)))) := by kernel_rfl
theorem index_bytes (l : List UInt8) (hl : l.length = 64) (k : Nat) (c : UInt8) (hk : l[k]? = some c) (w : World) : (Instr.index 77 (.agg (bv l).toArray) (.int .i64 (k : Int))).run Tryz.prog w = .ok (.int .u8 (c.toNat : Int)) w := by
  have h : k < 64 := by rw [← hl]; exact (List.getElem?_eq_some_iff.1 hk).1
  have hz : (sizeOf 5).run Tryz.prog w = .ok 1 w := by kernel_rfl
  have hc : (bv l)[k]? = some (.int .u8 (c.toNat : Int)) := by simp [bv, hk]
  simp [Instr.index, asIntOf, run_underlying Tryz.underlying77, h, hz, part, hc]

/-- A word stored into an array's place. -/
theorem wpList_store_wd {ops : Array Oper} {rest : List Oper} {o : Oper} {a : Act} {w : World} {Q : Exit → Act → World → Prop} (hgd : o.guard = none) (x y : Operand) (ho : o.op = .store 57 x y)
    (g i : Nat) (hx : a.eval x = .pointer (some ⟨g, i, none⟩)) (v : UInt32) (hy : a.eval y = wd v) (t : TypeId) (l : List UInt32) (hg : Whole w g t (wv l)) (hi : i < l.length)
    (h : ∀ w', w.grownBy w' (some g) → Whole w' g t (wv (l.set i v)) → w'.heap.size = w.heap.size → wpList Tryz.prog ops Q rest (a.put o.dst undef) w') : wpList Tryz.prog ops Q (o :: rest) a w := by
  refine wpList_plain hgd fun K hK => ?_
  have c1 : w.cell? ⟨g, i, none⟩ = some (wd l[i]) := (hg.at_ i).trans (wv_at _ _ _ (List.getElem?_eq_getElem hi))
  have q := hg.stored i (wd v)
  rw [wv_set] at q
  have hh := hK _ _ (h _ (grown_store w g i (wd v)) q (by simp))
  have hz : (sizeOf 57).run Tryz.prog w = .ok 1 w := by kernel_rfl
  unfold Oper.wp execOp
  have hc : (wd v).cells = #[wd v] := rfl
  simp only [ho, hx, hy, Instr.storeAt, Instr.sureAddr, storeVar, hc, Sem.run_bind, Sem.run_pure, Result.andThen_ok, hz, List.size_toArray, List.length_cons, List.length_nil, ne_eq, not_true_eq_false, if_false, store_wd w g i _ c1 (hg.free i) v, Oper.upon]
  exact hh

set_option maxRecDepth 100000 in
set_option maxHeartbeats 1000000 in
theorem spread_any (l : List UInt8) (hl : l.length = 64) (w : World) :
    Calls Tryz.prog 125 #[.agg (bv l).toArray] w fun e w' => e = .returned (.agg (wv (wordsOf l))) ∧ Below w.heap.size w w' := by
  obtain ⟨r1, r2, r3, r4, r5⟩ := rules_w
  go_enter Tryz.func125, Tryz.ntmps125
  go_wp2_with (refine wpList_box_row rfl 77 _ rfl _ rfl ?_)
  intro w1 b1 x1 z1
  go_wp2_with (refine wpList_alloc_row rfl 141 rfl _ zero43 ?_)
  intro w2 b2 x2 z2
  go_wp2_with (refine wpList_alloc_row rfl 141 rfl _ zero43 ?_)
  intro w3 b3 x3 z3
  have y1 : Whole w3 w.heap.size 77 (bv l).toArray := (x1.below b2 (by omega)).below b3 (by omega)
  have HB : Hid (Below w.heap.size w w3) := (b1.trans (b2.mono (by omega))).trans (b3.mono (by omega))
  have y2 : Whole w3 (w.heap.size + 1) 141 (wv (zw 64)) := x2.below b3 (by omega)
  rw [← packed_zero l] at x3
  have z3' : w3.heap.size = w.heap.size + 3 := by omega
  clear b1 b2 b3 x1 x2 z1 z2 z3
  have Y1 := Lib.hid y1
  have Y2 := Lib.hid y2
  have X3 := Lib.hid x3
  clear y1 y2 x3
  go_wp2_with (refine wpList_load_row rfl 77 _ rfl _ rfl _ _ _ _ Y1.out Tryz.underlying77 rfl (by rw [bva_size, hl]; exact size24) ?_)
  clear Y1
  go_loopw [10] (fun i wr => ∃ k : Nat, k ≤ 64 ∧ i = .int .i64 k ∧ Whole wr (w.heap.size + 1 + 1) 141 (wv (packed l k)) ∧ Whole wr (w.heap.size + 1) 141 (wv (zw 64)) ∧ Below w.heap.size w wr) (fun i _ => 64 - (intOf i).toNat)
  case atStart => exact ⟨0, Nat.zero_le _, rfl, X3.out, Y2.out, HB.out⟩
  case round =>
    obtain ⟨k, hk, rfl, x3, x2, hb⟩ := hrel
    have X3 := Lib.hid x3
    have X2 := Lib.hid x2
    have HB := Lib.hid hb
    clear x3 x2 hb
    by_cases hlt : k < 64
    · have hx : l[k]? = some l[k] := List.getElem?_eq_getElem (by omega)
      have ix := index_bytes l hl k _ hx
      obtain ⟨x, hx1, hx2⟩ := packed_next l k _ hx hlt
      generalize l[k] = c at *
      have c1 : wr.cell? ⟨w.heap.size + 1 + 1, k / 4, none⟩ = some (wd x) := (X3.out.at_ (k / 4)).trans (wv_at _ _ _ hx1)
      have f1 : wr.frozen? ⟨w.heap.size + 1 + 1, k / 4, none⟩ = false := X3.out.free (k / 4)
      have s8 := run_shl 8 (by decide) 8 rfl
      have bw := byte_wd'
      have HX := Lib.hid hx2
      clear hx hx1 hx2 hl
      go_wp2_with (refine wpList_store_wd rfl _ _ rfl _ _ rfl _ rfl _ _ X3.out (by rw [packed_length]; omega) ?_)
      intro w6 g6 x6 z6
      rw [HX.out] at x6
      have X6 := Lib.hid x6
      have Y6 := Lib.hid (X2.out.grown g6 (by simp))
      have HB6 := Lib.hid (HB.out.grown g6 HB.out.size (fun k hk => by injection hk; omega))
      clear c1 f1 ix bw s8 x6 g6 z6
      go_wp2_with fail
      refine ⟨⟨k + 1, by omega, by go_num, X6.out, Y6.out, HB6.out⟩, by simp [intOf]; omega⟩
    · obtain rfl : k = 64 := by omega
      have X4 : Hid (Whole wr (w.heap.size + 1 + 1) 141 (wv (madeTo (words16 l) 0))) := by
        have := X3.out
        rw [packed_all l hl] at this
        exact this
      clear X3 hlt hk hl
      obtain ⟨b, hb16⟩ : ∃ b, b = words16 l := ⟨_, rfl⟩
      have HL : Hid (b.length = 16) := by rw [hb16]; exact words16_length l
      have HW : Hid (schedN b 48 = wordsOf l) := by rw [hb16]; rfl
      rw [← hb16] at X4
      clear hb16
      go_wp2_with fail
      go_loopw [6] (fun i wr => ∃ t : Nat, 16 ≤ t ∧ t ≤ 64 ∧ i = .int .i64 (t : Int) ∧ Whole wr (w.heap.size + 1 + 1) 141 (wv (madeTo b (t - 16))) ∧ Whole wr (w.heap.size + 1) 141 (wv (zw 64)) ∧ Below w.heap.size w wr) (fun i _ => 64 - (intOf i).toNat)
      case atStart => exact ⟨16, Nat.le_refl _, by decide, rfl, X4.out, X2.out, HB.out⟩
      case round =>
        obtain ⟨t, ht16, ht, rfl, x3, x2, hb⟩ := hrel
        have X3 := Lib.hid x3
        have X2 := Lib.hid x2
        have HB := Lib.hid hb
        clear x3 x2 hb
        by_cases hlt : t < 64
        · have HX : Hid (nextW (schedN b (t - 16)) = (schedN b (t - 16)).getD (t - 16) 0 + (schedN b (t - 16)).getD (t - 7) 0 + (rotr ((schedN b (t - 16)).getD (t - 15) 0) 7 ^^^ rotr ((schedN b (t - 16)).getD (t - 15) 0) 18 ^^^ (schedN b (t - 16)).getD (t - 15) 0 >>> 3) + (rotr ((schedN b (t - 16)).getD (t - 2) 0) 17 ^^^ rotr ((schedN b (t - 16)).getD (t - 2) 0) 19 ^^^ (schedN b (t - 16)).getD (t - 2) 0 >>> 10)) := by
            have e : 16 + (t - 16) = t := by omega
            rw [nextW, schedN_length, HL.out, e]
            exact rfl
          have hat := fun j (hj : j < t) => madeTo_at b (t - 16) j HL.out (show j < 16 + (t - 16) by omega)
          have c16 := Lib.hid (hat (t - 16) (by omega))
          have c15 := Lib.hid (hat (t - 15) (by omega))
          have c7 := Lib.hid (hat (t - 7) (by omega))
          have c2 := Lib.hid (hat (t - 2) (by omega))
          clear hat
          have hs := madeTo_set b (t - 16) HL.out (by omega)
          have hlen : t < (madeTo b (t - 16)).length := by rw [madeTo_length b _ HL.out (by omega)]; omega
          have CT := Lib.hid (List.getElem?_eq_getElem hlen)
          have e1 : 16 + (t - 16) = t := by omega
          have e2 : t - 16 + 1 = t + 1 - 16 := by omega
          rw [e1, e2] at hs
          have HS := Lib.hid hs
          generalize (madeTo b (t - 16))[t] = old at CT
          generalize (schedN b (t - 16)).getD (t - 16) 0 = x16 at *
          generalize (schedN b (t - 16)).getD (t - 15) 0 = x15 at *
          generalize (schedN b (t - 16)).getD (t - 7) 0 = x7 at *
          generalize (schedN b (t - 16)).getD (t - 2) 0 = x2 at *
          generalize madeTo b (t - 16) = L at *
          generalize schedN b (t - 16) = L' at *
          have i16 : IntKind.i64.wrap ((t : Int) - 16) = ((t - 16 : Nat) : Int) := by rw [IntWalk.i64_in _ (by omega)]; omega
          have i15 : IntKind.i64.wrap ((t : Int) - 15) = ((t - 15 : Nat) : Int) := by rw [IntWalk.i64_in _ (by omega)]; omega
          have i7 : IntKind.i64.wrap ((t : Int) - 7) = ((t - 7 : Nat) : Int) := by rw [IntWalk.i64_in _ (by omega)]; omega
          have i2 : IntKind.i64.wrap ((t : Int) - 2) = ((t - 2 : Nat) : Int) := by rw [IntWalk.i64_in _ (by omega)]; omega
          have j16 : ((t - 16 : Nat) : Int) < 64 := by omega
          have j15 : ((t - 15 : Nat) : Int) < 64 := by omega
          have j7 : ((t - 7 : Nat) : Int) < 64 := by omega
          have jt : (t : Int) < 64 := by omega
          have j2 : ((t - 2 : Nat) : Int) < 64 := by omega
          generalize t - 16 = m16 at *
          generalize t - 15 = m15 at *
          generalize t - 7 = m7 at *
          generalize t - 2 = m2 at *
          clear hlen hs e1 e2
          have sr3 := run_shr 3 (by decide) 3 rfl
          have sr10 := run_shr 10 (by decide) 10 rfl
          clear r3 r4 r5
          have dt : decide ((t : Int) < 64) = true := by simp; omega
          go_wp2_with fail
          refine still_all (by kernel_rfl) (by kernel_rfl) fun w4 h4 b4 => ?_
          have X4 := Lib.hid (X3.out.of_heap h4)
          have d15 := (X4.out.at_ m15).trans (wv_at _ _ _ c15.out)
          have d2 := (X4.out.at_ m2).trans (wv_at _ _ _ c2.out)
          repeat still_step
          refine wpStill_nil ?_
          clear d15 d2
          go_wp2_with fail
          refine still_tail 29 (by kernel_rfl) (by kernel_rfl) fun w5 h5 b5 => ?_
          simp only [List.take_succ_cons, List.take_zero, List.drop_succ_cons, List.drop_zero]
          have X5 := Lib.hid (X4.out.of_heap h5)
          have d16 := (X5.out.at_ m16).trans (wv_at _ _ _ c16.out)
          have d7 := (X5.out.at_ m7).trans (wv_at _ _ _ c7.out)
          repeat still_step
          still_call ((right_7 x15 _).mono fun _ _ h => ⟨h.1, h.2.symm⟩)
          repeat still_step
          still_call ((right_18 x15 _).mono fun _ _ h => ⟨h.1, h.2.symm⟩)
          repeat still_step
          still_call ((right_17 x2 _).mono fun _ _ h => ⟨h.1, h.2.symm⟩)
          repeat still_step
          still_call ((right_19 x2 _).mono fun _ _ h => ⟨h.1, h.2.symm⟩)
          repeat still_step
          refine wpStill_nil ?_
          have hlen : t < L.length := (List.getElem?_eq_some_iff.1 CT.out).1
          refine wpList_store_wd rfl _ _ rfl _ _ rfl _ rfl _ _ X5.out hlen ?_
          intro w6 g6 x6 z6
          have HB4 := HB.out.trans (b4.mono HB.out.size)
          have HB5 := HB4.trans (b5.mono HB4.size)
          have HB6 := Lib.hid (HB5.grown g6 HB5.size (fun k hk => by injection hk; omega))
          rw [← HX.out, HS.out] at x6
          have X6 := Lib.hid x6
          have Y6 := Lib.hid (((X2.out.of_heap h4).of_heap h5).grown g6 (by simp))
          have T := Lib.hid (And.intro ht16 hlt)
          have ht1 : IntKind.i64.wrap ((t : Int) + 1) = ((t + 1 : Nat) : Int) := by rw [IntWalk.i64_in _ (by omega)]; omega
          clear d16 d7 i16 i15 i7 i2 j16 j15 j7 j2 ht16 hlt ht sr3 sr10 r1 r2 dt jt hlen b4 b5 h4 h5 HB4 HB5 x6 z6 g6
          go_wp2_with fail
          have ht16 := T.out
          refine ⟨⟨_, _, _, _, _, _, _, _, _, _, _, _, _, _, _, _, _, _, _, _, _, _, _, _, _, _, _, _, _, _, _, _, _, _, _, _, _, _, _, _, _, _, _, _, ⟨t + 1, by omega, by omega, ?_, X6.out, Y6.out, HB6.out⟩, rfl⟩, ?_⟩
          · go_num
          · simp [intOf]; omega
        · have ht64 : t = 64 := by omega
          have X4 : Hid (Whole wr (w.heap.size + 1 + 1) 141 (wv (wordsOf l))) := by
            have := X3.out
            rw [madeTo, ht64] at this
            exact Lib.hid (by simpa [HW.out] using this)
          have W64 : Hid ((wv (wordsOf l)).size = 64) := by rw [wv_size, wordsOf_length]; exact rfl
          have dt : decide ((t : Int) < 64) = false := by simp; omega
          clear X3 ht64 hlt ht ht16
          clear Y2 z3'
          have S43 : Hid ((Tryz.prog.info? 141).map (·.size) = some (wv (wordsOf l)).size) := by rw [W64.out]; exact size43
          have Z43 : Hid ((wv (zw 64)).size = (wv (wordsOf l)).size) := by rw [W64.out]; exact rfl
          clear r1 r2 r3 r4 r5
          go_upto_region 12 with fail
          refine wp_region_lit (wpList_load_row rfl 141 _ rfl _ rfl _ _ _ _ X4.out Tryz.underlying141 rfl S43.out (wpList_store_whole rfl 141 _ _ rfl _ _ rfl rfl _ _ X2.out S43.out Z43.out (wv_one _) ?_))
          intro w6 g6 x6 z6
          refine wpList_nil ?_
          have X6 := Lib.hid x6
          have HB6 := Lib.hid (HB.out.grown g6 HB.out.size (fun k hk => by injection hk; omega))
          clear x6 g6 z6
          go_wp2_with fail
          refine bodyPost_ret (v := .agg (wv (wordsOf l))) ?_ rfl ⟨rfl, HB6.out⟩
          exact results_cell_row rfl _ _ _ _ _ _ _ rfl X6.out Tryz.underlying141 rfl S43.out
end Go.Proofs.YtmnhpkdldeifgaaGreatDoor

namespace Go.Proofs.YtmnhpkdldeifgaaGreatDoor
set_option maxRecDepth 100000
open Go.RowKit

/-- The table of constants is as the text lays it. -/
def Tab (w : World) : Prop := ∀ k, k < 64 → w.cell? ⟨3, k, none⟩ = some (wd (kt.getD k 0))
theorem Tab.pos {w : World} (h : Tab w) : 3 < w.heap.size := World.block_lt_of_cell? w _ (h 0 (by decide))
theorem Tab.below {w w' : World} {B : Nat} (h : Tab w) (hb : Below B w w') (hB : 3 < B) : Tab w' := fun k hk => (hb.cell (p := ⟨3, k, none⟩) hB).trans (h k hk)
theorem Tab.of_heap {w w' : World} (h : Tab w) (hh : w'.heap = w.heap) : Tab w' := fun k hk => by
  have := h k hk
  rw [← this]
  exact World.cell?_of_block (by rw [hh])

theorem list8 {α : Type} (l : List α) (h : l.length = 8) : ∃ a b c d e f g i, l = [a, b, c, d, e, f, g, i] := by
  match l, h with
  | [a, b, c, d, e, f, g, i], _ => exact ⟨a, b, c, d, e, f, g, i, rfl⟩

theorem build8 (x0 x1 x2 x3 x4 x5 x6 x7 : UInt32) (w : World) : (Instr.build 135 #[(0, wd x0), (1, wd x1), (2, wd x2), (3, wd x3), (4, wd x4), (5, wd x5), (6, wd x6), (7, wd x7)]).run Tryz.prog w = .ok (.agg (wv [x0, x1, x2, x3, x4, x5, x6, x7])) w :=
  run_build w _ _ _ (by kernel_rfl)
/-- Eight words made an array. -/
theorem wpList_build8 {ops : Array Oper} {rest : List Oper} {o : Oper} {a : Act} {w : World} {Q : Exit → Act → World → Prop} (hgd : o.guard = none) (p0 p1 p2 p3 p4 p5 p6 p7 : Operand)
    (ho : o.op = .build 135 #[(0, p0), (1, p1), (2, p2), (3, p3), (4, p4), (5, p5), (6, p6), (7, p7)]) (x0 x1 x2 x3 x4 x5 x6 x7 : UInt32) (h0 : a.eval p0 = wd x0) (h1 : a.eval p1 = wd x1) (h2 : a.eval p2 = wd x2) (h3 : a.eval p3 = wd x3) (h4 : a.eval p4 = wd x4) (h5 : a.eval p5 = wd x5) (h6 : a.eval p6 = wd x6) (h7 : a.eval p7 = wd x7)
    (h : wpList Tryz.prog ops Q rest (a.put o.dst (.agg (wv [x0, x1, x2, x3, x4, x5, x6, x7]))) w) : wpList Tryz.prog ops Q (o :: rest) a w := by
  refine wpList_plain hgd fun K hK => ?_
  have q := hK _ _ h
  unfold Oper.wp execOp
  simp only [ho, List.map_toArray, List.map_cons, List.map_nil, h0, h1, h2, h3, h4, h5, h6, h7, build8, Sem.run_bind, Sem.run_pure, Result.andThen_ok, Oper.upon]
  exact q

set_option maxRecDepth 100000 in
set_option maxHeartbeats 1000000 in
theorem block_any (s : List UInt32) (hs : s.length = 8) (l : List UInt8) (hl : l.length = 64) (w : World) (T : Tab w) :
    Calls Tryz.prog 124 #[.agg (wv s), .agg (bv l).toArray] w fun e w' => e = .returned (.agg (wv (blockS s l))) ∧ Below w.heap.size w w' := by
  have T0 := Lib.hid T
  have hpos := Lib.hid T.pos
  have S23 : Hid ((Tryz.prog.info? 135).map (·.size) = some (wv s).size) := by rw [wv_size, hs]; exact size23
  have S24 : Hid ((Tryz.prog.info? 77).map (·.size) = some (bv l).toArray.size) := by rw [bva_size, hl]; exact size24
  have SP := Lib.hid (spread_any l hl)
  have HW := Lib.hid (wordsOf_length l)
  have HBS : Hid (blockS s l = addW s (rounds (wordsOf l) s 64)) := Lib.hid rfl
  generalize wordsOf l = W at *
  generalize blockS s l = R at *
  have S43 : Hid ((Tryz.prog.info? 141).map (·.size) = some (wv W).size) := by rw [wv_size, HW.out]; exact size43
  have Z43 : Hid ((wv (zw 64)).size = (wv W).size) := by rw [wv_size W, HW.out]; exact rfl
  have HS := Lib.hid hs
  clear T hl hs
  go_enter Tryz.func124, Tryz.ntmps124
  go_wp2_with (refine wpList_box_row rfl 135 _ rfl _ rfl ?_)
  intro w1 b1 x1 z1
  go_wp2_with (refine wpList_box_row rfl 77 _ rfl _ rfl ?_)
  intro w2 b2 x2 z2
  go_wp2_with (refine wpList_alloc_row rfl 135 rfl _ zero23 ?_)
  intro w3 b3 x3 z3
  have y1 := Lib.hid ((x1.below b2 (by omega)).below b3 (by omega))
  have y2 := Lib.hid (x2.below b3 (by omega))
  have HB3 : Hid (Below w.heap.size w w3) := (b1.trans (b2.mono (by omega))).trans (b3.mono (by omega))
  have z3' : w3.heap.size = w.heap.size + 3 := by omega
  have X3 := Lib.hid x3
  clear b1 b2 b3 x1 x2 x3 z1 z2 z3
  go_wp2_with (refine wpList_load_row rfl 77 _ rfl _ rfl _ _ _ _ y2.out Tryz.underlying77 rfl S24.out ?_)
  refine (SP.out w3).mono ?_
  rintro e w4 ⟨rfl, b4⟩
  have y1' := Lib.hid (y1.out.below b4 (by omega))
  have x3' := Lib.hid (X3.out.below b4 (by omega))
  have HB4 : Hid (Below w.heap.size w w4) := HB3.out.trans (b4.mono (by omega))
  have z4 : w.heap.size + 3 ≤ w4.heap.size := by have := b4.size; omega
  clear b4 y1 y2 X3 HB3 SP S24
  go_wp2_with (refine wpList_alloc_row rfl 141 rfl _ zero43 ?_)
  intro w5 b5 x5 z5
  have X5 := Lib.hid x5
  clear x5
  go_wp2_with (refine wpList_store_whole rfl 141 _ _ rfl _ _ rfl rfl _ _ X5.out S43.out Z43.out (wv_one _) ?_)
  intro w6 g6 x6 z6
  have Y1 := Lib.hid ((y1'.out.below b5 (by omega)).grown g6 (by simp; omega))
  have Y3 := Lib.hid ((x3'.out.below b5 (by omega)).grown g6 (by simp; omega))
  have X6 := Lib.hid x6
  have HB5 := HB4.out.trans (b5.mono (by omega))
  have HB6 := Lib.hid (HB5.grown g6 (by omega) (fun k hk => by injection hk; omega))
  have T6 := Lib.hid (T0.out.below HB6.out hpos.out)
  clear T0 y1' x3' HB4 b5 g6 x6 HB5 X5 z5 z6 z3' hpos Z43 S43
  obtain ⟨a0, b0, c0, d0, e0, f0, g0, h0, hs8⟩ := list8 s HS.out
  have H8 := Lib.hid hs8
  have at8 := fun j x (hj : s[j]? = some x) => wv_at s j x hj
  rw [hs8] at at8
  have v0 := Lib.hid (at8 0 a0 rfl)
  have v1 := Lib.hid (at8 1 b0 rfl)
  have v2 := Lib.hid (at8 2 c0 rfl)
  have v3 := Lib.hid (at8 3 d0 rfl)
  have v4 := Lib.hid (at8 4 e0 rfl)
  have v5 := Lib.hid (at8 5 f0 rfl)
  have v6 := Lib.hid (at8 6 g0 rfl)
  have v7 := Lib.hid (at8 7 h0 rfl)
  rw [← hs8] at v0 v1 v2 v3 v4 v5 v6 v7
  clear at8 hs8
  go_wp2_with fail
  refine still_all (by kernel_rfl) (by kernel_rfl) fun w7 h7 b7 => ?_
  have Y17 := Lib.hid (Y1.out.of_heap h7)
  have q0 := (Y17.out.at_ 0).trans v0.out
  have q1 := (Y17.out.at_ 1).trans v1.out
  have q2 := (Y17.out.at_ 2).trans v2.out
  have q3 := (Y17.out.at_ 3).trans v3.out
  have q4 := (Y17.out.at_ 4).trans v4.out
  have q5 := (Y17.out.at_ 5).trans v5.out
  have q6 := (Y17.out.at_ 6).trans v6.out
  have q7 := (Y17.out.at_ 7).trans v7.out
  repeat still_step
  refine wpStill_nil ?_
  have HB7 := Lib.hid (HB6.out.trans (b7.mono HB6.out.size))
  have X7 := Lib.hid (X6.out.of_heap h7)
  have Y37 := Lib.hid (Y3.out.of_heap h7)
  have T7 := Lib.hid (T6.out.of_heap h7)
  clear q0 q1 q2 q3 q4 q5 q6 q7 X6 Y3 T6 HB6 b7 h7 Y1
  go_wp2_with fail
  go_loopw [6, 7, 8, 9, 10, 11, 12, 13, 35] (fun ua ub uc ud ue uf ug uh i wr => ∃ (t : Nat) (a b c d e f g h : UInt32), t ≤ 64 ∧ i = .int .i64 t ∧ rounds W s t = [a, b, c, d, e, f, g, h] ∧ ua = wd a ∧ ub = wd b ∧ uc = wd c ∧ ud = wd d ∧ ue = wd e ∧ uf = wd f ∧ ug = wd g ∧ uh = wd h ∧ wr.heap = w7.heap ∧ Below w.heap.size w wr) (fun _ _ _ _ _ _ _ _ i _ => 64 - (intOf i).toNat)
  case atStart => exact ⟨0, _, _, _, _, _, _, _, _, Nat.zero_le _, rfl, H8.out, rfl, rfl, rfl, rfl, rfl, rfl, rfl, rfl, rfl, HB7.out⟩
  case round =>
    obtain ⟨t, a, b, c, d, e, f, g, h, ht, rfl, hr, rfl, rfl, rfl, rfl, rfl, rfl, rfl, rfl, hh, hb⟩ := hrel
    have HR := Lib.hid hr
    have HH := Lib.hid hh
    have HB := Lib.hid hb
    clear hr hh hb
    by_cases hlt : t < 64
    · have dt : decide ((t : Int) < 64) = true := by simp; omega
      have jt : (t : Int) < 64 := by omega
      have HN : Hid (rounds W s (t + 1) = rnd (kt.getD t 0) (W.getD t 0) (rounds W s t)) := Lib.hid rfl
      rw [HR.out] at HN
      have KT := Lib.hid (T7.out t hlt)
      have hWl : t < W.length := by rw [HW.out]; exact hlt
      have WT : Hid (W[t]? = some (W.getD t 0)) := Lib.hid (by simp [List.getD, List.getElem?_eq_getElem hWl])
      generalize kt.getD t 0 = k at *
      generalize W.getD t 0 = x at *
      obtain ⟨r1, r2, r3, r4, r5⟩ := rules_w
      clear hWl r4
      have HT := Lib.hid (And.intro ht hlt)
      clear hlt ht
      go_upto_region 6 with fail
      refine still_all (by kernel_rfl) (by kernel_rfl) fun w8 h8 b8 => ?_
      have k1 : w8.cell? ⟨3, t, none⟩ = some (wd k) := by rw [← KT.out]; exact World.cell?_of_block (by rw [h8, HH.out])
      have k2 : w8.cell? ⟨w4.heap.size, t, none⟩ = some (wd x) := ((X7.out.of_heap (h8.trans HH.out)).at_ t).trans (wv_at _ _ _ WT.out)
      repeat still_step
      still_call ((right_6 e _).mono fun _ _ h => ⟨h.1, h.2.symm⟩)
      repeat still_step
      still_call ((right_11 e _).mono fun _ _ h => ⟨h.1, h.2.symm⟩)
      repeat still_step
      still_call ((right_25 e _).mono fun _ _ h => ⟨h.1, h.2.symm⟩)
      repeat still_step
      refine wpStill_nil ?_
      have H8' := Lib.hid (h8.trans HH.out)
      have HB8 := Lib.hid (HB.out.trans (b8.mono HB.out.size))
      clear k1 k2 KT WT h8 b8 HH HB dt jt
      go_wp2_with fail
      refine (right_2 a _).mono ?_
      rintro _ _ ⟨rfl, rfl⟩
      go_wp2_with fail
      refine (right_13 a _).mono ?_
      rintro _ _ ⟨rfl, rfl⟩
      go_wp2_with fail
      refine (right_22 a _).mono ?_
      rintro _ _ ⟨rfl, rfl⟩
      have i1 : IntKind.i64.wrap ((t : Int) + 1) = ((t + 1 : Nat) : Int) := by have := HT.out; rw [IntWalk.i64_in _ (by omega)]; omega
      go_wp2_with fail
      clear r1 r2 r3 r5 i1
      obtain ⟨ht, hlt⟩ := HT.out
      refine ⟨⟨t + 1, _, _, _, _, _, _, _, _, hlt, ?_, HN.out, rfl, rfl, rfl, rfl, rfl, rfl, rfl, rfl, H8'.out, HB8.out⟩, ?_⟩
      · go_num
      · simp [intOf]; omega
    · have ht64 : t = 64 := by omega
      have dt : decide ((t : Int) < 64) = false := by simp; omega
      have HE : Hid (R = [a0 + a, b0 + b, c0 + c, d0 + d, e0 + e, f0 + f, g0 + g, h0 + h]) := by
        have := HBS.out
        rw [ht64] at HR
        rw [HR.out, H8.out] at this
        exact this
      have S8 : Hid ((Tryz.prog.info? 135).map (·.size) = some (wv R).size) := by rw [wv_size, HE.out]; exact size23
      have Z8 : Hid ((wv (zw 8)).size = (wv R).size) := by rw [wv_size R, HE.out]; exact rfl
      have Y1 := Lib.hid (Y17.out.of_heap HH.out)
      have Y3 := Lib.hid (Y37.out.of_heap HH.out)
      have q0 := (Y1.out.at_ 0).trans v0.out
      have q1 := (Y1.out.at_ 1).trans v1.out
      have q2 := (Y1.out.at_ 2).trans v2.out
      have q3 := (Y1.out.at_ 3).trans v3.out
      have q4 := (Y1.out.at_ 4).trans v4.out
      have q5 := (Y1.out.at_ 5).trans v5.out
      have q6 := (Y1.out.at_ 6).trans v6.out
      have q7 := (Y1.out.at_ 7).trans v7.out
      obtain ⟨r1, r2, r3, r4, r5⟩ := rules_w
      clear r2 r3 r4 r5 ht64 hlt ht
      go_upto_region 10 with fail
      refine wp_region_lit ?_
      iterate 96 (first | go_values | go_skip | go_guarded | go_step | go_upon | go_back)
      refine wpList_build8 rfl _ _ _ _ _ _ _ _ rfl _ _ _ _ _ _ _ _ rfl rfl rfl rfl rfl rfl rfl rfl ?_
      rw [← HE.out]
      refine wpList_store_whole rfl 135 _ _ rfl _ (wv R) rfl rfl _ _ Y3.out S8.out Z8.out (wv_one _) ?_
      intro w8 g8 x8 z8
      have X8 := Lib.hid x8
      have HB8 := Lib.hid (HB.out.grown g8 HB.out.size (fun k hk => by injection hk; omega))
      clear x8 g8 z8 q0 q1 q2 q3 q4 q5 q6 q7 r1
      refine wpList_nil ?_
      go_wp2_with fail
      refine bodyPost_ret (v := .agg (wv R)) ?_ rfl ⟨rfl, HB8.out⟩
      exact results_cell_row rfl _ _ _ _ _ _ _ rfl X8.out Tryz.underlying135 rfl S8.out
end Go.Proofs.YtmnhpkdldeifgaaGreatDoor
