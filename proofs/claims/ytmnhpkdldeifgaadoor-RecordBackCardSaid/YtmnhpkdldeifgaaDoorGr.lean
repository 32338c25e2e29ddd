/- What the library's Concat (of two) answers. What package digest's Pad answers. -/
import Derived.Test.YtmnhpkdldeifgaaDoorGq
namespace Go.Proofs.YtmnhpkdldeifgaaDoor
set_option maxRecDepth 100000
open Go.RowKit

set_option maxHeartbeats 1000000 in
theorem concat_any (g : Nat) (v0 v1 : Value) (l0 l1 : List UInt8) (w : World) (c0 : w.cell? ⟨g, 0, none⟩ = some v0) (c1 : w.cell? ⟨g, 1, none⟩ = some v1) (h0 : BytesAt w v0 l0) (h1 : BytesAt w v1 l1) (hl0 : l0.length ≤ 1000000) (hl1 : l1.length ≤ 1000000) :
    Calls Tryd.prog 26 #[.slice (some ⟨g, 0, none⟩) 2 2] w fun e w' => ∃ v, e = .returned v ∧ BytesAt w' v (l0 ++ l1) ∧ Below w.heap.size w w' := by
  have H0 := Lib.hid h0
  have H1 := Lib.hid h1
  obtain ⟨A0, cap0, rfl, hc0, -⟩ := h0
  obtain ⟨A1, cap1, rfl, hc1, -⟩ := h1
  go_enter Tryd.func26, Tryd.ntmps26
  go_wp2_with fail
  go_loop [3, 11] (fun z i => (i = .int .i64 0 ∧ z = .int .i64 0) ∨ (i = .int .i64 1 ∧ z = .int .i64 (l0.length : Int)) ∨ (i = .int .i64 2 ∧ z = .int .i64 ((l0.length + l1.length : Nat) : Int))) (fun _ i => 2 - (intOf i).toNat)
  case atStart => exact Or.inl ⟨rfl, rfl⟩
  case round =>
    rcases hrel with ⟨rfl, rfl⟩ | ⟨rfl, rfl⟩ | ⟨rfl, rfl⟩
    · go_wp2
      exact ⟨Or.inr (Or.inl ⟨rfl, rfl⟩), by simp [intOf]⟩
    · go_wp2
      exact ⟨Or.inr (Or.inr ⟨rfl, by go_num⟩), by simp [intOf]⟩
    · have hgw : g < w.heap.size := World.block_lt_of_cell? w _ c0
      go_wp2_with fail
      have G := grow_any (l0.length + l1.length) (by omega) w
      rw [Int.natCast_add] at G
      refine G.mono ?_
      clear G
      rintro e w1 ⟨v, rfl, ho, hb⟩
      have HO := Lib.hid ho
      have HB := Lib.hid hb
      clear ho hb
      go_wp2_with fail
      go_loopw [6, 27] (fun v i wr => ((i = .int .i64 0 ∧ wr.ownsRow w.heap.size 5 1 v 0 []) ∨ (i = .int .i64 1 ∧ wr.ownsRow w.heap.size 5 1 v l0.length (bv l0)) ∨ (i = .int .i64 2 ∧ wr.ownsRow w.heap.size 5 1 v (l0.length + l1.length) (bv l0 ++ bv l1))) ∧ Below w.heap.size w wr) (fun _ i _ => 2 - (intOf i).toNat)
      case atStart => exact ⟨Or.inl ⟨rfl, HO.out⟩, HB.out⟩
      case round =>
        obtain ⟨hr, hb⟩ := hrel
        clear HO HB
        have HB := Lib.hid hb
        have k0 : wr.cell? ⟨g, 0, none⟩ = some (.slice A0 l0.length cap0) := (hb.cell (p := ⟨g, 0, none⟩) hgw).trans c0
        have k1 : wr.cell? ⟨g, 1, none⟩ = some (.slice A1 l1.length cap1) := (hb.cell (p := ⟨g, 1, none⟩) hgw).trans c1
        have K0 := Lib.hid (H0.out.below hb)
        have K1 := Lib.hid (H1.out.below hb)
        clear hb c0 c1
        rcases hr with ⟨rfl, ho⟩ | ⟨rfl, ho⟩ | ⟨rfl, ho⟩
        · have HO := Lib.hid ho
          clear ho
          go_wp2_with (with_reducible refine wpList_append_bytes rfl _ _ rfl w.heap.size _ _ _ ?hv HO.out _ _ ?hx K0.out ?hlen ?hbase ?_)
          case hv => exact rfl
          case hx => exact rfl
          case hlen => omega
          case hbase => exact HB.out.size
          intro v' w2 ho2 hg2
          have hlt := HO.out.lt
          have HO2 := Lib.hid ho2
          have HB2 := Lib.hid (HB.out.grown hg2 HB.out.size (fun k hk => (hlt k hk).1))
          clear ho2 hg2 hlt k0 k1
          go_wp2_with fail
          exact ⟨⟨Or.inr (Or.inl ⟨rfl, HO2.out⟩), HB2.out⟩, by simp [intOf]⟩
        · have HO := Lib.hid ho
          clear ho
          go_wp2_with (with_reducible refine wpList_append_bytes rfl _ _ rfl w.heap.size _ _ _ ?hv HO.out _ _ ?hx K1.out ?hlen ?hbase ?_)
          case hv => exact rfl
          case hx => exact rfl
          case hlen => omega
          case hbase => exact HB.out.size
          intro v' w2 ho2 hg2
          have hlt := HO.out.lt
          have HO2 := Lib.hid ho2
          have HB2 := Lib.hid (HB.out.grown hg2 HB.out.size (fun k hk => (hlt k hk).1))
          clear ho2 hg2 hlt k0 k1
          go_wp2_with fail
          exact ⟨⟨Or.inr (Or.inr ⟨rfl, HO2.out⟩), HB2.out⟩, by simp [intOf]⟩
        · have HY : Hid (BytesAt wr u6 (l0 ++ l1)) := BytesAt.of_own (base := w.heap.size) (by rw [List.length_append, bv_append]; exact ho)
          clear ho
          go_wp2
          go_ret
          exact ⟨_, rfl, HY.out, HB.out⟩
end Go.Proofs.YtmnhpkdldeifgaaDoor

namespace Go.Proofs.YtmnhpkdldeifgaaDoor
set_option maxRecDepth 100000
open Go.RowKit

/-- How far the eight bytes of the length have been written, the last first. -/
def padTo (n i : Nat) : List UInt8 := 128 :: (List.replicate (zerosFor n + (8 - i)) 0 ++ (be8 (n * 8)).drop (8 - i))
theorem padTo_length (n i : Nat) (hi : i ≤ 8) : (padTo n i).length = 9 + zerosFor n := by simp [padTo, be8_length]; omega
theorem padTo_zero (n : Nat) : padTo n 0 = 128 :: List.replicate (zerosFor n + 8) 0 := by simp [padTo, be8_length]
theorem padTo_all (n : Nat) : padTo n 8 = padL n := by simp [padTo, padL]
theorem be8_at (x i : Nat) (hi : i < 8) : (be8 x)[7 - i]? = some (UInt8.ofNat (x / 256 ^ i)) := by
  have h : 7 - i < 8 := by omega
  have e : 7 - (7 - i) = i := by omega
  simp [be8, List.getElem?_range h, e]
theorem padTo_set (n i : Nat) (hi : i < 8) : (padTo n i).set (8 + zerosFor n - i) (UInt8.ofNat (n * 8 / 256 ^ i)) = padTo n (i + 1) := by
  have e1 : 8 + zerosFor n - i = (zerosFor n + (7 - i)) + 1 := by omega
  have e2 : zerosFor n + (8 - i) = zerosFor n + (7 - i) + 1 := by omega
  have e3 : 8 - (i + 1) = 7 - i := by omega
  have e4 : 8 - i = 7 - i + 1 := by omega
  rw [padTo, padTo, e1, List.set_cons_succ, e2, List.replicate_succ', List.append_assoc, List.set_append_right _ _ (by simp), e3, drop_at (be8_at (n * 8) i hi), e4]
  simp
theorem bv_set (l : List UInt8) (i : Nat) (c : UInt8) : (bv l).set i (.int .u8 (c.toNat : Int)) = bv (l.set i c) := by simp [bv, List.map_set]

theorem made_zeros (n : Nat) : (madeCells #[Value.int .u8 0] n).toList = bv (List.replicate n 0) := by
  rw [toList_madeCells_one]
  simp [bv]
theorem len_byte (n k : Nat) (hk : k < 8) : IntKind.u64.wrap ((n : Int) * 8) / 2 ^ (8 * k) % 256 = ((UInt8.ofNat (n * 8 / 256 ^ k)).toNat : Int) := by
  have e : IntKind.u64.wrap ((n : Int) * 8) = ((n * 8 % 18446744073709551616 : Nat) : Int) := by
    simp [IntKind.wrap, IntKind.bits, IntKind.signed]
  rw [e]
  have h : k = 0 ∨ k = 1 ∨ k = 2 ∨ k = 3 ∨ k = 4 ∨ k = 5 ∨ k = 6 ∨ k = 7 := by omega
  rcases h with rfl | rfl | rfl | rfl | rfl | rfl | rfl | rfl <;> simp <;> omega
theorem pad_neg (n : Int) (hn : n < 0) (w : World) : Calls Tryd.prog 88 #[.int .i64 n] w fun e w' => e = .returned (.slice none 0 0) ∧ w = w' := by
  have d : decide (n < 0) = true := by simp; omega
  go_enter Tryd.func88, Tryd.ntmps88
  go_wp2
  go_ret
  exact ⟨rfl, rfl⟩

set_option maxHeartbeats 1000000 in
theorem pad_any (n : Nat) (hn : n < 9223372036854775808) (w : World) :
    Calls Tryd.prog 88 #[.int .i64 (n : Int)] w fun e w' => ∃ v, e = .returned v ∧ BytesAt w' v (padL n) ∧ Below w.heap.size w w' := by
  obtain ⟨i0, hi0, hz0, hz1, hz2⟩ := info_parts byte_info
  have d0 : decide ((n : Int) < 0) = false := by simp
  go_enter Tryd.func88, Tryd.ntmps88
  go_wp2_with (at_make; refine wpList_make_full _ rfl (.tmp 19) (.tmp 19) 25 rfl w.heap.size 5 i0 (.int .u8 0) 1 Tryd.underlying25 hi0 hz0 hz1 .i64 .i64 _ _ (9 + zerosFor n) rfl rfl ?c1 ?c2 ?c3 ?c4 ?c5 ?_)
  case c1 => rw [zerosFor]; omega
  case c2 => rw [zerosFor]; omega
  case c3 => rw [hz2, zerosFor]; omega
  case c4 => simp only [maxLen, zerosFor]; omega
  case c5 => exact Nat.le_refl _
  intro w1 ho1 hg1
  rw [made_zeros] at ho1
  have hb1 : Below w.heap.size w w1 := (Below.refl _ _).grown hg1 (Nat.le_refl _) (fun k hk => by cases hk)
  have HP0 : Hid ((bv (List.replicate (9 + zerosFor n) 0)).set 0 (.int .u8 128) = bv (padTo n 0)) := by
    have e : 9 + zerosFor n = (zerosFor n + 8) + 1 := by omega
    rw [padTo_zero, e, List.replicate_succ]
    exact rfl
  have HPL : Hid (∀ i, i ≤ 8 → (padTo n i).length = 9 + zerosFor n) := padTo_length n
  have HPS : Hid (∀ i, i < 8 → (padTo n i).set (8 + zerosFor n - i) (UInt8.ofNat (n * 8 / 256 ^ i)) = padTo n (i + 1)) := padTo_set n
  have HPA := Lib.hid (padTo_all n)
  have hz : zerosFor n < 64 := by rw [zerosFor]; omega
  generalize zerosFor n = z at *
  have HO1 := Lib.hid ho1
  have HB1 := Lib.hid hb1
  have c0 := ho1.cellAt 0 (by omega)
  have f0 := ho1.frozenAt 0
  have e0 : (bv (List.replicate (9 + z) 0))[0]? = some (.int .u8 0) := by
    have e : 9 + z = (8 + z) + 1 := by omega
    rw [e, List.replicate_succ]
    exact rfl
  rw [e0] at c0
  clear ho1 hg1 hb1 e0
  go_wp2_with fail
  go_loopw [26] (fun i wr => ∃ k : Nat, k ≤ 8 ∧ i = .int .i64 k ∧ wr.ownsRow w.heap.size 5 1 (.slice (some ⟨w.heap.size, 0, none⟩) (9 + z) (9 + z)) (9 + z) (bv (padTo n k)) ∧ Below w.heap.size w wr) (fun i _ => 8 - (intOf i).toNat)
  case atStart =>
    refine ⟨0, Nat.zero_le _, rfl, ?_, HB1.out.setCell (Nat.le_refl _) _⟩
    have q := HO1.out.stored 0 (.int .u8 128)
    rw [HP0.out] at q
    exact q.1
  case round =>
    obtain ⟨k, hk, rfl, ho, hbel⟩ := hrel
    clear HO1 HB1 c0 f0
    have HO := Lib.hid ho
    have HB := Lib.hid hbel
    by_cases hlt : k < 8
    · have c2 := ho.cellAt (8 + z - k) (by omega)
      have f2 := ho.frozenAt (8 + z - k)
      have hlen : 8 + z - k < (bv (padTo n k)).length := by rw [bv_length, HPL.out k hk]; omega
      rw [List.getElem?_eq_getElem hlen] at c2
      generalize (bv (padTo n k))[8 + z - k] = old at c2
      clear ho hbel hlen
      have d1 : decide ((k : Int) < 8) = true := by simp; omega
      go_wp2
      refine ⟨⟨k + 1, by omega, by go_num, ?_, HB.out.setCell (Nat.le_refl _) _⟩, by simp [intOf]; omega⟩
      have q := HO.out.stored (8 + z - k) (.int .u8 ((UInt8.ofNat (n * 8 / 256 ^ k)).toNat : Int))
      rw [bv_set, HPS.out k hlt] at q
      rw [len_byte n k hlt]
      exact q.1
    · have hk8 : k = 8 := by omega
      rw [hk8, HPA.out] at ho
      have HY : Hid (BytesAt wr (.slice (some ⟨w.heap.size, 0, none⟩) (9 + z) (9 + z)) (padL n)) := by
        apply BytesAt.of_own (base := w.heap.size)
        have e : (padL n).length = 9 + z := by rw [← HPA.out]; exact HPL.out 8 (Nat.le_refl _)
        rw [e]
        exact ho
      have d1 : decide ((k : Int) < 8) = false := by simp; omega
      clear ho hbel HO hlt hk8
      go_wp2
      go_ret
      exact ⟨_, rfl, HY.out, HB.out⟩
end Go.Proofs.YtmnhpkdldeifgaaDoor
