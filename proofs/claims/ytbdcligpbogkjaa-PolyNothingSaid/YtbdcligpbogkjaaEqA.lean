/- What package equal's calls answer: contracts. gather and Bytes change no memory that was there; Xor answers new bytes. -/
import Derived.Test.YtbdcligpbogkjaaEqM
import Derived.RegionTactic
import Derived.ChangeAlike
namespace Go.Proofs.Ytbdcligpbogkjaa
open Go.RowKit

set_option maxHeartbeats 400000 in
theorem gather_any (v : Value) (l : List UInt8) (w : World) (h : BytesAt w v l) (hl : l.length ≤ 1000000) :
    Calls Try.prog 27 #[v] w fun e w' => e = .returned (.int .u8 ((orAll l).toNat : Int)) ∧ w = w' := by
  have hs := h
  obtain ⟨A, cap, rfl, hcap, -⟩ := hs
  have H := Lib.hid h
  clear h
  go_enter Try.func27, Try.ntmps27
  go_wp2_with fail
  go_loop [3, 8] (fun u i => ∃ k : Nat, k ≤ l.length ∧ i = .int .i64 k ∧ u = .int .u8 ((orAll (l.take k)).toNat : Int)) (fun _ i => l.length - (intOf i).toNat)
  case atStart => exact ⟨0, Nat.zero_le _, rfl, by simp [orAll]⟩
  case round =>
    obtain ⟨k, hk, rfl, rfl⟩ := hrel
    by_cases hlt : k < l.length
    · obtain ⟨b, off, rfl, hb, hcell⟩ := H.out.spots (by rintro rfl; simp at hlt)
      have hx : l[k]? = some l[k] := List.getElem?_eq_getElem hlt
      have c0 := hcell k _ hx
      have HB : Hid (bits .or .u8 ((orAll (l.take k)).toNat : Int) (l[k].toNat : Int) = ((orAll (l.take (k + 1))).toNat : Int)) := by rw [take_at hx, orAll_snoc]; exact or_cell _ _
      generalize l[k] = c at *
      generalize orAll (l.take k) = o at *
      clear hcell hx
      go_wp2
      go_round
      case rel => exact ⟨k + 1, by omega, by go_num, by rw [HB.out]⟩
      case measure => simp [intOf]; omega
    · obtain rfl : k = l.length := by omega
      go_wp2
      go_ret
      exact ⟨by simp, rfl⟩

theorem zero_test (l : List UInt8) : (((orAll l).toNat : Int) == 0) = decide (∀ c ∈ l, c = 0) := by
  rw [Bool.eq_iff_iff]
  simp only [beq_iff_eq, decide_eq_true_eq, ← orAll_zero]
  rw [← UInt8.toNat_inj]
  simp

set_option maxHeartbeats 1000000 in
theorem xor_any (v0 v1 : Value) (l0 l1 : List UInt8) (w : World) (h0 : BytesAt w v0 l0) (h1 : BytesAt w v1 l1) (hl0 : l0.length ≤ 1000000) (hl1 : l1.length ≤ 1000000) :
    Calls Try.prog 28 #[v0, v1] w fun e w' => ∃ v', e = .returned v' ∧ BytesAt w' v' (xorL l0 l1) ∧ Below w.heap.size w w' := by
  obtain ⟨i0, hi0, hz0, hz1, hz2⟩ := info_parts byte_info
  have hs0 := h0
  have hs1 := h1
  obtain ⟨A0, cap0, rfl, hcap0, -⟩ := hs0
  obtain ⟨A1, cap1, rfl, hcap1, -⟩ := hs1
  have H0 := Lib.hid h0
  have H1 := Lib.hid h1
  clear h0 h1
  obtain ⟨n, hn⟩ : ∃ n, n = min l0.length l1.length := ⟨_, rfl⟩
  have HF : Hid ((xorL l0 l1).length = n) := by rw [xorL_length, hn]; exact rfl
  have hn0 : n ≤ l0.length := by omega
  have hn1 : n ≤ l1.length := by omega
  have HN := Lib.hid hn
  clear hn
  rcases Nat.lt_or_ge l1.length l0.length with hlt | hge
  all_goals
    go_enter Try.func28, Try.ntmps28
    go_wp2_with (at_make; refine wpList_make_full _ rfl (.tmp 11) (.tmp 11) 22 rfl w.heap.size 5 i0 (.int .u8 0) 1 Try.underlying22 hi0 hz0 hz1 .i64 .i64 _ _ n rfl rfl ?c1 ?c2 ?c3 ?c4 ?c5 ?_)
    case c1 => have := HN.out; omega
    case c2 => have := HN.out; omega
    case c3 => rw [hz2]; omega
    case c4 => simp only [maxLen]; omega
    case c5 => exact Nat.le_refl _
    intro w1 ho1 hg1
    rw [made_bytes, ← doneTo_zero (xorL l0 l1) n] at ho1
    have hb1 : Below w.heap.size w w1 := (Below.refl _ _).grown hg1 (Nat.le_refl _) (fun k hk => by cases hk)
    have HO1 := Lib.hid ho1
    have HB1 := Lib.hid hb1
    clear ho1 hg1 hb1
    go_wp2_with fail
    go_loopw [15] (fun i wr => ∃ k : Nat, k ≤ n ∧ i = .int .i64 k ∧ wr.ownsRow w.heap.size 5 1 (.slice (some ⟨w.heap.size, 0, none⟩) n n) n (bv (doneTo (xorL l0 l1) n k)) ∧ Below w.heap.size w wr) (fun i _ => n - (intOf i).toNat)
    case atStart => exact ⟨0, Nat.zero_le _, rfl, HO1.out, HB1.out⟩
    case round =>
      obtain ⟨k, hk, rfl, ho, hbel⟩ := hrel
      have HO := Lib.hid ho
      have HBe := Lib.hid hbel
      have zr := hbel.size
      clear ho hbel
      by_cases hkn : k < n
      · have hk0 : k < l0.length := by omega
        have hk1 : k < l1.length := by omega
        obtain ⟨b0, off0, rfl, hb0, hcell0⟩ := H0.out.spots (by rintro rfl; simp at hk0)
        obtain ⟨b1, off1, rfl, hb1, hcell1⟩ := H1.out.spots (by rintro rfl; simp at hk1)
        have hx0 : l0[k]? = some l0[k] := List.getElem?_eq_getElem hk0
        have hx1 : l1[k]? = some l1[k] := List.getElem?_eq_getElem hk1
        have c0 : wr.cell? ⟨b0, off0 + k, none⟩ = some (.int .u8 (l0[k].toNat : Int)) := (HBe.out.cell (p := ⟨b0, off0 + k, none⟩) hb0).trans (hcell0 k _ hx0)
        have c1 : wr.cell? ⟨b1, off1 + k, none⟩ = some (.int .u8 (l1[k].toNat : Int)) := (HBe.out.cell (p := ⟨b1, off1 + k, none⟩) hb1).trans (hcell1 k _ hx1)
        have HS := Lib.hid (doneTo_set (xorL l0 l1) n k _ HF.out (xorL_at l0 l1 k _ _ hx0 hx1))
        have HX := Lib.hid (xor_cell l0[k] l1[k])
        have c2 := HO.out.cellAt k (by omega)
        have f2 := HO.out.frozenAt k
        have hlen : k < (bv (doneTo (xorL l0 l1) n k)).length := by rw [bv_length, doneTo_length _ _ _ HF.out hk]; exact hkn
        rw [List.getElem?_eq_getElem hlen] at c2
        generalize (bv (doneTo (xorL l0 l1) n k))[k] = old at c2
        generalize l0[k] = x0 at *
        generalize l1[k] = x1 at *
        clear hx0 hx1 hcell0 hcell1 hlen
        go_wp2_with fail
        go_region
        all_goals
          go_wp2
          refine ⟨⟨k + 1, by omega, by go_num, ?_, (HBe.out.setCell (Nat.le_refl _) _).drew⟩, by simp [intOf]; omega⟩
          have q := HO.out.stored k (.int .u8 ((x0 ^^^ x1).toNat : Int))
          rw [HS.out] at q
          rw [HX.out]
          exact q.1
      · obtain rfl : k = n := by omega
        have ho := HO.out
        rw [doneTo_all _ _ HF.out] at ho
        have hy : BytesAt wr (.slice (some ⟨w.heap.size, 0, none⟩) k k) (xorL l0 l1) := by
          apply BytesAt.of_own (base := w.heap.size)
          rw [HF.out]
          exact ho
        have HY := Lib.hid hy
        clear ho hy
        go_wp2
        go_ret
        exact ⟨_, rfl, HY.out, HBe.out⟩

theorem bytes_test (l0 l1 : List UInt8) (h : l0.length = l1.length) : (((orAll (xorL l0 l1)).toNat : Int) == 0) = decide (l0 = l1) := by
  rw [zero_test, Bool.eq_iff_iff]
  simp only [decide_eq_true_eq]
  exact xorL_zero l0 l1 h

set_option maxHeartbeats 400000 in
theorem bytes_any (v0 v1 : Value) (l0 l1 : List UInt8) (w : World) (h0 : BytesAt w v0 l0) (h1 : BytesAt w v1 l1) (hl0 : l0.length ≤ 1000000) (hl1 : l1.length ≤ 1000000) :
    Calls Try.prog 22 #[v0, v1] w fun e w' => e = .returned (.bool (decide (l0 = l1))) ∧ Below w.heap.size w w' := by
  have C := Lib.hid (xor_any v0 v1 l0 l1 w h0 h1 hl0 hl1)
  obtain ⟨A0, cap0, rfl, hcap0, -⟩ := h0
  obtain ⟨A1, cap1, rfl, hcap1, -⟩ := h1
  by_cases hlen : l0.length = l1.length
  · have hb : ((l0.length : Int) == (l1.length : Int)) = true := by simp; omega
    rw [← bytes_test l0 l1 hlen]
    have HL : Hid ((xorL l0 l1).length ≤ 1000000) := by rw [xorL_length]; exact Lib.hid (by omega)
    have G : Hid (∀ v2 w2, BytesAt w2 v2 (xorL l0 l1) → Calls Try.prog 27 #[v2] w2 fun e w' => e = .returned (.int .u8 ((orAll (xorL l0 l1)).toNat : Int)) ∧ w2 = w') := fun v2 w2 hy => gather_any v2 _ w2 hy HL.out
    generalize ((orAll (xorL l0 l1)).toNat : Int) = o at *
    clear hlen
    go_enter Try.func22, Try.ntmps22
    go_wp2_with fail
    refine C.out.mono ?_
    rintro e w1 ⟨v1, rfl, hy, hbe⟩
    have HY := Lib.hid hy
    clear hy
    go_wp2_with fail
    refine (G.out v1 w1 HY.out).mono ?_
    rintro e w2 ⟨rfl, rfl⟩
    go_wp2
    go_ret
    exact ⟨rfl, hbe⟩
  · have hb : ((l0.length : Int) == (l1.length : Int)) = false := by simp; omega
    have hd : decide (l0 = l1) = false := by
      simp only [decide_eq_false_iff_not]
      rintro rfl
      exact hlen rfl
    rw [hd]
    clear hlen hd
    go_enter Try.func22, Try.ntmps22
    go_wp2
    go_ret
    exact ⟨rfl, Below.refl _ _⟩

end Go.Proofs.Ytbdcligpbogkjaa
