/- What package digest's Two answers. What package mac's calls answer: contracts of blend, Key, Sum, Parts (of two), Check. What the library's Concat answers of any parts. What package mac's Parts answers of any parts. -/
import Derived.Test.YtmnhpkdldeifgaaGreatDoorGz
import Derived.Test.YtmnhpkdldeifgaaGreatDoorGb
import Derived.Test.YtmnhpkdldeifgaaGreatDoorGg
import Derived.Test.YtmnhpkdldeifgaaGreatDoorGl
import Derived.RegionTactic
import Derived.ChangeAlike
import Derived.Laws.CopyOwn
import Derived.Test.YtmnhpkdldeifgaaGreatDoorGy
namespace Go.Proofs.YtmnhpkdldeifgaaGreatDoor
set_option maxRecDepth 100000
open Go.RowKit

set_option maxHeartbeats 1000000 in
theorem two_own (v0 v1 : Value) (l0 l1 : List UInt8) (hl : l0.length + l1.length ≤ 100000) (w : World) (h0 : BytesAt w v0 l0) (h1 : BytesAt w v1 l1) (T : Tab w) :
    Calls Tryz.prog 104 #[v0, v1] w fun e w' => ∃ v', e = .returned v' ∧ w'.ownsRow w.heap.size 5 1 v' (sumL (l0 ++ l1)).length (bv (sumL (l0 ++ l1))) ∧ Below w.heap.size w w' := by
  have T0 := Lib.hid T
  have H0 := Lib.hid h0
  have H1 := Lib.hid h1
  obtain ⟨A0, cap0, rfl, -, -⟩ := h0
  obtain ⟨A1, cap1, rfl, -, -⟩ := h1
  clear T
  go_enter Tryz.func104, Tryz.ntmps104
  go_wp2_with fail
  have y := Whole.new w 25 #[.slice A0 l0.length cap0, .slice A1 l1.length cap1]
  have b : Below w.heap.size w (w.alloc (.cells #[.slice A0 l0.length cap0, .slice A1 l1.length cap1] 25)) := (Below.refl _ _).alloc (Nat.le_refl _) _
  generalize w.alloc (.cells #[.slice A0 l0.length cap0, .slice A1 l1.length cap1] 25) = w1 at *
  refine (concat_any _ _ _ l0 l1 w1 (y.at_ 0) (y.at_ 1) (H0.out.below b) (H1.out.below b) (by omega) (by omega)).mono ?_
  rintro e w2 ⟨v2, rfl, y2, b2⟩
  have B2 := Lib.hid (b.trans (b2.mono b.size))
  have Y2 := Lib.hid y2
  clear y b b2 y2
  go_wp2_with fail
  refine (sum_own v2 (l0 ++ l1) (by simp; omega) w2 Y2.out (T0.out.below B2.out T0.out.pos)).mono ?_
  rintro e w3 ⟨v3, rfl, y3, b3⟩
  have B3 := Lib.hid (B2.out.trans (b3.mono B2.out.size))
  have Y3 : Hid (w3.ownsRow w.heap.size 5 1 v3 (sumL (l0 ++ l1)).length (bv (sumL (l0 ++ l1)))) := own_less y3 B2.out.size
  clear y3 b3 B2 Y2
  go_wp2
  go_ret
  exact ⟨_, rfl, Y3.out, B3.out⟩
theorem two_any (v0 v1 : Value) (l0 l1 : List UInt8) (hl0 : l0.length ≤ 2500) (hl1 : l1.length ≤ 2500) (w : World) (h0 : BytesAt w v0 l0) (h1 : BytesAt w v1 l1) (T : Tab w) :
    Calls Tryz.prog 104 #[v0, v1] w fun e w' => ∃ v', e = .returned v' ∧ BytesAt w' v' (sumL (l0 ++ l1)) ∧ Below w.heap.size w w' :=
  (two_own v0 v1 l0 l1 (by omega) w h0 h1 T).mono fun _ _ ⟨v', he, ho, hb⟩ => ⟨v', he, BytesAt.of_own ho, hb⟩
end Go.Proofs.YtmnhpkdldeifgaaGreatDoor

namespace Go.Proofs.YtmnhpkdldeifgaaGreatDoor
set_option maxRecDepth 100000
open Go.RowKit

theorem xorB_at (c : UInt8) (l : List UInt8) (k : Nat) (x : UInt8) (h : l[k]? = some x) : (xorB c l)[k]? = some (x ^^^ c) := by simp [xorB, h]

set_option maxHeartbeats 1000000 in
theorem blend_any (v : Value) (l : List UInt8) (x : UInt8) (w : World) (h : BytesAt w v l) (hl : l.length ≤ 1000000) :
    Calls Tryz.prog 105 #[v, .int .u8 (x.toNat : Int)] w fun e w' => ∃ v', e = .returned v' ∧ BytesAt w' v' (xorB x l) ∧ Below w.heap.size w w' := by
  obtain ⟨i0, hi0, hz0, hz1, hz2⟩ := info_parts byte_info
  have H0 := Lib.hid h
  obtain ⟨A0, cap0, rfl, hcap0, -⟩ := h
  obtain ⟨n, hn⟩ : ∃ n, n = l.length := ⟨_, rfl⟩
  have HF : Hid ((xorB x l).length = n) := by rw [xorB_length, hn]; exact rfl
  rw [← hn] at hl H0 hcap0 ⊢
  have HN := Lib.hid hn
  clear hn
  go_enter Tryz.func105, Tryz.ntmps105
  go_wp2_with (at_make; refine wpList_make_full _ rfl (.tmp 9) (.tmp 9) 25 rfl w.heap.size 5 i0 (.int .u8 0) 1 Tryz.underlying25 hi0 hz0 hz1 .i64 .i64 _ _ n rfl rfl ?c1 ?c2 ?c3 ?c4 ?c5 ?_)
  case c1 => rfl
  case c2 => rfl
  case c3 => rw [hz2]; omega
  case c4 => simp only [maxLen]; omega
  case c5 => exact Nat.le_refl _
  intro w1 ho1 hg1
  rw [made_bytes, ← doneTo_zero (xorB x l) n] at ho1
  have hb1 : Below w.heap.size w w1 := (Below.refl _ _).grown hg1 (Nat.le_refl _) (fun k hk => by cases hk)
  have HO1 := Lib.hid ho1
  have HB1 := Lib.hid hb1
  clear ho1 hg1 hb1
  go_wp2_with fail
  go_loopw [13] (fun i wr => ∃ k : Nat, k ≤ n ∧ i = .int .i64 k ∧ wr.ownsRow w.heap.size 5 1 (.slice (some ⟨w.heap.size, 0, none⟩) n n) n (bv (doneTo (xorB x l) n k)) ∧ Below w.heap.size w wr) (fun i _ => n - (intOf i).toNat)
  case atStart => exact ⟨0, Nat.zero_le _, rfl, HO1.out, HB1.out⟩
  case round =>
    obtain ⟨k, hk, rfl, ho, hbel⟩ := hrel
    have HO := Lib.hid ho
    have HBe := Lib.hid hbel
    have zr := hbel.size
    clear ho hbel
    by_cases hkn : k < n
    · have hk0 : k < l.length := by have := HN.out; omega
      obtain ⟨b0, off0, rfl, hb0, hcell0⟩ := H0.out.spots (by rintro rfl; simp at hk0)
      have hx0 : l[k]? = some l[k] := List.getElem?_eq_getElem hk0
      have c0 : wr.cell? ⟨b0, off0 + k, none⟩ = some (.int .u8 (l[k].toNat : Int)) := (HBe.out.cell (p := ⟨b0, off0 + k, none⟩) hb0).trans (hcell0 k _ hx0)
      have HS := Lib.hid (doneTo_set (xorB x l) n k _ HF.out (xorB_at x l k _ hx0))
      have HX := Lib.hid (xor_cell l[k] x)
      have c2 := HO.out.cellAt k (by omega)
      have f2 := HO.out.frozenAt k
      have hlen : k < (bv (doneTo (xorB x l) n k)).length := by rw [bv_length, doneTo_length _ _ _ HF.out hk]; exact hkn
      rw [List.getElem?_eq_getElem hlen] at c2
      generalize (bv (doneTo (xorB x l) n k))[k] = old at c2
      generalize l[k] = x0 at *
      clear hx0 hcell0 hlen
      go_wp2
      refine ⟨⟨k + 1, by omega, by go_num, ?_, HBe.out.setCell (Nat.le_refl _) _⟩, by simp [intOf]; omega⟩
      have q := HO.out.stored k (.int .u8 ((x0 ^^^ x).toNat : Int))
      rw [HS.out] at q
      rw [HX.out]
      exact q.1
    · obtain rfl : k = n := by omega
      have ho := HO.out
      rw [doneTo_all _ _ HF.out] at ho
      have hy : BytesAt wr (.slice (some ⟨w.heap.size, 0, none⟩) k k) (xorB x l) := by
        apply BytesAt.of_own (base := w.heap.size)
        rw [HF.out]
        exact ho
      have HY := Lib.hid hy
      clear ho hy
      go_wp2
      go_ret
      exact ⟨_, rfl, HY.out, HBe.out⟩

theorem bytes_of_whole {w : World} {g : Nat} {l : List UInt8} {n cap : Nat} (h : w.heap[g]? = some (.cells (bv l).toArray 5 (0, 0))) (hn : n = l.length) (hc : n ≤ cap) : BytesAt w (.slice (some ⟨g, 0, none⟩) n cap) l := by
  subst hn
  refine ⟨_, _, rfl, hc, fun _ => ⟨_, rfl, fun j c hj => ?_⟩⟩
  have ha : (⟨g, 0, none⟩ : Addr).add j = ⟨g, j, none⟩ := by unfold Addr.add; split <;> simp_all
  rw [ha, Whole.at_ (t := 5) (cs := (bv l).toArray) h j]
  simp [bv, hj]
theorem whole_of_own {w : World} {base g n : Nat} {xs : List Value} (h : w.ownsRow base 5 1 (.slice (some ⟨g, 0, none⟩) n n) n xs) : w.heap[g]? = some (.cells xs.toArray 5 (0, 0)) := by
  rcases h.2 with ⟨h1, -⟩ | ⟨g', cap, cur, h1, -, h3, -, -, h6, h7⟩
  · cases h1
  · injection h1 with h1 _ h2
    injection h1 with h1
    injection h1 with h1
    subst h1 h2
    rw [h3, ← h7, List.take_of_length_le (by simp; omega)]
theorem zero_splice (n : Nat) (b : List UInt8) : splice (bv (List.replicate n 0)) 0 (bv b) = bv (b ++ List.replicate (n - b.length) 0) := by
  simp [splice, bv]
theorem key_splice (l : List UInt8) (b : List UInt8) (hb : b = baseL l) : splice (bv (List.replicate 64 0)) 0 (bv b) = bv (keyL l) := by
  subst hb
  exact zero_splice 64 _
theorem run_copy_bytes (w : World) (ty : TypeId) (g n cap : Nat) (L : List UInt8) (src : Value) (l : List UInt8) (hg : w.heap[g]? = some (.cells (bv L).toArray 5 (0, 0))) (hL : L.length = n) (hs : BytesAt w src l) (hl : l.length ≤ n) (B : Nat) (hB : B ≤ g) :
    ∃ w', (Builtin.copy_ #[25, 25] ty #[.slice (some ⟨g, 0, none⟩) n cap, src]).run Tryz.prog w = .ok (goInt l.length) w' ∧ w'.heap[g]? = some (.cells (splice (bv L) 0 (bv l)).toArray 5 (0, 0)) ∧ Below B w w' := by
  have bs : (Tryz.prog.info? 5).map (·.size) = some 1 := by kernel_rfl
  obtain ⟨A, c, rfl, -, hc⟩ := hs
  by_cases h0 : l = []
  · subst h0
    refine ⟨w, run_copy_none (P := Tryz.prog) w 25 25 ty 5 _ _ _ _ _ _ Tryz.underlying25 bs (by simp), ?_, Below.refl _ _⟩
    simpa [splice, bv] using hg
  · obtain ⟨ad, rfl, hcell⟩ := hc h0
    have q := run_copy_row (P := Tryz.prog) w 25 25 ty 5 g 0 n cap ad l.length c (bv L).toArray 5 (bv l) Tryz.underlying25 bs hg (by rw [bv_length]; exact (Nat.min_eq_left hl).symm) (fun j v hj => by
      simp only [bv, List.getElem?_map, Option.map_eq_some_iff] at hj
      obtain ⟨x, hx, rfl⟩ := hj
      exact hcell j x hx) (by simp [bv_length]; omega) (bv_one l)
    rw [bv_length] at q
    refine ⟨_, q, ?_, below_setRow (Below.refl _ _) hB _⟩
    have q2 := setRow_heap w g _ ((bv L).toArray.toList.take 0 ++ bv l ++ (bv L).toArray.toList.drop (0 + l.length)).toArray 5 _ hg
    simpa [splice, bv_length] using q2

set_option maxHeartbeats 1000000 in
theorem key_any (v : Value) (l : List UInt8) (w : World) (h : BytesAt w v l) (hl : l.length ≤ 5000) (T : Tab w) :
    Calls Tryz.prog 103 #[v] w fun e w' => ∃ v', e = .returned v' ∧ BytesAt w' v' (keyL l) ∧ Below w.heap.size w w' := by
  obtain ⟨i0, hi0, hz0, hz1, hz2⟩ := info_parts byte_info
  have T0 := Lib.hid T
  have H0 := Lib.hid h
  obtain ⟨A0, cap0, rfl, hcap0, -⟩ := h
  clear T
  by_cases h64 : l.length ≤ 64
  · have d : decide ((64 : Int) < (l.length : Int)) = false := by simp; omega
    have HK := Lib.hid (key_splice l l (by rw [baseL, if_pos h64]))
    go_enter Tryz.func103, Tryz.ntmps103
    go_wp2_with (at_make; refine wpList_make_full _ rfl _ _ 25 rfl w.heap.size 5 i0 (.int .u8 0) 1 Tryz.underlying25 hi0 hz0 hz1 .i64 .i64 _ _ 64 rfl rfl rfl rfl (by rw [hz2]; decide) (by simp [maxLen]) (Nat.le_refl _) ?_)
    intro w1 ho1 hg1
    rw [made_bytes] at ho1
    have HB1 := Lib.hid ((Below.refl w.heap.size w).grown hg1 (Nat.le_refl _) (fun k hk => by cases hk))
    have HG1 := Lib.hid (whole_of_own ho1)
    have H1 := Lib.hid (H0.out.below HB1.out)
    clear ho1 hg1
    obtain ⟨w2, hr, hg2, hb2⟩ := run_copy_bytes w1 3 w.heap.size 64 64 (List.replicate 64 0) _ l HG1.out (List.length_replicate ..) H1.out h64 w.heap.size (Nat.le_refl _)
    have HB2 := Lib.hid (HB1.out.trans (hb2.mono (Nat.le_refl _)))
    rw [HK.out] at hg2
    have HY := Lib.hid (bytes_of_whole (n := 64) (cap := 64) hg2 (keyL_length l).symm (Nat.le_refl _))
    clear hb2 hg2
    go_wp2
    go_ret
    exact ⟨_, rfl, HY.out, HB2.out⟩
  · have d : decide ((64 : Int) < (l.length : Int)) = true := by simp; omega
    have HK := Lib.hid (key_splice l (sumL l) (by rw [baseL, if_neg h64]))
    have SL := sumL_length l
    have SH := Lib.hid SL
    go_enter Tryz.func103, Tryz.ntmps103
    go_wp2_with fail
    refine (sum_any _ l (Nat.le_trans hl (by decide)) w H0.out T0.out).mono ?_
    rintro e w0 ⟨v0, rfl, y0, b0⟩
    have HB0 := Lib.hid b0
    have HY0 := Lib.hid y0
    obtain ⟨A1, cap1, rfl, -, -⟩ := y0
    clear b0
    rw [SL]
    go_wp2_with (at_make; refine wpList_make_full _ rfl _ _ 25 rfl w0.heap.size 5 i0 (.int .u8 0) 1 Tryz.underlying25 hi0 hz0 hz1 .i64 .i64 _ _ 64 rfl rfl rfl rfl (by rw [hz2]; decide) (by simp [maxLen]) (Nat.le_refl _) ?_)
    intro w1 ho1 hg1
    rw [made_bytes] at ho1
    have HB1 := Lib.hid ((Below.refl w0.heap.size w0).grown hg1 (Nat.le_refl _) (fun k hk => by cases hk))
    have HG1 := Lib.hid (whole_of_own ho1)
    have H1 := Lib.hid (HY0.out.below HB1.out)
    clear ho1 hg1
    obtain ⟨w2, hr, hg2, hb2⟩ := run_copy_bytes w1 3 w0.heap.size 64 64 (List.replicate 64 0) _ (sumL l) HG1.out (List.length_replicate ..) H1.out (by rw [SL]; decide) w0.heap.size (Nat.le_refl _)
    rw [SL] at hr
    have HB2 := Lib.hid (HB0.out.trans ((HB1.out.trans hb2).mono HB0.out.size))
    rw [HK.out] at hg2
    have HY := Lib.hid (bytes_of_whole (n := 64) (cap := 64) hg2 (keyL_length l).symm (Nat.le_refl _))
    clear hb2 hg2
    go_wp2
    go_ret
    exact ⟨_, rfl, HY.out, HB2.out⟩
set_option maxHeartbeats 1000000 in
theorem mac_own (v0 v1 : Value) (k m : List UInt8) (w : World) (h0 : BytesAt w v0 k) (h1 : BytesAt w v1 m) (hk : k.length ≤ 5000) (hm : m.length ≤ 90000) (T : Tab w) :
    Calls Tryz.prog 97 #[v0, v1] w fun e w' => ∃ v', e = .returned v' ∧ w'.ownsRow w.heap.size 5 1 v' (macL k m).length (bv (macL k m)) ∧ Below w.heap.size w w' := by
  have T0 := Lib.hid T
  have H0 := Lib.hid h0
  have H1 := Lib.hid h1
  have X1 : Hid ((xorB 54 (keyL k)).length = 64) := by rw [xorB_length]; exact keyL_length k
  have X2 : Hid ((xorB 92 (keyL k)).length = 64) := by rw [xorB_length]; exact keyL_length k
  have KL := Lib.hid (keyL_length k)
  have ML : Hid (macL k m = sumL (xorB 92 (keyL k) ++ sumL (xorB 54 (keyL k) ++ m))) := Lib.hid rfl
  have SL := Lib.hid (sumL_length (xorB 54 (keyL k) ++ m))
  obtain ⟨A0, cap0, rfl, hcap0, -⟩ := h0
  obtain ⟨A1, cap1, rfl, hcap1, -⟩ := h1
  clear T
  generalize macL k m = M at *
  go_enter Tryz.func97, Tryz.ntmps97
  go_wp2_with fail
  refine (key_any _ k w H0.out hk T0.out).mono ?_
  rintro e w1 ⟨v1, rfl, y1, b1⟩
  have B1 := Lib.hid b1
  have Y1 := Lib.hid y1
  clear y1 b1
  generalize keyL k = K1 at *
  go_wp2_with fail
  refine (blend_any v1 K1 54 w1 Y1.out (by have := KL.out; omega)).mono ?_
  rintro e w2 ⟨v2, rfl, y2, b2⟩
  have B2 := Lib.hid (B1.out.trans (b2.mono B1.out.size))
  have Y2 := Lib.hid y2
  have Y1' := Lib.hid (Y1.out.below b2)
  clear y2 b2 Y1
  generalize xorB 54 K1 = I1 at *
  go_wp2_with fail
  refine (two_own v2 _ I1 m (by have := X1.out; omega) w2 Y2.out (H1.out.below B2.out) (T0.out.below B2.out T0.out.pos)).mono ?_
  rintro e w3 ⟨v3, rfl, y3, b3⟩
  have B3 := Lib.hid (B2.out.trans (b3.mono B2.out.size))
  have Y3 := Lib.hid (BytesAt.of_own y3)
  have Y13 := Lib.hid (Y1'.out.below b3)
  clear y3 b3 Y1' Y2
  generalize sumL (I1 ++ m) = S1 at *
  go_wp2_with fail
  refine (blend_any v1 K1 92 w3 Y13.out (by have := KL.out; omega)).mono ?_
  rintro e w4 ⟨v4, rfl, y4, b4⟩
  have B4 := Lib.hid (B3.out.trans (b4.mono B3.out.size))
  have Y4 := Lib.hid y4
  have Y34 := Lib.hid (Y3.out.below b4)
  clear y4 b4 Y3 Y13
  generalize xorB 92 K1 = O1 at *
  go_wp2_with fail
  refine (two_own v4 v3 O1 S1 (by have := X2.out; have := SL.out; omega) w4 Y4.out Y34.out (T0.out.below B4.out T0.out.pos)).mono ?_
  rintro e w5 ⟨v5, rfl, y5, b5⟩
  rw [← ML.out] at y5
  have B5 := Lib.hid (B4.out.trans (b5.mono B4.out.size))
  have Y5 : Hid (w5.ownsRow w.heap.size 5 1 v5 M.length (bv M)) := own_less y5 B4.out.size
  clear y5 b5
  go_wp2
  go_ret
  exact ⟨_, rfl, Y5.out, B5.out⟩

theorem mac_any (v0 v1 : Value) (k m : List UInt8) (w : World) (h0 : BytesAt w v0 k) (h1 : BytesAt w v1 m) (hk : k.length ≤ 5000) (hm : m.length ≤ 90000) (T : Tab w) :
    Calls Tryz.prog 97 #[v0, v1] w fun e w' => ∃ v', e = .returned v' ∧ BytesAt w' v' (macL k m) ∧ Below w.heap.size w w' :=
  (mac_own v0 v1 k m w h0 h1 hk hm T).mono fun _ _ ⟨v', he, ho, hb⟩ => ⟨v', he, BytesAt.of_own ho, hb⟩
end Go.Proofs.YtmnhpkdldeifgaaGreatDoor

namespace Go.Proofs.YtmnhpkdldeifgaaGreatDoor
set_option maxRecDepth 100000
open Go.RowKit

/-- A block's cells are slices, each just these bytes. -/
def PartsAt (w : World) (g : Nat) (ls : List (List UInt8)) : Prop :=
  g < w.heap.size ∧ ∀ k l, ls[k]? = some l → ∃ A cap, w.cell? ⟨g, k, none⟩ = some (.slice A l.length cap) ∧ BytesAt w (.slice A l.length cap) l
theorem PartsAt.below {w w' : World} {g : Nat} {ls : List (List UInt8)} (h : PartsAt w g ls) (hb : Below w.heap.size w w') : PartsAt w' g ls :=
  ⟨Nat.lt_of_lt_of_le h.1 hb.size, fun k l hk => by
    obtain ⟨A, cap, hc, hB⟩ := h.2 k l hk
    exact ⟨A, cap, (hb.cell (p := ⟨g, k, none⟩) h.1).trans hc, hB.below hb⟩⟩
theorem flat_next {ls : List (List UInt8)} {k : Nat} {l : List UInt8} (h : ls[k]? = some l) : (ls.take (k + 1)).flatten = (ls.take k).flatten ++ l := by
  rw [take_at h]; simp
theorem flat_all (ls : List (List UInt8)) (k : Nat) (h : ls.length ≤ k) : (ls.take k).flatten = ls.flatten := by rw [List.take_of_length_le h]
theorem flat_le (ls : List (List UInt8)) (k : Nat) : (ls.take k).flatten.length ≤ ls.flatten.length := by
  conv => rhs; rw [← List.take_append_drop k ls, List.flatten_append, List.length_append]
  exact Nat.le_add_right _ _

set_option maxHeartbeats 1000000 in
theorem concat_own (g n : Nat) (ls : List (List UInt8)) (hn : n = ls.length) (w : World) (h : PartsAt w g ls) (hn1 : n ≤ 1000000) (hl : ls.flatten.length ≤ 1000000) :
    Calls Tryz.prog 14 #[.slice (some ⟨g, 0, none⟩) n n] w fun e w' => ∃ v, e = .returned v ∧ w'.ownsRow w.heap.size 5 1 v ls.flatten.length (bv ls.flatten) ∧ Below w.heap.size w w' := by
  have H := Lib.hid h
  have HN := Lib.hid hn
  have HL := Lib.hid hl
  have hgw := h.1
  clear h hn hl
  go_enter Tryz.func14, Tryz.ntmps14
  go_wp2_with fail
  go_loop [3, 11] (fun z i => ∃ k t : Nat, k ≤ n ∧ i = .int .i64 (k : Int) ∧ z = .int .i64 (t : Int) ∧ t = (ls.take k).flatten.length) (fun _ i => n - (intOf i).toNat)
  case atStart => exact ⟨0, 0, Nat.zero_le _, rfl, rfl, by simp⟩
  case round =>
    obtain ⟨k, t, hk, rfl, rfl, ht⟩ := hrel
    have HT := Lib.hid ht
    have ht1 : t ≤ 1000000 := by rw [ht]; exact Nat.le_trans (flat_le ls k) HL.out
    clear ht
    by_cases hlt : k < n
    · have d : decide ((k : Int) < (n : Int)) = true := by simp; omega
      obtain ⟨l, hl⟩ : ∃ l, ls[k]? = some l := ⟨_, List.getElem?_eq_getElem (by rw [← HN.out]; exact hlt)⟩
      obtain ⟨A, cap, hc, hB⟩ := H.out.2 k l hl
      have hT2 : t + l.length = (ls.take (k + 1)).flatten.length := by rw [flat_next hl, List.length_append, ← HT.out]
      have HT2 := Lib.hid hT2
      have ht2 : t + l.length ≤ 1000000 := by rw [hT2]; exact Nat.le_trans (flat_le ls (k + 1)) HL.out
      have tw : IntKind.i64.wrap ((t : Int) + (l.length : Int)) = ((t + l.length : Nat) : Int) := by rw [IntWalk.i64_in _ (by omega)]; omega
      have d2 : decide (((t + l.length : Nat) : Int) < 0) = false := by simp; omega
      clear hT2 hB hl
      generalize t + l.length = t2 at *
      go_wp2_with fail
      exact ⟨⟨k + 1, t2, by omega, by go_num, rfl, HT2.out⟩, by simp [intOf]; omega⟩
    · have hk' : k = n := by omega
      have d : decide ((k : Int) < (n : Int)) = false := by simp; omega
      subst hk'
      have G := Lib.hid (grow_any t (by omega) w)
      clear hlt HT
      go_wp2_with fail
      refine G.out.mono ?_
      rintro e w1 ⟨v, rfl, ho, hb⟩
      have HO := Lib.hid ho
      have HB := Lib.hid hb
      clear ho hb G d hk ht1
      go_wp2_with fail
      go_loopw [6, 27] (fun v i wr => ∃ j s : Nat, j ≤ k ∧ i = .int .i64 (j : Int) ∧ s = (ls.take j).flatten.length ∧ wr.ownsRow w.heap.size 5 1 v s (bv (ls.take j).flatten) ∧ Below w.heap.size w wr) (fun _ i _ => k - (intOf i).toNat)
      case atStart => exact ⟨0, 0, Nat.zero_le _, rfl, rfl, HO.out, HB.out⟩
      case round =>
        obtain ⟨j, s, hj, rfl, hs, ho, hb⟩ := hrel
        clear HO HB
        have HO := Lib.hid ho
        have HB := Lib.hid hb
        have HS := Lib.hid hs
        have P := Lib.hid (H.out.below HB.out)
        clear ho hb hs
        by_cases hjk : j < k
        · have d : decide ((j : Int) < (k : Int)) = true := by simp; omega
          obtain ⟨l, hl⟩ : ∃ l, ls[j]? = some l := ⟨_, List.getElem?_eq_getElem (by rw [← HN.out]; exact hjk)⟩
          have HF := Lib.hid (flat_next hl)
          obtain ⟨A, cap, hc, hB⟩ := P.out.2 j l hl
          have HBy := Lib.hid hB
          have hs2 : s + l.length ≤ 1000000 := by
            have q := flat_le ls (j + 1)
            rw [HF.out, List.length_append, ← HS.out] at q
            exact Nat.le_trans q HL.out
          clear hB hl
          go_wp2_with (with_reducible refine wpList_append_bytes rfl _ _ rfl w.heap.size _ _ _ ?hv HO.out _ _ ?hx HBy.out ?hlen ?hbase ?_)
          case hv => exact rfl
          case hx => exact rfl
          case hlen => omega
          case hbase => exact HB.out.size
          intro v' w2 ho2 hg2
          have hlt := HO.out.lt
          rw [← bv_append, ← HF.out] at ho2
          have HO2 := Lib.hid ho2
          have HB2 := Lib.hid (HB.out.grown hg2 HB.out.size (fun k hk => (hlt k hk).1))
          have HS2 : Hid (s + l.length = (ls.take (j + 1)).flatten.length) := Lib.hid (by rw [HF.out, List.length_append, HS.out])
          clear ho2 hg2 hlt hc
          go_wp2_with fail
          exact ⟨⟨j + 1, _, by omega, by go_num, HS2.out, HO2.out, HB2.out⟩, by simp [intOf]; omega⟩
        · have d : decide ((j : Int) < (k : Int)) = false := by simp; omega
          have hjk' : j = k := by omega
          have HY : Hid (wr.ownsRow w.heap.size 5 1 u6 ls.flatten.length (bv ls.flatten)) := by
            have q := HO.out
            have e := flat_all ls j (by have := HN.out; omega)
            rw [HS.out, e] at q
            exact q
          clear HO
          go_wp2
          go_ret
          exact ⟨_, rfl, HY.out, HB.out⟩
theorem concat_list (g n : Nat) (ls : List (List UInt8)) (hn : n = ls.length) (w : World) (h : PartsAt w g ls) (hn1 : n ≤ 1000000) (hl : ls.flatten.length ≤ 1000000) :
    Calls Tryz.prog 14 #[.slice (some ⟨g, 0, none⟩) n n] w fun e w' => ∃ v, e = .returned v ∧ BytesAt w' v ls.flatten ∧ Below w.heap.size w w' :=
  (concat_own g n ls hn w h hn1 hl).mono fun _ _ ⟨v, he, ho, hb⟩ => ⟨v, he, BytesAt.of_own ho, hb⟩
end Go.Proofs.YtmnhpkdldeifgaaGreatDoor

namespace Go.Proofs.YtmnhpkdldeifgaaGreatDoor
set_option maxRecDepth 100000
open Go.RowKit

set_option maxHeartbeats 1000000 in
theorem parts_list (v0 : Value) (g n : Nat) (k : List UInt8) (ls : List (List UInt8)) (hn : n = ls.length) (w : World) (hp : PartsAt w g ls) (h0 : BytesAt w v0 k) (hk : k.length ≤ 5000) (hn1 : n ≤ 1000000) (hl : ls.flatten.length ≤ 4900) (T : Tab w) :
    Calls Tryz.prog 89 #[v0, .slice (some ⟨g, 0, none⟩) n n] w fun e w' => ∃ v', e = .returned v' ∧ w'.ownsRow w.heap.size 5 1 v' (macL k ls.flatten).length (bv (macL k ls.flatten)) ∧ Below w.heap.size w w' := by
  have T0 := Lib.hid T
  have H0 := Lib.hid h0
  have CC := Lib.hid (concat_list g n ls hn w hp hn1 (by omega))
  clear T h0 hp hn
  go_enter Tryz.func89, Tryz.ntmps89
  go_wp2_with fail
  refine CC.out.mono ?_
  rintro e w1 ⟨v3, rfl, y1, b1⟩
  have B1 := Lib.hid b1
  have Y1 := Lib.hid y1
  clear y1 b1
  go_wp2_with fail
  refine (mac_own v0 v3 k ls.flatten w1 (H0.out.below B1.out) Y1.out hk (Nat.le_trans hl (by decide)) (T0.out.below B1.out T0.out.pos)).mono ?_
  rintro e w2 ⟨v4, rfl, y2, b2⟩
  have B2 := Lib.hid (B1.out.trans (b2.mono B1.out.size))
  have Y2 : Hid (w2.ownsRow w.heap.size 5 1 v4 (macL k ls.flatten).length (bv (macL k ls.flatten))) := own_less y2 B1.out.size
  clear y2 b2
  go_wp2
  go_ret
  exact ⟨_, rfl, Y2.out, B2.out⟩

theorem parts3_at (w : World) (vb vi : Value) (b i : List UInt8) (x : UInt8) (hb : BytesAt w vb b) (hi : BytesAt w vi i) :
    PartsAt ((w.alloc (.cells #[.int .u8 (x.toNat : Int)] 5)).alloc (.cells #[vb, vi, .slice (some ⟨w.heap.size, 0, none⟩) 1 1] 25)) (w.heap.size + 1) [b, i, [x]] := by
  have b1 : Below w.heap.size w (w.alloc (.cells #[.int .u8 (x.toNat : Int)] 5)) := (Below.refl _ _).alloc (Nat.le_refl _) _
  have y1 := BytesAt.lit w [x] #[.int .u8 (x.toNat : Int)] rfl
  have hs : (w.alloc (.cells #[.int .u8 (x.toNat : Int)] 5)).heap.size = w.heap.size + 1 := by simp
  generalize w.alloc (.cells #[.int .u8 (x.toNat : Int)] 5) = w1 at *
  have b2 : Below w1.heap.size w1 (w1.alloc (.cells #[vb, vi, .slice (some ⟨w.heap.size, 0, none⟩) 1 1] 25)) := (Below.refl _ _).alloc (Nat.le_refl _) _
  have y2 := Whole.new w1 25 #[vb, vi, .slice (some ⟨w.heap.size, 0, none⟩) 1 1]
  rw [← hs]
  have hsz : w1.heap.size < (w1.alloc (.cells #[vb, vi, .slice (some ⟨w.heap.size, 0, none⟩) 1 1] 25)).heap.size := y2.lt
  refine ⟨hsz, fun k l hk => ?_⟩
  have c := y2.at_ k
  have Hb := (hb.below b1).below b2
  have Hi := (hi.below b1).below b2
  have Hx := y1.below b2
  match k, hk, c with
  | 0, hk, c =>
    obtain rfl : b = l := by simpa using hk
    obtain ⟨A, cap, rfl, -, -⟩ := id hb
    exact ⟨A, cap, c, Hb⟩
  | 1, hk, c =>
    obtain rfl : i = l := by simpa using hk
    obtain ⟨A, cap, rfl, -, -⟩ := id hi
    exact ⟨A, cap, c, Hi⟩
  | 2, hk, c =>
    obtain rfl : [x] = l := by simpa using hk
    exact ⟨_, _, c, Hx⟩
  | k + 3, hk, c => simp at hk
end Go.Proofs.YtmnhpkdldeifgaaGreatDoor
