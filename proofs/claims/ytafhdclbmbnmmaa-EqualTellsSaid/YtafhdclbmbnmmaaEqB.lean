/- What the document's own Bytes, Zero, Pick, bit and Xor (carcanetref02) answer: contracts. -/
import Derived.Test.YtafhdclbmbnmmaaEqA
import Derived.Deep.QuietTactic
import Derived.BigQuiet
namespace Go.Proofs.Ytafhdclbmbnmmaa
open Go.RowKit

set_option maxHeartbeats 1000000 in
theorem ref_bytes (v0 v1 : Value) (l0 l1 : List UInt8) (w : World) (h0 : BytesAt w v0 l0) (h1 : BytesAt w v1 l1) (hl0 : l0.length ≤ 1000000) :
    Calls Try.prog 8 #[v0, v1] w fun e w' => e = .returned (.bool (decide (l0 = l1))) ∧ Below w.heap.size w w' := by
  have hs0 := h0
  have hs1 := h1
  obtain ⟨A0, cap0, rfl, hcap0, -⟩ := hs0
  obtain ⟨A1, cap1, rfl, hcap1, -⟩ := hs1
  have H0 := Lib.hid h0
  have H1 := Lib.hid h1
  clear h0 h1
  by_cases hn : l0.length = l1.length
  · have hb : ((l0.length : Int) != (l1.length : Int)) = false := by simp; omega
    go_enter Try.func8, Try.ntmps8
    go_wp2_with fail
    go_loopw [5] (fun i wr => ∃ k : Nat, k ≤ l0.length ∧ i = .int .i64 k ∧ l0.take k = l1.take k ∧ Below w.heap.size w wr) (fun i _ => l0.length - (intOf i).toNat)
    case atStart => exact ⟨0, Nat.zero_le _, rfl, by simp, Below.refl _ _⟩
    case round =>
      obtain ⟨k, hk, rfl, heq, hbel⟩ := hrel
      have HE := Lib.hid heq
      have HBe := Lib.hid hbel
      clear heq hbel
      by_cases hlt : k < l0.length
      · have hk1 : k < l1.length := by omega
        obtain ⟨b0, off0, rfl, hb0, hcell0⟩ := H0.out.spots (by rintro rfl; simp at hlt)
        obtain ⟨b1, off1, rfl, hb1, hcell1⟩ := H1.out.spots (by rintro rfl; simp at hk1)
        have hx0 : l0[k]? = some l0[k] := List.getElem?_eq_getElem hlt
        have hx1 : l1[k]? = some l1[k] := List.getElem?_eq_getElem hk1
        have c0 : wr.cell? ⟨b0, off0 + k, none⟩ = some (.int .u8 (l0[k].toNat : Int)) := (HBe.out.cell (p := ⟨b0, off0 + k, none⟩) hb0).trans (hcell0 k _ hx0)
        have c1 : wr.cell? ⟨b1, off1 + k, none⟩ = some (.int .u8 (l1[k].toNat : Int)) := (HBe.out.cell (p := ⟨b1, off1 + k, none⟩) hb1).trans (hcell1 k _ hx1)
        generalize l0[k] = x0 at *
        generalize l1[k] = x1 at *
        have HX0 := Lib.hid hx0
        have HX1 := Lib.hid hx1
        clear hx0 hx1 hcell0 hcell1
        by_cases hx : x0 = x1
        · subst hx
          have hne : ((x0.toNat : Int) != (x0.toNat : Int)) = false := by simp
          go_wp2_with fail
          go_quiet (fail)
          go_wp2
          refine ⟨⟨k + 1, by omega, by go_num, by rw [take_at HX0.out, take_at HX1.out, HE.out], ?_⟩, by simp [intOf]; omega⟩
          exact below_drewN HBe.out _
        · have hne : ((x0.toNat : Int) != (x1.toNat : Int)) = true := by
            simp
            intro h
            exact hx (UInt8.toNat_inj.1 (by omega))
          have hd : decide (l0 = l1) = false := by
            simp only [decide_eq_false_iff_not]
            rintro rfl
            have h1 := HX0.out
            rw [HX1.out] at h1
            injection h1 with h1
            exact hx h1.symm
          have HD := Lib.hid hd
          clear hx hd
          go_wp2_with fail
          go_quiet (fail)
          go_wp2
          go_ret
          exact ⟨by rw [HD.out]; rfl, below_drewN HBe.out _⟩
      · obtain rfl : k = l0.length := by omega
        have hd : decide (l0 = l1) = true := by
          simp only [decide_eq_true_eq]
          have := HE.out
          rwa [List.take_length, hn, List.take_length] at this
        have HD := Lib.hid hd
        clear hd
        go_wp2
        go_ret
        exact ⟨by rw [HD.out]; rfl, HBe.out⟩
  · have hb : ((l0.length : Int) != (l1.length : Int)) = true := by simp; omega
    have hd : decide (l0 = l1) = false := by
      simp only [decide_eq_false_iff_not]
      rintro rfl
      exact hn rfl
    rw [hd]
    clear hn hd
    go_enter Try.func8, Try.ntmps8
    go_wp2
    go_ret
    exact ⟨rfl, Below.refl _ _⟩

set_option maxHeartbeats 400000 in
theorem ref_zero (v : Value) (l : List UInt8) (w : World) (h : BytesAt w v l) (hl : l.length ≤ 1000000) :
    Calls Try.prog 10 #[v] w fun e w' => e = .returned (.bool (decide (∀ c ∈ l, c = 0))) ∧ w = w' := by
  have hs := h
  obtain ⟨A, cap, rfl, hcap, -⟩ := hs
  have H := Lib.hid h
  clear h
  go_enter Try.func10, Try.ntmps10
  go_wp2_with fail
  go_loop [3] (fun i => ∃ k : Nat, k ≤ l.length ∧ i = .int .i64 k ∧ ∀ c ∈ l.take k, c = 0) (fun i => l.length - (intOf i).toNat)
  case atStart => exact ⟨0, Nat.zero_le _, rfl, by simp⟩
  case round =>
    obtain ⟨k, hk, rfl, hz⟩ := hrel
    have HZ := Lib.hid hz
    clear hz
    by_cases hlt : k < l.length
    · obtain ⟨b, off, rfl, hb, hcell⟩ := H.out.spots (by rintro rfl; simp at hlt)
      have hx : l[k]? = some l[k] := List.getElem?_eq_getElem hlt
      have c0 := hcell k _ hx
      generalize l[k] = c at *
      have HX := Lib.hid hx
      clear hcell hx
      by_cases hc : c = 0
      · subst hc
        go_wp2
        refine ⟨⟨k + 1, by omega, by go_num, ?_⟩, by simp [intOf]; omega⟩
        rw [take_at HX.out]
        intro d hd
        rcases List.mem_append.1 hd with h | h
        · exact HZ.out d h
        · simpa using h
      · have hne : ((c.toNat : Int) != 0) = true := by
          simp
          intro h
          exact hc (UInt8.toNat_inj.1 (by simpa using h))
        have hd : decide (∀ c ∈ l, c = 0) = false := by
          simp only [decide_eq_false_iff_not]
          intro h
          exact hc (h c (List.mem_of_getElem? HX.out))
        have HD := Lib.hid hd
        clear hc hd
        go_wp2
        go_ret
        exact ⟨by rw [HD.out]; rfl, rfl⟩
    · obtain rfl : k = l.length := by omega
      have hd : decide (∀ c ∈ l, c = 0) = true := by
        simp only [decide_eq_true_eq]
        have := HZ.out
        rwa [List.take_length] at this
      have HD := Lib.hid hd
      clear hd
      go_wp2
      go_ret
      exact ⟨by rw [HD.out]; rfl, rfl⟩

/-- One more bit. -/
theorem xor_bit_same (a b k : Nat) (h : a / 2 ^ k % 2 = b / 2 ^ k % 2) : (a ^^^ b) % 2 ^ (k + 1) = (a ^^^ b) % 2 ^ k := by
  rw [Nat.mod_pow_succ]
  have ht : (a ^^^ b).testBit k = false := by
    rw [Nat.testBit_xor, Nat.testBit_eq_decide_div_mod_eq, Nat.testBit_eq_decide_div_mod_eq, h]
    simp
  rw [Nat.testBit_eq_decide_div_mod_eq] at ht
  simp at ht
  rw [show (a ^^^ b) / 2 ^ k % 2 = 0 by omega]
  simp
theorem xor_bit_other (a b k : Nat) (h : a / 2 ^ k % 2 ≠ b / 2 ^ k % 2) : (a ^^^ b) % 2 ^ (k + 1) = (a ^^^ b) % 2 ^ k + 2 ^ k := by
  rw [Nat.mod_pow_succ]
  have ht : (a ^^^ b).testBit k = true := by
    rw [Nat.testBit_xor, Nat.testBit_eq_decide_div_mod_eq, Nat.testBit_eq_decide_div_mod_eq]
    rcases Nat.mod_two_eq_zero_or_one (a / 2 ^ k) with p | p <;> rcases Nat.mod_two_eq_zero_or_one (b / 2 ^ k) with q | q <;> simp_all
  rw [Nat.testBit_eq_decide_div_mod_eq] at ht
  simp at ht
  rw [ht]
  simp

theorem quo_bit (a p : Nat) (ha : a < 256) : (wrap64 ((a : Int) / (p : Int))).tmod 2 = ((a / p % 2 : Nat) : Int) := by
  have h : a / p ≤ a := Nat.div_le_self a p
  rw [← Int.natCast_ediv]
  generalize a / p = q at *
  rw [IntWalk.wrap64_in _ (by omega), Int.tmod_eq_emod_of_nonneg (by omega)]
  omega

set_option maxRecDepth 100000 in
set_option maxHeartbeats 1000000 in
theorem ref_bit (a b : Nat) (w : World) (ha : a < 256) (hb : b < 256) :
    Calls Try.prog 17 #[.int .u8 a, .int .u8 b] w fun e w' => e = .returned (.int .u8 ((a ^^^ b : Nat) : Int)) ∧ ∃ m, w' = w.drewN m := by
  have hx : a ^^^ b < 2 ^ 8 := Nat.xor_lt_two_pow ha hb
  have HX := Lib.hid hx
  clear hx
  go_enter Try.func17, Try.ntmps17
  go_wp2_with fail
  go_loopw [5, 6] (fun u i wr => ∃ k m : Nat, k ≤ 8 ∧ i = .int .i64 ((2 ^ k : Nat) : Int) ∧ u = .int .u8 (((a ^^^ b) % 2 ^ k : Nat) : Int) ∧ wr = w.drewN m) (fun _ i _ => 257 - (intOf i).toNat)
  case atStart => exact ⟨0, 0, Nat.zero_le _, rfl, by simp [Nat.mod_one], rfl⟩
  case round =>
    obtain ⟨k, m, hk, rfl, rfl, rfl⟩ := hrel
    by_cases hlt : k < 8
    · have hp : 2 ^ k ≤ 128 := Nat.pow_le_pow_right (n := 2) (j := 7) (by decide) (by omega)
      have hp1 : 1 ≤ 2 ^ k := Nat.one_le_two_pow
      have ho : (a ^^^ b) % 2 ^ k < 2 ^ k := Nat.mod_lt _ (by omega)
      have HS := Lib.hid (xor_bit_same a b k)
      have HT := Lib.hid (xor_bit_other a b k)
      have HP : Hid (2 ^ (k + 1) = 2 ^ k * 2) := Nat.pow_succ 2 k
      generalize 2 ^ k = p at *
      generalize (a ^^^ b) % p = o at *
      have hlp : decide ((p : Int) < 256) = true := by simp; omega
      by_cases hbit : a / p % 2 = b / p % 2
      · have hne : ((wrap64 ((a : Int) / (p : Int))).tmod 2 != (wrap64 ((b : Int) / (p : Int))).tmod 2) = false := by
          rw [quo_bit a p ha, quo_bit b p hb, hbit]
          simp
        have HB := Lib.hid hbit
        clear hbit
        go_wp2_with fail
        go_quiet (fail)
        go_wp2
        refine ⟨⟨k + 1, _, by omega, by rw [HP.out]; simp, by rw [HS.out HB.out], rfl⟩, by simp [intOf]; omega⟩
      · have hne : ((wrap64 ((a : Int) / (p : Int))).tmod 2 != (wrap64 ((b : Int) / (p : Int))).tmod 2) = true := by
          rw [quo_bit a p ha, quo_bit b p hb]
          simp
          omega
        have HB := Lib.hid hbit
        clear hbit
        go_wp2_with fail
        go_quiet (fail)
        go_wp2
        refine ⟨⟨k + 1, _, by omega, by rw [HP.out]; simp, by rw [HT.out HB.out]; simp, rfl⟩, by simp [intOf]; omega⟩
    · obtain rfl : k = 8 := by omega
      have hend : (a ^^^ b) % 2 ^ 8 = a ^^^ b := Nat.mod_eq_of_lt HX.out
      rw [hend]
      clear hend
      go_wp2
      go_ret
      exact ⟨rfl, _, rfl⟩

theorem ref_bit8 (x y : UInt8) (w : World) :
    Calls Try.prog 17 #[.int .u8 (x.toNat : Int), .int .u8 (y.toNat : Int)] w fun e w' => e = .returned (.int .u8 ((x ^^^ y).toNat : Int)) ∧ ∃ m, w' = w.drewN m := by
  rw [UInt8.toNat_xor]
  exact ref_bit x.toNat y.toNat w x.toNat_lt y.toNat_lt

set_option maxHeartbeats 400000 in
theorem ref_pick (f : Bool) (v0 v1 : Value) (l0 l1 : List UInt8) (w : World) (h0 : BytesAt w v0 l0) (h1 : BytesAt w v1 l1) (hl0 : l0.length ≤ 1000000) :
    Calls Try.prog 12 #[.bool f, v0, v1] w fun e w' => ∃ v', e = .returned v' ∧ BytesAt w' v' (pickL f l0 l1) ∧ Below w.heap.size w w' := by
  have hs0 := h0
  have hs1 := h1
  obtain ⟨A0, cap0, rfl, hcap0, -⟩ := hs0
  obtain ⟨A1, cap1, rfl, hcap1, -⟩ := hs1
  have H0 := Lib.hid h0
  have H1 := Lib.hid h1
  clear h0 h1
  by_cases hn : l0.length = l1.length
  · have hb : ((l0.length : Int) != (l1.length : Int)) = false := by simp; omega
    rw [pickL, if_pos hn]
    have hl1 : l1.length ≤ 1000000 := by omega
    clear hn
    cases f
    · simp only [Bool.false_eq_true, if_false]
      go_enter Try.func12, Try.ntmps12
      go_wp2_with (at_builtin; refine wpList_append_bytes rfl (.tmp 16) (.tmp 17) rfl w.heap.size _ 0 [] rfl (own_empty w) _ l1 rfl ?c1 ?c2 ?c3 ?_)
      case c1 => exact H1.out.below ((Below.refl _ _).alloc (Nat.le_refl _) _)
      case c2 => omega
      case c3 => simp
      intro v2 w2 ho2 hg2
      have hb2 : Below w.heap.size w w2 := ((Below.refl _ _).alloc (Nat.le_refl _) _).grown hg2 (by simp) (fun k hk => by simp [Value.ownBlock] at hk; omega)
      have HY := Lib.hid (BytesAt.of_own ho2)
      clear ho2 hg2
      go_wp2
      go_ret
      exact ⟨_, rfl, HY.out, hb2⟩
    · simp only [if_true]
      go_enter Try.func12, Try.ntmps12
      go_wp2_with (at_builtin; refine wpList_append_bytes rfl (.tmp 13) (.tmp 14) rfl w.heap.size _ 0 [] rfl (own_empty w) _ l0 rfl ?c1 ?c2 ?c3 ?_)
      case c1 => exact H0.out.below ((Below.refl _ _).alloc (Nat.le_refl _) _)
      case c2 => omega
      case c3 => simp
      intro v2 w2 ho2 hg2
      have hb2 : Below w.heap.size w w2 := ((Below.refl _ _).alloc (Nat.le_refl _) _).grown hg2 (by simp) (fun k hk => by simp [Value.ownBlock] at hk; omega)
      have HY := Lib.hid (BytesAt.of_own ho2)
      clear ho2 hg2
      go_wp2
      go_ret
      exact ⟨_, rfl, HY.out, hb2⟩
  · have hb : ((l0.length : Int) != (l1.length : Int)) = true := by simp; omega
    rw [pickL, if_neg hn]
    clear hn
    go_enter Try.func12, Try.ntmps12
    go_wp2
    go_ret
    exact ⟨_, rfl, BytesAt.nil _, Below.refl _ _⟩

set_option maxHeartbeats 1000000 in
set_option maxRecDepth 100000 in
theorem ref_xor (v0 v1 : Value) (l0 l1 : List UInt8) (w : World) (h0 : BytesAt w v0 l0) (h1 : BytesAt w v1 l1) (hl0 : l0.length ≤ 1000000) (hl1 : l1.length ≤ 1000000) :
    Calls Try.prog 14 #[v0, v1] w fun e w' => ∃ v', e = .returned v' ∧ BytesAt w' v' (xorL l0 l1) ∧ Below w.heap.size w w' := by
  have hs0 := h0
  have hs1 := h1
  obtain ⟨A0, cap0, rfl, hcap0, -⟩ := hs0
  obtain ⟨A1, cap1, rfl, hcap1, -⟩ := hs1
  have H0 := Lib.hid h0
  have H1 := Lib.hid h1
  clear h0 h1
  obtain ⟨n, hn⟩ : ∃ n, n = min l0.length l1.length := ⟨_, rfl⟩
  have HF : Hid ((xorL l0 l1).length = n) := by rw [xorL_length, hn]; exact rfl
  have hn0 : n ≤ l0.length := by omega
  have hn1 : n ≤ l1.length := by omega
  have HN := Lib.hid hn
  clear hn
  go_enter Try.func14, Try.ntmps14
  go_wp2_with fail
  go_loopw [5, 6] (fun u i wr => ∃ k : Nat, k ≤ n ∧ i = .int .i64 k ∧ wr.ownsRow w.heap.size 5 1 u k (bv ((xorL l0 l1).take k)) ∧ Below w.heap.size w wr) (fun _ i _ => n - (intOf i).toNat)
  case atStart => exact ⟨0, Nat.zero_le _, rfl, World.ownsRow_nil _ _ _ _, Below.refl _ _⟩
  case round =>
    obtain ⟨k, hk, rfl, ho, hbel⟩ := hrel
    have HO := Lib.hid ho
    have HBe := Lib.hid hbel
    have zr := hbel.size
    clear ho hbel
    by_cases hkn : k < n
    · have hk0 : k < l0.length := by omega
      have hk1 : k < l1.length := by omega
      obtain ⟨b0, off0, rfl, hb0, hcell0⟩ := H0.out.spots (by rintro rfl; simp at hk0)
      obtain ⟨b1, off1, rfl, hb1, hcell1⟩ := H1.out.spots (by rintro rfl; simp at hk1)
      have hx0 : l0[k]? = some l0[k] := List.getElem?_eq_getElem hk0
      have hx1 : l1[k]? = some l1[k] := List.getElem?_eq_getElem hk1
      have c0 : wr.cell? ⟨b0, off0 + k, none⟩ = some (.int .u8 (l0[k].toNat : Int)) := (HBe.out.cell (p := ⟨b0, off0 + k, none⟩) hb0).trans (hcell0 k _ hx0)
      have c1 : wr.cell? ⟨b1, off1 + k, none⟩ = some (.int .u8 (l1[k].toNat : Int)) := (HBe.out.cell (p := ⟨b1, off1 + k, none⟩) hb1).trans (hcell1 k _ hx1)
      have HT := Lib.hid (take_at (xorL_at l0 l1 k _ _ hx0 hx1))
      generalize l0[k] = x0 at *
      generalize l1[k] = x1 at *
      clear hx0 hx1 hcell0 hcell1
      go_wp2_with fail
      go_region_law (first
        | (refine step_append_bytes (by rfl) (.tmp 19) (.tmp 29) (by rfl) w.heap.size u5 k _ (by rfl) (HO3.out.alloc _) _ [x0 ^^^ x1] (by rfl) (BytesAt.lit w3 [x0 ^^^ x1] _ rfl) (by simp; omega) (by simp; omega) ?_; intro v4 w4 ho4 hg4; have hB4 : Below w.heap.size w w4 := (HB3.out.alloc z3 _).grown hg4 (by simp; omega) (fun g hg => (HO3.out.lt g hg).1); have HO4 := Lib.hid ho4; have HB4 := Lib.hid hB4; clear ho4 hg4 hB4)
        | (go_simp; go_at_call 17; refine (ref_bit8 x0 x1 _).mono ?_; rintro e w3 ⟨rfl, m, hw3⟩; have HO3 : Hid (w3.ownsRow w.heap.size 5 1 u5 k (bv ((xorL l0 l1).take k))) := by { rw [hw3]; exact HO.out }; have HB3 : Hid (Below w.heap.size w w3) := by { rw [hw3]; exact below_drewN HBe.out.drew m }; have z3 := HB3.out.size; clear hw3))
      all_goals
        go_wp2
        refine ⟨⟨k + 1, by omega, by go_num, ?_, HB4.out⟩, by simp [intOf]; omega⟩
        rw [HT.out, bv_append]
        exact HO4.out
    · obtain rfl : k = n := by omega
      have hlss : ¬ k < l0.length ∨ (k < l0.length ∧ ¬ k < l1.length) := by
        have := HN.out
        omega
      have ho := HO.out
      have hfull : (xorL l0 l1).take k = xorL l0 l1 := List.take_of_length_le (by rw [HF.out]; exact Nat.le_refl _)
      rw [hfull] at ho
      have hy : BytesAt wr u5 (xorL l0 l1) := by
        apply BytesAt.of_own (base := w.heap.size)
        rw [HF.out]
        exact ho
      have HY := Lib.hid hy
      clear ho hy hfull
      rcases hlss with hl | ⟨hl, hl'⟩
      all_goals
        go_wp2
        go_ret
        exact ⟨_, rfl, HY.out, HBe.out⟩
end Go.Proofs.Ytafhdclbmbnmmaa
