/- What the library's Concat answers of any parts. What package mac's Parts answers of any parts. What package derive's Extract and Expand answer. What package derive's Named answers. -/
import Derived.Test.YtieidemmajdpmaaDoorGn
import Derived.Test.YtieidemmajdpmaaDoorGq
import Derived.Test.YtieidemmajdpmaaDoorGd
import Derived.Test.YtieidemmajdpmaaDoorGc
import Derived.Deep.LoopGhost
import Derived.OwnWalk
namespace Go.Proofs.YtieidemmajdpmaaDoor
set_option maxRecDepth 100000
open Go.RowKit

/-- A block's cells are slices, each just these bytes. -/
def PartsAt (w : World) (g : Nat) (ls : List (List UInt8)) : Prop :=
  g < w.heap.size ∧ ∀ k l, ls[k]? = some l → ∃ A cap, w.cell? ⟨g, k, none⟩ = some (.slice A l.length cap) ∧ BytesAt w (.slice A l.length cap) l
theorem PartsAt.below {w w' : World} {g : Nat} {ls : List (List UInt8)} (h : PartsAt w g ls) (hb : Below w.heap.size w w') : PartsAt w' g ls :=
  ⟨Nat.lt_of_lt_of_le h.1 hb.size, fun k l hk => by
    obtain ⟨A, cap, hc, hB⟩ := h.2 k l hk
    exact ⟨A, cap, (hb.cell (p := ⟨g, k, none⟩) h.1).trans hc, hB.below hb⟩⟩
theorem flat_next {ls : List (List UInt8)} {k : Nat} {l : List UInt8} (h : ls[k]? = some l) : (ls.take (k + 1)).flatten = (ls.take k).flatten ++ l := by
  rw [take_at h]; simp
theorem flat_all (ls : List (List UInt8)) (k : Nat) (h : ls.length ≤ k) : (ls.take k).flatten = ls.flatten := by rw [List.take_of_length_le h]
theorem flat_le (ls : List (List UInt8)) (k : Nat) : (ls.take k).flatten.length ≤ ls.flatten.length := by
  conv => rhs; rw [← List.take_append_drop k ls, List.flatten_append, List.length_append]
  exact Nat.le_add_right _ _

set_option maxHeartbeats 1000000 in
theorem concat_list (g n : Nat) (ls : List (List UInt8)) (hn : n = ls.length) (w : World) (h : PartsAt w g ls) (hn1 : n ≤ 1000000) (hl : ls.flatten.length ≤ 1000000) :
    Calls Tryd.prog 40 #[.slice (some ⟨g, 0, none⟩) n n] w fun e w' => ∃ v, e = .returned v ∧ BytesAt w' v ls.flatten ∧ Below w.heap.size w w' := by
  have H := Lib.hid h
  have HN := Lib.hid hn
  have HL := Lib.hid hl
  have hgw := h.1
  clear h hn hl
  go_enter Tryd.func40, Tryd.ntmps40
  go_wp2_with fail
  go_loop [3, 11] (fun z i => ∃ k t : Nat, k ≤ n ∧ i = .int .i64 (k : Int) ∧ z = .int .i64 (t : Int) ∧ t = (ls.take k).flatten.length) (fun _ i => n - (intOf i).toNat)
  case atStart => exact ⟨0, 0, Nat.zero_le _, rfl, rfl, by simp⟩
  case round =>
    obtain ⟨k, t, hk, rfl, rfl, ht⟩ := hrel
    have HT := Lib.hid ht
    have ht1 : t ≤ 1000000 := by rw [ht]; exact Nat.le_trans (flat_le ls k) HL.out
    clear ht
    by_cases hlt : k < n
    · have d : decide ((k : Int) < (n : Int)) = true := by simp; omega
      obtain ⟨l, hl⟩ : ∃ l, ls[k]? = some l := ⟨_, List.getElem?_eq_getElem (by rw [← HN.out]; exact hlt)⟩
      obtain ⟨A, cap, hc, hB⟩ := H.out.2 k l hl
      have hT2 : t + l.length = (ls.take (k + 1)).flatten.length := by rw [flat_next hl, List.length_append, ← HT.out]
      have HT2 := Lib.hid hT2
      have ht2 : t + l.length ≤ 1000000 := by rw [hT2]; exact Nat.le_trans (flat_le ls (k + 1)) HL.out
      have tw : IntKind.i64.wrap ((t : Int) + (l.length : Int)) = ((t + l.length : Nat) : Int) := by rw [IntWalk.i64_in _ (by omega)]; omega
      have d2 : decide (((t + l.length : Nat) : Int) < 0) = false := by simp; omega
      clear hT2 hB hl
      generalize t + l.length = t2 at *
      go_wp2_with fail
      exact ⟨⟨k + 1, t2, by omega, by go_num, rfl, HT2.out⟩, by simp [intOf]; omega⟩
    · have hk' : k = n := by omega
      have d : decide ((k : Int) < (n : Int)) = false := by simp; omega
      subst hk'
      have G := Lib.hid (grow_any t (by omega) w)
      clear hlt HT
      go_wp2_with fail
      refine G.out.mono ?_
      rintro e w1 ⟨v, rfl, ho, hb⟩
      have HO := Lib.hid ho
      have HB := Lib.hid hb
      clear ho hb G d hk ht1
      go_wp2_with fail
      go_loopw [6, 27] (fun v i wr => ∃ j s : Nat, j ≤ k ∧ i = .int .i64 (j : Int) ∧ s = (ls.take j).flatten.length ∧ wr.ownsRow w.heap.size 5 1 v s (bv (ls.take j).flatten) ∧ Below w.heap.size w wr) (fun _ i _ => k - (intOf i).toNat)
      case atStart => exact ⟨0, 0, Nat.zero_le _, rfl, rfl, HO.out, HB.out⟩
      case round =>
        obtain ⟨j, s, hj, rfl, hs, ho, hb⟩ := hrel
        clear HO HB
        have HO := Lib.hid ho
        have HB := Lib.hid hb
        have HS := Lib.hid hs
        have P := Lib.hid (H.out.below HB.out)
        clear ho hb hs
        by_cases hjk : j < k
        · have d : decide ((j : Int) < (k : Int)) = true := by simp; omega
          obtain ⟨l, hl⟩ : ∃ l, ls[j]? = some l := ⟨_, List.getElem?_eq_getElem (by rw [← HN.out]; exact hjk)⟩
          have HF := Lib.hid (flat_next hl)
          obtain ⟨A, cap, hc, hB⟩ := P.out.2 j l hl
          have HBy := Lib.hid hB
          have hs2 : s + l.length ≤ 1000000 := by
            have q := flat_le ls (j + 1)
            rw [HF.out, List.length_append, ← HS.out] at q
            exact Nat.le_trans q HL.out
          clear hB hl
          go_wp2_with (with_reducible refine wpList_append_bytes rfl _ _ rfl w.heap.size _ _ _ ?hv HO.out _ _ ?hx HBy.out ?hlen ?hbase ?_)
          case hv => exact rfl
          case hx => exact rfl
          case hlen => omega
          case hbase => exact HB.out.size
          intro v' w2 ho2 hg2
          have hlt := HO.out.lt
          rw [← bv_append, ← HF.out] at ho2
          have HO2 := Lib.hid ho2
          have HB2 := Lib.hid (HB.out.grown hg2 HB.out.size (fun k hk => (hlt k hk).1))
          have HS2 : Hid (s + l.length = (ls.take (j + 1)).flatten.length) := Lib.hid (by rw [HF.out, List.length_append, HS.out])
          clear ho2 hg2 hlt hc
          go_wp2_with fail
          exact ⟨⟨j + 1, _, by omega, by go_num, HS2.out, HO2.out, HB2.out⟩, by simp [intOf]; omega⟩
        · have d : decide ((j : Int) < (k : Int)) = false := by simp; omega
          have hjk' : j = k := by omega
          have HY : Hid (BytesAt wr u6 ls.flatten) := by
            have q := HO.out
            have e := flat_all ls j (by have := HN.out; omega)
            rw [HS.out, e] at q
            exact BytesAt.of_own q
          clear HO
          go_wp2
          go_ret
          exact ⟨_, rfl, HY.out, HB.out⟩
end Go.Proofs.YtieidemmajdpmaaDoor

namespace Go.Proofs.YtieidemmajdpmaaDoor
set_option maxRecDepth 100000
open Go.RowKit

set_option maxHeartbeats 1000000 in
theorem parts_list (v0 : Value) (g n : Nat) (k : List UInt8) (ls : List (List UInt8)) (hn : n = ls.length) (w : World) (hp : PartsAt w g ls) (h0 : BytesAt w v0 k) (hk : k.length ≤ 5000) (hn1 : n ≤ 1000000) (hl : ls.flatten.length ≤ 4900) (T : Tab w) :
    Calls Tryd.prog 33 #[v0, .slice (some ⟨g, 0, none⟩) n n] w fun e w' => ∃ v', e = .returned v' ∧ w'.ownsRow w.heap.size 5 1 v' (macL k ls.flatten).length (bv (macL k ls.flatten)) ∧ Below w.heap.size w w' := by
  have T0 := Lib.hid T
  have H0 := Lib.hid h0
  have CC := Lib.hid (concat_list g n ls hn w hp hn1 (by omega))
  clear T h0 hp hn
  go_enter Tryd.func33, Tryd.ntmps33
  go_wp2_with fail
  refine CC.out.mono ?_
  rintro e w1 ⟨v3, rfl, y1, b1⟩
  have B1 := Lib.hid b1
  have Y1 := Lib.hid y1
  clear y1 b1
  go_wp2_with fail
  refine (mac_own v0 v3 k ls.flatten w1 (H0.out.below B1.out) Y1.out hk (Nat.le_trans hl (by decide)) (T0.out.below B1.out T0.out.pos)).mono ?_
  rintro e w2 ⟨v4, rfl, y2, b2⟩
  have B2 := Lib.hid (B1.out.trans (b2.mono B1.out.size))
  have Y2 : Hid (w2.ownsRow w.heap.size 5 1 v4 (macL k ls.flatten).length (bv (macL k ls.flatten))) := own_less y2 B1.out.size
  clear y2 b2
  go_wp2
  go_ret
  exact ⟨_, rfl, Y2.out, B2.out⟩

theorem parts3_at (w : World) (vb vi : Value) (b i : List UInt8) (x : UInt8) (hb : BytesAt w vb b) (hi : BytesAt w vi i) :
    PartsAt ((w.alloc (.cells #[.int .u8 (x.toNat : Int)] 5)).alloc (.cells #[vb, vi, .slice (some ⟨w.heap.size, 0, none⟩) 1 1] 32)) (w.heap.size + 1) [b, i, [x]] := by
  have b1 : Below w.heap.size w (w.alloc (.cells #[.int .u8 (x.toNat : Int)] 5)) := (Below.refl _ _).alloc (Nat.le_refl _) _
  have y1 := BytesAt.lit w [x] #[.int .u8 (x.toNat : Int)] rfl
  have hs : (w.alloc (.cells #[.int .u8 (x.toNat : Int)] 5)).heap.size = w.heap.size + 1 := by simp
  generalize w.alloc (.cells #[.int .u8 (x.toNat : Int)] 5) = w1 at *
  have b2 : Below w1.heap.size w1 (w1.alloc (.cells #[vb, vi, .slice (some ⟨w.heap.size, 0, none⟩) 1 1] 32)) := (Below.refl _ _).alloc (Nat.le_refl _) _
  have y2 := Whole.new w1 32 #[vb, vi, .slice (some ⟨w.heap.size, 0, none⟩) 1 1]
  rw [← hs]
  have hsz : w1.heap.size < (w1.alloc (.cells #[vb, vi, .slice (some ⟨w.heap.size, 0, none⟩) 1 1] 32)).heap.size := y2.lt
  refine ⟨hsz, fun k l hk => ?_⟩
  have c := y2.at_ k
  have Hb := (hb.below b1).below b2
  have Hi := (hi.below b1).below b2
  have Hx := y1.below b2
  match k, hk, c with
  | 0, hk, c =>
    obtain rfl : b = l := by simpa using hk
    obtain ⟨A, cap, rfl, -, -⟩ := id hb
    exact ⟨A, cap, c, Hb⟩
  | 1, hk, c =>
    obtain rfl : i = l := by simpa using hk
    obtain ⟨A, cap, rfl, -, -⟩ := id hi
    exact ⟨A, cap, c, Hi⟩
  | 2, hk, c =>
    obtain rfl : [x] = l := by simpa using hk
    exact ⟨_, _, c, Hx⟩
  | k + 3, hk, c => simp at hk
end Go.Proofs.YtieidemmajdpmaaDoor

namespace Go.Proofs.YtieidemmajdpmaaDoor
set_option maxRecDepth 100000
open Go.RowKit

set_option maxHeartbeats 1000000 in
theorem expand_bad (v0 v1 : Value) (z : Int) (hz : z < 0 ∨ 8160 < z) (w : World) :
    Calls Tryd.prog 25 #[v0, v1, .int .i64 z] w fun e w' => e = .returned (.tuple #[.slice none 0 0, .int .i64 2]) ∧ Below w.heap.size w w' := by
  by_cases h0 : z < 0
  · have d0 : decide (z < 0) = true := by simpa using h0
    clear hz
    go_enter Tryd.func25, Tryd.ntmps25
    go_wp2
    go_step3
    go_wp2
    rw [Exit.noGoto_ret]
    go_ret2
    exact ⟨rfl, Below.refl _ _⟩
  · have d0 : decide (z < 0) = false := by simpa using h0
    have d1 : decide (8160 < z) = true := by simp; omega
    clear hz
    go_enter Tryd.func25, Tryd.ntmps25
    go_wp2
    go_step3
    go_wp2
    rw [Exit.noGoto_ret]
    go_ret2
    exact ⟨rfl, Below.refl _ _⟩


theorem u8_wrap (k : Nat) (h : k + 2 ≤ 255) : IntKind.u8.wrap (((k + 1 : Nat) : Int) + 1) = ((k + 2 : Nat) : Int) := by
  rw [IntWalk.u8_in _ (by omega)]
  omega
theorem ofNat_u8 (k : Nat) (h : k ≤ 255) : (((UInt8.ofNat k).toNat : Nat) : Int) = (k : Int) := by
  have : (UInt8.ofNat k).toNat = k := by simp; omega
  rw [this]

set_option maxHeartbeats 4000000 in
theorem expand_any (v0 v1 : Value) (key info : List UInt8) (n : Nat) (w : World) (h0 : BytesAt w v0 key) (h1 : BytesAt w v1 info) (hk : key.length ≤ 5000) (hi : info.length ≤ 4800) (hn : n ≤ 8160) (T : Tab w) :
    Calls Tryd.prog 25 #[v0, v1, .int .i64 (n : Int)] w fun e w' => ∃ v', e = .returned (.tuple #[v', .int .i64 0]) ∧ BytesAt w' v' (expandL key info n) ∧ Below w.heap.size w w' := by
  have d0 : decide ((n : Int) < 0) = false := by simp
  have d1 : decide ((8160 : Int) < (n : Int)) = false := by simp; omega
  by_cases hz : n = 0
  · subst hz
    go_enter Tryd.func25, Tryd.ntmps25
    go_wp2
    go_step3
    go_wp2
    rw [Exit.noGoto_ret]
    go_ret2
    have e : expandL key info 0 = [] := List.eq_nil_of_length_eq_zero (expandL_length key info 0)
    rw [e]
    exact ⟨_, rfl, BytesAt.nil _, Below.refl _ _⟩
  · obtain ⟨i0, hi0, hz0, hz1, hz2⟩ := info_parts byte_info
    have T0 := Lib.hid T
    have H0 := Lib.hid h0
    have H1 := Lib.hid h1
    have d2 : ((n : Int) == 0) = false := by simp; omega
    obtain ⟨A0, cap0, rfl, -, -⟩ := h0
    obtain ⟨A1, cap1, rfl, -, -⟩ := h1
    clear T
    go_enter Tryd.func25, Tryd.ntmps25
    go_wp2
    go_step3
    go_wp2_with (at_make; refine wpList_make_own _ rfl _ _ 32 rfl w.heap.size 5 i0 (.int .u8 0) 1 Tryd.underlying32 hi0 hz0 hz1 .i64 .i64 _ n rfl rfl rfl (by rw [hz2]; omega) (by simp only [maxLen]; omega) (Nat.le_refl _) ?_)
    intro w1 ho1 hg1
    have HO1 := Lib.hid ho1
    have HB1 := Lib.hid ((Below.refl w.heap.size w).grown hg1 (Nat.le_refl _) (fun k hk => by cases hk))
    clear ho1 hg1
    go_wp2
    go_step3
    go_wp2
    go_loopg [8, 9, 10] 255 (fun g s8 s9 s10 wr => ∃ k : Nat, k + g = 255 ∧ 32 * k < n ∧ s10 = .int .u8 ((UInt8.ofNat (k + 1)).toNat : Int) ∧ wr.ownsRow w.heap.size 5 1 s8 (32 * k) (bv (exOut key info k)) ∧ BytesAt wr s9 (exT key info k) ∧ Below w.heap.size w wr)
    case atStart => exact ⟨0, rfl, by omega, rfl, HO1.out, BytesAt.nil _, HB1.out⟩
    case round =>
      obtain ⟨k, hkg, hkn, rfl, ho, hb9, hb⟩ := hrel
      have HB := Lib.hid hb
      have H9 := Lib.hid hb9
      obtain ⟨A9, cap9, rfl, -, -⟩ := hb9
      obtain ⟨A8, cap8, rfl⟩ := own_form ho
      have HO := Lib.hid ho
      have HR : Hid (macL key [exT key info k, info, [UInt8.ofNat (k + 1)]].flatten = exT key info (k + 1)) := by
        show macL key _ = macL key _
        simp
      have HF : Hid ([exT key info k, info, [UInt8.ofNat (k + 1)]].flatten.length ≤ 4900) := by
        have := exT_most key info k
        simp [Hid]
        omega
      have HL : Hid ((exT key info (k + 1)).length = 32) := exT_length key info k
      have HE : Hid (exOut key info k ++ exT key info (k + 1) = exOut key info (k + 1)) := Lib.hid rfl
      have HEL := Lib.hid (exOut_length key info k)
      have HX : Hid (n ≤ 32 * (k + 1) → (exOut key info k ++ exT key info (k + 1)).take n = expandL key info n) := fun h => by
        have := expandL_at key info n (k + 1) h (by omega)
        exact this
      have HT : Hid (exT key info (k + 1) = exT key info (k + 1)) := Lib.hid rfl
      obtain ⟨x2, hx2⟩ : ∃ y, y = UInt8.ofNat (k + 1 + 1) := ⟨_, rfl⟩
      have HW : Hid (k + 2 ≤ 255 → IntKind.u8.wrap (((UInt8.ofNat (k + 1)).toNat : Int) + 1) = (x2.toNat : Int)) := fun h => by
        rw [hx2, ofNat_u8 _ (by omega), ofNat_u8 _ (by omega)]
        exact u8_wrap k h
      have HX2 := Lib.hid hx2
      clear hx2
      generalize hx : UInt8.ofNat (k + 1) = x at *
      clear ho hb HO1 HB1 hx
      go_wp2_with fail
      have P3 := parts3_at wr (.slice A9 (exT key info k).length cap9) (.slice A1 info.length cap1) (exT key info k) info x H9.out (H1.out.below HB.out)
      have bc : Below wr.heap.size wr ((wr.alloc (.cells #[.int .u8 (x.toNat : Int)] 5)).alloc (.cells #[.slice A9 (exT key info k).length cap9, .slice A1 info.length cap1, .slice (some ⟨wr.heap.size, 0, none⟩) 1 1] 32)) := by
        have q := (Below.refl wr.heap.size wr).alloc (Nat.le_refl _) (.cells #[.int .u8 (x.toNat : Int)] 5)
        exact q.alloc q.size _
      generalize (wr.alloc (.cells #[.int .u8 (x.toNat : Int)] 5)).alloc (.cells #[.slice A9 (exT key info k).length cap9, .slice A1 info.length cap1, .slice (some ⟨wr.heap.size, 0, none⟩) 1 1] 32) = wc at *
      have BC := Lib.hid (HB.out.trans (bc.mono HB.out.size))
      have OC := Lib.hid (kept_below HO.out bc rfl)
      refine (parts_list _ _ 3 key [exT key info k, info, [x]] rfl wc P3 (H0.out.below BC.out) hk (by decide) HF.out (T0.out.below BC.out T0.out.pos)).mono ?_
      rintro e w2 ⟨v9, rfl, o9, b9⟩
      rw [HR.out] at o9
      obtain ⟨R, hR⟩ : ∃ R, R = exT key info (k + 1) := ⟨_, rfl⟩
      have HRR := Lib.hid hR
      rw [← hR] at o9 HL HE HX
      clear hR HT
      have B2 := Lib.hid (BC.out.trans (b9.mono BC.out.size))
      have O2 := Lib.hid (kept_below OC.out b9 rfl)
      have Y9 := Lib.hid (BytesAt.of_own o9)
      rw [HL.out] at o9
      obtain ⟨g, capg, rfl, hgb, hgl⟩ := o9.form (by omega)
      have HA : Hid (Apt (.slice A8 (32 * k) cap8) (.slice (some ⟨g, 0, none⟩) 32 capg)) := by
        refine .inr fun e => ?_
        have q := (HO.out.lt g e).2
        have := bc.size
        omega
      have hjk : 32 * (k + 1) = 32 * k + 32 := by omega
      obtain ⟨wo, hwo⟩ : ∃ wo, wo = wr := ⟨_, rfl⟩
      obtain ⟨go, hgo⟩ : ∃ go, go = gk := ⟨_, rfl⟩
      subst hwo hgo
      clear HB H9 P3 BC OC b9 hgl hgb o9 bc HF HR
      clear HO
      generalize exOut key info k = S at *
      go_wp2_with fail
      go_loopg [8, 36] 32 (fun g2 s8 s36 wy => ∃ j q : Nat, j + g2 = 32 ∧ q = 32 * k + j ∧ s36 = .int .i64 (j : Int) ∧ q < n ∧ wy.ownsRow w.heap.size 5 1 s8 q (bv (S ++ R.take j)) ∧ BytesAt wy (.slice (some ⟨g, 0, none⟩) 32 capg) R ∧ Apt s8 (.slice (some ⟨g, 0, none⟩) 32 capg) ∧ Below w.heap.size w wy)
      case atStart => exact ⟨0, _, rfl, rfl, rfl, hkn, by simpa using O2.out, Y9.out, HA.out, B2.out⟩
      case round =>
        obtain ⟨j, q, hj, hq, rfl, hqn, ho, hy, ha, hb⟩ := hrel
        obtain ⟨A8', cap8', rfl⟩ := own_form ho
        have HQ := Lib.hid hq
        have HY := Lib.hid hy
        have HAp := Lib.hid ha
        have HB := Lib.hid hb
        have HO := Lib.hid ho
        clear hq ho hb ha hy
        by_cases hj32 : j < 32
        · have dj : decide ((j : Int) < 32) = true := by simp; omega
          obtain ⟨c, hc⟩ : ∃ c, R[j]? = some c := ⟨_, List.getElem?_eq_getElem (by rw [HL.out]; exact hj32)⟩
          obtain ⟨b9, off9, e9, hb9, hcell⟩ := HY.out.spots (by intro e; have := HL.out; rw [e] at this; simp at this)
          injection e9 with e9
          injection e9 with e9 e10 _
          subst e9 e10
          have cj := hcell j c hc
          rw [Nat.zero_add] at cj
          have HN : Hid (bv (S ++ R.take j) ++ bv [c] = bv (S ++ R.take (j + 1))) := by
            rw [Hid, ← bv_append, take_at hc, List.append_assoc]
          have z1 : BytesAt (wr.alloc (.cells #[.int .u8 (c.toNat : Int)] 5)) (.slice (some ⟨wr.heap.size, 0, none⟩) 1 1) [c] := BytesAt.lit wr [c] _ rfl
          have hO1 := HO.out.alloc (.cells #[.int .u8 (c.toNat : Int)] 5)
          have hB1 := HB.out.alloc HB.out.size (.cells #[.int .u8 (c.toNat : Int)] 5)
          have hY1 := Lib.hid (HY.out.below ((Below.refl _ _).alloc (Nat.le_refl _) (.cells #[.int .u8 (c.toNat : Int)] 5)))
          clear hcell hc
          go_wp2_with (with_reducible refine wpList_append_bytes_at rfl _ _ rfl w.heap.size _ _ _ ?hv hO1 _ _ ?hx z1 ?hlen ?hbase ?_)
          case hlen => omega
          case hbase => simpa using hB1.size
          intro v8 w3 ho3 hg3 hat3
          obtain ⟨m, hm⟩ : ∃ m, m = q + 1 := ⟨_, rfl⟩
          rw [HN.out, ← hm] at ho3
          have lt3 := hO1.lt
          have B3 := Lib.hid (hB1.grown hg3 hB1.size (fun k hk => (lt3 k hk).1))
          have Y3 := Lib.hid (hY1.out.keep (w' := w3) fun _ b hb hv => hg3.block b hb (by rw [← hv]; exact (HAp.out.far.resolve_left (by simp [Value.ownBlock]))))
          have A3 : Hid (Apt v8 (.slice (some ⟨g, 0, none⟩) 32 capg)) := by
            rcases hat3 with e1 | e1
            · unfold Hid Apt; rw [e1]; exact HAp.out
            · refine .inr fun e2 => ?_
              rw [e1] at e2
              simp [Value.ownBlock] at e2
              omega
          obtain ⟨A3', cap3, rfl⟩ := own_form ho3
          have O3 := Lib.hid ho3
          clear lt3 hg3 hat3 ho3 hO1 hB1 hY1 z1 cj
          by_cases hend : m = n
          · subst hend
            have HZ : Hid (BytesAt w3 (.slice A3' m cap3) (expandL key info m)) := by
              have e : bv (S ++ R.take (j + 1)) = bv (expandL key info m) := by
                have e1 : m = S.length + (j + 1) := by have := HQ.out; have := HEL.out; omega
                rw [← HX.out (by have := HQ.out; omega), e1, List.take_length_add_append]
              have q3 := O3.out
              rw [e] at q3
              exact BytesAt.of_own (base := w.heap.size) (by rw [expandL_length]; exact q3)
            clear O3 HN HX HE
            go_wp2
            rw [Exit.noGoto_ret]
            go_ret2
            exact ⟨_, rfl, HZ.out, B3.out⟩
          · have dm : ((m : Int) == (n : Int)) = false := by simp; omega
            have HM : Hid (m = q + 1) := hm
            clear hm HN
            go_wp2_with fail
            go_roundg (gk - 1)
            case measure => omega
            case rel => exact ⟨j + 1, m, by omega, by have := HM.out; have := HQ.out; omega, by go_num, by have := HM.out; omega, O3.out, Y3.out, A3.out, B3.out⟩
        · have dj : decide ((j : Int) < 32) = false := by simp; omega
          have hj' : j = 32 := by omega
          have HZ : Hid (wr.ownsRow w.heap.size 5 1 (.slice A8' q cap8') (32 * (k + 1)) (bv (exOut key info (k + 1)))) := by
            have e : R.take j = R := List.take_of_length_le (by rw [HL.out]; omega)
            have q3 := HO.out
            rw [e, HE.out, show q = 32 * (k + 1) by have := HQ.out; omega] at q3
            rw [show q = 32 * (k + 1) by have := HQ.out; omega]
            exact q3
          have hkn2 : 32 * (k + 1) < n := by have := HQ.out; omega
          have tw := HW.out (by omega)
          have hq2 : q = 32 * (k + 1) := by have := HQ.out; omega
          have HQ2 := Lib.hid hq2
          clear hq2 HO
          go_wp2_with fail
          go_roundg (go - 1)
          case measure => omega
          case rel => exact ⟨k + 1, by omega, hkn2, by rw [← HX2.out], HZ.out, by rw [← HRR.out]; exact HY.out, HB.out⟩
end Go.Proofs.YtieidemmajdpmaaDoor

namespace Go.Proofs.YtieidemmajdpmaaDoor
set_option maxRecDepth 100000
open Go.RowKit

theorem carc_str (s : ByteArray) : ((⟨#[99, 97, 114, 99, 97, 110, 101, 116, 32]⟩ : ByteArray) ++ s).data.toList = carc ++ s.data.toList := by
  simp [carc]

set_option maxHeartbeats 1000000 in
theorem named_any (v0 : Value) (s : ByteArray) (key : List UInt8) (w : World) (h0 : BytesAt w v0 key) (hk : key.length ≤ 5000) (hs : s.size ≤ 4700) (T : Tab w) :
    Calls Tryd.prog 21 #[v0, .string s] w fun e w' => ∃ v', e = .returned v' ∧ BytesAt w' v' (namedL key s.data.toList) ∧ Below w.heap.size w w' := by
  have T0 := Lib.hid T
  have H0 := Lib.hid h0
  have CS := Lib.hid (carc_str s)
  have HI : Hid ((carc ++ s.data.toList).length ≤ 4800) := by
    simp [Hid, carc]; omega
  have HD : Hid (expandL key (carc ++ s.data.toList) 32 = namedL key s.data.toList) := Lib.hid rfl
  obtain ⟨vs, w1, hr, y1, b1⟩ := conv_str w ((⟨#[99, 97, 114, 99, 97, 110, 101, 116, 32]⟩ : ByteArray) ++ s)
  rw [CS.out] at y1
  have Y1 := Lib.hid y1
  have B1 := Lib.hid b1
  clear T h0 y1 b1
  go_enter Tryd.func21, Tryd.ntmps21
  go_wp2_with fail
  refine (expand_any v0 vs key _ 32 w1 (H0.out.below B1.out) Y1.out hk HI.out (by decide) (T0.out.below B1.out T0.out.pos)).mono ?_
  rintro e w2 ⟨v4, rfl, y2, b2⟩
  rw [HD.out] at y2
  have B2 := Lib.hid (B1.out.trans (b2.mono B1.out.size))
  have Y2 := Lib.hid y2
  clear y2 b2 hr
  go_wp2
  go_ret
  exact ⟨_, rfl, Y2.out, B2.out⟩
end Go.Proofs.YtieidemmajdpmaaDoor
