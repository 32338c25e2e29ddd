/- What the library's Concat answers of any parts. What package mac's Parts answers of any parts. -/
import Derived.Test.YtfcjemedheccgaaDoorGr
import Derived.Test.YtfcjemedheccgaaDoorGv
namespace Go.Proofs.YtfcjemedheccgaaDoor
set_option maxRecDepth 100000
open Go.RowKit

/-- A block's cells are slices, each just these bytes. -/
def PartsAt (w : World) (g : Nat) (ls : List (List UInt8)) : Prop :=
  g < w.heap.size ∧ ∀ k l, ls[k]? = some l → ∃ A cap, w.cell? ⟨g, k, none⟩ = some (.slice A l.length cap) ∧ BytesAt w (.slice A l.length cap) l
theorem PartsAt.below {w w' : World} {g : Nat} {ls : List (List UInt8)} (h : PartsAt w g ls) (hb : Below w.heap.size w w') : PartsAt w' g ls :=
  ⟨Nat.lt_of_lt_of_le h.1 hb.size, fun k l hk => by
    obtain ⟨A, cap, hc, hB⟩ := h.2 k l hk
    exact ⟨A, cap, (hb.cell (p := ⟨g, k, none⟩) h.1).trans hc, hB.below hb⟩⟩
theorem flat_next {ls : List (List UInt8)} {k : Nat} {l : List UInt8} (h : ls[k]? = some l) : (ls.take (k + 1)).flatten = (ls.take k).flatten ++ l := by
  rw [take_at h]; simp
theorem flat_all (ls : List (List UInt8)) (k : Nat) (h : ls.length ≤ k) : (ls.take k).flatten = ls.flatten := by rw [List.take_of_length_le h]
theorem flat_le (ls : List (List UInt8)) (k : Nat) : (ls.take k).flatten.length ≤ ls.flatten.length := by
  conv => rhs; rw [← List.take_append_drop k ls, List.flatten_append, List.length_append]
  exact Nat.le_add_right _ _

set_option maxHeartbeats 1000000 in
theorem concat_list (g n : Nat) (ls : List (List UInt8)) (hn : n = ls.length) (w : World) (h : PartsAt w g ls) (hn1 : n ≤ 1000000) (hl : ls.flatten.length ≤ 1000000) :
    Calls Tryd.prog 77 #[.slice (some ⟨g, 0, none⟩) n n] w fun e w' => ∃ v, e = .returned v ∧ BytesAt w' v ls.flatten ∧ Below w.heap.size w w' := by
  have H := Lib.hid h
  have HN := Lib.hid hn
  have HL := Lib.hid hl
  have hgw := h.1
  clear h hn hl
  go_enter Tryd.func77, Tryd.ntmps77
  go_wp2_with fail
  go_loop [3, 11] (fun z i => ∃ k t : Nat, k ≤ n ∧ i = .int .i64 (k : Int) ∧ z = .int .i64 (t : Int) ∧ t = (ls.take k).flatten.length) (fun _ i => n - (intOf i).toNat)
  case atStart => exact ⟨0, 0, Nat.zero_le _, rfl, rfl, by simp⟩
  case round =>
    obtain ⟨k, t, hk, rfl, rfl, ht⟩ := hrel
    have HT := Lib.hid ht
    have ht1 : t ≤ 1000000 := by rw [ht]; exact Nat.le_trans (flat_le ls k) HL.out
    clear ht
    by_cases hlt : k < n
    · have d : decide ((k : Int) < (n : Int)) = true := by simp; omega
      obtain ⟨l, hl⟩ : ∃ l, ls[k]? = some l := ⟨_, List.getElem?_eq_getElem (by rw [← HN.out]; exact hlt)⟩
      obtain ⟨A, cap, hc, hB⟩ := H.out.2 k l hl
      have hT2 : t + l.length = (ls.take (k + 1)).flatten.length := by rw [flat_next hl, List.length_append, ← HT.out]
      have HT2 := Lib.hid hT2
      have ht2 : t + l.length ≤ 1000000 := by rw [hT2]; exact Nat.le_trans (flat_le ls (k + 1)) HL.out
      have tw : IntKind.i64.wrap ((t : Int) + (l.length : Int)) = ((t + l.length : Nat) : Int) := by rw [IntWalk.i64_in _ (by omega)]; omega
      have d2 : decide (((t + l.length : Nat) : Int) < 0) = false := by simp; omega
      clear hT2 hB hl
      generalize t + l.length = t2 at *
      go_wp2_with fail
      exact ⟨⟨k + 1, t2, by omega, by go_num, rfl, HT2.out⟩, by simp [intOf]; omega⟩
    · have hk' : k = n := by omega
      have d : decide ((k : Int) < (n : Int)) = false := by simp; omega
      subst hk'
      have G := Lib.hid (grow_any t (by omega) w)
      clear hlt HT
      go_wp2_with fail
      refine G.out.mono ?_
      rintro e w1 ⟨v, rfl, ho, hb⟩
      have HO := Lib.hid ho
      have HB := Lib.hid hb
      clear ho hb G d hk ht1
      go_wp2_with fail
      go_loopw [6, 27] (fun v i wr => ∃ j s : Nat, j ≤ k ∧ i = .int .i64 (j : Int) ∧ s = (ls.take j).flatten.length ∧ wr.ownsRow w.heap.size 5 1 v s (bv (ls.take j).flatten) ∧ Below w.heap.size w wr) (fun _ i _ => k - (intOf i).toNat)
      case atStart => exact ⟨0, 0, Nat.zero_le _, rfl, rfl, HO.out, HB.out⟩
      case round =>
        obtain ⟨j, s, hj, rfl, hs, ho, hb⟩ := hrel
        clear HO HB
        have HO := Lib.hid ho
        have HB := Lib.hid hb
        have HS := Lib.hid hs
        have P := Lib.hid (H.out.below HB.out)
        clear ho hb hs
        by_cases hjk : j < k
        · have d : decide ((j : Int) < (k : Int)) = true := by simp; omega
          obtain ⟨l, hl⟩ : ∃ l, ls[j]? = some l := ⟨_, List.getElem?_eq_getElem (by rw [← HN.out]; exact hjk)⟩
          have HF := Lib.hid (flat_next hl)
          obtain ⟨A, cap, hc, hB⟩ := P.out.2 j l hl
          have HBy := Lib.hid hB
          have hs2 : s + l.length ≤ 1000000 := by
            have q := flat_le ls (j + 1)
            rw [HF.out, List.length_append, ← HS.out] at q
            exact Nat.le_trans q HL.out
          clear hB hl
          go_wp2_with (with_reducible refine wpList_append_bytes rfl _ _ rfl w.heap.size _ _ _ ?hv HO.out _ _ ?hx HBy.out ?hlen ?hbase ?_)
          case hv => exact rfl
          case hx => exact rfl
          case hlen => omega
          case hbase => exact HB.out.size
          intro v' w2 ho2 hg2
          have hlt := HO.out.lt
          rw [← bv_append, ← HF.out] at ho2
          have HO2 := Lib.hid ho2
          have HB2 := Lib.hid (HB.out.grown hg2 HB.out.size (fun k hk => (hlt k hk).1))
          have HS2 : Hid (s + l.length = (ls.take (j + 1)).flatten.length) := Lib.hid (by rw [HF.out, List.length_append, HS.out])
          clear ho2 hg2 hlt hc
          go_wp2_with fail
          exact ⟨⟨j + 1, _, by omega, by go_num, HS2.out, HO2.out, HB2.out⟩, by simp [intOf]; omega⟩
        · have d : decide ((j : Int) < (k : Int)) = false := by simp; omega
          have hjk' : j = k := by omega
          have HY : Hid (BytesAt wr u6 ls.flatten) := by
            have q := HO.out
            have e := flat_all ls j (by have := HN.out; omega)
            rw [HS.out, e] at q
            exact BytesAt.of_own q
          clear HO
          go_wp2
          go_ret
          exact ⟨_, rfl, HY.out, HB.out⟩
end Go.Proofs.YtfcjemedheccgaaDoor

namespace Go.Proofs.YtfcjemedheccgaaDoor
set_option maxRecDepth 100000
open Go.RowKit

set_option maxHeartbeats 1000000 in
theorem parts_list (v0 : Value) (g n : Nat) (k : List UInt8) (ls : List (List UInt8)) (hn : n = ls.length) (w : World) (hp : PartsAt w g ls) (h0 : BytesAt w v0 k) (hk : k.length ≤ 5000) (hn1 : n ≤ 1000000) (hl : ls.flatten.length ≤ 4900) (T : Tab w) :
    Calls Tryd.prog 65 #[v0, .slice (some ⟨g, 0, none⟩) n n] w fun e w' => ∃ v', e = .returned v' ∧ w'.ownsRow w.heap.size 5 1 v' (macL k ls.flatten).length (bv (macL k ls.flatten)) ∧ Below w.heap.size w w' := by
  have T0 := Lib.hid T
  have H0 := Lib.hid h0
  have CC := Lib.hid (concat_list g n ls hn w hp hn1 (by omega))
  clear T h0 hp hn
  go_enter Tryd.func65, Tryd.ntmps65
  go_wp2_with fail
  refine CC.out.mono ?_
  rintro e w1 ⟨v3, rfl, y1, b1⟩
  have B1 := Lib.hid b1
  have Y1 := Lib.hid y1
  clear y1 b1
  go_wp2_with fail
  refine (mac_own v0 v3 k ls.flatten w1 (H0.out.below B1.out) Y1.out hk hl (T0.out.below B1.out T0.out.pos)).mono ?_
  rintro e w2 ⟨v4, rfl, y2, b2⟩
  have B2 := Lib.hid (B1.out.trans (b2.mono B1.out.size))
  have Y2 : Hid (w2.ownsRow w.heap.size 5 1 v4 (macL k ls.flatten).length (bv (macL k ls.flatten))) := own_less y2 B1.out.size
  clear y2 b2
  go_wp2
  go_ret
  exact ⟨_, rfl, Y2.out, B2.out⟩

theorem parts3_at (w : World) (vb vi : Value) (b i : List UInt8) (x : UInt8) (hb : BytesAt w vb b) (hi : BytesAt w vi i) :
    PartsAt ((w.alloc (.cells #[.int .u8 (x.toNat : Int)] 5)).alloc (.cells #[vb, vi, .slice (some ⟨w.heap.size, 0, none⟩) 1 1] 78)) (w.heap.size + 1) [b, i, [x]] := by
  have b1 : Below w.heap.size w (w.alloc (.cells #[.int .u8 (x.toNat : Int)] 5)) := (Below.refl _ _).alloc (Nat.le_refl _) _
  have y1 := BytesAt.lit w [x] #[.int .u8 (x.toNat : Int)] rfl
  have hs : (w.alloc (.cells #[.int .u8 (x.toNat : Int)] 5)).heap.size = w.heap.size + 1 := by simp
  generalize w.alloc (.cells #[.int .u8 (x.toNat : Int)] 5) = w1 at *
  have b2 : Below w1.heap.size w1 (w1.alloc (.cells #[vb, vi, .slice (some ⟨w.heap.size, 0, none⟩) 1 1] 78)) := (Below.refl _ _).alloc (Nat.le_refl _) _
  have y2 := Whole.new w1 78 #[vb, vi, .slice (some ⟨w.heap.size, 0, none⟩) 1 1]
  rw [← hs]
  have hsz : w1.heap.size < (w1.alloc (.cells #[vb, vi, .slice (some ⟨w.heap.size, 0, none⟩) 1 1] 78)).heap.size := y2.lt
  refine ⟨hsz, fun k l hk => ?_⟩
  have c := y2.at_ k
  have Hb := (hb.below b1).below b2
  have Hi := (hi.below b1).below b2
  have Hx := y1.below b2
  match k, hk, c with
  | 0, hk, c =>
    obtain rfl : b = l := by simpa using hk
    obtain ⟨A, cap, rfl, -, -⟩ := id hb
    exact ⟨A, cap, c, Hb⟩
  | 1, hk, c =>
    obtain rfl : i = l := by simpa using hk
    obtain ⟨A, cap, rfl, -, -⟩ := id hi
    exact ⟨A, cap, c, Hi⟩
  | 2, hk, c =>
    obtain rfl : [x] = l := by simpa using hk
    exact ⟨_, _, c, Hx⟩
  | k + 3, hk, c => simp at hk
end Go.Proofs.YtfcjemedheccgaaDoor
