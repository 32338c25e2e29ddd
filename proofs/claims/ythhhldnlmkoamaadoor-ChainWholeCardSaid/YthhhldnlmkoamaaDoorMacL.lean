/- What package mac's Parts answers of any parts. -/
import Derived.Test.YthhhldnlmkoamaaDoorMacA
import Derived.Test.YthhhldnlmkoamaaDoorCat
namespace Go.Proofs.YthhhldnlmkoamaaDoor
open Go.RowKit

set_option maxHeartbeats 1000000 in
theorem parts_list (v0 : Value) (g n : Nat) (k : List UInt8) (ls : List (List UInt8)) (hn : n = ls.length) (w : World) (hp : PartsAt w g ls) (h0 : BytesAt w v0 k) (hk : k.length ≤ 5000) (hn1 : n ≤ 1000000) (hl : ls.flatten.length ≤ 4900) (T : Tab w) :
    Calls Tryd.prog 26 #[v0, .slice (some ⟨g, 0, none⟩) n n] w fun e w' => ∃ v', e = .returned v' ∧ w'.ownsRow w.heap.size 5 1 v' (macL k ls.flatten).length (bv (macL k ls.flatten)) ∧ Below w.heap.size w w' := by
  have T0 := Lib.hid T
  have H0 := Lib.hid h0
  have CC := Lib.hid (concat_list g n ls hn w hp hn1 (by omega))
  clear T h0 hp hn
  go_enter Tryd.func26, Tryd.ntmps26
  go_wp2_with fail
  refine CC.out.mono ?_
  rintro e w1 ⟨v3, rfl, y1, b1⟩
  have B1 := Lib.hid b1
  have Y1 := Lib.hid y1
  clear y1 b1
  go_wp2_with fail
  refine (mac_own v0 v3 k ls.flatten w1 (H0.out.below B1.out) Y1.out hk hl (T0.out.below B1.out T0.out.pos)).mono ?_
  rintro e w2 ⟨v4, rfl, y2, b2⟩
  have B2 := Lib.hid (B1.out.trans (b2.mono B1.out.size))
  have Y2 : Hid (w2.ownsRow w.heap.size 5 1 v4 (macL k ls.flatten).length (bv (macL k ls.flatten))) := own_less y2 B1.out.size
  clear y2 b2
  go_wp2
  go_ret
  exact ⟨_, rfl, Y2.out, B2.out⟩

theorem parts3_at (w : World) (vb vi : Value) (b i : List UInt8) (x : UInt8) (hb : BytesAt w vb b) (hi : BytesAt w vi i) :
    PartsAt ((w.alloc (.cells #[.int .u8 (x.toNat : Int)] 5)).alloc (.cells #[vb, vi, .slice (some ⟨w.heap.size, 0, none⟩) 1 1] 36)) (w.heap.size + 1) [b, i, [x]] := by
  have b1 : Below w.heap.size w (w.alloc (.cells #[.int .u8 (x.toNat : Int)] 5)) := (Below.refl _ _).alloc (Nat.le_refl _) _
  have y1 := BytesAt.lit w [x] #[.int .u8 (x.toNat : Int)] rfl
  have hs : (w.alloc (.cells #[.int .u8 (x.toNat : Int)] 5)).heap.size = w.heap.size + 1 := by simp
  generalize w.alloc (.cells #[.int .u8 (x.toNat : Int)] 5) = w1 at *
  have b2 : Below w1.heap.size w1 (w1.alloc (.cells #[vb, vi, .slice (some ⟨w.heap.size, 0, none⟩) 1 1] 36)) := (Below.refl _ _).alloc (Nat.le_refl _) _
  have y2 := Whole.new w1 36 #[vb, vi, .slice (some ⟨w.heap.size, 0, none⟩) 1 1]
  rw [← hs]
  have hsz : w1.heap.size < (w1.alloc (.cells #[vb, vi, .slice (some ⟨w.heap.size, 0, none⟩) 1 1] 36)).heap.size := y2.lt
  refine ⟨hsz, fun k l hk => ?_⟩
  have c := y2.at_ k
  have Hb := (hb.below b1).below b2
  have Hi := (hi.below b1).below b2
  have Hx := y1.below b2
  match k, hk, c with
  | 0, hk, c =>
    obtain rfl : b = l := by simpa using hk
    obtain ⟨A, cap, rfl, -, -⟩ := id hb
    exact ⟨A, cap, c, Hb⟩
  | 1, hk, c =>
    obtain rfl : i = l := by simpa using hk
    obtain ⟨A, cap, rfl, -, -⟩ := id hi
    exact ⟨A, cap, c, Hi⟩
  | 2, hk, c =>
    obtain rfl : [x] = l := by simpa using hk
    exact ⟨_, _, c, Hx⟩
  | k + 3, hk, c => simp at hk
end Go.Proofs.YthhhldnlmkoamaaDoor
