/- EntryReads' core: over what package entry answers. -/
import Derived.Test.YtkhiejdceefgfaaEnK
import Derived.Test.YtkhiejdceefgfaaEnX
namespace Go.Proofs.Ytkhiejdceefgfaa
open Go.RowKit

set_option maxHeartbeats 2000000 in
set_option maxRecDepth 100000 in
theorem entReads_core (H : EntryIs) (A : Option Addr) (n cap : Nat) (b : List UInt8) (w : World) (h : BytesAt w (.slice A n cap) b) :
    Calls Try.prog 4 #[.slice A n cap] w fun e w' => e = .returned (.bool true) ∧ Below w.heap.size w w' := by
  have HH := Lib.hid H
  have HB := Lib.hid h
  clear H h
  by_cases hn : 1000 < n
  · have d : decide ((1000 : Int) < (n : Int)) = true := by simp; omega
    go_enter Try.func4, Try.ntmps4
    go_wp2_with fail
    refine (works11 HH.out w).mono ?_
    rintro e w3 ⟨rfl, b3⟩
    have B3 := Lib.hid b3
    clear b3
    go_wp2
    go_ret
    exact ⟨rfl, B3.out⟩
  · have d : decide ((1000 : Int) < (n : Int)) = false := by simp; omega
    have C1 := Lib.hid (HH.out.read A n cap b w (by omega) HB.out)
    have C2 := fun w1 (hb : Below w.heap.size w w1) => Lib.hid (refRead_any A n cap b w1 (by omega) (HB.out.below hb))
    obtain ⟨E, hE⟩ : ∃ E, E = readE b := ⟨_, rfl⟩
    obtain ⟨X, hX⟩ : ∃ X, X = readX b := ⟨_, rfl⟩
    simp only [← hE, ← hX] at C1 C2
    clear hn hE hX
    go_enter Try.func4, Try.ntmps4
    go_wp2_with fail
    refine C1.out.mono ?_
    rintro e w1 ⟨rfl, b1⟩
    have B1 := Lib.hid b1
    clear b1 C1
    go_wp2_with (refine wpList_alloc_row rfl 24 rfl ent0.cells ent_zero ?_)
    intro w2 b2 x2 z2
    have X2 : Hid (Whole w2 w1.heap.size 24 ent0.cells) := Lib.hid x2
    have B2 := Lib.hid (B1.out.trans (b2.mono B1.out.size))
    have Z2 := Lib.hid B1.out.size
    obtain ⟨g, hg⟩ : ∃ g, g = w1.heap.size := ⟨_, rfl⟩
    rw [← hg] at X2 Z2 ⊢
    clear b2 x2 z2 B1 hg
    go_wp2_with (with_reducible refine wpList_store_whole rfl 24 _ _ rfl g E.cells (by with_unfolding_all exact rfl) (by with_unfolding_all exact rfl) _ _ X2.out (ent_size' _) rfl (Ent.cells_one _) ?_)
    intro w3 g3 x3 z3
    have E3 : Hid (EntAt w3 g E) := Lib.hid x3
    have B3 := Lib.hid (B2.out.grown g3 B2.out.size (fun k hk => by injection hk with hk; have := Z2.out; omega))
    clear g3 x3 z3 X2 B2 Z2
    go_wp2_with fail
    refine (C2 w3 B3.out).out.mono ?_
    rintro e w4 ⟨rfl, b4⟩
    have E4 : Hid (EntAt w4 g E) := Lib.hid (Whole.below E3.out b4 E3.out.lt)
    have B4 := Lib.hid (B3.out.trans (b4.mono B3.out.size))
    clear b4 E3 B3 C2
    go_wp2_with (refine wpList_alloc_row rfl 24 rfl ent0.cells ent_zero ?_)
    intro w5 b5 x5 z5
    have X5 : Hid (Whole w5 w4.heap.size 24 ent0.cells) := Lib.hid x5
    have E5 : Hid (EntAt w5 g E) := Lib.hid (Whole.below E4.out b5 E4.out.lt)
    have B5 := Lib.hid (B4.out.trans (b5.mono B4.out.size))
    have Z5 := Lib.hid (And.intro B4.out.size E4.out.lt)
    obtain ⟨x, hx⟩ : ∃ x, x = w4.heap.size := ⟨_, rfl⟩
    rw [← hx] at X5 Z5 ⊢
    clear b5 x5 z5 E4 B4 hx
    go_wp2_with (with_reducible refine wpList_store_whole rfl 24 _ _ rfl x E.cells (by with_unfolding_all exact rfl) (by with_unfolding_all exact rfl) _ _ X5.out (ent_size' _) rfl (Ent.cells_one _) ?_)
    intro w6 g6 x6 z6
    have X6 : Hid (EntAt w6 x E) := Lib.hid x6
    have E6 : Hid (EntAt w6 g E) := Lib.hid (Whole.grown E5.out g6 (fun k => by injection k with k; have := Z5.out; omega))
    have B6 := Lib.hid (B5.out.grown g6 B5.out.size (fun k hk => by injection hk with hk; have := Z5.out; omega))
    clear g6 x6 z6 X5 E5 B5 Z5
    obtain ⟨a0, a1, a2, a3, a4, a5⟩ := E6.out.six
    obtain ⟨c0, c1, c2, c3, c4, c5⟩ := X6.out.six
    go_wp2_with fail
    refine (works11 HH.out w6).mono ?_
    rintro e w7 ⟨rfl, b7⟩
    have B7 := Lib.hid (B6.out.trans (b7.mono B6.out.size))
    clear b7 a0 a1 a2 a3 a4 a5 c0 c1 c2 c3 c4 c5
    go_wp2
    go_ret
    exact ⟨rfl, B7.out⟩
end Go.Proofs.Ytkhiejdceefgfaa
