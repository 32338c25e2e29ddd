/- The statement ArcOrders: which of any places is met first, and in which order all are, is as the document has it; they stay as they are. For every input. -/
import Derived.Test.YtlgpgdliakiomaaAcA
namespace Go.Proofs.Ytlgpgdliakiomaa
open Go.RowKit Go.ChangeShapes Go.WideShapes Go.ChangeAt

set_option maxRecDepth 100000 in
set_option maxHeartbeats 4000000 in
theorem orders_core (H : ArcIs) (A : Option Addr) (n cap a : Nat) (ids : List Nat) (ha : a < 18446744073709551616) (hids : ∀ x ∈ ids, x < 18446744073709551616) (w : World) (h : UsAt w (.slice A n cap) ids) :
    Calls Try.prog 4 #[.int .u64 (a : Int), .slice A n cap] w fun e w' => e = .returned (.bool true) ∧ Below w.heap.size w w' := by
  by_cases hg : 100 < n
  · have d0 : decide ((100 : Int) < (n : Int)) = true := by simp; omega
    have W := Lib.hid (works9 H w)
    clear h
    go_enter Try.func4, Try.ntmps4
    go_wp2_with fail
    refine W.out.mono ?_
    rintro e w1 ⟨rfl, b1⟩
    have B1 := Lib.hid b1
    clear b1
    go_wp2
    go_ret
    exact ⟨rfl, B1.out⟩
  · have d0 : decide ((100 : Int) < (n : Int)) = false := by simp; omega
    have HN := Lib.hid (show n ≤ 100 by omega)
    have U := Lib.hid h
    have HL := Lib.hid h.size.1
    have HA := Lib.hid ha
    have HI := Lib.hid hids
    have OL := Lib.hid (orderL_length a ids)
    clear h hg ha hids
    go_enter Try.func4, Try.ntmps4
    go_wp2_with (at_builtin; refine wpList_append_us rfl _ _ rfl w.heap.size _ 0 [] rfl (own_empty_us w) _ ids rfl ?c1 ?c2 ?c3 ?_)
    case c1 => exact U.out.below ((Below.refl _ _).alloc (Nat.le_refl _) (.cells #[] 22))
    case c2 => have h1 := HL.out; have h2 := HN.out; omega
    case c3 => simp
    intro v1 w1 o1 g1
    have B1 := Lib.hid (((Below.refl w.heap.size w).alloc (Nat.le_refl _) (.cells #[] 22)).grown g1 (by simp) (fun k hk => by simp [Value.ownBlock] at hk; omega))
    have o2 : w1.ownsRow w.heap.size 22 1 v1 n (us ids) := by rw [HL.out]; simpa using o1
    obtain ⟨A1, c1, rfl⟩ := own_form o2
    have Y1 : Hid (UsAt w1 (.slice A1 n c1) ids) := Lib.hid (UsAt.of_own (base := w.heap.size) (by rw [← HL.out]; exact o2))
    clear o1 g1 o2
    have C := Lib.hid (H.order A1 n c1 a ids w1 HA.out HI.out (by have := HN.out; omega) Y1.out)
    go_wp2_with fail
    refine C.out.mono ?_
    rintro e w2 ⟨v2, rfl, y2, b2⟩
    have Y2 := Lib.hid y2
    have B2 := Lib.hid (B1.out.trans (b2.mono B1.out.size))
    have Y12 := Lib.hid (Y1.out.below b2)
    clear y2 b2 C B1 Y1
    have C := Lib.hid (refOrder_any A n cap a ids HA.out HI.out (by have := HN.out; omega) w2 (U.out.below B2.out))
    go_wp2_with fail
    refine C.out.mono ?_
    rintro e w3 ⟨v3, rfl, y3, b3⟩
    have B3 := Lib.hid (B2.out.trans (b3.mono B2.out.size))
    have Y13 := Lib.hid (Y12.out.below b3)
    have C2 := Lib.hid (same_any v2 v3 (orderL a ids) (orderL a ids) (by rw [OL.out]; have h1 := HL.out; have h2 := HN.out; omega) w3 (Y2.out.below b3) y3)
    rw [show decide (orderL a ids = orderL a ids) = true by simp] at C2
    clear y3 b3 C B2 Y12 Y2
    go_wp2_with fail
    refine C2.out.mono ?_
    rintro e w4 ⟨rfl, b4⟩
    have B4 := Lib.hid (B3.out.trans (b4.mono B3.out.size))
    have Y14 := Lib.hid (Y13.out.below b4)
    clear b4 C2 B3 Y13
    have C := Lib.hid (H.nearest A1 n c1 a ids w4 HA.out HI.out (by have := HN.out; omega) Y14.out)
    go_wp2_with fail
    refine C.out.mono ?_
    rintro e w5 ⟨rfl, b5⟩
    have B5 := Lib.hid (B4.out.trans (b5.mono B4.out.size))
    have Y15 := Lib.hid (Y14.out.below b5)
    clear b5 C B4 Y14
    have C := Lib.hid (refNearest_any A n cap a ids HA.out HI.out (by have := HN.out; omega) w5 (U.out.below B5.out))
    obtain ⟨z, hz⟩ : ∃ z, z = nearI a ids := ⟨_, rfl⟩
    simp only [← hz] at C ⊢
    clear hz
    go_wp2_with fail
    refine C.out.mono ?_
    rintro e w6 ⟨rfl, b6⟩
    have B6 := Lib.hid (B5.out.trans (b6.mono B5.out.size))
    have Y16 := Lib.hid (Y15.out.below b6)
    clear b6 C B5 Y15
    have C2 := Lib.hid (same_any _ _ ids ids (by have h1 := HL.out; have h2 := HN.out; omega) w6 Y16.out (U.out.below B6.out))
    rw [show decide (ids = ids) = true by simp] at C2
    go_wp2_with fail
    refine C2.out.mono ?_
    rintro e w7 ⟨rfl, b7⟩
    have B7 := Lib.hid (B6.out.trans (b7.mono B6.out.size))
    clear b7 C2 B6 Y16
    have W := Lib.hid (works9 H w7)
    go_wp2_with fail
    refine W.out.mono ?_
    rintro e w8 ⟨rfl, b8⟩
    have B8 := Lib.hid (B7.out.trans (b8.mono B7.out.size))
    clear b8 B7
    go_wp2
    go_ret
    exact ⟨rfl, B8.out⟩
end Go.Proofs.Ytlgpgdliakiomaa
