/- What the texts of layer 13's statements lean on of package token, as one thing to prove; the chapter's example (works). The statements' own Great. A gate that came in by value, opened. Entries that came in: a struct by value, a slice of them, opened. The table of constants out of the row's condition; what each card of layer 3 has in common. -/
import Derived.Test.YtghehomcabckcaaDoorGw
import Derived.Test.YtghehomcabckcaaDoorGl
import Derived.Test.YtghehomcabckcaaDoorGe
import Derived.Test.YtghehomcabckcaaDoorGj
import Derived.Lib.SmallJoins
import Derived.ChangeArms
import Derived.Test.YtghehomcabckcaaDoorGh
import Derived.Deep.Slices
import Derived.Test.YtghehomcabckcaaDoorTie
import Derived.Test.YtghehomcabckcaaDoorCards
import Derived.Lib.LaidTab
import Derived.LaidMore
import Derived.Stop.Joined
import Derived.SevenTiedAt
namespace Go.Proofs.YtghehomcabckcaaDoor
open Go.RowKit

structure TokenIs : Prop where
  sign : ∀ (k : List UInt8) (a : Ent) (w : World) (_ : k.length ≤ 4000) (_ : a.name.length ≤ 1000) (_ : a.id < 18446744073709551616) (_ : Tab w),
    Calls Tryd.prog 8 #[.string ⟨k.toArray⟩, a.val] w fun e w' => e = .returned (signE k a).val ∧ Below w.heap.size w w'
  check : ∀ (k : List UInt8) (a : Ent) (w : World) (_ : k.length ≤ 4000) (_ : a.name.length ≤ 1000) (_ : a.tag.length ≤ 1000) (_ : a.id < 18446744073709551616) (_ : Tab w),
    Calls Tryd.prog 10 #[.string ⟨k.toArray⟩, a.val] w fun e w' => e = .returned (.bool (checkT k a)) ∧ Below w.heap.size w w'
  valid : ∀ (gi : Int) (gk : List UInt8) (a : Ent) (now : Int) (w : World) (_ : gk.length ≤ 4000) (_ : a.name.length ≤ 1000) (_ : a.tag.length ≤ 1000) (_ : a.id < 18446744073709551616) (_ : Tab w),
    Calls Tryd.prog 12 #[gateV gi gk, a.val, .int .i64 now] w fun e w' => e = .returned (.int .i64 (validX gi gk a now)) ∧ Below w.heap.size w w'

set_option maxRecDepth 100000 in
set_option maxHeartbeats 2000000 in
theorem works13 (H : TokenIs) (w : World) (T : Tab w) :
    Calls Tryd.prog 7 #[] w fun e w' => e = .returned (.bool true) ∧ Below w.heap.size w w' := by
  have HH := Lib.hid H
  have T0 := Lib.hid T
  have C1 : Hid (Calls Tryd.prog 8 #[.string ⟨tkK.toArray⟩, tkT.val] w _) := Lib.hid (H.sign tkK tkT w (by decide) (by decide) (by decide) T)
  have VA := Lib.hid tkT_valid
  have VB := Lib.hid tkT_late
  have VC := Lib.hid tkT_old
  have VD := Lib.hid (sign_checks tkK tkT)
  have LT := Lib.hid (sign_tag tkK tkT)
  have LN : Hid ((signE tkK tkT).name.length ≤ 1000 ∧ (signE tkK tkT).id < 18446744073709551616) := Lib.hid (by decide)
  obtain ⟨S, hS⟩ : ∃ S, S = signE tkK tkT := ⟨_, rfl⟩
  rw [← hS] at C1 VA VB VC VD LT LN
  have L1 := Lib.hid (show S.tag.length ≤ 1000 by have := LT.out; omega)
  clear H T hS
  go_enter Tryd.func7, Tryd.ntmps7
  go_wp2_with fail
  refine C1.out.mono ?_
  rintro e w1 ⟨rfl, b1⟩
  have B1 := Lib.hid b1
  clear b1 C1
  go_wp2_with (refine wpList_alloc_row rfl 26 rfl ent0.cells ent_zero ?_)
  intro w2 b2 x2 z2
  have X2 : Hid (Whole w2 w1.heap.size 26 ent0.cells) := Lib.hid x2
  have B2 := Lib.hid (B1.out.trans (b2.mono B1.out.size))
  have Z2 := Lib.hid B1.out.size
  obtain ⟨g, hg⟩ : ∃ g, g = w1.heap.size := ⟨_, rfl⟩
  rw [← hg] at X2 Z2 ⊢
  clear b2 x2 z2 B1 hg
  go_wp2_with (with_reducible refine wpList_store_whole rfl 26 _ _ rfl g S.cells (by with_unfolding_all exact rfl) (by with_unfolding_all exact rfl) _ _ X2.out (ent_size' _) rfl (Ent.cells_one _) ?_)
  intro w3 g3 x3 z3
  have E3 : Hid (EntAt w3 g S) := Lib.hid x3
  have B3 := Lib.hid (B2.out.grown g3 B2.out.size (fun k hk => by injection hk with hk; have := Z2.out; omega))
  clear g3 x3 z3 X2 B2
  go_wp2_with (refine wpList_alloc_row rfl 23 rfl (gateC 0 []) gate_zero ?_)
  intro w4 b4 x4 z4
  have E4 : Hid (EntAt w4 g S) := Lib.hid (Whole.below E3.out b4 E3.out.lt)
  have X4 : Hid (Whole w4 w3.heap.size 23 (gateC 0 [])) := Lib.hid x4
  have B4 := Lib.hid (B3.out.trans (b4.mono B3.out.size))
  have Z4 := Lib.hid (And.intro B3.out.size E3.out.lt)
  obtain ⟨x, hx⟩ : ∃ x, x = w3.heap.size := ⟨_, rfl⟩
  rw [← hx] at X4 Z4 ⊢
  clear b4 x4 z4 B3 hx E3
  go_wp2_with (with_reducible refine wpList_store_whole rfl 23 _ _ rfl x (gateC 0 tkK) (by with_unfolding_all exact rfl) (by with_unfolding_all exact rfl) _ _ X4.out (gate_size _ _) rfl (gate_one _ _) ?_)
  intro w5 g5 x5 z5
  have E5 : Hid (EntAt w5 g S) := Lib.hid (Whole.grown E4.out g5 (fun k => by injection k with k; have := Z4.out; omega))
  have X5 : Hid (GateAt w5 x 0 tkK) := Lib.hid x5
  have B5 := Lib.hid (B4.out.grown g5 B4.out.size (fun k hk => by injection hk with hk; have := Z4.out; omega))
  clear g5 x5 z5 X4 B4 E4
  obtain ⟨a0, a1, a2, a3, a4, a5⟩ := E5.out.six
  have C : Hid (Calls Tryd.prog 10 #[.string ⟨tkK.toArray⟩, S.val] w5 _) := Lib.hid (HH.out.check tkK S w5 (by decide) LN.out.1 L1.out LN.out.2 (T0.out.below B5.out T0.out.pos))
  rw [VD.out] at C
  go_wp2_with fail
  refine C.out.mono ?_
  rintro e w6 ⟨rfl, hb⟩
  have E6 : Hid (EntAt w6 g S) := Lib.hid (Whole.below E5.out hb E5.out.lt)
  have X6 : Hid (GateAt w6 x 0 tkK) := Lib.hid (Whole.below X5.out hb X5.out.lt)
  have B6 := Lib.hid (B5.out.trans (hb.mono B5.out.size))
  clear hb C E5 X5 B5 a0 a1 a2 a3 a4 a5
  obtain ⟨a0, a1, a2, a3, a4, a5⟩ := E6.out.six
  obtain ⟨g0, g1⟩ := X6.out.two
  have C : Hid (Calls Tryd.prog 12 #[gateV 0 tkK, S.val, .int .i64 2] w6 _) := Lib.hid (HH.out.valid 0 tkK S 2 w6 (by decide) LN.out.1 L1.out LN.out.2 (T0.out.below B6.out T0.out.pos))
  rw [VA.out] at C
  go_wp2_with fail
  refine C.out.mono ?_
  rintro e w7 ⟨rfl, hb⟩
  have E7 : Hid (EntAt w7 g S) := Lib.hid (Whole.below E6.out hb E6.out.lt)
  have X7 : Hid (GateAt w7 x 0 tkK) := Lib.hid (Whole.below X6.out hb X6.out.lt)
  have B7 := Lib.hid (B6.out.trans (hb.mono B6.out.size))
  clear hb C E6 X6 B6 a0 a1 a2 a3 a4 a5 g0 g1
  obtain ⟨a0, a1, a2, a3, a4, a5⟩ := E7.out.six
  obtain ⟨g0, g1⟩ := X7.out.two
  have C : Hid (Calls Tryd.prog 12 #[gateV 0 tkK, S.val, .int .i64 4] w7 _) := Lib.hid (HH.out.valid 0 tkK S 4 w7 (by decide) LN.out.1 L1.out LN.out.2 (T0.out.below B7.out T0.out.pos))
  rw [VB.out] at C
  go_wp2_with fail
  refine C.out.mono ?_
  rintro e w8 ⟨rfl, hb⟩
  have E8 : Hid (EntAt w8 g S) := Lib.hid (Whole.below E7.out hb E7.out.lt)
  have B8 := Lib.hid (B7.out.trans (hb.mono B7.out.size))
  clear hb C E7 X7 B7 a0 a1 a2 a3 a4 a5 g0 g1
  obtain ⟨a0, a1, a2, a3, a4, a5⟩ := E8.out.six
  have C : Hid (Calls Tryd.prog 12 #[gateV 1 tkK, S.val, .int .i64 2] w8 _) := Lib.hid (HH.out.valid 1 tkK S 2 w8 (by decide) LN.out.1 L1.out LN.out.2 (T0.out.below B8.out T0.out.pos))
  rw [VC.out] at C
  go_wp2_with fail
  refine C.out.mono ?_
  rintro e w9 ⟨rfl, hb⟩
  have E9 : Hid (EntAt w9 g S) := Lib.hid (Whole.below E8.out hb E8.out.lt)
  have B9 := Lib.hid (B8.out.trans (hb.mono B8.out.size))
  clear hb C E8 B8 a0 a1 a2 a3 a4 a5
  have a5 := (EntAt.six E9.out).2.2.2.2.2
  have lt := LT.out
  go_wp2
  go_ret
  exact ⟨rfl, B9.out⟩
end Go.Proofs.YtghehomcabckcaaDoor

namespace Go.Proofs.YtghehomcabckcaaDoor
open Go.RowKit

def greatB (e : Ent) : Bool := decide (1000 < e.name.length) || decide (1000 < e.tag.length)

set_option maxHeartbeats 1000000 in
theorem great_any (a : Ent) (w : World) :
    Calls Tryd.prog 6 #[a.val] w fun e w' => e = .returned (.bool (greatB a)) ∧ Below w.heap.size w w' := by
  obtain ⟨n, i, f, u, x, t⟩ := a
  simp only [Ent.val, Ent.enc]
  obtain ⟨b1, h1⟩ : ∃ b, b = decide (1000 < n.length) := ⟨_, rfl⟩
  obtain ⟨b2, h2⟩ : ∃ b, b = decide (1000 < t.length) := ⟨_, rfl⟩
  have HB : Hid (greatB ⟨n, i, f, u, x, t⟩ = (b1 || b2)) := Lib.hid (by rw [greatB, ← h1, ← h2])
  have r1 : decide ((1000 : Int) < (n.length : Int)) = b1 := by rw [h1]; congr 1; apply propext; omega
  have r2 : decide ((1000 : Int) < (t.length : Int)) = b2 := by rw [h2]; congr 1; apply propext; omega
  have r3 := h1.symm
  have r4 := h2.symm
  clear h1 h2
  cases b1 <;> cases b2
  all_goals
    go_enter Tryd.func6, Tryd.ntmps6
    go_wp2
    go_ret
    exact ⟨by rw [HB.out]; rfl, (Below.refl _ _).alloc (Nat.le_refl _) _⟩
end Go.Proofs.YtghehomcabckcaaDoor

namespace Go.Proofs.YtghehomcabckcaaDoor
open Go.RowKit Go.ChangeShapes Go.WideShapes Go.ChangeAt

theorem open_gate {H : Type} {enc : TypeId × Value → H} {W : World} {b base : Nat} {sp : Nat → Bool} {hd : Bool} {v : Value} {d : DataW H} {p : List MemPlace}
    (hv : Value.okWide Tryd.prog W .any base 23 v) (h : DataW.Trod enc Tryd.prog W b sp hd 23 v d p) :
    ∃ (i : Int) (k : List UInt8), v = gateV i k ∧ -9223372036854775808 ≤ i ∧ i ≤ 9223372036854775807 := by
  obtain ⟨v0, v1, y0, y1, n, rfl, -, -, h0, h1⟩ := Go.Joins.open_agg2 Tryd.underlying23 (by kernel_rfl) (by kernel_rfl) hv h
  obtain ⟨z, e0, _, w0⟩ := DataW.trod_int Tryd.underlying3 h0
  obtain ⟨s, e1, _, _⟩ := DataW.trod_string Tryd.underlying9 h1
  simp only [List.cons.injEq, and_true] at e0 e1
  subst e0 e1
  refine ⟨z, s.data.toList, ?_, bounds_i64 w0⟩
  rw [gateV, Array.toArray_toList]
end Go.Proofs.YtghehomcabckcaaDoor

namespace Go.Proofs.YtghehomcabckcaaDoor
open Go.RowKit Go.ChangeShapes Go.WideShapes Go.ChangeAt Go.Deep

section
variable {H : Type} {enc : TypeId × Value → H} {W : World} {b base : Nat} {sp : Nat → Bool} {hd : Bool}
theorem str_cell (s : ByteArray) : Value.string s = .string ⟨s.data.toList.toArray⟩ := by
  rw [Array.toArray_toList]

theorem ent_cells {fuel : Nat} {cs : List Value} {x : DataW H × List MemPlace} (h : DataW.trod enc Tryd.prog W b sp hd fuel 26 cs = some x) : ∃ e : Ent, cs = e.cells.toList ∧ e.id < 18446744073709551616 := by
  obtain ⟨xs, n, _, hx, hl, hxl, hf⟩ := DataW.trod_struct Tryd.underlying26 h
  have hc : Tryd.prog.cellsOf 26 = 6 := by kernel_rfl
  rw [hc] at hl
  have c1 : Tryd.prog.cellsOf 9 = 1 := by kernel_rfl
  have c2 : Tryd.prog.cellsOf 24 = 1 := by kernel_rfl
  have c3 : Tryd.prog.cellsOf 3 = 1 := by kernel_rfl
  have h0 := hf 0 _ rfl
  have h1 := hf 1 _ rfl
  have h2 := hf 2 _ rfl
  have h3 := hf 3 _ rfl
  have h4 := hf 4 _ rfl
  have h5 := hf 5 _ rfl
  have hxl6 : xs.length = 6 := hxl
  match cs, hl with
  | [v0, v1, v2, v3, v4, v5], _ =>
    match xs, hxl6 with
    | [y0, y1, y2, y3, y4, y5], _ =>
      simp [c1, c2, c3] at h0 h1 h2 h3 h4 h5
      obtain ⟨s0, e0, _, _⟩ := DataW.trod_string Tryd.underlying9 h0
      obtain ⟨z1, e1, _, w1⟩ := DataW.trod_int Tryd.underlying24 h1
      obtain ⟨z2, e2, _, _⟩ := DataW.trod_int Tryd.underlying3 h2
      obtain ⟨z3, e3, _, _⟩ := DataW.trod_int Tryd.underlying3 h3
      obtain ⟨z4, e4, _, _⟩ := DataW.trod_int Tryd.underlying3 h4
      obtain ⟨s5, e5, _, _⟩ := DataW.trod_string Tryd.underlying9 h5
      simp only [List.cons.injEq, and_true] at e0 e1 e2 e3 e4 e5
      subst e0 e1 e2 e3 e4 e5
      have hb := bounds_u64 w1
      obtain ⟨k, rfl⟩ := Int.eq_ofNat_of_zero_le hb.1
      refine ⟨⟨s0.data.toList, k, z2, z3, z4, s5.data.toList⟩, ?_, by show k < 18446744073709551616; omega⟩
      rw [str_cell s0, str_cell s5]
      rfl
theorem open_ent {v : Value} {d : DataW H} {p : List MemPlace} (hv : Value.okWide Tryd.prog W .any base 26 v) (h : DataW.Trod enc Tryd.prog W b sp hd 26 v d p) : ∃ e : Ent, v = e.val ∧ e.id < 18446744073709551616 := by
  obtain ⟨cs, rfl, hsz⟩ := okWide_struct Tryd.underlying26 hv
  obtain ⟨fuel, hf⟩ := h
  obtain ⟨e, he, hi⟩ := ent_cells hf
  refine ⟨e, ?_, hi⟩
  rw [Ent.val_cells]
  congr 1
  apply Array.ext'
  simpa [Value.cells] using he
end
end Go.Proofs.YtghehomcabckcaaDoor

namespace Go.Proofs.YtghehomcabckcaaDoor
open Go.RowKit Go.ChangeShapes Go.WideShapes Go.ChangeAt

def laidC : List (String × DataW Unit) := [("carcanet/digest.constants", Rows.laid_carcanet_digest_constants)]
theorem gC : Tryd.prog.globalNamed "carcanet/digest.constants" = some 0 := by kernel_rfl
theorem tC : (Tryd.prog.globals[0]?).map (·.type) = some 71 := by kernel_rfl
def ktI : List Int := kt.map fun x => (x.toNat : Int)
theorem ktI_length : ktI.length = 64 := by kernel_rfl
theorem laid_tab : laidC = ("carcanet/digest.constants", Lib.tabData .u32 ktI) :: [] := by kernel_rfl

/-- The door's own heap meets the condition. -/
theorem door_met (os : Os) (args : Array Value) : laidMetH Tryd.prog laidC ((World.doorLaid Tryd.prog 400 os).forCall (fun _ _ => 0) ⟨#[], args, []⟩).memory :=
  laidMetH_of_parts3 (fuel := 8) (laidMet_of_run' 8 (by kernel_rfl) (by kernel_rfl)) (by kernel_rfl) (by kernel_rfl)

theorem tab_of_laid {W : World} (h : laidMetH Tryd.prog laidC W) : Tab W := by
  rw [MakeChecks.laidMetH_plain _ _ _ (by kernel_rfl), laid_tab] at h
  have q := Lib.tabIs_of_head gC tC Tryd.underlying71 Tryd.underlying54 (by kernel_rfl) (by kernel_rfl) h
  intro k hk
  have hk64 : kt.length = 64 := by kernel_rfl
  have hl : k < kt.length := by omega
  have c := q.cell gC k (by rw [ktI_length]; exact hk)
  rw [c]
  simp [ktI, wd, List.getD, List.getElem?_eq_getElem hl]
end Go.Proofs.YtghehomcabckcaaDoor
