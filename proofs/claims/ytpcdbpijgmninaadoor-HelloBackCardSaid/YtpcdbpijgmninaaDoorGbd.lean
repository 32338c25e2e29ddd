/- Package entry, as landed: Read. -/
import Derived.Test.YtpcdbpijgmninaaDoorGbb
import Derived.Test.YtpcdbpijgmninaaDoorGbc
namespace Go.Proofs.YtpcdbpijgmninaaDoor
set_option maxRecDepth 100000
open Go.RowKit

theorem numO_i64 (s : RS) (n : Nat) (hn : n ≤ 4) : IntKind.i64.wrap ((numO s n : Nat) : Int) = ((numO s n : Nat) : Int) := by
  have h1 := numO_lt s n
  have h2 : (256 : Nat) ^ n ≤ 256 ^ 4 := Nat.pow_le_pow_right (by decide) hn
  rw [IntWalk.i64_in _ (by omega)]

/-- While the package reads: r is the result, g the reader. -/
structure Rd6 (w0 : World) (r g : Nat) (w : World) (s : RS) : Prop where
  res : EntAt w r ent0
  rd : RdS w g s
  low : Below w0.heap.size w0 w
  rg : r < g
  r0 : w0.heap.size ≤ r
section
variable {w0 : World} {r g x : Nat} {w w' : World} {s s' : RS}
theorem Rd6.call (H : Rd6 w0 r g w s) (hr : RdS w' g s') (hg : w.grownBy w' (some g)) : Rd6 w0 r g w' s' where
  res := Whole.grown H.res hg (fun k => by injection k with k; have := H.rg; omega)
  rd := hr
  low := H.low.grown hg H.low.size (fun k hk => by injection hk with hk; have := H.rg; have := H.r0; omega)
  rg := H.rg
  r0 := H.r0
theorem Rd6.under (H : Rd6 w0 r g w s) (hb : Below w.heap.size w w') : Rd6 w0 r g w' s where
  res := Whole.below H.res hb (Whole.lt H.res)
  rd := H.rd.belowR hb
  low := H.low.trans (hb.mono H.low.size)
  rg := H.rg
  r0 := H.r0
theorem Rd6.apart (H : Rd6 w0 r g w s) (hg : w.grownBy w' (some x)) (hx : g < x) : Rd6 w0 r g w' s where
  res := Whole.grown H.res hg (fun k => by injection k with k; have := H.rg; omega)
  rd := H.rd.apart hg (by omega)
  low := H.low.grown hg H.low.size (fun k hk => by injection hk with hk; have := H.rg; have := H.r0; omega)
  rg := H.rg
  r0 := H.r0
end

set_option maxRecDepth 100000 in
set_option maxHeartbeats 4000000 in
theorem read_any (A : Option Addr) (n cap : Nat) (b : List UInt8) (w : World) (h : BytesAt w (.slice A n cap) b) :
    Calls Tryd.prog 78 #[.slice A n cap] w fun e w' => e = .returned (.tuple #[(readE b).val, .int .i64 (readX b)]) ∧ Below w.heap.size w w' := by
  obtain ⟨rfl, -⟩ := h.size
  have H := Lib.hid h
  have r2 := numO_i64 (st2 b) 4 (by decide)
  have r3 := numO_i64 (st3 b) 4 (by decide)
  have r4 := numO_i64 (st4 b) 2 (by decide)
  have EX : Hid (readX b = if endE (st6 b) ≠ 0 then endE (st6 b) else if entR (entP b) = true then 0 else 11) := Lib.hid rfl
  have EE : Hid (readE b = if readX b = 0 then entP b else ent0) := Lib.hid rfl
  obtain ⟨rx, hrx⟩ : ∃ rx, rx = readX b := ⟨_, rfl⟩
  obtain ⟨re, hre⟩ : ∃ re, re = readE b := ⟨_, rfl⟩
  rw [← hrx] at EX EE ⊢
  rw [← hre] at EE ⊢
  clear h hrx hre
  go_enter Tryd.func78, Tryd.ntmps78
  go_wp2_with (refine wpList_alloc_row rfl 24 rfl ent0.cells ent_zero ?_)
  intro w1 b1 x1 z1
  have X1 : Hid (EntAt w1 w.heap.size ent0) := x1
  have B1 := Lib.hid b1
  have Z1 := Lib.hid z1
  clear b1 x1 z1
  go_wp2_with fail
  refine (pkOpen A _ cap b w1 (H.out.below B1.out)).mono ?_
  rintro e w2 ⟨rfl, hr, hb⟩
  have F0 : Hid (Rd6 w w.heap.size w1.heap.size w2 ⟨b, 0⟩) := Lib.hid {
    res := X1.out.below hb (by have := Z1.out; omega)
    rd := hr
    low := B1.out.trans (hb.mono B1.out.size)
    rg := by have := Z1.out; omega
    r0 := Nat.le_refl _ }
  obtain ⟨g, hg⟩ : ∃ g, g = w1.heap.size := ⟨_, rfl⟩
  rw [← hg] at F0 ⊢
  clear hr hb X1 B1 Z1 H hg
  have C := Lib.hid (pkText g 16 ⟨b, 0⟩ _ F0.out.rd)
  go_wp2_with fail
  refine C.out.mono ?_
  rintro e v0 ⟨rfl, hr, hg⟩
  have G0 : Hid (Rd6 w w.heap.size g v0 (st1 b)) := Lib.hid (F0.out.call hr hg)
  clear hr hg C F0
  have F0 := G0
  clear G0
  have C := Lib.hid (pkNum g 8 (st1 b) _ F0.out.rd (by decide) (by decide))
  go_wp2_with fail
  refine C.out.mono ?_
  rintro e v1 ⟨rfl, hr, hg⟩
  have G0 : Hid (Rd6 w w.heap.size g v1 (st2 b)) := Lib.hid (F0.out.call hr hg)
  clear hr hg C F0
  have F0 := G0
  clear G0
  have C := Lib.hid (pkNum g 4 (st2 b) _ F0.out.rd (by decide) (by decide))
  go_wp2_with fail
  refine C.out.mono ?_
  rintro e v2 ⟨rfl, hr, hg⟩
  have G0 : Hid (Rd6 w w.heap.size g v2 (st3 b)) := Lib.hid (F0.out.call hr hg)
  clear hr hg C F0
  have F0 := G0
  clear G0
  have C := Lib.hid (pkNum g 4 (st3 b) _ F0.out.rd (by decide) (by decide))
  go_wp2_with fail
  refine C.out.mono ?_
  rintro e v3 ⟨rfl, hr, hg⟩
  have G0 : Hid (Rd6 w w.heap.size g v3 (st4 b)) := Lib.hid (F0.out.call hr hg)
  clear hr hg C F0
  have F0 := G0
  clear G0
  have C := Lib.hid (pkNum g 2 (st4 b) _ F0.out.rd (by decide) (by decide))
  go_wp2_with fail
  refine C.out.mono ?_
  rintro e v4 ⟨rfl, hr, hg⟩
  have G0 : Hid (Rd6 w w.heap.size g v4 (st5 b)) := Lib.hid (F0.out.call hr hg)
  clear hr hg C F0
  have F0 := G0
  clear G0
  have C := Lib.hid (pkRaw g 32 (st5 b) _ F0.out.rd)
  go_wp2_with fail
  refine C.out.mono ?_
  rintro e v5 ⟨rfl, hr, hg⟩
  have G0 : Hid (Rd6 w w.heap.size g v5 (st6 b)) := Lib.hid (F0.out.call hr hg)
  clear hr hg C F0
  have F0 := G0
  clear G0
  go_wp2_with (refine wpList_alloc_row rfl 24 rfl ent0.cells ent_zero ?_)
  intro w3 b3 x3 z3
  have F3 := Lib.hid (F0.out.under b3)
  have gx := Whole.lt F0.out.rd.1
  have E3 : Hid (Whole w3 v5.heap.size 24 ent0.cells) := Lib.hid x3
  obtain ⟨x, hx⟩ : ∃ x, x = v5.heap.size := ⟨_, rfl⟩
  rw [← hx] at E3 gx ⊢
  have GX := Lib.hid gx
  clear b3 x3 z3 F0 hx gx
  go_wp2_with (with_reducible refine wpList_store_whole rfl 24 _ _ rfl x (entP b).cells (by with_unfolding_all exact rfl) (by with_unfolding_all exact rfl) _ _ E3.out (ent_size' _) rfl (Ent.cells_one _) ?_)
  intro w4 g4 x4 z4
  have G2 := Lib.hid (F3.out.apart g4 GX.out)
  have E4 : Hid (EntAt w4 x (entP b)) := Lib.hid x4
  clear g4 x4 z4 F3 E3 r2 r3 r4
  have C := Lib.hid (pkEnd g (st6 b) _ G2.out.rd)
  go_wp2_with fail
  refine C.out.mono ?_
  rintro e v6 ⟨rfl, hv⟩
  subst hv
  clear C
  by_cases hE : endE (st6 b) = 0
  · have dE : (endE (st6 b) != 0) = false := by simp [hE]
    have EX1 : Hid (rx = if entR (entP b) = true then 0 else 11) := Lib.hid (by have q := EX.out; rw [if_neg (by simp [hE])] at q; exact q)
    clear EX hE
    have L1 := E4
    go_wp2_with (with_reducible refine wpList_load_ent rfl _ rfl x ?hx (entP b) L1.out ?_)
    case hx => exact rfl
    have CR := Lib.hid (right_any (entP b) w4)
    go_wp2_with fail
    refine CR.out.mono ?_
    rintro e v7 ⟨rfl, b7⟩
    have L7 : Hid (EntAt v7 x (entP b)) := Lib.hid (Whole.below E4.out b7 E4.out.lt)
    have R7 : Hid (Whole v7 w.heap.size 24 ent0.cells) := Lib.hid (Whole.below G2.out.res b7 G2.out.res.lt)
    have D7 := Lib.hid (G2.out.low.trans (b7.mono G2.out.low.size))
    clear b7 CR L1 E4 G2 dE
    cases hR : entR (entP b) with
    | true =>
      have q := EX1.out
      rw [if_pos hR] at q
      have qe := EE.out
      rw [if_pos q] at qe
      subst q qe
      clear EE EX1
      go_wp2_with (first | (with_reducible refine wpList_load_ent rfl _ rfl x (by with_unfolding_all exact rfl) (entP b) L7.out ?_) | (with_reducible refine wpList_store_whole rfl 24 _ _ rfl w.heap.size (entP b).cells (by with_unfolding_all exact rfl) (by with_unfolding_all exact rfl) _ _ R7.out (ent_size' _) rfl (Ent.cells_one _) ?_))
      intro v8 g8 x8 z8
      have R8 : Hid (EntAt v8 w.heap.size (entP b)) := Lib.hid x8
      have D8 := Lib.hid (D7.out.grown g8 D7.out.size (fun k hk => by injection hk with hk; omega))
      clear g8 x8 z8 R7 D7 L7
      go_wp2
      exact bodyPost_ret (results_ent_tmp rfl _ _ _ _ rfl R8.out) rfl ⟨rfl, D8.out⟩
    | false =>
      have q := EX1.out
      rw [if_neg (by rw [hR]; decide)] at q
      have qe := EE.out
      rw [if_neg (by rw [q]; decide)] at qe
      subst q qe
      clear EE EX1
      go_wp2_with (with_reducible refine wpList_store_whole rfl 24 _ _ rfl w.heap.size ent0.cells (by with_unfolding_all exact rfl) (by with_unfolding_all exact rfl) _ _ R7.out (ent_size' _) rfl (Ent.cells_one _) ?_)
      intro v8 g8 x8 z8
      have R8 : Hid (EntAt v8 w.heap.size ent0) := Lib.hid x8
      have D8 := Lib.hid (D7.out.grown g8 D7.out.size (fun k hk => by injection hk with hk; omega))
      clear g8 x8 z8 R7 D7 L7
      go_wp2
      exact bodyPost_ret (results_ent_tmp rfl _ _ _ _ rfl R8.out) rfl ⟨rfl, D8.out⟩
  · have dE : (endE (st6 b) != 0) = true := by simp [hE]
    have q := EX.out
    rw [if_pos hE] at q
    have qe := EE.out
    rw [if_neg (by rw [q]; exact hE)] at qe
    subst q qe
    clear EE EX hE
    have R7 : Hid (Whole w4 w.heap.size 24 ent0.cells) := Lib.hid G2.out.res
    have D7 := Lib.hid G2.out.low
    clear G2 E4
    go_wp2_with (with_reducible refine wpList_store_whole rfl 24 _ _ rfl w.heap.size ent0.cells (by with_unfolding_all exact rfl) (by with_unfolding_all exact rfl) _ _ R7.out (ent_size' _) rfl (Ent.cells_one _) ?_)
    intro v8 g8 x8 z8
    have R8 : Hid (EntAt v8 w.heap.size ent0) := Lib.hid x8
    have D8 := Lib.hid (D7.out.grown g8 D7.out.size (fun k hk => by injection hk with hk; omega))
    clear g8 x8 z8 R7 D7
    go_wp2
    exact bodyPost_ret (results_ent_tmp rfl _ _ _ _ rfl R8.out) rfl ⟨rfl, D8.out⟩
end Go.Proofs.YtpcdbpijgmninaaDoor
