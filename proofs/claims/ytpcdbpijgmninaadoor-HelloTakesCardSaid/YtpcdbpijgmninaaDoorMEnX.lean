/- The document's Read. -/
import Derived.Test.YtpcdbpijgmninaaDoorGbc
namespace Go.Proofs.YtpcdbpijgmninaaDoor
set_option maxRecDepth 100000
open Go.RowKit

theorem num_i64 (s : RS) (n : Nat) (hn : n ≤ 4) : IntKind.i64.wrap ((numO s n : Nat) : Int) = ((numO s n : Nat) : Int) := by
  have h1 := numO_lt s n
  have h2 : (256 : Nat) ^ n ≤ 256 ^ 4 := Nat.pow_le_pow_right (by decide) hn
  rw [IntWalk.i64_in _ (by omega)]

set_option maxRecDepth 100000 in
set_option maxHeartbeats 4000000 in
theorem refRead_any (A : Option Addr) (n cap : Nat) (b : List UInt8) (w : World) (hn : n ≤ 9000) (h : BytesAt w (.slice A n cap) b) :
    Calls Tryd.prog 61 #[.slice A n cap] w fun e w' => e = .returned (.tuple #[(readE b).val, .int .i64 (readX b)]) ∧ Below w.heap.size w w' := by
  obtain ⟨rfl, -⟩ := h.size
  have H := Lib.hid h
  have HA : Hid (b ≠ [] → ∀ ad, A = some ad → ad.block < w.heap.size) := Lib.hid (fun hb ad k => by
    obtain ⟨ad', e', hlt⟩ := h.lt hb
    rw [k] at e'
    injection e' with e'
    subst e'
    exact hlt)
  have HN := Lib.hid hn
  have r2 := num_i64 (st2 b) 4 (by decide)
  have r3 := num_i64 (st3 b) 4 (by decide)
  have r4 := num_i64 (st4 b) 2 (by decide)
  have EX : Hid (readX b = if endE (st6 b) ≠ 0 then endE (st6 b) else if entR (entP b) = true then 0 else 11) := Lib.hid rfl
  have EE : Hid (readE b = if readX b = 0 then entP b else ent0) := Lib.hid rfl
  obtain ⟨rx, hrx⟩ : ∃ rx, rx = readX b := ⟨_, rfl⟩
  obtain ⟨re, hre⟩ : ∃ re, re = readE b := ⟨_, rfl⟩
  rw [← hrx] at EX EE ⊢
  rw [← hre] at EE ⊢
  clear h hn hrx hre
  go_enter Tryd.func61, Tryd.ntmps61
  go_wp2_with (refine wpList_alloc_row rfl 24 rfl ent0.cells ent_zero ?_)
  intro w1 b1 x1 z1
  have X1 : Hid (EntAt w1 w.heap.size ent0) := x1
  have B1 := Lib.hid b1
  have Z1 := Lib.hid z1
  clear b1 x1 z1
  go_wp2_with fail
  refine (rfOpen A cap b w1 (H.out.below B1.out)).mono ?_
  rintro e w2 ⟨rfl, hr, hb⟩
  have R2 := Lib.hid hr
  have X2 : Hid (EntAt w2 w.heap.size ent0) := X1.out.below hb (by have := Z1.out; omega)
  have B2 := Lib.hid (B1.out.trans (hb.mono B1.out.size))
  have Z2 := Lib.hid (show w1.heap.size < w2.heap.size from Whole.lt hr.choose_spec.1)
  have ZG := Lib.hid (show w.heap.size < w1.heap.size by have := Z1.out; omega)
  obtain ⟨g, hg⟩ : ∃ g, g = w1.heap.size := ⟨_, rfl⟩
  rw [← hg] at R2 Z2 ZG ⊢
  clear hr hb X1 B1 Z1 hg
  go_wp2_with (refine wpList_alloc_row rfl 24 rfl ent0.cells ent_zero ?_)
  intro w3 b3 x3 z3
  have F3 : Hid (Rf6 w w.heap.size g w2.heap.size A cap b w3 ent0 ⟨b, 0⟩) := Lib.hid {
    ent := x3
    res := Whole.below X2.out b3 (by have := Z2.out; have := ZG.out; omega)
    rd := R2.out.belowR b3
    low := B2.out.trans (b3.mono B2.out.size)
    rg := ZG.out
    gx := Z2.out
    r0 := Nat.le_refl _
    xz := by omega
    far := HA.out }
  clear b3 x3 z3 R2 X2 B2 Z2 ZG
  have gx := F3.out.gx
  obtain ⟨x, hx⟩ : ∃ x, x = w2.heap.size := ⟨_, rfl⟩
  rw [← hx] at F3 gx ⊢
  clear hx
  have E3 : Hid (Whole w3 x 24 ent0.cells) := Lib.hid F3.out.ent
  go_wp2_with (with_reducible refine wpList_store_whole rfl 24 _ _ rfl x ent0.cells ?hx ?hy _ _ E3.out (ent_size' _) rfl (Ent.cells_one _) ?_)
  case hx => exact rfl
  case hy => exact rfl
  intro w4 g4 x4 z4
  have F0 := Lib.hid (F3.out.whole (e' := ent0) g4 x4)
  clear g4 x4 z4 F3 E3
  have C := Lib.hid (rfText g 16 A cap b ⟨b, 0⟩ _ F0.out.rd HN.out)
  go_wp2_with fail
  refine C.out.mono ?_
  rintro e v0 ⟨rfl, hr, hg⟩
  have G0 : Hid (Rf6 w w.heap.size g x A cap b v0 _ (st1 b)) := Lib.hid (F0.out.call hr hg)
  have f0 := G0.out.ent.free 0
  have c0 := G0.out.ent.at_ 0
  simp [Ent.cells] at c0
  clear hr hg C F0
  have F0 := Lib.hid (G0.out.put (G0.out.ent.name (textO ⟨b, 0⟩ 16)))
  clear G0
  have C := Lib.hid (rfNum g 8 A cap b (st1 b) _ F0.out.rd HN.out (by decide) (by decide))
  go_wp2_with fail
  refine C.out.mono ?_
  rintro e v1 ⟨rfl, hr, hg⟩
  have G0 : Hid (Rf6 w w.heap.size g x A cap b v1 _ (st2 b)) := Lib.hid (F0.out.call hr hg)
  have f1 := G0.out.ent.free 1
  have c1 := G0.out.ent.at_ 1
  simp [Ent.cells] at c1
  clear hr hg C F0
  have F0 := Lib.hid (G0.out.put (G0.out.ent.id (numO (st1 b) 8)))
  clear G0
  have C := Lib.hid (rfNum g 4 A cap b (st2 b) _ F0.out.rd HN.out (by decide) (by decide))
  go_wp2_with fail
  refine C.out.mono ?_
  rintro e v2 ⟨rfl, hr, hg⟩
  have G0 : Hid (Rf6 w w.heap.size g x A cap b v2 _ (st3 b)) := Lib.hid (F0.out.call hr hg)
  have f2 := G0.out.ent.free 2
  have c2 := G0.out.ent.at_ 2
  simp [Ent.cells] at c2
  clear hr hg C F0
  have F0 := Lib.hid (G0.out.put (G0.out.ent.since (numO (st2 b) 4)))
  clear G0
  have C := Lib.hid (rfNum g 4 A cap b (st3 b) _ F0.out.rd HN.out (by decide) (by decide))
  go_wp2_with fail
  refine C.out.mono ?_
  rintro e v3 ⟨rfl, hr, hg⟩
  have G0 : Hid (Rf6 w w.heap.size g x A cap b v3 _ (st4 b)) := Lib.hid (F0.out.call hr hg)
  have f3 := G0.out.ent.free 3
  have c3 := G0.out.ent.at_ 3
  simp [Ent.cells] at c3
  clear hr hg C F0
  have F0 := Lib.hid (G0.out.put (G0.out.ent.till (numO (st3 b) 4)))
  clear G0
  have C := Lib.hid (rfNum g 2 A cap b (st4 b) _ F0.out.rd HN.out (by decide) (by decide))
  go_wp2_with fail
  refine C.out.mono ?_
  rintro e v4 ⟨rfl, hr, hg⟩
  have G0 : Hid (Rf6 w w.heap.size g x A cap b v4 _ (st5 b)) := Lib.hid (F0.out.call hr hg)
  have f4 := G0.out.ent.free 4
  have c4 := G0.out.ent.at_ 4
  simp [Ent.cells] at c4
  clear hr hg C F0
  have F0 := Lib.hid (G0.out.put (G0.out.ent.index (numO (st4 b) 2)))
  clear G0
  have C := Lib.hid (rfRaw g 32 A cap b (st5 b) _ F0.out.rd HN.out)
  go_wp2_with fail
  refine C.out.mono ?_
  rintro e v5 ⟨rfl, hr, hg⟩
  have G0 : Hid (Rf6 w w.heap.size g x A cap b v5 _ (st6 b)) := Lib.hid (F0.out.call hr hg)
  have f5 := G0.out.ent.free 5
  have c5 := G0.out.ent.at_ 5
  simp [Ent.cells] at c5
  clear hr hg C F0
  have F0 := Lib.hid (G0.out.put (G0.out.ent.tag (rawO (st5 b) 32)))
  clear G0
  have G1 : Hid (Rf6 w w.heap.size g x A cap b _ (entP b) (st6 b)) := Lib.hid F0.out
  have C := Lib.hid (rfEnd g A cap b (st6 b) _ F0.out.rd)
  clear F0
  go_wp2_with fail
  refine C.out.mono ?_
  rintro e v6 ⟨rfl, hr, hg⟩
  have G2 := Lib.hid (G1.out.call hr hg)
  clear hr hg C G1
  by_cases hE : endE (st6 b) = 0
  · have dE : (endE (st6 b) != 0) = false := by simp [hE]
    have EX1 : Hid (rx = if entR (entP b) = true then 0 else 11) := Lib.hid (by have q := EX.out; rw [if_neg (by simp [hE])] at q; exact q)
    clear EX hE
    have L1 : Hid (EntAt v6 x (entP b)) := Lib.hid G2.out.ent
    go_wp2_with (with_reducible refine wpList_load_ent rfl _ rfl x ?hx (entP b) L1.out ?_)
    case hx => exact rfl
    have CR := Lib.hid (refRight_any (entP b) v6)
    go_wp2_with fail
    refine CR.out.mono ?_
    rintro e v7 ⟨rfl, b7⟩
    have L7 : Hid (EntAt v7 x (entP b)) := Lib.hid (Whole.below G2.out.ent b7 G2.out.ent.lt)
    have R7 : Hid (Whole v7 w.heap.size 24 ent0.cells) := Lib.hid (Whole.below G2.out.res b7 G2.out.res.lt)
    have D7 := Lib.hid (G2.out.low.trans (b7.mono G2.out.low.size))
    clear b7 CR L1 G2 dE
    cases hR : entR (entP b) with
    | true =>
      have q := EX1.out
      rw [if_pos hR] at q
      have qe := EE.out
      rw [if_pos q] at qe
      subst q qe
      clear EE EX1
      go_wp2_with (first | (with_reducible refine wpList_load_ent rfl _ rfl x (by with_unfolding_all exact rfl) (entP b) L7.out ?_) | (with_reducible refine wpList_store_whole rfl 24 _ _ rfl w.heap.size (entP b).cells (by with_unfolding_all exact rfl) (by with_unfolding_all exact rfl) _ _ R7.out (ent_size' _) rfl (Ent.cells_one _) ?_))
      intro v8 g8 x8 z8
      have R8 : Hid (EntAt v8 w.heap.size (entP b)) := Lib.hid x8
      have D8 := Lib.hid (D7.out.grown g8 D7.out.size (fun k hk => by injection hk with hk; omega))
      clear g8 x8 z8 R7 D7 L7
      go_wp2
      exact bodyPost_ret (results_ent_tmp rfl _ _ _ _ rfl R8.out) rfl ⟨rfl, D8.out⟩
    | false =>
      have q := EX1.out
      rw [if_neg (by rw [hR]; decide)] at q
      have qe := EE.out
      rw [if_neg (by rw [q]; decide)] at qe
      subst q qe
      clear EE EX1
      go_wp2_with (with_reducible refine wpList_store_whole rfl 24 _ _ rfl w.heap.size ent0.cells (by with_unfolding_all exact rfl) (by with_unfolding_all exact rfl) _ _ R7.out (ent_size' _) rfl (Ent.cells_one _) ?_)
      intro v8 g8 x8 z8
      have R8 : Hid (EntAt v8 w.heap.size ent0) := Lib.hid x8
      have D8 := Lib.hid (D7.out.grown g8 D7.out.size (fun k hk => by injection hk with hk; omega))
      clear g8 x8 z8 R7 D7 L7
      go_wp2
      exact bodyPost_ret (results_ent_tmp rfl _ _ _ _ rfl R8.out) rfl ⟨rfl, D8.out⟩
  · have dE : (endE (st6 b) != 0) = true := by simp [hE]
    have q := EX.out
    rw [if_pos hE] at q
    have qe := EE.out
    rw [if_neg (by rw [q]; exact hE)] at qe
    subst q qe
    clear EE EX hE
    have C := Lib.hid (rfEnd g A cap b (st6 b) _ G2.out.rd)
    go_wp2_with fail
    refine C.out.mono ?_
    rintro e v7 ⟨rfl, hr, hg⟩
    have G3 := Lib.hid (G2.out.call hr hg)
    have R7 : Hid (Whole v7 w.heap.size 24 ent0.cells) := Lib.hid G3.out.res
    have D7 := Lib.hid G3.out.low
    clear hr hg C G2 G3
    go_wp2_with (with_reducible refine wpList_store_whole rfl 24 _ _ rfl w.heap.size ent0.cells (by with_unfolding_all exact rfl) (by with_unfolding_all exact rfl) _ _ R7.out (ent_size' _) rfl (Ent.cells_one _) ?_)
    intro v8 g8 x8 z8
    have R8 : Hid (EntAt v8 w.heap.size ent0) := Lib.hid x8
    have D8 := Lib.hid (D7.out.grown g8 D7.out.size (fun k hk => by injection hk with hk; omega))
    clear g8 x8 z8 R7 D7
    go_wp2
    exact bodyPost_ret (results_ent_tmp rfl _ _ _ _ rfl R8.out) rfl ⟨rfl, D8.out⟩
end Go.Proofs.YtpcdbpijgmninaaDoor
