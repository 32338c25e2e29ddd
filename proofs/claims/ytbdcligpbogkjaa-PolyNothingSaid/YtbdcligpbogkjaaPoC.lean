/- What the document's Clamp and digits of layer 7 answer. -/
import Derived.Test.YtbdcligpbogkjaaPoM
import Derived.Test.YtbdcligpbogkjaaInt
import Derived.Test.YtbdcligpbogkjaaRow
import Derived.Deep.DeepCutAuto
import Derived.Deep.LoopGhost
import Derived.ChangeAlike
namespace Go.Proofs.Ytbdcligpbogkjaa
open Go.RowKit

theorem rem16 (x : UInt8) : ((x.toNat : Int).tmod 16) = ((x % 16).toNat : Int) := by
  rw [Int.tmod_eq_emod_of_nonneg (by omega), UInt8.toNat_mod]
  rfl
theorem rem4 (x : UInt8) : ((x.toNat : Int).tmod 4) = ((x % 4).toNat : Int) := by
  rw [Int.tmod_eq_emod_of_nonneg (by omega), UInt8.toNat_mod]
  rfl
theorem sub4 (x : UInt8) : IntKind.u8.wrap ((x.toNat : Int) - ((x % 4).toNat : Int)) = ((x - x % 4).toNat : Int) := by
  have h4 : (x % 4).toNat = x.toNat % 4 := by rw [UInt8.toNat_mod]; rfl
  have hx := x.toNat_lt
  have hs : (x - x % 4).toNat = x.toNat - (x % 4).toNat := UInt8.toNat_sub_of_le _ _ (by rw [UInt8.le_iff_toNat_le, h4]; omega)
  rw [IntWalk.u8_in _ (by omega), hs]
  omega
theorem sub4' (x : UInt8) : IntKind.u8.wrap ((x.toNat : Int) - (x.toNat : Int) % 4) = ((x - x % 4).toNat : Int) := by
  have h := sub4 x
  rw [← rem4 x, Int.tmod_eq_emod_of_nonneg (by omega)] at h
  exact h
theorem sub4'' (x : UInt8) : IntKind.u8.wrap ((x.toNat : Int) - (x.toNat : Int).tmod 4) = ((x - x % 4).toNat : Int) := by
  have h := sub4 x
  rw [← rem4 x] at h
  exact h
theorem clampL_sets (l : List UInt8) (h : 16 ≤ l.length) (a b c d e f g : UInt8) (ha : l[3]? = some a) (hb : l[7]? = some b) (hc : l[11]? = some c) (hd : l[15]? = some d) (he : l[4]? = some e) (hf : l[8]? = some f) (hg : l[12]? = some g) :
    (((((((l.take 16).set 3 (a % 16)).set 7 (b % 16)).set 11 (c % 16)).set 15 (d % 16)).set 4 (e - e % 4)).set 8 (f - f % 4)).set 12 (g - g % 4) = clampL l := by
  have hn : ¬ l.length < 16 := by omega
  rw [clampL, if_neg hn]
  match l, h with
  | x0 :: x1 :: x2 :: x3 :: x4 :: x5 :: x6 :: x7 :: x8 :: x9 :: x10 :: x11 :: x12 :: x13 :: x14 :: x15 :: t, _ =>
    simp at ha hb hc hd he hf hg
    subst ha hb hc hd he hf hg
    rfl

set_option maxRecDepth 100000 in
set_option maxHeartbeats 2000000 in
theorem refClamp_any (A : Option Addr) (n cap : Nat) (l : List UInt8) (w : World) (h : BytesAt w (.slice A n cap) l) :
    Calls Try.prog 12 #[.slice A n cap] w fun e w' => ∃ v', e = .returned v' ∧ BytesAt w' v' (clampL l) ∧ Below w.heap.size w w' := by
  have HZ := Lib.hid h.size
  by_cases hn : n < 16
  · have d : decide ((n : Int) < 16) = true := by simp; omega
    have e : clampL l = [] := by rw [clampL, if_pos (by have := HZ.out.1; omega)]
    rw [e]
    clear e h
    go_enter Try.func12, Try.ntmps12
    go_wp2
    go_ret
    exact ⟨_, rfl, BytesAt.nil w, Below.refl _ _⟩
  · have d : decide ((n : Int) < 16) = false := by simp; omega
    have HL : Hid (16 ≤ l.length) := Lib.hid (by have := HZ.out.1; omega)
    have d2 : (16 : Int) ≤ (cap : Int) := by have := HZ.out; omega
    obtain ⟨ad, rfl, -⟩ := h.lt (by intro e; have := HL.out; rw [e] at this; simp at this)
    have h16 := Lib.hid (h.first 16 (by omega))
    have hT : Hid ((l.take 16).length = 16) := Lib.hid (by simp; have := HL.out; omega)
    have gt : ∀ i, i < 16 → ∃ x, l[i]? = some x := fun i hi => ⟨_, List.getElem?_eq_getElem (by have := HL.out; omega)⟩
    obtain ⟨ax, ha⟩ := gt 3 (by decide)
    obtain ⟨bx, hb⟩ := gt 7 (by decide)
    obtain ⟨cx, hc⟩ := gt 11 (by decide)
    obtain ⟨dx, hd⟩ := gt 15 (by decide)
    obtain ⟨ex, he⟩ := gt 4 (by decide)
    obtain ⟨fx, hf⟩ := gt 8 (by decide)
    obtain ⟨gx, hg⟩ := gt 12 (by decide)
    have HC := Lib.hid (clampL_sets l HL.out ax bx cx dx ex fx gx ha hb hc hd he hf hg)
    have Ta : Hid ((l.take 16)[3]? = some ax) := Lib.hid (by simp [ha])
    have Tb : Hid ((l.take 16)[7]? = some bx) := Lib.hid (by simp [hb])
    have Tc : Hid ((l.take 16)[11]? = some cx) := Lib.hid (by simp [hc])
    have Td : Hid ((l.take 16)[15]? = some dx) := Lib.hid (by simp [hd])
    have Te : Hid ((l.take 16)[4]? = some ex) := Lib.hid (by simp [he])
    have Tf : Hid ((l.take 16)[8]? = some fx) := Lib.hid (by simp [hf])
    have Tg : Hid ((l.take 16)[12]? = some gx) := Lib.hid (by simp [hg])
    clear gt ha hb hc hd he hf hg h hn
    generalize clampL l = CL at *
    obtain ⟨L0, hL0⟩ : ∃ L0, L0 = l.take 16 := ⟨_, rfl⟩
    rw [← hL0] at h16 hT HC Ta Tb Tc Td Te Tf Tg
    clear hL0
    go_enter Try.func12, Try.ntmps12
    go_wp2_with (with_reducible refine wpList_append_bytes rfl _ _ rfl w.heap.size _ _ _ ?hv (own_empty w) _ L0 ?hx (h16.out.below ((Below.refl _ _).alloc (Nat.le_refl _) _)) ?hlen ?hbase ?_)
    case hv => exact rfl
    case hx => exact rfl
    case hlen => rw [hT.out]; decide
    case hbase => simp
    intro v1 w1 o1 g1
    have o1 : w1.ownsRow w.heap.size 5 1 v1 16 (bv L0) := by simpa [hT.out] using o1
    have hb1 : Below w.heap.size w w1 := ((Below.refl w.heap.size w).alloc (Nat.le_refl _) (.cells #[] 5)).grown g1 (by simp) (fun k hk => ((own_empty w).lt k hk).1)
    obtain ⟨g, cq, rfl, hg0⟩ : ∃ g cq, v1 = .slice (some ⟨g, 0, none⟩) 16 cq ∧ w.heap.size ≤ g := by
      rcases o1.2 with ⟨-, h0⟩ | ⟨g, cq, cur, rfl, hg, -⟩
      · omega
      · exact ⟨g, cq, rfl, hg⟩
    have O0 := Lib.hid o1
    have B0 := Lib.hid hb1
    have HG := Lib.hid hg0
    have N0 := hT
    clear o1 hb1 g1 hg0
    have k0 : L0[3]? = some ax := by
      have q := Ta.out
      simpa using q
    have c0 : w1.cell? ⟨g, 3, none⟩ = some (.int .u8 (ax.toNat : Int)) := (O0.out.cellAt 3 (by decide)).trans (by simp only [bv, List.getElem?_map, k0, Option.map_some])
    have r0 := rem16 ax
    go_wp2_with (with_reducible refine wpList_put_own rfl _ _ rfl w.heap.size g 3 16 cq ?hx (ax % 16) ?hy L0 ?hl O0.out ?hi ?_)
    case hx => exact rfl
    case hy => exact rfl
    case hl => simp [N0.out]
    case hi => decide
    intro w2 g0 o0 z0
    have O1 := Lib.hid o0
    have B1 := Lib.hid (B0.out.grown g0 B0.out.size (fun k hk => by have := HG.out; injection hk; omega))
    clear g0 o0 z0 k0 c0 r0 O0 B0
    have k1 : (L0.set 3 (ax % 16))[7]? = some bx := by
      have q := Tb.out
      simpa using q
    have c1 : w2.cell? ⟨g, 7, none⟩ = some (.int .u8 (bx.toNat : Int)) := (O1.out.cellAt 7 (by decide)).trans (by simp only [bv, List.getElem?_map, k1, Option.map_some])
    have r1 := rem16 bx
    go_wp2_with (with_reducible refine wpList_put_own rfl _ _ rfl w.heap.size g 7 16 cq ?hx (bx % 16) ?hy (L0.set 3 (ax % 16)) ?hl O1.out ?hi ?_)
    case hx => exact rfl
    case hy => exact rfl
    case hl => simp [N0.out]
    case hi => decide
    intro w3 g1 o1 z1
    have O2 := Lib.hid o1
    have B2 := Lib.hid (B1.out.grown g1 B1.out.size (fun k hk => by have := HG.out; injection hk; omega))
    clear g1 o1 z1 k1 c1 r1 O1 B1
    have k2 : ((L0.set 3 (ax % 16)).set 7 (bx % 16))[11]? = some cx := by
      have q := Tc.out
      simpa using q
    have c2 : w3.cell? ⟨g, 11, none⟩ = some (.int .u8 (cx.toNat : Int)) := (O2.out.cellAt 11 (by decide)).trans (by simp only [bv, List.getElem?_map, k2, Option.map_some])
    have r2 := rem16 cx
    go_wp2_with (with_reducible refine wpList_put_own rfl _ _ rfl w.heap.size g 11 16 cq ?hx (cx % 16) ?hy ((L0.set 3 (ax % 16)).set 7 (bx % 16)) ?hl O2.out ?hi ?_)
    case hx => exact rfl
    case hy => exact rfl
    case hl => simp [N0.out]
    case hi => decide
    intro w4 g2 o2 z2
    have O3 := Lib.hid o2
    have B3 := Lib.hid (B2.out.grown g2 B2.out.size (fun k hk => by have := HG.out; injection hk; omega))
    clear g2 o2 z2 k2 c2 r2 O2 B2
    have k3 : (((L0.set 3 (ax % 16)).set 7 (bx % 16)).set 11 (cx % 16))[15]? = some dx := by
      have q := Td.out
      simpa using q
    have c3 : w4.cell? ⟨g, 15, none⟩ = some (.int .u8 (dx.toNat : Int)) := (O3.out.cellAt 15 (by decide)).trans (by simp only [bv, List.getElem?_map, k3, Option.map_some])
    have r3 := rem16 dx
    go_wp2_with (with_reducible refine wpList_put_own rfl _ _ rfl w.heap.size g 15 16 cq ?hx (dx % 16) ?hy (((L0.set 3 (ax % 16)).set 7 (bx % 16)).set 11 (cx % 16)) ?hl O3.out ?hi ?_)
    case hx => exact rfl
    case hy => exact rfl
    case hl => simp [N0.out]
    case hi => decide
    intro w5 g3 o3 z3
    have O4 := Lib.hid o3
    have B4 := Lib.hid (B3.out.grown g3 B3.out.size (fun k hk => by have := HG.out; injection hk; omega))
    clear g3 o3 z3 k3 c3 r3 O3 B3
    have k4 : ((((L0.set 3 (ax % 16)).set 7 (bx % 16)).set 11 (cx % 16)).set 15 (dx % 16))[4]? = some ex := by
      have q := Te.out
      simpa using q
    have c4 : w5.cell? ⟨g, 4, none⟩ = some (.int .u8 (ex.toNat : Int)) := (O4.out.cellAt 4 (by decide)).trans (by simp only [bv, List.getElem?_map, k4, Option.map_some])
    have r4 := rem4 ex
    have s4 := sub4 ex
    have C4 := Lib.hid c4
    clear c4
    go_wp2_with fail
    refine still_tail 10 (by kernel_rfl) (by kernel_rfl) fun y4 hy4 by4 => ?_
    simp only [List.take_succ_cons, List.take_zero, List.drop_succ_cons, List.drop_zero]
    have c4 := (World.cell?_of_block (a := ⟨g, 4, none⟩) (by rw [hy4])).trans C4.out
    repeat still_step
    refine wpStill_nil ?_
    have P4 := Lib.hid (kept_below O4.out by4 rfl)
    have Q4 := Lib.hid (B4.out.trans (by4.mono B4.out.size))
    refine wpList_put_own rfl _ _ rfl w.heap.size g 4 16 cq rfl (ex - ex % 4) (by first | rfl | exact congrArg (Value.int .u8) (sub4 ex) | exact congrArg (Value.int .u8) (sub4' ex) | exact congrArg (Value.int .u8) (sub4'' ex)) ((((L0.set 3 (ax % 16)).set 7 (bx % 16)).set 11 (cx % 16)).set 15 (dx % 16)) (by simp [N0.out]) P4.out (by decide) ?_
    intro w6 g4 o4 z4
    have O5 := Lib.hid o4
    have B5 := Lib.hid (Q4.out.grown g4 Q4.out.size (fun k hk => by have := HG.out; injection hk; omega))
    clear g4 o4 z4 k4 c4 r4 O4 B4 s4 C4 P4 Q4 hy4 by4
    refine wpList_nil ?_
    have k5 : (((((L0.set 3 (ax % 16)).set 7 (bx % 16)).set 11 (cx % 16)).set 15 (dx % 16)).set 4 (ex - ex % 4))[8]? = some fx := by
      have q := Tf.out
      simpa using q
    have c5 : w6.cell? ⟨g, 8, none⟩ = some (.int .u8 (fx.toNat : Int)) := (O5.out.cellAt 8 (by decide)).trans (by simp only [bv, List.getElem?_map, k5, Option.map_some])
    have r5 := rem4 fx
    have s5 := sub4 fx
    have C5 := Lib.hid c5
    clear c5
    go_wp2_with fail
    refine still_tail 10 (by kernel_rfl) (by kernel_rfl) fun y5 hy5 by5 => ?_
    simp only [List.take_succ_cons, List.take_zero, List.drop_succ_cons, List.drop_zero]
    have c5 := (World.cell?_of_block (a := ⟨g, 8, none⟩) (by rw [hy5])).trans C5.out
    repeat still_step
    refine wpStill_nil ?_
    have P5 := Lib.hid (kept_below O5.out by5 rfl)
    have Q5 := Lib.hid (B5.out.trans (by5.mono B5.out.size))
    refine wpList_put_own rfl _ _ rfl w.heap.size g 8 16 cq rfl (fx - fx % 4) (by first | rfl | exact congrArg (Value.int .u8) (sub4 fx) | exact congrArg (Value.int .u8) (sub4' fx) | exact congrArg (Value.int .u8) (sub4'' fx)) (((((L0.set 3 (ax % 16)).set 7 (bx % 16)).set 11 (cx % 16)).set 15 (dx % 16)).set 4 (ex - ex % 4)) (by simp [N0.out]) P5.out (by decide) ?_
    intro w7 g5 o5 z5
    have O6 := Lib.hid o5
    have B6 := Lib.hid (Q5.out.grown g5 Q5.out.size (fun k hk => by have := HG.out; injection hk; omega))
    clear g5 o5 z5 k5 c5 r5 O5 B5 s5 C5 P5 Q5 hy5 by5
    refine wpList_nil ?_
    have k6 : ((((((L0.set 3 (ax % 16)).set 7 (bx % 16)).set 11 (cx % 16)).set 15 (dx % 16)).set 4 (ex - ex % 4)).set 8 (fx - fx % 4))[12]? = some gx := by
      have q := Tg.out
      simpa using q
    have c6 : w7.cell? ⟨g, 12, none⟩ = some (.int .u8 (gx.toNat : Int)) := (O6.out.cellAt 12 (by decide)).trans (by simp only [bv, List.getElem?_map, k6, Option.map_some])
    have r6 := rem4 gx
    have s6 := sub4 gx
    have C6 := Lib.hid c6
    clear c6
    go_wp2_with fail
    refine still_tail 10 (by kernel_rfl) (by kernel_rfl) fun y6 hy6 by6 => ?_
    simp only [List.take_succ_cons, List.take_zero, List.drop_succ_cons, List.drop_zero]
    have c6 := (World.cell?_of_block (a := ⟨g, 12, none⟩) (by rw [hy6])).trans C6.out
    repeat still_step
    refine wpStill_nil ?_
    have P6 := Lib.hid (kept_below O6.out by6 rfl)
    have Q6 := Lib.hid (B6.out.trans (by6.mono B6.out.size))
    refine wpList_put_own rfl _ _ rfl w.heap.size g 12 16 cq rfl (gx - gx % 4) (by first | rfl | exact congrArg (Value.int .u8) (sub4 gx) | exact congrArg (Value.int .u8) (sub4' gx) | exact congrArg (Value.int .u8) (sub4'' gx)) ((((((L0.set 3 (ax % 16)).set 7 (bx % 16)).set 11 (cx % 16)).set 15 (dx % 16)).set 4 (ex - ex % 4)).set 8 (fx - fx % 4)) (by simp [N0.out]) P6.out (by decide) ?_
    intro w8 g6 o6 z6
    have O7 := Lib.hid o6
    have B7 := Lib.hid (Q6.out.grown g6 Q6.out.size (fun k hk => by have := HG.out; injection hk; omega))
    clear g6 o6 z6 k6 c6 r6 O6 B6 s6 C6 P6 Q6 hy6 by6
    refine wpList_nil ?_
    have HY : Hid (BytesAt w8 (.slice (some ⟨g, 0, none⟩) 16 cq) CL) := by
      have q := O7.out
      rw [HC.out] at q
      have e : CL.length = 16 := by rw [← HC.out]; simp [N0.out]
      exact Lib.hid (BytesAt.of_own (base := w.heap.size) (by rw [e]; exact q))
    clear O7
    go_wp2
    go_ret
    exact ⟨_, rfl, HY.out, B7.out⟩
end Go.Proofs.Ytbdcligpbogkjaa
