/- What the document's Clamp and digits of layer 7 answer. What the document's digits and carried of layer 7 answer. -/
import Derived.Test.YtmnhpkdldeifgaaGreatDoorGn
import Derived.Deep.DeepCutAuto
import Derived.Deep.LoopGhost
import Derived.ChangeAlike
namespace Go.Proofs.YtmnhpkdldeifgaaGreatDoor
set_option maxRecDepth 100000
open Go.RowKit

theorem rem16 (x : UInt8) : ((x.toNat : Int).tmod 16) = ((x % 16).toNat : Int) := by
  rw [Int.tmod_eq_emod_of_nonneg (by omega), UInt8.toNat_mod]
  rfl
theorem rem4 (x : UInt8) : ((x.toNat : Int).tmod 4) = ((x % 4).toNat : Int) := by
  rw [Int.tmod_eq_emod_of_nonneg (by omega), UInt8.toNat_mod]
  rfl
theorem sub4 (x : UInt8) : IntKind.u8.wrap ((x.toNat : Int) - ((x % 4).toNat : Int)) = ((x - x % 4).toNat : Int) := by
  have h4 : (x % 4).toNat = x.toNat % 4 := by rw [UInt8.toNat_mod]; rfl
  have hx := x.toNat_lt
  have hs : (x - x % 4).toNat = x.toNat - (x % 4).toNat := UInt8.toNat_sub_of_le _ _ (by rw [UInt8.le_iff_toNat_le, h4]; omega)
  rw [IntWalk.u8_in _ (by omega), hs]
  omega
theorem sub4' (x : UInt8) : IntKind.u8.wrap ((x.toNat : Int) - (x.toNat : Int) % 4) = ((x - x % 4).toNat : Int) := by
  have h := sub4 x
  rw [← rem4 x, Int.tmod_eq_emod_of_nonneg (by omega)] at h
  exact h
theorem sub4'' (x : UInt8) : IntKind.u8.wrap ((x.toNat : Int) - (x.toNat : Int).tmod 4) = ((x - x % 4).toNat : Int) := by
  have h := sub4 x
  rw [← rem4 x] at h
  exact h
theorem clampL_sets (l : List UInt8) (h : 16 ≤ l.length) (a b c d e f g : UInt8) (ha : l[3]? = some a) (hb : l[7]? = some b) (hc : l[11]? = some c) (hd : l[15]? = some d) (he : l[4]? = some e) (hf : l[8]? = some f) (hg : l[12]? = some g) :
    (((((((l.take 16).set 3 (a % 16)).set 7 (b % 16)).set 11 (c % 16)).set 15 (d % 16)).set 4 (e - e % 4)).set 8 (f - f % 4)).set 12 (g - g % 4) = clampL l := by
  have hn : ¬ l.length < 16 := by omega
  rw [clampL, if_neg hn]
  match l, h with
  | x0 :: x1 :: x2 :: x3 :: x4 :: x5 :: x6 :: x7 :: x8 :: x9 :: x10 :: x11 :: x12 :: x13 :: x14 :: x15 :: t, _ =>
    simp at ha hb hc hd he hf hg
    subst ha hb hc hd he hf hg
    rfl

set_option maxRecDepth 100000 in
set_option maxHeartbeats 2000000 in
theorem refClamp_any (A : Option Addr) (n cap : Nat) (l : List UInt8) (w : World) (h : BytesAt w (.slice A n cap) l) :
    Calls Tryz.prog 82 #[.slice A n cap] w fun e w' => ∃ v', e = .returned v' ∧ BytesAt w' v' (clampL l) ∧ Below w.heap.size w w' := by
  have HZ := Lib.hid h.size
  by_cases hn : n < 16
  · have d : decide ((n : Int) < 16) = true := by simp; omega
    have e : clampL l = [] := by rw [clampL, if_pos (by have := HZ.out.1; omega)]
    rw [e]
    clear e h
    go_enter Tryz.func82, Tryz.ntmps82
    go_wp2
    go_ret
    exact ⟨_, rfl, BytesAt.nil w, Below.refl _ _⟩
  · have d : decide ((n : Int) < 16) = false := by simp; omega
    have HL : Hid (16 ≤ l.length) := Lib.hid (by have := HZ.out.1; omega)
    have d2 : (16 : Int) ≤ (cap : Int) := by have := HZ.out; omega
    obtain ⟨ad, rfl, -⟩ := h.lt (by intro e; have := HL.out; rw [e] at this; simp at this)
    have h16 := Lib.hid (h.first 16 (by omega))
    have hT : Hid ((l.take 16).length = 16) := Lib.hid (by simp; have := HL.out; omega)
    have gt : ∀ i, i < 16 → ∃ x, l[i]? = some x := fun i hi => ⟨_, List.getElem?_eq_getElem (by have := HL.out; omega)⟩
    obtain ⟨ax, ha⟩ := gt 3 (by decide)
    obtain ⟨bx, hb⟩ := gt 7 (by decide)
    obtain ⟨cx, hc⟩ := gt 11 (by decide)
    obtain ⟨dx, hd⟩ := gt 15 (by decide)
    obtain ⟨ex, he⟩ := gt 4 (by decide)
    obtain ⟨fx, hf⟩ := gt 8 (by decide)
    obtain ⟨gx, hg⟩ := gt 12 (by decide)
    have HC := Lib.hid (clampL_sets l HL.out ax bx cx dx ex fx gx ha hb hc hd he hf hg)
    have Ta : Hid ((l.take 16)[3]? = some ax) := Lib.hid (by simp [ha])
    have Tb : Hid ((l.take 16)[7]? = some bx) := Lib.hid (by simp [hb])
    have Tc : Hid ((l.take 16)[11]? = some cx) := Lib.hid (by simp [hc])
    have Td : Hid ((l.take 16)[15]? = some dx) := Lib.hid (by simp [hd])
    have Te : Hid ((l.take 16)[4]? = some ex) := Lib.hid (by simp [he])
    have Tf : Hid ((l.take 16)[8]? = some fx) := Lib.hid (by simp [hf])
    have Tg : Hid ((l.take 16)[12]? = some gx) := Lib.hid (by simp [hg])
    clear gt ha hb hc hd he hf hg h hn
    generalize clampL l = CL at *
    obtain ⟨L0, hL0⟩ : ∃ L0, L0 = l.take 16 := ⟨_, rfl⟩
    rw [← hL0] at h16 hT HC Ta Tb Tc Td Te Tf Tg
    clear hL0
    go_enter Tryz.func82, Tryz.ntmps82
    go_wp2_with (with_reducible refine wpList_append_bytes rfl _ _ rfl w.heap.size _ _ _ ?hv (own_empty w) _ L0 ?hx (h16.out.below ((Below.refl _ _).alloc (Nat.le_refl _) _)) ?hlen ?hbase ?_)
    case hv => exact rfl
    case hx => exact rfl
    case hlen => rw [hT.out]; decide
    case hbase => simp
    intro v1 w1 o1 g1
    have o1 : w1.ownsRow w.heap.size 5 1 v1 16 (bv L0) := by simpa [hT.out] using o1
    have hb1 : Below w.heap.size w w1 := ((Below.refl w.heap.size w).alloc (Nat.le_refl _) (.cells #[] 5)).grown g1 (by simp) (fun k hk => ((own_empty w).lt k hk).1)
    obtain ⟨g, cq, rfl, hg0⟩ : ∃ g cq, v1 = .slice (some ⟨g, 0, none⟩) 16 cq ∧ w.heap.size ≤ g := by
      rcases o1.2 with ⟨-, h0⟩ | ⟨g, cq, cur, rfl, hg, -⟩
      · omega
      · exact ⟨g, cq, rfl, hg⟩
    have O0 := Lib.hid o1
    have B0 := Lib.hid hb1
    have HG := Lib.hid hg0
    have N0 := hT
    clear o1 hb1 g1 hg0
    have k0 : L0[3]? = some ax := by
      have q := Ta.out
      simpa using q
    have c0 : w1.cell? ⟨g, 3, none⟩ = some (.int .u8 (ax.toNat : Int)) := (O0.out.cellAt 3 (by decide)).trans (by simp only [bv, List.getElem?_map, k0, Option.map_some])
    have r0 := rem16 ax
    go_wp2_with (with_reducible refine wpList_put_own rfl _ _ rfl w.heap.size g 3 16 cq ?hx (ax % 16) ?hy L0 ?hl O0.out ?hi ?_)
    case hx => exact rfl
    case hy => exact rfl
    case hl => simp [N0.out]
    case hi => decide
    intro w2 g0 o0 z0
    have O1 := Lib.hid o0
    have B1 := Lib.hid (B0.out.grown g0 B0.out.size (fun k hk => by have := HG.out; injection hk; omega))
    clear g0 o0 z0 k0 c0 r0 O0 B0
    have k1 : (L0.set 3 (ax % 16))[7]? = some bx := by
      have q := Tb.out
      simpa using q
    have c1 : w2.cell? ⟨g, 7, none⟩ = some (.int .u8 (bx.toNat : Int)) := (O1.out.cellAt 7 (by decide)).trans (by simp only [bv, List.getElem?_map, k1, Option.map_some])
    have r1 := rem16 bx
    go_wp2_with (with_reducible refine wpList_put_own rfl _ _ rfl w.heap.size g 7 16 cq ?hx (bx % 16) ?hy (L0.set 3 (ax % 16)) ?hl O1.out ?hi ?_)
    case hx => exact rfl
    case hy => exact rfl
    case hl => simp [N0.out]
    case hi => decide
    intro w3 g1 o1 z1
    have O2 := Lib.hid o1
    have B2 := Lib.hid (B1.out.grown g1 B1.out.size (fun k hk => by have := HG.out; injection hk; omega))
    clear g1 o1 z1 k1 c1 r1 O1 B1
    have k2 : ((L0.set 3 (ax % 16)).set 7 (bx % 16))[11]? = some cx := by
      have q := Tc.out
      simpa using q
    have c2 : w3.cell? ⟨g, 11, none⟩ = some (.int .u8 (cx.toNat : Int)) := (O2.out.cellAt 11 (by decide)).trans (by simp only [bv, List.getElem?_map, k2, Option.map_some])
    have r2 := rem16 cx
    go_wp2_with (with_reducible refine wpList_put_own rfl _ _ rfl w.heap.size g 11 16 cq ?hx (cx % 16) ?hy ((L0.set 3 (ax % 16)).set 7 (bx % 16)) ?hl O2.out ?hi ?_)
    case hx => exact rfl
    case hy => exact rfl
    case hl => simp [N0.out]
    case hi => decide
    intro w4 g2 o2 z2
    have O3 := Lib.hid o2
    have B3 := Lib.hid (B2.out.grown g2 B2.out.size (fun k hk => by have := HG.out; injection hk; omega))
    clear g2 o2 z2 k2 c2 r2 O2 B2
    have k3 : (((L0.set 3 (ax % 16)).set 7 (bx % 16)).set 11 (cx % 16))[15]? = some dx := by
      have q := Td.out
      simpa using q
    have c3 : w4.cell? ⟨g, 15, none⟩ = some (.int .u8 (dx.toNat : Int)) := (O3.out.cellAt 15 (by decide)).trans (by simp only [bv, List.getElem?_map, k3, Option.map_some])
    have r3 := rem16 dx
    go_wp2_with (with_reducible refine wpList_put_own rfl _ _ rfl w.heap.size g 15 16 cq ?hx (dx % 16) ?hy (((L0.set 3 (ax % 16)).set 7 (bx % 16)).set 11 (cx % 16)) ?hl O3.out ?hi ?_)
    case hx => exact rfl
    case hy => exact rfl
    case hl => simp [N0.out]
    case hi => decide
    intro w5 g3 o3 z3
    have O4 := Lib.hid o3
    have B4 := Lib.hid (B3.out.grown g3 B3.out.size (fun k hk => by have := HG.out; injection hk; omega))
    clear g3 o3 z3 k3 c3 r3 O3 B3
    have k4 : ((((L0.set 3 (ax % 16)).set 7 (bx % 16)).set 11 (cx % 16)).set 15 (dx % 16))[4]? = some ex := by
      have q := Te.out
      simpa using q
    have c4 : w5.cell? ⟨g, 4, none⟩ = some (.int .u8 (ex.toNat : Int)) := (O4.out.cellAt 4 (by decide)).trans (by simp only [bv, List.getElem?_map, k4, Option.map_some])
    have r4 := rem4 ex
    have s4 := sub4 ex
    have C4 := Lib.hid c4
    clear c4
    go_wp2_with fail
    refine still_tail 10 (by kernel_rfl) (by kernel_rfl) fun y4 hy4 by4 => ?_
    simp only [List.take_succ_cons, List.take_zero, List.drop_succ_cons, List.drop_zero]
    have c4 := (World.cell?_of_block (a := ⟨g, 4, none⟩) (by rw [hy4])).trans C4.out
    repeat still_step
    refine wpStill_nil ?_
    have P4 := Lib.hid (kept_below O4.out by4 rfl)
    have Q4 := Lib.hid (B4.out.trans (by4.mono B4.out.size))
    refine wpList_put_own rfl _ _ rfl w.heap.size g 4 16 cq rfl (ex - ex % 4) (by first | rfl | exact congrArg (Value.int .u8) (sub4 ex) | exact congrArg (Value.int .u8) (sub4' ex) | exact congrArg (Value.int .u8) (sub4'' ex)) ((((L0.set 3 (ax % 16)).set 7 (bx % 16)).set 11 (cx % 16)).set 15 (dx % 16)) (by simp [N0.out]) P4.out (by decide) ?_
    intro w6 g4 o4 z4
    have O5 := Lib.hid o4
    have B5 := Lib.hid (Q4.out.grown g4 Q4.out.size (fun k hk => by have := HG.out; injection hk; omega))
    clear g4 o4 z4 k4 c4 r4 O4 B4 s4 C4 P4 Q4 hy4 by4
    refine wpList_nil ?_
    have k5 : (((((L0.set 3 (ax % 16)).set 7 (bx % 16)).set 11 (cx % 16)).set 15 (dx % 16)).set 4 (ex - ex % 4))[8]? = some fx := by
      have q := Tf.out
      simpa using q
    have c5 : w6.cell? ⟨g, 8, none⟩ = some (.int .u8 (fx.toNat : Int)) := (O5.out.cellAt 8 (by decide)).trans (by simp only [bv, List.getElem?_map, k5, Option.map_some])
    have r5 := rem4 fx
    have s5 := sub4 fx
    have C5 := Lib.hid c5
    clear c5
    go_wp2_with fail
    refine still_tail 10 (by kernel_rfl) (by kernel_rfl) fun y5 hy5 by5 => ?_
    simp only [List.take_succ_cons, List.take_zero, List.drop_succ_cons, List.drop_zero]
    have c5 := (World.cell?_of_block (a := ⟨g, 8, none⟩) (by rw [hy5])).trans C5.out
    repeat still_step
    refine wpStill_nil ?_
    have P5 := Lib.hid (kept_below O5.out by5 rfl)
    have Q5 := Lib.hid (B5.out.trans (by5.mono B5.out.size))
    refine wpList_put_own rfl _ _ rfl w.heap.size g 8 16 cq rfl (fx - fx % 4) (by first | rfl | exact congrArg (Value.int .u8) (sub4 fx) | exact congrArg (Value.int .u8) (sub4' fx) | exact congrArg (Value.int .u8) (sub4'' fx)) (((((L0.set 3 (ax % 16)).set 7 (bx % 16)).set 11 (cx % 16)).set 15 (dx % 16)).set 4 (ex - ex % 4)) (by simp [N0.out]) P5.out (by decide) ?_
    intro w7 g5 o5 z5
    have O6 := Lib.hid o5
    have B6 := Lib.hid (Q5.out.grown g5 Q5.out.size (fun k hk => by have := HG.out; injection hk; omega))
    clear g5 o5 z5 k5 c5 r5 O5 B5 s5 C5 P5 Q5 hy5 by5
    refine wpList_nil ?_
    have k6 : ((((((L0.set 3 (ax % 16)).set 7 (bx % 16)).set 11 (cx % 16)).set 15 (dx % 16)).set 4 (ex - ex % 4)).set 8 (fx - fx % 4))[12]? = some gx := by
      have q := Tg.out
      simpa using q
    have c6 : w7.cell? ⟨g, 12, none⟩ = some (.int .u8 (gx.toNat : Int)) := (O6.out.cellAt 12 (by decide)).trans (by simp only [bv, List.getElem?_map, k6, Option.map_some])
    have r6 := rem4 gx
    have s6 := sub4 gx
    have C6 := Lib.hid c6
    clear c6
    go_wp2_with fail
    refine still_tail 10 (by kernel_rfl) (by kernel_rfl) fun y6 hy6 by6 => ?_
    simp only [List.take_succ_cons, List.take_zero, List.drop_succ_cons, List.drop_zero]
    have c6 := (World.cell?_of_block (a := ⟨g, 12, none⟩) (by rw [hy6])).trans C6.out
    repeat still_step
    refine wpStill_nil ?_
    have P6 := Lib.hid (kept_below O6.out by6 rfl)
    have Q6 := Lib.hid (B6.out.trans (by6.mono B6.out.size))
    refine wpList_put_own rfl _ _ rfl w.heap.size g 12 16 cq rfl (gx - gx % 4) (by first | rfl | exact congrArg (Value.int .u8) (sub4 gx) | exact congrArg (Value.int .u8) (sub4' gx) | exact congrArg (Value.int .u8) (sub4'' gx)) ((((((L0.set 3 (ax % 16)).set 7 (bx % 16)).set 11 (cx % 16)).set 15 (dx % 16)).set 4 (ex - ex % 4)).set 8 (fx - fx % 4)) (by simp [N0.out]) P6.out (by decide) ?_
    intro w8 g6 o6 z6
    have O7 := Lib.hid o6
    have B7 := Lib.hid (Q6.out.grown g6 Q6.out.size (fun k hk => by have := HG.out; injection hk; omega))
    clear g6 o6 z6 k6 c6 r6 O6 B6 s6 C6 P6 Q6 hy6 by6
    refine wpList_nil ?_
    have HY : Hid (BytesAt w8 (.slice (some ⟨g, 0, none⟩) 16 cq) CL) := by
      have q := O7.out
      rw [HC.out] at q
      have e : CL.length = 16 := by rw [← HC.out]; simp [N0.out]
      exact Lib.hid (BytesAt.of_own (base := w.heap.size) (by rw [e]; exact q))
    clear O7
    go_wp2
    go_ret
    exact ⟨_, rfl, HY.out, B7.out⟩
end Go.Proofs.YtmnhpkdldeifgaaGreatDoor

namespace Go.Proofs.YtmnhpkdldeifgaaGreatDoor
set_option maxRecDepth 100000
open Go.RowKit

/-- So many of the bytes as digits, 17 in all. -/
def digTo (l : List UInt8) (k : Nat) : List Nat := (l.take k).map (·.toNat) ++ List.replicate (17 - k) 0
def digL (l : List UInt8) : List Nat := digTo l l.length
theorem digTo_set (l : List UInt8) (k : Nat) (c : UInt8) (hk : l[k]? = some c) (h17 : k < 17) : (digTo l k).set k c.toNat = digTo l (k + 1) := by
  have hlt : k < l.length := (List.getElem?_eq_some_iff.1 hk).1
  have e : 17 - k = (17 - (k + 1)) + 1 := by omega
  have e2 : ((l.take k).map (·.toNat)).length = k := by simp; omega
  rw [digTo, digTo, take_at hk, e, List.replicate_succ, List.set_append_right _ _ (by omega), e2, Nat.sub_self]
  simp
theorem digL_at (l : List UInt8) (i : Nat) : (digL l).getD i 0 = (l.map (·.toNat)).getD i 0 := by
  simp only [digL, digTo, List.take_length, List.getD, List.getElem?_append, List.length_map]
  by_cases h : i < l.length
  · simp [h]
  · rw [if_neg h, List.getElem?_replicate, List.getElem?_eq_none (l := l.map (·.toNat)) (by simpa using h)]
    split <;> rfl
theorem digL_lt (l : List UInt8) (i : Nat) : (digL l).getD i 0 < 256 := by
  rw [digL_at]
  simp only [List.getD, List.getElem?_map]
  cases l[i]? with
  | none => decide
  | some c => exact c.toNat_lt
theorem digL_vt (l : List UInt8) (m : Nat) (h : l.length ≤ m) : vt (digL l) m = leNat l := by
  rw [leNat, vt_ext _ (l.map (·.toNat)) m (fun i _ => digL_at l i)]
  obtain ⟨k, rfl⟩ := Nat.le.dest h
  exact vt_zeros _ _ _ fun i hi => by simp [List.getD, List.getElem?_eq_none (show l.length ≤ i from hi)]

set_option maxHeartbeats 1000000 in
theorem digits_any (A : Option Addr) (n cap : Nat) (l : List UInt8) (hn : n ≤ 17) (w : World) (h : BytesAt w (.slice A n cap) l) :
    Calls Tryz.prog 81 #[.slice A n cap, .int .i64 17] w fun e w' => ∃ g c', e = .returned (.slice (some ⟨g, 0, none⟩) 17 c') ∧ Ints w' w.heap.size (.slice (some ⟨g, 0, none⟩) 17 c') 17 (digL l) ∧ Below w.heap.size w w' := by
  have HZ := Lib.hid h.size
  have H := Lib.hid h
  clear h
  go_enter Tryz.func81, Tryz.ntmps81
  go_wp2_with (at_make; refine wpList_make_ints rfl _ _ rfl 17 rfl rfl (by decide) ?_)
  intro w1 o1 b1 z1
  have O1 : Hid (Ints w1 w.heap.size (.slice (some ⟨w.heap.size, 0, none⟩) 17 17) 17 (digTo l 0)) := o1
  have B1 := Lib.hid b1
  clear o1 b1 z1
  go_wp2_with fail
  go_loopw [6] (fun i wr => ∃ k : Nat, k ≤ n ∧ i = .int .i64 (k : Int) ∧ Ints wr w.heap.size (.slice (some ⟨w.heap.size, 0, none⟩) 17 17) 17 (digTo l k) ∧ Below w.heap.size w wr) (fun i _ => n - (intOf i).toNat)
  case atStart => exact ⟨0, Nat.zero_le _, rfl, O1.out, B1.out⟩
  case round =>
    obtain ⟨k, hk, rfl, ho, hb⟩ := hrel
    have HO := Lib.hid ho
    have HB := Lib.hid hb
    clear ho hb O1 B1
    by_cases hlt : k < n
    · obtain ⟨b, off, rfl, hbl, hcell⟩ := H.out.spots (by intro e; have := HZ.out.1; rw [e] at this; simp at this; omega)
      obtain ⟨x, hx⟩ : ∃ x, l[k]? = some x := ⟨_, List.getElem?_eq_getElem (by rw [← HZ.out.1]; exact hlt)⟩
      have c0 := (HB.out.cell (p := ⟨b, off + k, none⟩) hbl).trans (hcell k x hx)
      have HS := Lib.hid (digTo_set l k x hx (by omega))
      have jk : (k : Int) < (n : Int) := by omega
      have j17 : (k : Int) < 17 := by omega
      have dk : decide ((k : Int) < (n : Int)) = true := by simp; omega
      have xw : IntKind.i64.wrap (x.toNat : Int) = (x.toNat : Int) := by have := x.toNat_lt; rw [IntWalk.i64_in _ (by omega)]
      have k17 : k < 17 := by omega
      clear hx hcell
      go_wp2_with (with_reducible refine wpList_put_int rfl _ _ rfl w.heap.size w.heap.size k 17 17 ?hx x.toNat ?hy _ HO.out ?hi ?_)
      case hx => exact rfl
      case hy => exact rfl
      case hi => exact k17
      intro w2 g2 o2 z2
      rw [HS.out] at o2
      have O2 := Lib.hid o2
      have B2 := Lib.hid (HB.out.grown g2 HB.out.size (fun k hk => by injection hk; omega))
      clear g2 o2 z2 HO HB c0 xw
      go_wp2_with fail
      exact ⟨⟨k + 1, by omega, by go_num, O2.out, B2.out⟩, by simp [intOf]; omega⟩
    · obtain rfl : k = n := by omega
      have dk : decide ((k : Int) < (k : Int)) = false := by simp
      have HE : Hid (digTo l k = digL l) := by rw [Hid, digL, HZ.out.1]
      rw [HE.out] at HO
      go_wp2
      go_ret
      exact ⟨_, _, rfl, HO.out, HB.out⟩

set_option maxRecDepth 100000 in
set_option maxHeartbeats 2000000 in
/-- Each digit made less than 256: the number stays. -/
theorem carried_any (B0 g0 n cap : Nat) (l : List Nat) (hn : n ≤ 40) (hn1 : 0 < n) (hd : ∀ i, l.getD i 0 < 2 ^ 31) (w : World) (h : Ints w B0 (.slice (some ⟨g0, 0, none⟩) n cap) n l) :
    Calls Tryz.prog 95 #[.slice (some ⟨g0, 0, none⟩) n cap] w fun e w' => ∃ g c' T, e = .returned (.slice (some ⟨g, 0, none⟩) (n + 4) c') ∧ Ints w' w.heap.size (.slice (some ⟨g, 0, none⟩) (n + 4) c') (n + 4) T ∧ (∀ i, T.getD i 0 < 256) ∧ vt T (n + 4) = vt l n ∧ Below w.heap.size w w' := by
  have H := Lib.hid h
  have HL := Lib.hid h.len
  have HG : Hid (g0 < w.heap.size) := Lib.hid ((h.lt g0 rfl).2)
  have HD := Lib.hid hd
  have HN := Lib.hid hn
  have nw : IntKind.i64.wrap ((n : Int) + 4) = ((n + 4 : Nat) : Int) := by rw [IntWalk.i64_in _ (by omega)]; omega
  clear h hd
  obtain ⟨m, hm⟩ : ∃ m, m = n + 4 := ⟨_, rfl⟩
  rw [← hm] at nw
  have HM := Lib.hid hm
  clear hn hm hn1
  go_enter Tryz.func95, Tryz.ntmps95
  go_wp2_with (at_make; refine wpList_make_ints rfl _ _ rfl m rfl rfl (by have := HM.out; have := HN.out; omega) ?_)
  intro w1 o1 b1 z1
  have O1 := Lib.hid o1
  have B1 := Lib.hid b1
  clear o1 b1 z1 nw
  go_wp2_with fail
  go_loopw [3, 5] (fun u i wr => ∃ (k over : Nat) (T : List Nat), k ≤ m ∧ u = .int .i64 (over : Int) ∧ i = .int .i64 (k : Int) ∧ over < 2 ^ 31 ∧ (∀ j, T.getD j 0 < 256) ∧ vt T k + 256 ^ k * over = vt l k ∧ Ints wr w.heap.size (.slice (some ⟨w.heap.size, 0, none⟩) m m) m T ∧ Below w.heap.size w wr) (fun _ i _ => m - (intOf i).toNat)
  case atStart => exact ⟨0, 0, _, Nat.zero_le _, rfl, rfl, by decide, fun j => by simp [List.getD, List.getElem?_replicate]; split <;> simp, rfl, O1.out, B1.out⟩
  case round =>
    obtain ⟨k, over, T, hk, rfl, rfl, hov, hT, hv, ho, hb⟩ := hrel
    have HO := Lib.hid ho
    have HB := Lib.hid hb
    have HT := Lib.hid hT
    have HV := Lib.hid hv
    have LT := Lib.hid ho.len
    clear ho hb hT hv O1 B1
    by_cases hlt : k < m
    · have dk : decide ((k : Int) < (m : Int)) = true := by simp; omega
      have jk : (k : Int) < (m : Int) := by omega
      have m44 : m ≤ 44 := by have := HM.out; have := HN.out; omega
      obtain ⟨d, hdk⟩ : ∃ d, d = l.getD k 0 := ⟨_, rfl⟩
      have dlt : d < 2 ^ 31 := by rw [hdk]; exact HD.out k
      obtain ⟨x, hx⟩ : ∃ x, x = over + d := ⟨_, rfl⟩
      obtain ⟨q, hq⟩ : ∃ q, q = x / 256 := ⟨_, rfl⟩
      obtain ⟨r, hr⟩ : ∃ r, r = x % 256 := ⟨_, rfl⟩
      have HC : Hid (vt (T.set k r) (k + 1) + 256 ^ (k + 1) * q = vt l (k + 1)) := by
        have e1 : vt (T.set k r) (k + 1) = vt T k + 256 ^ k * r := by
          rw [vt, vt_set_out _ _ _ _ (by rw [LT.out]; exact hlt) (Nat.le_refl _), getD_set _ _ _ _ (by rw [LT.out]; exact hlt), if_pos rfl]
        have e2 := carry_step (vt l k) (vt T k) (256 ^ k) over d HV.out
        have e3 : vt l (k + 1) = vt l k + 256 ^ k * d := by rw [hdk]; rfl
        rw [Hid, e1, e3, Nat.pow_succ, hq, hr, hx]
        exact e2
      have HT2 : Hid (∀ j, (T.set k r).getD j 0 < 256) := Lib.hid fun j => by
        rw [getD_set _ _ _ _ (by rw [LT.out]; exact hlt)]
        split
        · omega
        · exact HT.out j
      have q31 : q < 2 ^ 31 := by omega
      have tq : IntKind.i64.wrap ((x : Int) / 256) = (q : Int) := by rw [IntWalk.i64_in _ (by omega)]; omega
      have tr : (x : Int).tmod 256 = (r : Int) := by rw [Int.tmod_eq_emod_of_nonneg (by omega)]; omega
      have tr2 : (x : Int) % 256 = (r : Int) := by omega
      have KM := Lib.hid (And.intro hlt (And.intro q31 m44))
      by_cases hkn : k < n
      · have dn : decide ((k : Int) < (n : Int)) = true := by simp; omega
        have jn : (k : Int) < (n : Int) := by omega
        have c0 := (HB.out.cell (p := ⟨g0, k, none⟩) HG.out).trans (H.out.cell k d (by rw [hdk, List.getD, List.getElem?_eq_getElem (by rw [HL.out]; exact hkn)]; rfl))
        have tx : IntKind.i64.wrap ((over : Int) + (d : Int)) = (x : Int) := by rw [IntWalk.i64_in _ (by omega)]; omega
        clear hx hq hr hdk dlt hov q31 hk hkn
        go_wp2_with (with_reducible refine wpList_put_int rfl _ _ rfl w.heap.size w.heap.size k m m ?hx r ?hy _ HO.out ?hi ?_)
        case hx => exact rfl
        case hy => first | exact rfl | exact congrArg (Value.int .i64) tr | exact congrArg (Value.int .i64) tr2
        case hi => exact KM.out.1
        intro w2 g2 o2 z2
        have O2 := Lib.hid o2
        have B2 := Lib.hid (HB.out.grown g2 HB.out.size (fun k hk => by injection hk; omega))
        clear g2 o2 z2 HO HB tr tr2 c0 tx
        have hlt := KM.out.1
        have m44 := KM.out.2.2
        go_wp2_with fail
        exact ⟨⟨k + 1, q, _, by omega, rfl, by go_num, KM.out.2.1, HT2.out, HC.out, O2.out, B2.out⟩, by simp [intOf]; omega⟩
      · have dn : decide ((k : Int) < (n : Int)) = false := by simp; omega
        have hd0 : d = 0 := by rw [hdk, List.getD, List.getElem?_eq_none (by rw [HL.out]; omega)]; rfl
        obtain rfl : x = over := by omega
        clear hx hq hr hdk dlt q31 hk
        go_wp2_with (with_reducible refine wpList_put_int rfl _ _ rfl w.heap.size w.heap.size k m m ?hx r ?hy _ HO.out ?hi ?_)
        case hx => exact rfl
        case hy => first | exact rfl | exact congrArg (Value.int .i64) tr | exact congrArg (Value.int .i64) tr2
        case hi => exact KM.out.1
        intro w2 g2 o2 z2
        have O2 := Lib.hid o2
        have B2 := Lib.hid (HB.out.grown g2 HB.out.size (fun k hk => by injection hk; omega))
        clear g2 o2 z2 HO HB tr tr2 hkn
        have hlt := KM.out.1
        have m44 := KM.out.2.2
        go_wp2_with fail
        exact ⟨⟨k + 1, q, _, by omega, rfl, by go_num, KM.out.2.1, HT2.out, HC.out, O2.out, B2.out⟩, by simp [intOf]; omega⟩
    · obtain rfl : k = m := by omega
      have dk : decide ((k : Int) < (k : Int)) = false := by simp
      have HE : Hid (vt T (n + 4) = vt l n) := by
        have e0 := HV.out
        have e1 := vt_zeros l n 4 (fun i hi => by simp [List.getD, List.getElem?_eq_none (show l.length ≤ i by rw [HL.out]; exact hi)])
        have e2 := vt_le l (2 ^ 31) n (fun i => Nat.le_of_lt (HD.out i))
        rw [HM.out, e1] at e0
        have e3 : 256 ^ (n + 4) = 4294967296 * 256 ^ n := by rw [Nat.pow_add, Nat.mul_comm]
        have e4 : 0 < 256 ^ n := Nat.pow_pos (by decide)
        have e5 : over = 0 := by
          rcases Nat.eq_zero_or_pos over with h0 | h0
          · exact h0
          · have := Nat.mul_le_mul_left (256 ^ (n + 4)) h0
            omega
        rw [e5] at e0
        exact Lib.hid (by simpa using e0)
      go_wp2
      go_ret
      rw [HM.out] at HO ⊢
      exact ⟨_, _, T, rfl, HO.out, HT.out, HE.out, HB.out⟩
end Go.Proofs.YtmnhpkdldeifgaaGreatDoor
