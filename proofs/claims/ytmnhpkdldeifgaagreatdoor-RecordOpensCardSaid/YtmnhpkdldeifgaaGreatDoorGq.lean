/- What the document's least of layer 7 answers. -/
import Derived.Test.YtmnhpkdldeifgaaGreatDoorGp
namespace Go.Proofs.YtmnhpkdldeifgaaGreatDoor
set_option maxRecDepth 100000
open Go.RowKit

set_option maxRecDepth 100000 in
set_option maxHeartbeats 2000000 in
theorem least_any (B0 g0 cap : Nat) (l : List Nat) (hd : ∀ i, l.getD i 0 < 256) (hv : vt l 17 < 2 ^ 130) (w : World) (h : Ints w B0 (.slice (some ⟨g0, 0, none⟩) 17 cap) 17 l) :
    Calls Tryz.prog 84 #[.slice (some ⟨g0, 0, none⟩) 17 cap] w fun e w' => ∃ g c' T B', e = .returned (.slice (some ⟨g, 0, none⟩) 17 c') ∧ Ints w' B' (.slice (some ⟨g, 0, none⟩) 17 c') 17 T ∧ (∀ i, T.getD i 0 < 256) ∧ vt T 17 = vt l 17 % pP ∧ Below w.heap.size w w' := by
  have H := Lib.hid h
  have HL := Lib.hid h.len
  have HD := Lib.hid hd
  have HV := Lib.hid hv
  clear hd hv
  go_enter Tryz.func84, Tryz.ntmps84
  have E0 := ints_empty w
  have S0 : Ints (w.alloc (.cells #[] 3)) B0 (.slice (some ⟨g0, 0, none⟩) 17 cap) 17 l := kept_below h ((Below.refl w.heap.size w).alloc (Nat.le_refl _) _) rfl
  clear h
  go_wp2_with (with_reducible refine wpList_append_ints rfl _ _ rfl w.heap.size _ _ _ ?hv E0 B0 g0 17 cap l ?hx S0 ?hlen ?hbase ?_)
  case hv => exact rfl
  case hx => exact rfl
  case hlen => decide
  case hbase => simp
  intro v1 w1 o1 g1
  have o1 : Ints w1 w.heap.size v1 17 l := by simpa using o1
  have B1 : Hid (Below w.heap.size w w1) := Lib.hid (((Below.refl w.heap.size w).alloc (Nat.le_refl _) (.cells #[] 3)).grown g1 (by simp) (fun k hk => (E0.lt k hk).1))
  obtain ⟨g, cq, rfl, hcq⟩ := o1.form (by decide)
  have O1 := Lib.hid o1
  have GB : Hid (w.heap.size ≤ g) := Lib.hid ((o1.lt g rfl).1)
  obtain ⟨y, hy⟩ : ∃ y, y = l.getD 0 0 := ⟨_, rfl⟩
  have cy : w1.cell? ⟨g, 0, none⟩ = some (.int .i64 (y : Int)) := o1.cell 0 y (by rw [hy, List.getD, List.getElem?_eq_getElem (by rw [HL.out]; decide)]; rfl)
  have yb := HD.out 0
  rw [← hy] at yb
  obtain ⟨y5, hy5⟩ : ∃ y5, y5 = y + 5 := ⟨_, rfl⟩
  have ty : IntKind.i64.wrap ((y : Int) + 5) = (y5 : Int) := by rw [IntWalk.i64_in _ (by omega)]; omega
  have HS : Hid (vt (l.set 0 y5) 17 = vt l 17 + 5) := by
    have e := vt_add l 0 5 17 (by rw [HL.out]; decide) (by decide)
    rw [Hid, hy5, hy, e]
  have HD5 : Hid (∀ i, (l.set 0 y5).getD i 0 < 2 ^ 31) := Lib.hid fun i => by
    rw [getD_set _ _ _ _ (by rw [HL.out]; decide)]
    split
    · omega
    · have := HD.out i; omega
  clear o1 g1 E0 S0 hy hy5 yb hcq
  go_wp2_with (refine wpList_put_int rfl _ _ rfl w.heap.size g 0 17 cq rfl y5 rfl l O1.out (by decide) ?_)
  intro w2 g2 o2 z2
  have B2 := Lib.hid (B1.out.grown g2 B1.out.size (fun k hk => by have := GB.out; injection hk; omega))
  have W2 := Lib.hid B2.out.size
  have CC := Lib.hid (carried_any w.heap.size g 17 cq (l.set 0 y5) (by decide) (by decide) HD5.out w2 o2)
  rw [HS.out] at CC
  clear g2 o2 z2 O1 B1 cy ty HS HD5
  go_wp2_with fail
  refine CC.out.mono ?_
  rintro e w3 ⟨g3, c3, T, rfl, o3, d3, v3, b3⟩
  have O3 := Lib.hid o3
  have B3 := Lib.hid (B2.out.trans (b3.mono B2.out.size))
  have LT := Lib.hid o3.len
  have D3 := Lib.hid d3
  have hc3 : 21 ≤ c3 := by
    obtain ⟨g', cp', e, hle⟩ := o3.form (by decide)
    injection e with e1 e2 e3
    omega
  obtain ⟨x, hx⟩ : ∃ x, x = T.getD 16 0 := ⟨_, rfl⟩
  have c16 : w3.cell? ⟨g3, 16, none⟩ = some (.int .i64 (x : Int)) := o3.cell 16 x (by rw [hx, List.getD, List.getElem?_eq_getElem (by rw [LT.out]; decide)]; rfl)
  have hs : vt T 17 = vt l 17 + 5 := by
    have q := vt_small T 17 4 (by have := HV.out; rw [v3]; omega)
    rw [q, v3]
  have h17 : T.getD 17 0 = 0 := by
    have q : vt T 18 ≤ vt T (18 + 3) := vt_mono T 18 3
    have q2 : vt T 18 = vt T 17 + 256 ^ 17 * T.getD 17 0 := rfl
    have q3 : vt T (18 + 3) = vt l 17 + 5 := v3
    have := HV.out
    omega
  have c17 : w3.cell? ⟨g3, 17, none⟩ = some (.int .i64 0) := o3.cell 17 0 (by
    have := h17
    rw [List.getD, List.getElem?_eq_getElem (by rw [LT.out]; decide)] at this
    rw [List.getElem?_eq_getElem (by rw [LT.out]; decide)]
    simpa using this)
  have e16 : vt T 17 = vt T 16 + 256 ^ 16 * x := by rw [hx]; rfl
  have l16 := vt_lt T 16 D3.out
  have HX : Hid (vt l 17 + 5 = vt T 16 + 256 ^ 16 * x ∧ vt T 16 < 256 ^ 16) := Lib.hid ⟨by omega, l16⟩
  clear o3 b3 d3 v3 CC B2 hx hs h17 e16 l16
  by_cases hx4 : x < 4
  · have d4 : decide ((x : Int) < 4) = true := by simp; omega
    have j4 : (x : Int) < 4 := by omega
    have HF : Hid (vt l 17 = vt l 17 % pP) := by
      have := HX.out
      rw [Hid, Nat.mod_eq_of_lt]
      rw [pP]
      omega
    have O5 := Lib.hid (kept_below H.out B3.out rfl)
    clear HX
    go_wp2
    go_ret
    exact ⟨_, _, _, _, rfl, O5.out, HD.out, HF.out, B3.out⟩
  · have d4 : decide ((x : Int) < 4) = false := by simp; omega
    have j4 : ¬ (x : Int) < 4 := by omega
    obtain ⟨r, hr⟩ : ∃ r, r = x % 4 := ⟨_, rfl⟩
    have tr : (x : Int).tmod 4 = (r : Int) := by rw [Int.tmod_eq_emod_of_nonneg (by omega)]; omega
    have HF : Hid (vt ((T.set 16 r).take 17) 17 = vt l 17 % pP) := by
      have e1 : vt ((T.set 16 r).take 17) 17 = vt (T.set 16 r) 17 := vt_ext _ _ _ fun i hi => take_getD _ 17 i hi
      have e2 : vt (T.set 16 r) 17 = vt T 16 + 256 ^ 16 * r := by
        rw [vt, vt_set_out _ _ _ _ (by rw [LT.out]; decide) (Nat.le_refl _), getD_set _ _ _ _ (by rw [LT.out]; decide), if_pos rfl]
      have hh := HX.out
      have hV := HV.out
      have x4 : x = 4 := by omega
      have r0 : r = 0 := by omega
      rw [Hid, e1, e2, r0]
      rw [x4] at hh
      have e3 : vt l 17 % pP = vt l 17 - pP := by
        rw [Nat.mod_eq_sub_mod (by rw [pP]; omega), Nat.mod_eq_of_lt]
        rw [pP]
        omega
      rw [e3, pP]
      omega
    have HD6 : Hid (∀ i, ((T.set 16 r).take 17).getD i 0 < 256) := Lib.hid (take_lt _ 17 fun i => by
      rw [getD_set _ _ _ _ (by rw [LT.out]; decide)]
      split
      · omega
      · exact D3.out i)
    have GB3 : Hid (w.heap.size ≤ g3) := Lib.hid (Nat.le_trans W2.out (O3.out.lt g3 rfl).1)
    have jc : (17 : Int) ≤ (c3 : Int) := by omega
    clear hr HX
    go_wp2_with (refine wpList_put_int rfl _ _ rfl w2.heap.size g3 16 21 c3 rfl r rfl T O3.out (by decide) ?_)
    intro w4 g4 o4 z4
    have O4 := Lib.hid (Ints.first o4 17 (by decide))
    have B4 := Lib.hid (B3.out.grown g4 B3.out.size (fun k hk => by have := GB3.out; injection hk; omega))
    clear g4 o4 z4 O3 B3 c16 c17 tr
    go_wp2
    go_ret
    exact ⟨_, _, _, _, rfl, O4.out, HD6.out, HF.out, B4.out⟩
end Go.Proofs.YtmnhpkdldeifgaaGreatDoor
