/- Package msg: Take of some bytes. (Written by tools/mkmstake2.py.) -/
import Derived.Test.YtnjeopgcpffkcaaGbb
import Derived.Test.YtnjeopgcpffkcaaGf
namespace Go.Proofs.Ytnjeopgcpffkcaa
set_option maxRecDepth 100000
open Go.RowKit

theorem raw_first (c : UInt8) (r : List UInt8) : rawS ⟨c :: r, 0⟩ 1 = ⟨r, 0⟩ ∧ numO ⟨c :: r, 0⟩ 1 = c.toNat := by
  constructor
  · rw [rawS_some rfl (by simp)]; rfl
  · rw [numO, rawO_some rfl (by simp)]
    simp [ofBe]
/-- What end tells. -/
def endX (T : Tk) : Int := if T.big = true then 3 else endE T.r
theorem takeE_eq (T : Tk) : takeE T = if endX T ≠ 0 then (Mg.zero, endX T) else if T.bad = true ∨ rightM T.m = false then (Mg.zero, 11) else (T.m, 0) := by
  rw [takeE, endX]
  cases hb : T.big with
  | true => simp
  | false => simp

set_option maxHeartbeats 1000000 in
theorem msTake_kind (A : Option Addr) (n cap : Nat) (c : UInt8) (r : List UInt8) (w : World) (h : BytesAt w (.slice A n cap) (c :: r)) (hk : knownK (c.toNat : Int) = false) :
    Calls Try.prog 19 #[.slice A n cap] w fun x w' => ∃ e t, x = .returned (.tuple #[((takeM (c :: r)).1.raw e t).val, .int .i64 (takeM (c :: r)).2]) ∧ Lists w' e t (takeM (c :: r)).1 ∧ Below w.heap.size w w' := by
  have HT : Hid (takeM (c :: r) = (Mg.zero, 13)) := Lib.hid (by rw [takeM, if_pos hk])
  have hn : 0 < n := by have := h.size.1; rw [this]; simp
  obtain ⟨g, off, rfl, hgl, hc⟩ := h.spots (by simp)
  have HC := Lib.hid (hc 0 c (by simp))
  have CK := fun w => Lib.hid (known_any (c.toNat : Int) w)
  rw [hk] at CK
  have rz : IntKind.i64.wrap (c.toNat : Int) = (c.toNat : Int) := by have := c.toNat_lt; rw [IntWalk.i64_in _ (by omega)]
  have e0 : ((n : Int) == 0) = false := by simp; omega
  rw [HT.out]
  clear h hc hk
  go_enter Try.func19, Try.ntmps19
  go_wp2_with (refine wpList_alloc_row rfl 27 rfl Mr.zero.enc.toArray Mr.zero_is ?_)
  intro w1 b1 x1 z1
  obtain ⟨gO, hgO⟩ : ∃ g, g = w.heap.size := ⟨_, rfl⟩
  have M_O := Lib.hid (show w.heap.size ≤ gO from by rw [hgO]; exact Nat.le_refl _)
  have B1 := Lib.hid b1
  rw [← hgO] at x1 ⊢
  have O1 : Hid (Mr.At w1 gO Mr.zero) := Lib.hid x1
  clear b1 x1 z1 hgO 
  have c0 : w1.cell? ⟨g, off, none⟩ = some (.int .u8 (c.toNat : Int)) := (B1.out.cell (p := ⟨g, off, none⟩) hgl).trans HC.out
  go_wp2_with fail
  refine (CK _).out.mono ?_
  rintro x u ⟨rfl, rfl⟩
  go_wp2_with (first | (with_reducible refine wpList_load_whole_st Mr.isRec rfl _ rfl gO (by with_unfolding_all exact rfl) _ _ (Mr.len _) O1.out ?_) | (with_reducible refine wpList_store_whole rfl 27 _ _ rfl gO Mr.zero.enc.toArray (by with_unfolding_all exact rfl) (by with_unfolding_all exact rfl) _ _ O1.out (Mr.size _) rfl (Mr.one _) ?_) | (with_reducible refine wpList_build_rec rfl 27 _ rfl #[] (by with_unfolding_all exact rfl) Mr.zero.enc.toArray (by kernel_rfl) ?_))
  intro w2 q2 x2 z2
  have O2 : Hid (Mr.At w2 gO Mr.zero) := Lib.hid x2
  have B2 := Lib.hid (B1.out.grown q2 B1.out.size (fun k hk => by injection hk with hk; have := M_O.out; omega))
  clear q2 x2 z2 O1 B1
  go_wp2
  exact bodyPost_ret (results_st_tmp Mr.isRec rfl _ _ _ _ _ rfl rfl O2.out) rfl ⟨Row.nil, Row.nil, rfl, Lists.zero _, B2.out⟩

set_option maxHeartbeats 16000000 in
theorem msTake_some (A : Option Addr) (n cap : Nat) (c : UInt8) (r : List UInt8) (w : World) (h : BytesAt w (.slice A n cap) (c :: r)) (hk : knownK (c.toNat : Int) = true) :
    Calls Try.prog 19 #[.slice A n cap] w fun x w' => ∃ e t, x = .returned (.tuple #[((takeM (c :: r)).1.raw e t).val, .int .i64 (takeM (c :: r)).2]) ∧ Lists w' e t (takeM (c :: r)).1 ∧ Below w.heap.size w w' := by
  obtain ⟨T0, hT0⟩ : ∃ T0, T0 = take0 c r := ⟨_, rfl⟩
  obtain ⟨TT, hTT⟩ : ∃ TT, TT = takeT T0 (fldK (c.toNat : Int)) := ⟨_, rfl⟩
  have HT : Hid (takeM (c :: r) = if endX TT ≠ 0 then (Mg.zero, endX TT) else if TT.bad = true ∨ rightM TT.m = false then (Mg.zero, 11) else (TT.m, 0)) := Lib.hid (by rw [takeM, if_neg (by simp [hk]), ← hT0, ← hTT, takeE_eq])
  obtain ⟨RM, hRM⟩ : ∃ q, q = takeM (c :: r) := ⟨_, rfl⟩
  rw [← hRM] at HT ⊢
  have HS := Lib.hid (show Small TT.m by rw [hTT]; exact takeT_small _ _ (by rw [hT0]; exact headM_small _ _))
  have HTT := Lib.hid hTT
  obtain ⟨hf1, hf2⟩ := raw_first c r
  have HQ : Hid (T0 = ⟨rawS ⟨r, 0⟩ 4, headM (c.toNat : Int) (numO ⟨r, 0⟩ 4 : Int), false, false⟩) := Lib.hid hT0
  have rz4 := numO_i64 ⟨r, 0⟩ 4 (by decide)
  have hn : 0 < n := by have := h.size.1; rw [this]; simp
  have HB := Lib.hid h
  obtain ⟨g, off, rfl, hgl, hc⟩ := h.spots (by simp)
  have HC := Lib.hid (hc 0 c (by simp))
  have CK := fun w => Lib.hid (known_any (c.toNat : Int) w)
  rw [hk] at CK
  have rz : IntKind.i64.wrap (c.toNat : Int) = (c.toNat : Int) := by have := c.toNat_lt; rw [IntWalk.i64_in _ (by omega)]
  have e0 : ((n : Int) == 0) = false := by simp; omega
  have HF1 := Lib.hid hf1
  have HF2 := Lib.hid hf2
  clear h hc hk hT0 hTT hf1 hf2 hRM
  go_enter Try.func19, Try.ntmps19
  go_wp2_with (refine wpList_alloc_row rfl 27 rfl Mr.zero.enc.toArray Mr.zero_is ?_)
  intro w1 b1 x1 z1
  obtain ⟨gO, hgO⟩ : ∃ g, g = w.heap.size := ⟨_, rfl⟩
  have M_O := Lib.hid (show w.heap.size ≤ gO from by rw [hgO]; exact Nat.le_refl _)
  have B1 := Lib.hid b1
  rw [← hgO] at x1 ⊢
  have O1 : Hid (Mr.At w1 gO Mr.zero) := Lib.hid x1
  clear b1 x1 z1 hgO 
  have c0 : w1.cell? ⟨g, off, none⟩ = some (.int .u8 (c.toNat : Int)) := (B1.out.cell (p := ⟨g, off, none⟩) hgl).trans HC.out
  go_wp2_with fail
  refine (CK _).out.mono ?_
  rintro x u ⟨rfl, rfl⟩
  clear c0 CK
  have CO := Lib.hid (pkOpen _ n cap (c :: r) w1 (HB.out.below B1.out))
  obtain ⟨gP, hgP⟩ : ∃ q, q = w1.heap.size := ⟨_, rfl⟩
  have NOP := Lib.hid (show gO < gP from by rw [hgP]; exact O1.out.lt)
  have NP0 := Lib.hid (show w.heap.size ≤ gP from by rw [hgP]; exact B1.out.size)
  rw [← hgP] at CO
  go_wp2_with fail
  refine CO.out.mono ?_
  rintro x v1 ⟨rfl, hrd, bO⟩
  have P1 := Lib.hid hrd
  have Oa : Hid (Mr.At v1 gO Mr.zero) := Lib.hid (Whole.below O1.out bO NOP.out)
  have Ba := Lib.hid (B1.out.trans ((show Below w1.heap.size w1 v1 from hgP ▸ bO).mono B1.out.size))
  have LP1 := Lib.hid (Whole.lt hrd.1)
  clear hrd bO CO hgP O1 B1
  go_wp2_with (first | (with_reducible refine wpList_build_rec rfl 70 _ rfl #[(0, .pointer (some ⟨gP, 0, none⟩))] (by with_unfolding_all exact rfl) (Rdr.enc ⟨gP, false, false⟩).toArray (by kernel_rfl) ?_) | (refine wpList_box_row rfl 70 _ rfl (Rdr.enc ⟨gP, false, false⟩).toArray (by with_unfolding_all exact rfl) ?_))
  intro v2 b2 x2 z2
  obtain ⟨gR, hgR⟩ : ∃ q, q = v1.heap.size := ⟨_, rfl⟩
  have NPR := Lib.hid (show gP < gR from by rw [hgR]; exact LP1.out)
  rw [← hgR] at x2 ⊢
  have R2 : Hid (RdrAt v2 gR gP ⟨c :: r, 0⟩ false false) := Lib.hid ⟨x2, P1.out.keeps (F := fun _ => False) (Keeps.of_below b2) id, by have := NPR.out; omega⟩
  have O2 : Hid (Mr.At v2 gO Mr.zero) := Lib.hid (Whole.below Oa.out b2 Oa.out.lt)
  have B2 := Lib.hid (Ba.out.trans (b2.mono Ba.out.size))
  have LR2 := Lib.hid (show gR < v2.heap.size from x2.lt)
  clear b2 x2 z2 hgR P1 Oa Ba LP1
  have bA : Below v2.heap.size v2 (v2.alloc (.cells #[.pointer none] 66)) := (Below.refl _ _).alloc (Nat.le_refl _) _
  have VA : Hid (Whole (v2.alloc (.cells #[.pointer none] 66)) v2.heap.size 66 #[.pointer none]) := Lib.hid (Whole.new v2 _ _)
  have RA := Lib.hid (R2.out.below bA)
  have OA : Hid (Mr.At (v2.alloc (.cells #[.pointer none] 66)) gO Mr.zero) := Lib.hid (Whole.below O2.out bA O2.out.lt)
  have BA := Lib.hid (B2.out.trans (bA.mono B2.out.size))
  have SA := Lib.hid B2.out.size
  clear bA R2 O2 B2
  go_wp2_with (with_reducible refine wpList_put_cell 66 ⟨by kernel_rfl, by kernel_rfl⟩ rfl _ _ rfl v2.heap.size 0 (by with_unfolding_all exact rfl) (.pointer (some ⟨gR, 0, none⟩)) (by with_unfolding_all exact rfl) (by with_unfolding_all exact rfl) (by with_unfolding_all exact rfl) _ _ VA.out _ (by with_unfolding_all exact rfl) ?_)
  intro v3 q3 x3 z3
  obtain ⟨gV, hgV⟩ : ∃ q, q = v2.heap.size := ⟨_, rfl⟩
  have NRV := Lib.hid (show gR < gV from by rw [hgV]; exact LR2.out)
  have NV0 := Lib.hid (show w.heap.size ≤ gV from by rw [hgV]; exact SA.out)
  rw [← hgV] at x3 q3 ⊢
  have V3 : Hid (Whole v3 gV 66 #[.pointer (some ⟨gR, 0, none⟩)]) := Lib.hid x3
  have R3 := Lib.hid (RA.out.keeps (F := fun i => i = gV) (Keeps.of_grown q3 (fun k e => .inl (by injection e with e; exact e.symm))) (by have := NRV.out; omega) (by have := NRV.out; have := NPR.out; omega))
  have O3 : Hid (Mr.At v3 gO Mr.zero) := Lib.hid (grown_far OA.out q3 (by have := NRV.out; have := NPR.out; have := NOP.out; omega))
  have B3 := Lib.hid (BA.out.grown q3 BA.out.size (fun k hk => by injection hk with hk; have := NV0.out; omega))
  clear q3 x3 z3 VA RA OA BA SA LR2 hgV
  have CN1 := Lib.hid fun w h => pkNum gP 1 ⟨c :: r, 0⟩ w h (by decide) (by decide)
  rw [HF1.out, HF2.out] at CN1
  have CN2 := Lib.hid fun w h => pkNum gP 4 ⟨r, 0⟩ w h (by decide) (by decide)
  obtain ⟨rid, hrid⟩ : ∃ q, q = numO ⟨r, 0⟩ 4 := ⟨_, rfl⟩
  obtain ⟨s4, hs4⟩ : ∃ q, q = rawS ⟨r, 0⟩ 4 := ⟨_, rfl⟩
  rw [← hrid] at CN2 rz4 HQ
  rw [← hs4] at CN2 HQ
  clear hrid hs4
  go_wp2_with fail
  refine regS_begin (fun w' => w'.cell? ⟨gV, 0, none⟩ = some (.pointer (some ⟨gR, 0, none⟩)) ∧ w'.cell? ⟨gR, 0, none⟩ = some (.pointer (some ⟨gP, 0, none⟩))) (by kernel_rfl) ⟨V3.out.at_ 0, R3.out.rdr.at_ 0⟩ ?_
  have hS : v3.drew.cell? ⟨gV, 0, none⟩ = some (.pointer (some ⟨gR, 0, none⟩)) ∧ v3.drew.cell? ⟨gR, 0, none⟩ = some (.pointer (some ⟨gP, 0, none⟩)) := ⟨V3.out.at_ 0, R3.out.rdr.at_ 0⟩
  have bd : Below v3.heap.size v3 v3.drew := (Below.refl _ _).drew
  have V4 : Hid (Whole v3.drew gV 66 #[.pointer (some ⟨gR, 0, none⟩)]) := Lib.hid (V3.out.below bd V3.out.lt)
  have R4 := Lib.hid (R3.out.below bd)
  have O4 : Hid (Mr.At v3.drew gO Mr.zero) := Lib.hid (Whole.below O3.out bd O3.out.lt)
  have B4 := Lib.hid (B3.out.trans (bd.mono B3.out.size))
  generalize v3.drew = v4 at *
  clear bd V3 R3 O3 B3
  refine regS_take (i := 0) (v := ?_) rfl (by kernel_rfl) (by kernel_rfl) (by kernel_rfl) (fun _ _ _ h => h) (by rfl) hS ?hy0 ?_
  case hy0 => intro w' hw'; obtain ⟨ca, cb⟩ := hw'; go_simp; (try with_reducible rfl)
  simp only [Act.put, List.setIfInBounds_toArray, List.set_cons_zero, List.set_cons_succ]
  refine regS_take (i := 1) (v := ?_) rfl (by kernel_rfl) (by kernel_rfl) (by kernel_rfl) (fun _ _ _ h => h) (by rfl) hS ?hy1 ?_
  case hy1 => intro w' hw'; obtain ⟨ca, cb⟩ := hw'; go_simp; (try with_reducible rfl)
  simp only [Act.put, List.setIfInBounds_toArray, List.set_cons_zero, List.set_cons_succ]
  refine regS_take (i := 2) (v := ?_) rfl (by kernel_rfl) (by kernel_rfl) (by kernel_rfl) (fun _ _ _ h => h) (by rfl) hS ?hy2 ?_
  case hy2 => intro w' hw'; obtain ⟨ca, cb⟩ := hw'; go_simp; (try with_reducible rfl)
  simp only [Act.put, List.setIfInBounds_toArray, List.set_cons_zero, List.set_cons_succ]
  refine regS_take (i := 3) (v := ?_) rfl (by kernel_rfl) (by kernel_rfl) (by kernel_rfl) (fun _ _ _ h => h) (by rfl) hS ?hy3 ?_
  case hy3 => intro w' hw'; obtain ⟨ca, cb⟩ := hw'; go_simp; (try with_reducible rfl)
  simp only [Act.put, List.setIfInBounds_toArray, List.set_cons_zero, List.set_cons_succ]
  refine regS_take (i := 6) (v := ?_) rfl (by kernel_rfl) (by kernel_rfl) (by kernel_rfl) (fun _ _ _ h => h) (by rfl) hS ?hy6 ?_
  case hy6 => intro w' hw'; obtain ⟨ca, cb⟩ := hw'; go_simp; (try with_reducible rfl)
  simp only [Act.put, List.setIfInBounds_toArray, List.set_cons_zero, List.set_cons_succ]
  refine regS_take (i := 7) (v := ?_) rfl (by kernel_rfl) (by kernel_rfl) (by kernel_rfl) (fun _ _ _ h => h) (by rfl) hS ?hy7 ?_
  case hy7 => intro w' hw'; obtain ⟨ca, cb⟩ := hw'; go_simp; (try with_reducible rfl)
  simp only [Act.put, List.setIfInBounds_toArray, List.set_cons_zero, List.set_cons_succ]
  refine regS_take (i := 8) (v := ?_) rfl (by kernel_rfl) (by kernel_rfl) (by kernel_rfl) (fun _ _ _ h => h) (by rfl) hS ?hy8 ?_
  case hy8 => intro w' hw'; obtain ⟨ca, cb⟩ := hw'; go_simp; (try with_reducible rfl)
  simp only [Act.put, List.setIfInBounds_toArray, List.set_cons_zero, List.set_cons_succ]
  refine regS_take (i := 9) (v := ?_) rfl (by kernel_rfl) (by kernel_rfl) (by kernel_rfl) (fun _ _ _ h => h) (by rfl) hS ?hy9 ?_
  case hy9 => intro w' hw'; obtain ⟨ca, cb⟩ := hw'; go_simp; (try with_reducible rfl)
  simp only [Act.put, List.setIfInBounds_toArray, List.set_cons_zero, List.set_cons_succ]
  refine regS_two (i := 4) (j := 13) rfl rfl (by kernel_rfl) (fun K' hK => ?_) (fun K' hK => ?_)
  · clear hS
    go_simp
    refine (CN1.out v4 R4.out.rd).mono ?_
    rintro x v5 ⟨rfl, hr5, hg5⟩
    have R5 := Lib.hid (R4.out.read hr5 hg5)
    have V5 : Hid (Whole v5 gV 66 #[.pointer (some ⟨gR, 0, none⟩)]) := Lib.hid (grown_far V4.out hg5 (by have := NRV.out; have := NPR.out; omega))
    have O5 : Hid (Mr.At v5 gO Mr.zero) := Lib.hid (grown_far O4.out hg5 (by have := NOP.out; omega))
    have B5 := Lib.hid (B4.out.grown hg5 B4.out.size (fun k hk => by injection hk with hk; have := NP0.out; omega))
    have hS : v5.cell? ⟨gV, 0, none⟩ = some (.pointer (some ⟨gR, 0, none⟩)) ∧ v5.cell? ⟨gR, 0, none⟩ = some (.pointer (some ⟨gP, 0, none⟩)) := ⟨V5.out.at_ 0, R5.out.rdr.at_ 0⟩
    refine hK.out _ _ hS ?_
    clear hK K' hr5 hg5 R4 V4 O4 B4
    refine regS_take (i := 5) (v := ?_) rfl (by kernel_rfl) (by kernel_rfl) (by kernel_rfl) (fun _ _ _ h => h) (by rfl) hS ?hy5 ?_
    case hy5 => intro w' hw'; obtain ⟨ca, cb⟩ := hw'; go_simp; (try with_reducible rfl)
    simp only [Act.put, List.setIfInBounds_toArray, List.set_cons_zero, List.set_cons_succ]
    refine regS_two (i := 10) (j := 13) rfl rfl (by kernel_rfl) (fun K' hK => ?_) (fun K' hK => ?_)
    · clear hS
      go_simp
      refine (CN2.out v5 R5.out.rd).mono ?_
      rintro x v6 ⟨rfl, hr6, hg6⟩
      have R6 := Lib.hid (R5.out.read hr6 hg6)
      have V6 : Hid (Whole v6 gV 66 #[.pointer (some ⟨gR, 0, none⟩)]) := Lib.hid (grown_far V5.out hg6 (by have := NRV.out; have := NPR.out; omega))
      have O6 : Hid (Mr.At v6 gO Mr.zero) := Lib.hid (grown_far O5.out hg6 (by have := NOP.out; omega))
      have B6 := Lib.hid (B5.out.grown hg6 B5.out.size (fun k hk => by injection hk with hk; have := NP0.out; omega))
      have hS : v6.cell? ⟨gV, 0, none⟩ = some (.pointer (some ⟨gR, 0, none⟩)) ∧ v6.cell? ⟨gR, 0, none⟩ = some (.pointer (some ⟨gP, 0, none⟩)) := ⟨V6.out.at_ 0, R6.out.rdr.at_ 0⟩
      refine hK.out _ _ hS ?_
      clear hK K' hr6 hg6 R5 V5 O5 B5
      refine regS_take (i := 11) (v := ?_) rfl (by kernel_rfl) (by kernel_rfl) (by kernel_rfl) (fun _ _ _ h => h) (by rfl) hS ?hy11 ?_
      case hy11 => intro w' hw'; obtain ⟨ca, cb⟩ := hw'; go_simp; (try with_reducible rfl)
      simp only [Act.put, List.setIfInBounds_toArray, List.set_cons_zero, List.set_cons_succ]
      refine regS_take (i := 12) (v := .agg ((headM (c.toNat : Int) (rid : Int)).raw Row.nil Row.nil).enc.toArray) rfl (by kernel_rfl) (by kernel_rfl) (by kernel_rfl) (fun _ _ _ h => h) (by rfl) hS ?hy12 ?_
      case hy12 => intro w' hw'; exact exec_build_rec 27 _ rfl #[(0, .int .i64 (c.toNat : Int)), (1, .int .i64 (rid : Int))] (by with_unfolding_all exact rfl) _ (by kernel_rfl) w'
      simp only [Act.put, List.setIfInBounds_toArray, List.set_cons_zero, List.set_cons_succ]
      refine regS_do (i := 13) rfl (by kernel_rfl) (fun K' hK => ?_)
      clear hS
      rw [if_pos (by rfl)]
      refine wp_alloc_row 27 rfl Mr.zero.enc.toArray Mr.zero_is ?_
      intro v7 b7 x7 z7
      obtain ⟨gM, hgM⟩ : ∃ q, q = v6.heap.size := ⟨_, rfl⟩
      have NVM := Lib.hid (show gV < gM from by rw [hgM]; exact V6.out.lt)
      have NM0 := Lib.hid (show w.heap.size ≤ gM from by rw [hgM]; exact B6.out.size)
      rw [← hgM] at x7 ⊢
      have M7 : Hid (Mr.At v7 gM Mr.zero) := Lib.hid x7
      have R7 := Lib.hid (R6.out.below b7)
      have V7 : Hid (Whole v7 gV 66 #[.pointer (some ⟨gR, 0, none⟩)]) := Lib.hid (Whole.below V6.out b7 V6.out.lt)
      have O7 : Hid (Mr.At v7 gO Mr.zero) := Lib.hid (Whole.below O6.out b7 O6.out.lt)
      have B7 := Lib.hid (B6.out.trans (b7.mono B6.out.size))
      have hS : v7.cell? ⟨gV, 0, none⟩ = some (.pointer (some ⟨gR, 0, none⟩)) ∧ v7.cell? ⟨gR, 0, none⟩ = some (.pointer (some ⟨gP, 0, none⟩)) := ⟨V7.out.at_ 0, R7.out.rdr.at_ 0⟩
      refine hK.out _ _ hS ?_
      clear hK K' b7 x7 z7 hgM R6 V6 O6 B6
      refine regS_do (i := 14) rfl (by kernel_rfl) (fun K' hK => ?_)
      clear hS
      rw [if_pos (by rfl)]
      refine wp_store_whole 27 _ _ rfl gM ((headM (c.toNat : Int) (rid : Int)).raw Row.nil Row.nil).enc.toArray (by with_unfolding_all exact rfl) (by with_unfolding_all exact rfl) _ _ M7.out (Mr.size _) rfl (Mr.one _) ?_
      intro vz qz xz zz
      have MZ : Hid (Mr.At vz gM ((headM (c.toNat : Int) (rid : Int)).raw Row.nil Row.nil)) := Lib.hid xz
      have RZ := Lib.hid (R7.out.keeps (F := fun i => i = gM) (Keeps.of_grown qz (fun k e => .inl (by injection e with e; exact e.symm))) (by have := NVM.out; have := NRV.out; omega) (by have := NVM.out; have := NRV.out; have := NPR.out; omega))
      have VZ : Hid (Whole vz gV 66 #[.pointer (some ⟨gR, 0, none⟩)]) := Lib.hid (grown_far V7.out qz (by have := NVM.out; omega))
      have OZ : Hid (Mr.At vz gO Mr.zero) := Lib.hid (grown_far O7.out qz (by have := NVM.out; have := NRV.out; have := NPR.out; have := NOP.out; omega))
      have BZ := Lib.hid (B7.out.grown qz B7.out.size (fun k hk => by injection hk with hk; have := NM0.out; omega))
      have hS : vz.cell? ⟨gV, 0, none⟩ = some (.pointer (some ⟨gR, 0, none⟩)) ∧ vz.cell? ⟨gR, 0, none⟩ = some (.pointer (some ⟨gP, 0, none⟩)) := ⟨VZ.out.at_ 0, RZ.out.rdr.at_ 0⟩
      refine hK.out _ _ hS ?_
      clear hK K' qz xz zz M7 R7 V7 O7 B7
      refine regS_end (by kernel_rfl) ?_
      clear hS
      obtain ⟨base, hbase⟩ : ∃ q, q = vz.heap.size := ⟨_, rfl⟩
      have KB : Hid (Tkb w gR gP gM base gV gO) := Lib.hid (by
        have h1 := NVM.out
        have h2 := NRV.out
        have h3 := NPR.out
        have h4 := NOP.out
        have h5 := MZ.out.lt
        have h6 := NP0.out
        have h7 := NM0.out
        exact ⟨by omega, by omega, by omega, by omega, by omega, by omega, by omega, by omega, ⟨by omega, by omega, by omega⟩, ⟨by omega, by omega, by omega⟩⟩)
      have I0 : Tks w gR gP gM base gV gO (takeT T0 []) vz := by
        rw [HQ.out]
        exact ⟨Row.nil, Row.nil, MZ.out, ⟨OwnRows.nil _ _ _ _, OwnRows.nil _ _ _ _⟩, RZ.out, BZ.out, Nat.le_of_eq hbase, VZ.out, OZ.out⟩
      have cM : vz.cell? ⟨gM, 0, none⟩ = some (.int .i64 (c.toNat : Int)) := MZ.out.at_ 0
      have CE := Lib.hid (each_any 47 enter_take #[.pointer (some ⟨gV, 0, none⟩), .pointer (some ⟨gM, 0, none⟩)] (c.toNat : Int) (fun fs w' => Tks w gR gP gM base gV gO (takeT T0 fs) w') (fun fs f w' hs hi => take1_any w gR gP gM base gV gO KB.out T0 _ fs f w' hs hi) vz I0)
      rw [← HTT.out] at CE
      clear I0 hbase MZ RZ VZ OZ BZ
      go_wp2_with fail
      refine CE.out.mono ?_
      rintro x y1 ⟨rfl, e, t, hm, hl, hr, hlow, hB, hv, hO⟩
      clear CE cM
      have M1 := Lib.hid hm
      have L1 := Lib.hid hl
      have R1 := Lib.hid hr
      have B1 := Lib.hid hlow
      have V1 := Lib.hid hv
      have O1 := Lib.hid hO
      have cV : y1.cell? ⟨gV, 0, none⟩ = some (.pointer (some ⟨gR, 0, none⟩)) := hv.at_ 0
      have cR : y1.cell? ⟨gR, 2, none⟩ = some (.bool TT.bad) := hr.rdr.at_ 2
      have CX := Lib.hid (rdrEnd_any gR gP TT.r TT.big TT.bad y1 hr)
      rw [show (if TT.big = true then 3 else endE TT.r) = endX TT from rfl] at CX
      have NO0 := Lib.hid (show w.heap.size ≤ gO from M_O.out)
      have NOB := Lib.hid (show gO < base from by have := KB.out.m; have := NVM.out; have := NRV.out; have := NPR.out; have := NOP.out; omega)
      have CR := Lib.hid (msRight_any TT.m e t HS.out.1 HS.out.2 y1 hl.lists)
      obtain ⟨X, hX⟩ : ∃ X, X = endX TT := ⟨_, rfl⟩
      rw [← hX] at CX HT
      obtain ⟨qr, hqr⟩ : ∃ q, q = rightM TT.m := ⟨_, rfl⟩
      rw [← hqr] at CR HT
      obtain ⟨qb, hqb⟩ : ∃ q, q = TT.bad := ⟨_, rfl⟩
      rw [← hqb] at cR HT
      clear hm hl hr hlow hB hv hO hX hqr hqb
      go_wp2_with fail
      refine CX.out.mono ?_
      rintro x y2 ⟨rfl, rfl⟩
      clear CX
      by_cases h0 : X = 0
      · subst h0
        cases qb with
        | true =>
          have HV : Hid (RM = (Mg.zero, 11)) := Lib.hid (by rw [HT.out]; simp)
          go_wp2_with (first | (with_reducible refine wpList_build_rec rfl 27 _ rfl #[] (by with_unfolding_all exact rfl) Mr.zero.enc.toArray (by kernel_rfl) ?_) | (with_reducible refine wpList_store_whole rfl 27 _ _ rfl gO Mr.zero.enc.toArray (by with_unfolding_all exact rfl) (by with_unfolding_all exact rfl) _ _ O1.out (Mr.size _) rfl (Mr.one _) ?_))
          intro y3 q3 x3 z3
          have O3 : Hid (Mr.At y3 gO Mr.zero) := Lib.hid x3
          have B3 := Lib.hid (B1.out.grown q3 B1.out.size (fun k hk => by injection hk with hk; have := NO0.out; omega))
          clear q3 x3 z3 O1 B1
          go_wp2
          exact bodyPost_ret (results_st_tmp Mr.isRec rfl _ _ _ _ _ rfl rfl O3.out) rfl ⟨Row.nil, Row.nil, by rw [HV.out]; rfl, by rw [HV.out]; exact Lists.zero _, B3.out⟩
        | false =>
          obtain ⟨m0, m1, m2, m3, m4, m5, m6, m7, m8, m9, m10⟩ := Mr.At.all M1.out
          go_wp2_with fail
          refine CR.out.mono ?_
          rintro x y3 ⟨rfl, b3⟩
          have M3 : Hid (Mr.At y3 gM (TT.m.raw e t)) := Lib.hid (Whole.below M1.out b3 M1.out.lt)
          have O3 : Hid (Mr.At y3 gO Mr.zero) := Lib.hid (Whole.below O1.out b3 O1.out.lt)
          have L3 := Lib.hid (L1.out.below b3)
          have B3 := Lib.hid (B1.out.trans (b3.mono B1.out.size))
          clear b3 CR M1 O1 L1 B1 V1 R1 m0 m1 m2 m3 m4 m5 m6 m7 m8 m9 m10
          cases qr with
          | true =>
            have HV : Hid (RM = (TT.m, 0)) := Lib.hid (by rw [HT.out]; simp)
            go_wp2_with (first | (with_reducible refine wpList_load_whole_st Mr.isRec rfl _ rfl gM (by with_unfolding_all exact rfl) _ _ (Mr.len _) M3.out ?_) | (with_reducible refine wpList_store_whole rfl 27 _ _ rfl gO (TT.m.raw e t).enc.toArray (by with_unfolding_all exact rfl) (by with_unfolding_all exact rfl) _ _ O3.out (Mr.size _) rfl (Mr.one _) ?_))
            intro y4 q4 x4 z4
            have O4 : Hid (Mr.At y4 gO (TT.m.raw e t)) := Lib.hid x4
            have L4 := Lib.hid (L3.out.far q4 NOB.out).lists
            have B4 := Lib.hid (B3.out.grown q4 B3.out.size (fun k hk => by injection hk with hk; have := NO0.out; omega))
            clear q4 x4 z4 O3 B3 L3 M3
            go_wp2
            exact bodyPost_ret (results_st_tmp Mr.isRec rfl _ _ _ _ _ rfl rfl O4.out) rfl ⟨e, t, by rw [HV.out]; rfl, by rw [HV.out]; exact L4.out, B4.out⟩
          | false =>
            have HV : Hid (RM = (Mg.zero, 11)) := Lib.hid (by rw [HT.out]; simp)
            go_wp2_with (first | (with_reducible refine wpList_build_rec rfl 27 _ rfl #[] (by with_unfolding_all exact rfl) Mr.zero.enc.toArray (by kernel_rfl) ?_) | (with_reducible refine wpList_store_whole rfl 27 _ _ rfl gO Mr.zero.enc.toArray (by with_unfolding_all exact rfl) (by with_unfolding_all exact rfl) _ _ O3.out (Mr.size _) rfl (Mr.one _) ?_))
            intro y4 q4 x4 z4
            have O4 : Hid (Mr.At y4 gO Mr.zero) := Lib.hid x4
            have B4 := Lib.hid (B3.out.grown q4 B3.out.size (fun k hk => by injection hk with hk; have := NO0.out; omega))
            clear q4 x4 z4 O3 B3 L3 M3
            go_wp2
            exact bodyPost_ret (results_st_tmp Mr.isRec rfl _ _ _ _ _ rfl rfl O4.out) rfl ⟨Row.nil, Row.nil, by rw [HV.out]; rfl, by rw [HV.out]; exact Lists.zero _, B4.out⟩
      · have HV : Hid (RM = (Mg.zero, X)) := Lib.hid (by rw [HT.out, if_pos h0])
        have e1 : (X == 0) = false := by simpa using h0
        have e2 : (X != 0) = true := by simpa using h0
        go_wp2_with (first | (with_reducible refine wpList_build_rec rfl 27 _ rfl #[] (by with_unfolding_all exact rfl) Mr.zero.enc.toArray (by kernel_rfl) ?_) | (with_reducible refine wpList_store_whole rfl 27 _ _ rfl gO Mr.zero.enc.toArray (by with_unfolding_all exact rfl) (by with_unfolding_all exact rfl) _ _ O1.out (Mr.size _) rfl (Mr.one _) ?_))
        intro y3 q3 x3 z3
        have O3 : Hid (Mr.At y3 gO Mr.zero) := Lib.hid x3
        have B3 := Lib.hid (B1.out.grown q3 B1.out.size (fun k hk => by injection hk with hk; have := NO0.out; omega))
        clear q3 x3 z3 O1 B1
        go_wp2
        exact bodyPost_ret (results_st_tmp Mr.isRec rfl _ _ _ _ _ rfl rfl O3.out) rfl ⟨Row.nil, Row.nil, by rw [HV.out]; rfl, by rw [HV.out]; exact Lists.zero _, B3.out⟩
    · clear hS
      rw [if_pos (by rfl)]
      refine wp_alloc_row 27 rfl Mr.zero.enc.toArray Mr.zero_is ?_
      intro v8 b8 x8 z8
      obtain ⟨gM, hgM⟩ : ∃ q, q = v5.heap.size := ⟨_, rfl⟩
      have NVM := Lib.hid (show gV < gM from by rw [hgM]; exact V5.out.lt)
      have NM0 := Lib.hid (show w.heap.size ≤ gM from by rw [hgM]; exact B5.out.size)
      rw [← hgM] at x8 ⊢
      have M8 : Hid (Mr.At v8 gM Mr.zero) := Lib.hid x8
      have R8 := Lib.hid (R5.out.below b8)
      have V8 : Hid (Whole v8 gV 66 #[.pointer (some ⟨gR, 0, none⟩)]) := Lib.hid (Whole.below V5.out b8 V5.out.lt)
      have O8 : Hid (Mr.At v8 gO Mr.zero) := Lib.hid (Whole.below O5.out b8 O5.out.lt)
      have B8 := Lib.hid (B5.out.trans (b8.mono B5.out.size))
      have hS : v8.cell? ⟨gV, 0, none⟩ = some (.pointer (some ⟨gR, 0, none⟩)) ∧ v8.cell? ⟨gR, 0, none⟩ = some (.pointer (some ⟨gP, 0, none⟩)) := ⟨V8.out.at_ 0, R8.out.rdr.at_ 0⟩
      refine hK.out _ _ hS ?_
      clear hK K' b8 x8 z8 hgM R5 V5 O5 B5
      refine regS_do (i := 10) rfl (by kernel_rfl) (fun K' hK => ?_)
      clear hS
      go_simp
      refine (CN2.out v8 R8.out.rd).mono ?_
      rintro x v9 ⟨rfl, hr9, hg9⟩
      have R9 := Lib.hid (R8.out.read hr9 hg9)
      have V9 : Hid (Whole v9 gV 66 #[.pointer (some ⟨gR, 0, none⟩)]) := Lib.hid (grown_far V8.out hg9 (by have := NRV.out; have := NPR.out; omega))
      have O9 : Hid (Mr.At v9 gO Mr.zero) := Lib.hid (grown_far O8.out hg9 (by have := NOP.out; omega))
      have B9 := Lib.hid (B8.out.grown hg9 B8.out.size (fun k hk => by injection hk with hk; have := NP0.out; omega))
      have M9 : Hid (Mr.At v9 gM Mr.zero) := Lib.hid (grown_far M8.out hg9 (by have := NVM.out; have := NRV.out; have := NPR.out; omega))
      have hS : v9.cell? ⟨gV, 0, none⟩ = some (.pointer (some ⟨gR, 0, none⟩)) ∧ v9.cell? ⟨gR, 0, none⟩ = some (.pointer (some ⟨gP, 0, none⟩)) := ⟨V9.out.at_ 0, R9.out.rdr.at_ 0⟩
      refine hK.out _ _ hS ?_
      clear hK K' hr9 hg9 R8 V8 O8 B8 M8
      refine regS_take (i := 11) (v := ?_) rfl (by kernel_rfl) (by kernel_rfl) (by kernel_rfl) (fun _ _ _ h => h) (by rfl) hS ?hy11 ?_
      case hy11 => intro w' hw'; obtain ⟨ca, cb⟩ := hw'; go_simp; (try with_reducible rfl)
      simp only [Act.put, List.setIfInBounds_toArray, List.set_cons_zero, List.set_cons_succ]
      refine regS_take (i := 12) (v := .agg ((headM (c.toNat : Int) (rid : Int)).raw Row.nil Row.nil).enc.toArray) rfl (by kernel_rfl) (by kernel_rfl) (by kernel_rfl) (fun _ _ _ h => h) (by rfl) hS ?hy12 ?_
      case hy12 => intro w' hw'; exact exec_build_rec 27 _ rfl #[(0, .int .i64 (c.toNat : Int)), (1, .int .i64 (rid : Int))] (by with_unfolding_all exact rfl) _ (by kernel_rfl) w'
      simp only [Act.put, List.setIfInBounds_toArray, List.set_cons_zero, List.set_cons_succ]
      refine regS_do (i := 14) rfl (by kernel_rfl) (fun K' hK => ?_)
      clear hS
      rw [if_pos (by rfl)]
      refine wp_store_whole 27 _ _ rfl gM ((headM (c.toNat : Int) (rid : Int)).raw Row.nil Row.nil).enc.toArray (by with_unfolding_all exact rfl) (by with_unfolding_all exact rfl) _ _ M9.out (Mr.size _) rfl (Mr.one _) ?_
      intro vz qz xz zz
      have MZ : Hid (Mr.At vz gM ((headM (c.toNat : Int) (rid : Int)).raw Row.nil Row.nil)) := Lib.hid xz
      have RZ := Lib.hid (R9.out.keeps (F := fun i => i = gM) (Keeps.of_grown qz (fun k e => .inl (by injection e with e; exact e.symm))) (by have := NVM.out; have := NRV.out; omega) (by have := NVM.out; have := NRV.out; have := NPR.out; omega))
      have VZ : Hid (Whole vz gV 66 #[.pointer (some ⟨gR, 0, none⟩)]) := Lib.hid (grown_far V9.out qz (by have := NVM.out; omega))
      have OZ : Hid (Mr.At vz gO Mr.zero) := Lib.hid (grown_far O9.out qz (by have := NVM.out; have := NRV.out; have := NPR.out; have := NOP.out; omega))
      have BZ := Lib.hid (B9.out.grown qz B9.out.size (fun k hk => by injection hk with hk; have := NM0.out; omega))
      have hS : vz.cell? ⟨gV, 0, none⟩ = some (.pointer (some ⟨gR, 0, none⟩)) ∧ vz.cell? ⟨gR, 0, none⟩ = some (.pointer (some ⟨gP, 0, none⟩)) := ⟨VZ.out.at_ 0, RZ.out.rdr.at_ 0⟩
      refine hK.out _ _ hS ?_
      clear hK K' qz xz zz M9 R9 V9 O9 B9
      refine regS_end (by kernel_rfl) ?_
      clear hS
      obtain ⟨base, hbase⟩ : ∃ q, q = vz.heap.size := ⟨_, rfl⟩
      have KB : Hid (Tkb w gR gP gM base gV gO) := Lib.hid (by
        have h1 := NVM.out
        have h2 := NRV.out
        have h3 := NPR.out
        have h4 := NOP.out
        have h5 := MZ.out.lt
        have h6 := NP0.out
        have h7 := NM0.out
        exact ⟨by omega, by omega, by omega, by omega, by omega, by omega, by omega, by omega, ⟨by omega, by omega, by omega⟩, ⟨by omega, by omega, by omega⟩⟩)
      have I0 : Tks w gR gP gM base gV gO (takeT T0 []) vz := by
        rw [HQ.out]
        exact ⟨Row.nil, Row.nil, MZ.out, ⟨OwnRows.nil _ _ _ _, OwnRows.nil _ _ _ _⟩, RZ.out, BZ.out, Nat.le_of_eq hbase, VZ.out, OZ.out⟩
      have cM : vz.cell? ⟨gM, 0, none⟩ = some (.int .i64 (c.toNat : Int)) := MZ.out.at_ 0
      have CE := Lib.hid (each_any 47 enter_take #[.pointer (some ⟨gV, 0, none⟩), .pointer (some ⟨gM, 0, none⟩)] (c.toNat : Int) (fun fs w' => Tks w gR gP gM base gV gO (takeT T0 fs) w') (fun fs f w' hs hi => take1_any w gR gP gM base gV gO KB.out T0 _ fs f w' hs hi) vz I0)
      rw [← HTT.out] at CE
      clear I0 hbase MZ RZ VZ OZ BZ
      go_wp2_with fail
      refine CE.out.mono ?_
      rintro x y1 ⟨rfl, e, t, hm, hl, hr, hlow, hB, hv, hO⟩
      clear CE cM
      have M1 := Lib.hid hm
      have L1 := Lib.hid hl
      have R1 := Lib.hid hr
      have B1 := Lib.hid hlow
      have V1 := Lib.hid hv
      have O1 := Lib.hid hO
      have cV : y1.cell? ⟨gV, 0, none⟩ = some (.pointer (some ⟨gR, 0, none⟩)) := hv.at_ 0
      have cR : y1.cell? ⟨gR, 2, none⟩ = some (.bool TT.bad) := hr.rdr.at_ 2
      have CX := Lib.hid (rdrEnd_any gR gP TT.r TT.big TT.bad y1 hr)
      rw [show (if TT.big = true then 3 else endE TT.r) = endX TT from rfl] at CX
      have NO0 := Lib.hid (show w.heap.size ≤ gO from M_O.out)
      have NOB := Lib.hid (show gO < base from by have := KB.out.m; have := NVM.out; have := NRV.out; have := NPR.out; have := NOP.out; omega)
      have CR := Lib.hid (msRight_any TT.m e t HS.out.1 HS.out.2 y1 hl.lists)
      obtain ⟨X, hX⟩ : ∃ X, X = endX TT := ⟨_, rfl⟩
      rw [← hX] at CX HT
      obtain ⟨qr, hqr⟩ : ∃ q, q = rightM TT.m := ⟨_, rfl⟩
      rw [← hqr] at CR HT
      obtain ⟨qb, hqb⟩ : ∃ q, q = TT.bad := ⟨_, rfl⟩
      rw [← hqb] at cR HT
      clear hm hl hr hlow hB hv hO hX hqr hqb
      go_wp2_with fail
      refine CX.out.mono ?_
      rintro x y2 ⟨rfl, rfl⟩
      clear CX
      by_cases h0 : X = 0
      · subst h0
        cases qb with
        | true =>
          have HV : Hid (RM = (Mg.zero, 11)) := Lib.hid (by rw [HT.out]; simp)
          go_wp2_with (first | (with_reducible refine wpList_build_rec rfl 27 _ rfl #[] (by with_unfolding_all exact rfl) Mr.zero.enc.toArray (by kernel_rfl) ?_) | (with_reducible refine wpList_store_whole rfl 27 _ _ rfl gO Mr.zero.enc.toArray (by with_unfolding_all exact rfl) (by with_unfolding_all exact rfl) _ _ O1.out (Mr.size _) rfl (Mr.one _) ?_))
          intro y3 q3 x3 z3
          have O3 : Hid (Mr.At y3 gO Mr.zero) := Lib.hid x3
          have B3 := Lib.hid (B1.out.grown q3 B1.out.size (fun k hk => by injection hk with hk; have := NO0.out; omega))
          clear q3 x3 z3 O1 B1
          go_wp2
          exact bodyPost_ret (results_st_tmp Mr.isRec rfl _ _ _ _ _ rfl rfl O3.out) rfl ⟨Row.nil, Row.nil, by rw [HV.out]; rfl, by rw [HV.out]; exact Lists.zero _, B3.out⟩
        | false =>
          obtain ⟨m0, m1, m2, m3, m4, m5, m6, m7, m8, m9, m10⟩ := Mr.At.all M1.out
          go_wp2_with fail
          refine CR.out.mono ?_
          rintro x y3 ⟨rfl, b3⟩
          have M3 : Hid (Mr.At y3 gM (TT.m.raw e t)) := Lib.hid (Whole.below M1.out b3 M1.out.lt)
          have O3 : Hid (Mr.At y3 gO Mr.zero) := Lib.hid (Whole.below O1.out b3 O1.out.lt)
          have L3 := Lib.hid (L1.out.below b3)
          have B3 := Lib.hid (B1.out.trans (b3.mono B1.out.size))
          clear b3 CR M1 O1 L1 B1 V1 R1 m0 m1 m2 m3 m4 m5 m6 m7 m8 m9 m10
          cases qr with
          | true =>
            have HV : Hid (RM = (TT.m, 0)) := Lib.hid (by rw [HT.out]; simp)
            go_wp2_with (first | (with_reducible refine wpList_load_whole_st Mr.isRec rfl _ rfl gM (by with_unfolding_all exact rfl) _ _ (Mr.len _) M3.out ?_) | (with_reducible refine wpList_store_whole rfl 27 _ _ rfl gO (TT.m.raw e t).enc.toArray (by with_unfolding_all exact rfl) (by with_unfolding_all exact rfl) _ _ O3.out (Mr.size _) rfl (Mr.one _) ?_))
            intro y4 q4 x4 z4
            have O4 : Hid (Mr.At y4 gO (TT.m.raw e t)) := Lib.hid x4
            have L4 := Lib.hid (L3.out.far q4 NOB.out).lists
            have B4 := Lib.hid (B3.out.grown q4 B3.out.size (fun k hk => by injection hk with hk; have := NO0.out; omega))
            clear q4 x4 z4 O3 B3 L3 M3
            go_wp2
            exact bodyPost_ret (results_st_tmp Mr.isRec rfl _ _ _ _ _ rfl rfl O4.out) rfl ⟨e, t, by rw [HV.out]; rfl, by rw [HV.out]; exact L4.out, B4.out⟩
          | false =>
            have HV : Hid (RM = (Mg.zero, 11)) := Lib.hid (by rw [HT.out]; simp)
            go_wp2_with (first | (with_reducible refine wpList_build_rec rfl 27 _ rfl #[] (by with_unfolding_all exact rfl) Mr.zero.enc.toArray (by kernel_rfl) ?_) | (with_reducible refine wpList_store_whole rfl 27 _ _ rfl gO Mr.zero.enc.toArray (by with_unfolding_all exact rfl) (by with_unfolding_all exact rfl) _ _ O3.out (Mr.size _) rfl (Mr.one _) ?_))
            intro y4 q4 x4 z4
            have O4 : Hid (Mr.At y4 gO Mr.zero) := Lib.hid x4
            have B4 := Lib.hid (B3.out.grown q4 B3.out.size (fun k hk => by injection hk with hk; have := NO0.out; omega))
            clear q4 x4 z4 O3 B3 L3 M3
            go_wp2
            exact bodyPost_ret (results_st_tmp Mr.isRec rfl _ _ _ _ _ rfl rfl O4.out) rfl ⟨Row.nil, Row.nil, by rw [HV.out]; rfl, by rw [HV.out]; exact Lists.zero _, B4.out⟩
      · have HV : Hid (RM = (Mg.zero, X)) := Lib.hid (by rw [HT.out, if_pos h0])
        have e1 : (X == 0) = false := by simpa using h0
        have e2 : (X != 0) = true := by simpa using h0
        go_wp2_with (first | (with_reducible refine wpList_build_rec rfl 27 _ rfl #[] (by with_unfolding_all exact rfl) Mr.zero.enc.toArray (by kernel_rfl) ?_) | (with_reducible refine wpList_store_whole rfl 27 _ _ rfl gO Mr.zero.enc.toArray (by with_unfolding_all exact rfl) (by with_unfolding_all exact rfl) _ _ O1.out (Mr.size _) rfl (Mr.one _) ?_))
        intro y3 q3 x3 z3
        have O3 : Hid (Mr.At y3 gO Mr.zero) := Lib.hid x3
        have B3 := Lib.hid (B1.out.grown q3 B1.out.size (fun k hk => by injection hk with hk; have := NO0.out; omega))
        clear q3 x3 z3 O1 B1
        go_wp2
        exact bodyPost_ret (results_st_tmp Mr.isRec rfl _ _ _ _ _ rfl rfl O3.out) rfl ⟨Row.nil, Row.nil, by rw [HV.out]; rfl, by rw [HV.out]; exact Lists.zero _, B3.out⟩
  · clear hS
    rw [if_pos (by rfl)]
    refine wp_alloc_row 27 rfl Mr.zero.enc.toArray Mr.zero_is ?_
    intro v10 b10 x10 z10
    obtain ⟨gM, hgM⟩ : ∃ q, q = v4.heap.size := ⟨_, rfl⟩
    have NVM := Lib.hid (show gV < gM from by rw [hgM]; exact V4.out.lt)
    have NM0 := Lib.hid (show w.heap.size ≤ gM from by rw [hgM]; exact B4.out.size)
    rw [← hgM] at x10 ⊢
    have M10 : Hid (Mr.At v10 gM Mr.zero) := Lib.hid x10
    have R10 := Lib.hid (R4.out.below b10)
    have V10 : Hid (Whole v10 gV 66 #[.pointer (some ⟨gR, 0, none⟩)]) := Lib.hid (Whole.below V4.out b10 V4.out.lt)
    have O10 : Hid (Mr.At v10 gO Mr.zero) := Lib.hid (Whole.below O4.out b10 O4.out.lt)
    have B10 := Lib.hid (B4.out.trans (b10.mono B4.out.size))
    have hS : v10.cell? ⟨gV, 0, none⟩ = some (.pointer (some ⟨gR, 0, none⟩)) ∧ v10.cell? ⟨gR, 0, none⟩ = some (.pointer (some ⟨gP, 0, none⟩)) := ⟨V10.out.at_ 0, R10.out.rdr.at_ 0⟩
    refine hK.out _ _ hS ?_
    clear hK K' b10 x10 z10 hgM R4 V4 O4 B4
    refine regS_do (i := 4) rfl (by kernel_rfl) (fun K' hK => ?_)
    clear hS
    go_simp
    refine (CN1.out v10 R10.out.rd).mono ?_
    rintro x v11 ⟨rfl, hr11, hg11⟩
    have R11 := Lib.hid (R10.out.read hr11 hg11)
    have V11 : Hid (Whole v11 gV 66 #[.pointer (some ⟨gR, 0, none⟩)]) := Lib.hid (grown_far V10.out hg11 (by have := NRV.out; have := NPR.out; omega))
    have O11 : Hid (Mr.At v11 gO Mr.zero) := Lib.hid (grown_far O10.out hg11 (by have := NOP.out; omega))
    have B11 := Lib.hid (B10.out.grown hg11 B10.out.size (fun k hk => by injection hk with hk; have := NP0.out; omega))
    have M11 : Hid (Mr.At v11 gM Mr.zero) := Lib.hid (grown_far M10.out hg11 (by have := NVM.out; have := NRV.out; have := NPR.out; omega))
    have hS : v11.cell? ⟨gV, 0, none⟩ = some (.pointer (some ⟨gR, 0, none⟩)) ∧ v11.cell? ⟨gR, 0, none⟩ = some (.pointer (some ⟨gP, 0, none⟩)) := ⟨V11.out.at_ 0, R11.out.rdr.at_ 0⟩
    refine hK.out _ _ hS ?_
    clear hK K' hr11 hg11 R10 V10 O10 B10 M10
    refine regS_take (i := 5) (v := ?_) rfl (by kernel_rfl) (by kernel_rfl) (by kernel_rfl) (fun _ _ _ h => h) (by rfl) hS ?hy5 ?_
    case hy5 => intro w' hw'; obtain ⟨ca, cb⟩ := hw'; go_simp; (try with_reducible rfl)
    simp only [Act.put, List.setIfInBounds_toArray, List.set_cons_zero, List.set_cons_succ]
    refine regS_do (i := 10) rfl (by kernel_rfl) (fun K' hK => ?_)
    clear hS
    go_simp
    refine (CN2.out v11 R11.out.rd).mono ?_
    rintro x v12 ⟨rfl, hr12, hg12⟩
    have R12 := Lib.hid (R11.out.read hr12 hg12)
    have V12 : Hid (Whole v12 gV 66 #[.pointer (some ⟨gR, 0, none⟩)]) := Lib.hid (grown_far V11.out hg12 (by have := NRV.out; have := NPR.out; omega))
    have O12 : Hid (Mr.At v12 gO Mr.zero) := Lib.hid (grown_far O11.out hg12 (by have := NOP.out; omega))
    have B12 := Lib.hid (B11.out.grown hg12 B11.out.size (fun k hk => by injection hk with hk; have := NP0.out; omega))
    have M12 : Hid (Mr.At v12 gM Mr.zero) := Lib.hid (grown_far M11.out hg12 (by have := NVM.out; have := NRV.out; have := NPR.out; omega))
    have hS : v12.cell? ⟨gV, 0, none⟩ = some (.pointer (some ⟨gR, 0, none⟩)) ∧ v12.cell? ⟨gR, 0, none⟩ = some (.pointer (some ⟨gP, 0, none⟩)) := ⟨V12.out.at_ 0, R12.out.rdr.at_ 0⟩
    refine hK.out _ _ hS ?_
    clear hK K' hr12 hg12 R11 V11 O11 B11 M11
    refine regS_take (i := 11) (v := ?_) rfl (by kernel_rfl) (by kernel_rfl) (by kernel_rfl) (fun _ _ _ h => h) (by rfl) hS ?hy11 ?_
    case hy11 => intro w' hw'; obtain ⟨ca, cb⟩ := hw'; go_simp; (try with_reducible rfl)
    simp only [Act.put, List.setIfInBounds_toArray, List.set_cons_zero, List.set_cons_succ]
    refine regS_take (i := 12) (v := .agg ((headM (c.toNat : Int) (rid : Int)).raw Row.nil Row.nil).enc.toArray) rfl (by kernel_rfl) (by kernel_rfl) (by kernel_rfl) (fun _ _ _ h => h) (by rfl) hS ?hy12 ?_
    case hy12 => intro w' hw'; exact exec_build_rec 27 _ rfl #[(0, .int .i64 (c.toNat : Int)), (1, .int .i64 (rid : Int))] (by with_unfolding_all exact rfl) _ (by kernel_rfl) w'
    simp only [Act.put, List.setIfInBounds_toArray, List.set_cons_zero, List.set_cons_succ]
    refine regS_do (i := 14) rfl (by kernel_rfl) (fun K' hK => ?_)
    clear hS
    rw [if_pos (by rfl)]
    refine wp_store_whole 27 _ _ rfl gM ((headM (c.toNat : Int) (rid : Int)).raw Row.nil Row.nil).enc.toArray (by with_unfolding_all exact rfl) (by with_unfolding_all exact rfl) _ _ M12.out (Mr.size _) rfl (Mr.one _) ?_
    intro vz qz xz zz
    have MZ : Hid (Mr.At vz gM ((headM (c.toNat : Int) (rid : Int)).raw Row.nil Row.nil)) := Lib.hid xz
    have RZ := Lib.hid (R12.out.keeps (F := fun i => i = gM) (Keeps.of_grown qz (fun k e => .inl (by injection e with e; exact e.symm))) (by have := NVM.out; have := NRV.out; omega) (by have := NVM.out; have := NRV.out; have := NPR.out; omega))
    have VZ : Hid (Whole vz gV 66 #[.pointer (some ⟨gR, 0, none⟩)]) := Lib.hid (grown_far V12.out qz (by have := NVM.out; omega))
    have OZ : Hid (Mr.At vz gO Mr.zero) := Lib.hid (grown_far O12.out qz (by have := NVM.out; have := NRV.out; have := NPR.out; have := NOP.out; omega))
    have BZ := Lib.hid (B12.out.grown qz B12.out.size (fun k hk => by injection hk with hk; have := NM0.out; omega))
    have hS : vz.cell? ⟨gV, 0, none⟩ = some (.pointer (some ⟨gR, 0, none⟩)) ∧ vz.cell? ⟨gR, 0, none⟩ = some (.pointer (some ⟨gP, 0, none⟩)) := ⟨VZ.out.at_ 0, RZ.out.rdr.at_ 0⟩
    refine hK.out _ _ hS ?_
    clear hK K' qz xz zz M12 R12 V12 O12 B12
    refine regS_end (by kernel_rfl) ?_
    clear hS
    obtain ⟨base, hbase⟩ : ∃ q, q = vz.heap.size := ⟨_, rfl⟩
    have KB : Hid (Tkb w gR gP gM base gV gO) := Lib.hid (by
      have h1 := NVM.out
      have h2 := NRV.out
      have h3 := NPR.out
      have h4 := NOP.out
      have h5 := MZ.out.lt
      have h6 := NP0.out
      have h7 := NM0.out
      exact ⟨by omega, by omega, by omega, by omega, by omega, by omega, by omega, by omega, ⟨by omega, by omega, by omega⟩, ⟨by omega, by omega, by omega⟩⟩)
    have I0 : Tks w gR gP gM base gV gO (takeT T0 []) vz := by
      rw [HQ.out]
      exact ⟨Row.nil, Row.nil, MZ.out, ⟨OwnRows.nil _ _ _ _, OwnRows.nil _ _ _ _⟩, RZ.out, BZ.out, Nat.le_of_eq hbase, VZ.out, OZ.out⟩
    have cM : vz.cell? ⟨gM, 0, none⟩ = some (.int .i64 (c.toNat : Int)) := MZ.out.at_ 0
    have CE := Lib.hid (each_any 47 enter_take #[.pointer (some ⟨gV, 0, none⟩), .pointer (some ⟨gM, 0, none⟩)] (c.toNat : Int) (fun fs w' => Tks w gR gP gM base gV gO (takeT T0 fs) w') (fun fs f w' hs hi => take1_any w gR gP gM base gV gO KB.out T0 _ fs f w' hs hi) vz I0)
    rw [← HTT.out] at CE
    clear I0 hbase MZ RZ VZ OZ BZ
    go_wp2_with fail
    refine CE.out.mono ?_
    rintro x y1 ⟨rfl, e, t, hm, hl, hr, hlow, hB, hv, hO⟩
    clear CE cM
    have M1 := Lib.hid hm
    have L1 := Lib.hid hl
    have R1 := Lib.hid hr
    have B1 := Lib.hid hlow
    have V1 := Lib.hid hv
    have O1 := Lib.hid hO
    have cV : y1.cell? ⟨gV, 0, none⟩ = some (.pointer (some ⟨gR, 0, none⟩)) := hv.at_ 0
    have cR : y1.cell? ⟨gR, 2, none⟩ = some (.bool TT.bad) := hr.rdr.at_ 2
    have CX := Lib.hid (rdrEnd_any gR gP TT.r TT.big TT.bad y1 hr)
    rw [show (if TT.big = true then 3 else endE TT.r) = endX TT from rfl] at CX
    have NO0 := Lib.hid (show w.heap.size ≤ gO from M_O.out)
    have NOB := Lib.hid (show gO < base from by have := KB.out.m; have := NVM.out; have := NRV.out; have := NPR.out; have := NOP.out; omega)
    have CR := Lib.hid (msRight_any TT.m e t HS.out.1 HS.out.2 y1 hl.lists)
    obtain ⟨X, hX⟩ : ∃ X, X = endX TT := ⟨_, rfl⟩
    rw [← hX] at CX HT
    obtain ⟨qr, hqr⟩ : ∃ q, q = rightM TT.m := ⟨_, rfl⟩
    rw [← hqr] at CR HT
    obtain ⟨qb, hqb⟩ : ∃ q, q = TT.bad := ⟨_, rfl⟩
    rw [← hqb] at cR HT
    clear hm hl hr hlow hB hv hO hX hqr hqb
    go_wp2_with fail
    refine CX.out.mono ?_
    rintro x y2 ⟨rfl, rfl⟩
    clear CX
    by_cases h0 : X = 0
    · subst h0
      cases qb with
      | true =>
        have HV : Hid (RM = (Mg.zero, 11)) := Lib.hid (by rw [HT.out]; simp)
        go_wp2_with (first | (with_reducible refine wpList_build_rec rfl 27 _ rfl #[] (by with_unfolding_all exact rfl) Mr.zero.enc.toArray (by kernel_rfl) ?_) | (with_reducible refine wpList_store_whole rfl 27 _ _ rfl gO Mr.zero.enc.toArray (by with_unfolding_all exact rfl) (by with_unfolding_all exact rfl) _ _ O1.out (Mr.size _) rfl (Mr.one _) ?_))
        intro y3 q3 x3 z3
        have O3 : Hid (Mr.At y3 gO Mr.zero) := Lib.hid x3
        have B3 := Lib.hid (B1.out.grown q3 B1.out.size (fun k hk => by injection hk with hk; have := NO0.out; omega))
        clear q3 x3 z3 O1 B1
        go_wp2
        exact bodyPost_ret (results_st_tmp Mr.isRec rfl _ _ _ _ _ rfl rfl O3.out) rfl ⟨Row.nil, Row.nil, by rw [HV.out]; rfl, by rw [HV.out]; exact Lists.zero _, B3.out⟩
      | false =>
        obtain ⟨m0, m1, m2, m3, m4, m5, m6, m7, m8, m9, m10⟩ := Mr.At.all M1.out
        go_wp2_with fail
        refine CR.out.mono ?_
        rintro x y3 ⟨rfl, b3⟩
        have M3 : Hid (Mr.At y3 gM (TT.m.raw e t)) := Lib.hid (Whole.below M1.out b3 M1.out.lt)
        have O3 : Hid (Mr.At y3 gO Mr.zero) := Lib.hid (Whole.below O1.out b3 O1.out.lt)
        have L3 := Lib.hid (L1.out.below b3)
        have B3 := Lib.hid (B1.out.trans (b3.mono B1.out.size))
        clear b3 CR M1 O1 L1 B1 V1 R1 m0 m1 m2 m3 m4 m5 m6 m7 m8 m9 m10
        cases qr with
        | true =>
          have HV : Hid (RM = (TT.m, 0)) := Lib.hid (by rw [HT.out]; simp)
          go_wp2_with (first | (with_reducible refine wpList_load_whole_st Mr.isRec rfl _ rfl gM (by with_unfolding_all exact rfl) _ _ (Mr.len _) M3.out ?_) | (with_reducible refine wpList_store_whole rfl 27 _ _ rfl gO (TT.m.raw e t).enc.toArray (by with_unfolding_all exact rfl) (by with_unfolding_all exact rfl) _ _ O3.out (Mr.size _) rfl (Mr.one _) ?_))
          intro y4 q4 x4 z4
          have O4 : Hid (Mr.At y4 gO (TT.m.raw e t)) := Lib.hid x4
          have L4 := Lib.hid (L3.out.far q4 NOB.out).lists
          have B4 := Lib.hid (B3.out.grown q4 B3.out.size (fun k hk => by injection hk with hk; have := NO0.out; omega))
          clear q4 x4 z4 O3 B3 L3 M3
          go_wp2
          exact bodyPost_ret (results_st_tmp Mr.isRec rfl _ _ _ _ _ rfl rfl O4.out) rfl ⟨e, t, by rw [HV.out]; rfl, by rw [HV.out]; exact L4.out, B4.out⟩
        | false =>
          have HV : Hid (RM = (Mg.zero, 11)) := Lib.hid (by rw [HT.out]; simp)
          go_wp2_with (first | (with_reducible refine wpList_build_rec rfl 27 _ rfl #[] (by with_unfolding_all exact rfl) Mr.zero.enc.toArray (by kernel_rfl) ?_) | (with_reducible refine wpList_store_whole rfl 27 _ _ rfl gO Mr.zero.enc.toArray (by with_unfolding_all exact rfl) (by with_unfolding_all exact rfl) _ _ O3.out (Mr.size _) rfl (Mr.one _) ?_))
          intro y4 q4 x4 z4
          have O4 : Hid (Mr.At y4 gO Mr.zero) := Lib.hid x4
          have B4 := Lib.hid (B3.out.grown q4 B3.out.size (fun k hk => by injection hk with hk; have := NO0.out; omega))
          clear q4 x4 z4 O3 B3 L3 M3
          go_wp2
          exact bodyPost_ret (results_st_tmp Mr.isRec rfl _ _ _ _ _ rfl rfl O4.out) rfl ⟨Row.nil, Row.nil, by rw [HV.out]; rfl, by rw [HV.out]; exact Lists.zero _, B4.out⟩
    · have HV : Hid (RM = (Mg.zero, X)) := Lib.hid (by rw [HT.out, if_pos h0])
      have e1 : (X == 0) = false := by simpa using h0
      have e2 : (X != 0) = true := by simpa using h0
      go_wp2_with (first | (with_reducible refine wpList_build_rec rfl 27 _ rfl #[] (by with_unfolding_all exact rfl) Mr.zero.enc.toArray (by kernel_rfl) ?_) | (with_reducible refine wpList_store_whole rfl 27 _ _ rfl gO Mr.zero.enc.toArray (by with_unfolding_all exact rfl) (by with_unfolding_all exact rfl) _ _ O1.out (Mr.size _) rfl (Mr.one _) ?_))
      intro y3 q3 x3 z3
      have O3 : Hid (Mr.At y3 gO Mr.zero) := Lib.hid x3
      have B3 := Lib.hid (B1.out.grown q3 B1.out.size (fun k hk => by injection hk with hk; have := NO0.out; omega))
      clear q3 x3 z3 O1 B1
      go_wp2
      exact bodyPost_ret (results_st_tmp Mr.isRec rfl _ _ _ _ _ rfl rfl O3.out) rfl ⟨Row.nil, Row.nil, by rw [HV.out]; rfl, by rw [HV.out]; exact Lists.zero _, B3.out⟩

theorem msTake_any (A : Option Addr) (n cap : Nat) (b : List UInt8) (w : World) (h : BytesAt w (.slice A n cap) b) :
    Calls Try.prog 19 #[.slice A n cap] w fun x w' => ∃ e t, x = .returned (.tuple #[((takeM b).1.raw e t).val, .int .i64 (takeM b).2]) ∧ Lists w' e t (takeM b).1 ∧ Below w.heap.size w w' := by
  cases b with
  | nil =>
    have hn : n = 0 := by have := h.size.1; simpa using this
    subst hn
    exact msTake_none cap A w
  | cons c r =>
    cases hk : knownK (c.toNat : Int) with
    | false => exact msTake_kind A n cap c r w h hk
    | true => exact msTake_some A n cap c r w h hk
end Go.Proofs.Ytnjeopgcpffkcaa
