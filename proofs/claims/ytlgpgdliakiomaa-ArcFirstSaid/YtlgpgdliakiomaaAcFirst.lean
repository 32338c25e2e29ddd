/- The statement ArcFirst: the nearest place is the first one in order; in order ways rise; and what is ordered once more stays. For every input. -/
import Derived.Test.YtlgpgdliakiomaaAcA
namespace Go.Proofs.Ytlgpgdliakiomaa
open Go.RowKit Go.ChangeShapes Go.WideShapes Go.ChangeAt

theorem rising_at (a : Nat) (l : List Nat) (h : Rising a l) (i : Nat) (x y : Nat) (hx : l[i]? = some x) (hy : l[i + 1]? = some y) : distN a x ≤ distN a y := by
  obtain ⟨h1, rfl⟩ := List.getElem?_eq_some_iff.1 hx
  obtain ⟨h2, rfl⟩ := List.getElem?_eq_some_iff.1 hy
  exact List.pairwise_iff_getElem.1 h i (i + 1) h1 h2 (by omega)

set_option maxRecDepth 100000 in
set_option maxHeartbeats 4000000 in
theorem first_core (H : ArcIs) (A : Option Addr) (n cap a : Nat) (ids : List Nat) (ha : a < 18446744073709551616) (hids : ∀ x ∈ ids, x < 18446744073709551616) (w : World) (h : UsAt w (.slice A n cap) ids) :
    Calls Try.prog 6 #[.int .u64 (a : Int), .slice A n cap] w fun e w' => e = .returned (.bool true) ∧ Below w.heap.size w w' := by
  have W := Lib.hid (works9 H w)
  by_cases hg : 100 < n
  · have d0 : decide ((100 : Int) < (n : Int)) = true := by simp; omega
    clear h
    go_enter Try.func6, Try.ntmps6
    go_wp2_with fail
    refine W.out.mono ?_
    rintro e w1 ⟨rfl, b1⟩
    have B1 := Lib.hid b1
    clear b1
    go_wp2
    go_ret
    exact ⟨rfl, B1.out⟩
  · have d0 : decide ((100 : Int) < (n : Int)) = false := by simp; omega
    have HN := Lib.hid (show n ≤ 100 by omega)
    have U := Lib.hid h
    have HL := Lib.hid h.size.1
    have HA := Lib.hid ha
    have HI := Lib.hid hids
    have OL := Lib.hid (orderL_length a ids)
    have OM := Lib.hid (show ∀ x ∈ orderL a ids, x < 18446744073709551616 from fun x hx => hids x ((orderL_mem a ids x).1 hx))
    have OR := Lib.hid (orderTo_rising a ids ids.length)
    have OS := Lib.hid (orderL_same a ids)
    have FN := Lib.hid (first_nearest a ids ha hids)
    have CO := fun (w : World) (hu : UsAt w (.slice A n cap) ids) => Lib.hid (H.order A n cap a ids w ha hids (by omega) hu)
    have HR : Hid (Rising a (orderL a ids)) := Lib.hid OR.out
    obtain ⟨L, hL⟩ : ∃ L, L = orderL a ids := ⟨_, rfl⟩
    simp only [← hL] at OL OM OS FN HR CO
    clear h hg ha hids OR hL
    go_enter Try.func6, Try.ntmps6
    go_wp2_with fail
    refine W.out.mono ?_
    rintro e w1 ⟨rfl, b1⟩
    have B1 := Lib.hid b1
    clear b1 W
    have C := CO w1 (U.out.below B1.out)
    go_wp2_with fail
    refine C.out.mono ?_
    rintro e w2 ⟨v2, rfl, y2, b2⟩
    obtain ⟨A2, c2, rfl, -, -⟩ := id y2
    have e2 : L.length = n := by rw [OL.out, HL.out]
    rw [e2] at y2 ⊢
    have Y2 := Lib.hid y2
    have B2 := Lib.hid (B1.out.trans (b2.mono B1.out.size))
    have LN := Lib.hid e2
    clear y2 b2 C B1 e2 CO
    have C := Lib.hid (H.nearest A n cap a ids w2 HA.out HI.out (by have := HN.out; omega) (U.out.below B2.out))
    by_cases h0 : n = 0
    · have hids0 : ids = [] := List.eq_nil_of_length_eq_zero (by rw [← HL.out, h0])
      have ek : nearI a ids = -1 := by rw [hids0]; rfl
      rw [ek] at C
      have d1 : ((n : Int) == 0) = true := by simp; omega
      clear hids0 ek h0
      go_wp2_with fail
      refine C.out.mono ?_
      rintro e w3 ⟨rfl, b3⟩
      have B3 := Lib.hid (B2.out.trans (b3.mono B2.out.size))
      clear b3 C
      go_wp2
      go_ret
      exact ⟨rfl, B3.out⟩
    · have d1 : ((n : Int) == 0) = false := by simp; omega
      obtain ⟨k, hk⟩ : ∃ k, nearL a ids = some k := by
        cases e : nearL a ids with
        | none =>
          have := (nearL_none a ids).1 e
          have h1 := HL.out
          rw [this] at h1
          exact absurd h1 h0
        | some k => exact ⟨k, rfl⟩
      have ek : nearI a ids = (k : Int) := by rw [nearI, hk]
      have hkl := (nearL_spec a ids k hk).1
      have hf := FN.out k hk
      rw [ek] at C
      obtain ⟨z, hz⟩ : ∃ z, ids[k]? = some z := ⟨_, List.getElem?_eq_getElem hkl⟩
      have hz0 : L[0]? = some z := by
        have e1 : ids.getD k 0 = z := by simp [List.getD, hz]
        have h1 : 0 < L.length := by rw [LN.out]; omega
        rw [e1] at hf
        rw [← hf]
        simp [List.getD, List.getElem?_eq_getElem h1]
      obtain ⟨b1, o1, rfl, hb1, hc1⟩ := U.out.spots (by intro e; rw [e] at hkl; simp at hkl)
      obtain ⟨b2, o2, rfl, hb2, hc2⟩ := Y2.out.spots (by intro e; rw [e] at hz0; simp at hz0)
      have cz1 := hc1 k z hz
      have cz2 := hc2 0 z hz0
      have CZ1 := Lib.hid (And.intro hb1 cz1)
      have CZ2 := Lib.hid (And.intro hb2 cz2)
      have HC2 := Lib.hid hc2
      have HKN := Lib.hid (show k < n by rw [HL.out]; exact hkl)
      clear hk ek hkl hf hz hz0 hb1 hc1 hb2 hc2 cz1 cz2 h0
      go_wp2_with fail
      refine C.out.mono ?_
      rintro e w3 ⟨rfl, b3⟩
      have D3 := Lib.hid b3
      clear b3 C
      go_wp2_with fail
      go_loopw [7] (fun i wr => ∃ j : Nat, j + 1 ≤ n ∧ i = .int .i64 ((j + 1 : Nat) : Int) ∧ Below w2.heap.size w2 wr) (fun i _ => n - (intOf i).toNat)
      case atStart => exact ⟨0, by have := HKN.out; omega, rfl, D3.out⟩
      case round =>
        obtain ⟨j, hj, rfl, hb⟩ := hrel
        have HB := Lib.hid hb
        clear hb D3
        obtain ⟨i, hi⟩ : ∃ i, i = j + 1 := ⟨_, rfl⟩
        rw [← hi] at hj ⊢
        by_cases hlt : i < n
        · have dk : decide ((i : Int) < (n : Int)) = true := by simp; omega
          obtain ⟨x, hx⟩ : ∃ x, L[j]? = some x := ⟨_, List.getElem?_eq_getElem (by rw [LN.out]; omega)⟩
          obtain ⟨y, hy⟩ : ∃ y, L[i]? = some y := ⟨_, List.getElem?_eq_getElem (by rw [LN.out]; omega)⟩
          have hle := rising_at a L HR.out j x y hx (by rw [← hi]; exact hy)
          have D1 := fun w => Lib.hid (H.dist a x w HA.out (OM.out x (List.mem_of_getElem? hx)))
          have D2 := fun w => Lib.hid (H.dist a y w HA.out (OM.out y (List.mem_of_getElem? hy)))
          have CX : Hid (∀ w', Below w2.heap.size w2 w' → w'.cell? ⟨b2, o2 + j, none⟩ = some (.int .u64 (x : Int))) := Lib.hid fun w' hw => (hw.cell (p := ⟨b2, o2 + j, none⟩) CZ2.out.1).trans (HC2.out j x hx)
          have CY : Hid (∀ w', Below w2.heap.size w2 w' → w'.cell? ⟨b2, o2 + i, none⟩ = some (.int .u64 (y : Int))) := Lib.hid fun w' hw => (hw.cell (p := ⟨b2, o2 + i, none⟩) CZ2.out.1).trans (HC2.out i y hy)
          obtain ⟨dx, hdx⟩ : ∃ dx, dx = distN a x := ⟨_, rfl⟩
          obtain ⟨dy, hdy⟩ : ∃ dy, dy = distN a y := ⟨_, rfl⟩
          rw [← hdx, ← hdy] at hle
          simp only [← hdx] at D1
          simp only [← hdy] at D2
          have t1 : IntKind.i64.wrap ((i : Int) - 1) = (j : Int) := by have := HN.out; rw [IntWalk.i64_in _ (by omega)]; omega
          have tk : IntKind.i64.wrap ((i : Int) + 1) = (i : Int) + 1 := by have := HN.out; rw [IntWalk.i64_in _ (by omega)]
          have d3 : decide ((dy : Int) < (dx : Int)) = false := by simp; omega
          have d4 : decide (dy < dx) = false := by simp; omega
          have ji : (i : Int) < (n : Int) := by omega
          have jj : (j : Int) < (n : Int) := by omega
          have HIJ := Lib.hid (And.intro hi hlt)
          clear hx hy hdx hdy hle hi hj
          go_wp2_with fail
          refine regS_begin (fun w' => Below w2.heap.size w2 w' ∧ w'.cell? ⟨b2, o2 + j, none⟩ = some (.int .u64 (x : Int)) ∧ w'.cell? ⟨b2, o2 + i, none⟩ = some (.int .u64 (y : Int))) (by kernel_rfl) ⟨HB.out.drew, CX.out _ HB.out.drew, CY.out _ HB.out.drew⟩ ?_
          have hS : Below w2.heap.size w2 wr.drew ∧ wr.drew.cell? ⟨b2, o2 + j, none⟩ = some (.int .u64 (x : Int)) ∧ wr.drew.cell? ⟨b2, o2 + i, none⟩ = some (.int .u64 (y : Int)) := ⟨HB.out.drew, CX.out _ HB.out.drew, CY.out _ HB.out.drew⟩
          obtain ⟨wd, hwd⟩ : ∃ wd, wd = wr.drew := ⟨_, rfl⟩
          rw [← hwd] at hS ⊢
          clear hwd HB
          refine regS_take (i := 0) (v := ?_) rfl (by kernel_rfl) (by kernel_rfl) (by kernel_rfl) (fun _ _ _ h => h) (by rfl) hS ?hy0 ?_
          case hy0 => intro w' hw'; go_simp; (try with_reducible rfl)
          simp only [Act.put, List.setIfInBounds_toArray, List.set_cons_zero, List.set_cons_succ]
          refine regS_take (i := 1) (v := ?_) rfl (by kernel_rfl) (by kernel_rfl) (by kernel_rfl) (fun _ _ _ h => h) (by rfl) hS ?hy1 ?_
          case hy1 => intro w' hw'; go_simp; (try with_reducible rfl)
          simp only [Act.put, List.setIfInBounds_toArray, List.set_cons_zero, List.set_cons_succ]
          refine regS_take (i := 2) (v := ?_) rfl (by kernel_rfl) (by kernel_rfl) (by kernel_rfl) (fun _ _ _ h => h) (by rfl) hS ?hy2 ?_
          case hy2 => intro w' hw'; go_simp; (try with_reducible rfl)
          simp only [Act.put, List.setIfInBounds_toArray, List.set_cons_zero, List.set_cons_succ]
          refine regS_take (i := 3) (v := ?_) rfl (by kernel_rfl) (by kernel_rfl) (by kernel_rfl) (fun _ _ _ h => h) (by rfl) hS ?hy3 ?_
          case hy3 => intro w' hw'; go_simp; (try with_reducible rfl)
          simp only [Act.put, List.setIfInBounds_toArray, List.set_cons_zero, List.set_cons_succ]
          refine regS_take (i := 4) (v := ?_) rfl (by kernel_rfl) (by kernel_rfl) (by kernel_rfl) (fun _ _ _ h => h) (by rfl) hS ?hy4 ?_
          case hy4 => intro w' hw'; go_simp; (try with_reducible rfl)
          simp only [Act.put, List.setIfInBounds_toArray, List.set_cons_zero, List.set_cons_succ]
          refine regS_take (i := 5) (v := ?_) rfl (by kernel_rfl) (by kernel_rfl) (by kernel_rfl) (fun _ _ _ h => h) (by rfl) hS ?hy5 ?_
          case hy5 => intro w' hw'; go_simp; (try with_reducible rfl)
          simp only [Act.put, List.setIfInBounds_toArray, List.set_cons_zero, List.set_cons_succ]
          refine regS_take (i := 7) (v := ?_) rfl (by kernel_rfl) (by kernel_rfl) (by kernel_rfl) (fun _ _ _ h => h) (by rfl) hS ?hy7 ?_
          case hy7 => intro w' hw'; go_simp; (try with_reducible rfl)
          simp only [Act.put, List.setIfInBounds_toArray, List.set_cons_zero, List.set_cons_succ]
          refine regS_take (i := 8) (v := ?_) rfl (by kernel_rfl) (by kernel_rfl) (by kernel_rfl) (fun _ _ _ h => h) (by rfl) hS ?hy8 ?_
          case hy8 => intro w' hw'; go_simp; (try with_reducible rfl)
          simp only [Act.put, List.setIfInBounds_toArray, List.set_cons_zero, List.set_cons_succ]
          refine regS_take (i := 9) (v := ?_) rfl (by kernel_rfl) (by kernel_rfl) (by kernel_rfl) (fun _ _ _ h => h) (by rfl) hS ?hy9 ?_
          case hy9 => intro w' hw'; go_simp; (try with_reducible rfl)
          simp only [Act.put, List.setIfInBounds_toArray, List.set_cons_zero, List.set_cons_succ]
          refine regS_take (i := 10) (v := ?_) rfl (by kernel_rfl) (by kernel_rfl) (by kernel_rfl) (fun _ _ _ h => h) (by rfl) hS ?hy10 ?_
          case hy10 => intro w' hw'; go_simp; (try with_reducible rfl)
          simp only [Act.put, List.setIfInBounds_toArray, List.set_cons_zero, List.set_cons_succ]
          refine regS_take (i := 11) (v := ?_) rfl (by kernel_rfl) (by kernel_rfl) (by kernel_rfl) (fun _ _ _ h => h) (by rfl) hS ?hy11 ?_
          case hy11 => intro w' hw'; go_simp; (try with_reducible rfl)
          simp only [Act.put, List.setIfInBounds_toArray, List.set_cons_zero, List.set_cons_succ]
          refine regS_do (i := 6) rfl (by kernel_rfl) (fun K' hK => ?_)
          go_simp
          refine (D1 wd).out.mono ?_
          rintro e w6 ⟨rfl, b6⟩
          have s2 := hS.1.trans (b6.mono hS.1.size)
          refine hK.out _ _ ⟨s2, CX.out _ s2, CY.out _ s2⟩ ?_
          clear hK K' hS b6
          refine regS_do (i := 12) rfl (by kernel_rfl) (fun K' hK => ?_)
          go_simp
          refine (D2 w6).out.mono ?_
          rintro e w7 ⟨rfl, b7⟩
          have s3 := s2.trans (b7.mono s2.size)
          refine hK.out _ _ ⟨s3, CX.out _ s3, CY.out _ s3⟩ ?_
          clear hK K' s2 b7
          have hS : Below w2.heap.size w2 w7 ∧ w7.cell? ⟨b2, o2 + j, none⟩ = some (.int .u64 (x : Int)) ∧ w7.cell? ⟨b2, o2 + i, none⟩ = some (.int .u64 (y : Int)) := ⟨s3, CX.out _ s3, CY.out _ s3⟩
          refine regS_take (i := 13) (v := ?_) rfl (by kernel_rfl) (by kernel_rfl) (by kernel_rfl) (fun _ _ _ h => h) (by rfl) hS ?hy13 ?_
          case hy13 => intro w' hw'; go_simp; (try with_reducible rfl)
          simp only [Act.put, List.setIfInBounds_toArray, List.set_cons_zero, List.set_cons_succ]
          refine regS_end (by kernel_rfl) ?_
          have BZ := Lib.hid s3
          clear hS s3 CX CY D1 D2
          go_wp2
          exact ⟨⟨i, by have := HIJ.out; omega, by go_num, BZ.out⟩, by have := HIJ.out; simp [intOf] <;> omega⟩
        · have hin : i = n := by omega
          subst hin
          have dk : decide ((i : Int) < (i : Int)) = false := by simp
          have d5 : decide ((0 : Int) ≤ (k : Int)) = true := by simp
          have d6 : decide ((k : Int) < (i : Int)) = true := by have := HKN.out; simp; omega
          have jk : (k : Int) < (i : Int) := by have := HKN.out; omega
          have j0 : (0 : Int) < (i : Int) := by have := HKN.out; omega
          have j00 : 0 < i := by have := HKN.out; omega
          have C1 : Hid (∀ w', Below w2.heap.size w2 w' → w'.cell? ⟨b1, o1 + k, none⟩ = some (.int .u64 (z : Int))) := Lib.hid fun w' hw => ((B2.out.trans (hw.mono B2.out.size)).cell (p := ⟨b1, o1 + k, none⟩) CZ1.out.1).trans CZ1.out.2
          have C2 : Hid (∀ w', Below w2.heap.size w2 w' → w'.cell? ⟨b2, o2, none⟩ = some (.int .u64 (z : Int))) := Lib.hid fun w' hw => (hw.cell (p := ⟨b2, o2 + 0, none⟩) CZ2.out.1).trans CZ2.out.2
          clear hi hj hlt
          go_wp2_with fail
          refine regS_begin (fun w' => Below w2.heap.size w2 w' ∧ w'.cell? ⟨b1, o1 + k, none⟩ = some (.int .u64 (z : Int)) ∧ w'.cell? ⟨b2, o2, none⟩ = some (.int .u64 (z : Int))) (by kernel_rfl) ⟨HB.out.drew, C1.out _ HB.out.drew, C2.out _ HB.out.drew⟩ ?_
          have hS : Below w2.heap.size w2 wr.drew ∧ wr.drew.cell? ⟨b1, o1 + k, none⟩ = some (.int .u64 (z : Int)) ∧ wr.drew.cell? ⟨b2, o2, none⟩ = some (.int .u64 (z : Int)) := ⟨HB.out.drew, C1.out _ HB.out.drew, C2.out _ HB.out.drew⟩
          obtain ⟨wd, hwd⟩ : ∃ wd, wd = wr.drew := ⟨_, rfl⟩
          rw [← hwd] at hS ⊢
          clear hwd HB
          refine regS_take (i := 0) (v := ?_) rfl (by kernel_rfl) (by kernel_rfl) (by kernel_rfl) (fun _ _ _ h => h) (by rfl) hS ?hy0 ?_
          case hy0 => intro w' hw'; go_simp; (try with_reducible rfl)
          simp only [Act.put, List.setIfInBounds_toArray, List.set_cons_zero, List.set_cons_succ]
          refine regS_take (i := 1) (v := ?_) rfl (by kernel_rfl) (by kernel_rfl) (by kernel_rfl) (fun _ _ _ h => h) (by rfl) hS ?hy1 ?_
          case hy1 => intro w' hw'; go_simp; (try with_reducible rfl)
          simp only [Act.put, List.setIfInBounds_toArray, List.set_cons_zero, List.set_cons_succ]
          refine regS_take (i := 2) (v := ?_) rfl (by kernel_rfl) (by kernel_rfl) (by kernel_rfl) (fun _ _ _ h => h) (by rfl) hS ?hy2 ?_
          case hy2 => intro w' hw'; go_simp; (try with_reducible rfl)
          simp only [Act.put, List.setIfInBounds_toArray, List.set_cons_zero, List.set_cons_succ]
          refine regS_take (i := 3) (v := ?_) rfl (by kernel_rfl) (by kernel_rfl) (by kernel_rfl) (fun _ _ _ h => h) (by rfl) hS ?hy3 ?_
          case hy3 => intro w' hw'; go_simp; (try with_reducible rfl)
          simp only [Act.put, List.setIfInBounds_toArray, List.set_cons_zero, List.set_cons_succ]
          refine regS_take (i := 4) (v := ?_) rfl (by kernel_rfl) (by kernel_rfl) (by kernel_rfl) (fun _ _ _ h => h) (by rfl) hS ?hy4 ?_
          case hy4 => intro w' hw'; go_simp; (try with_reducible rfl)
          simp only [Act.put, List.setIfInBounds_toArray, List.set_cons_zero, List.set_cons_succ]
          refine regS_take (i := 5) (v := ?_) rfl (by kernel_rfl) (by kernel_rfl) (by kernel_rfl) (fun _ _ _ h => h) (by rfl) hS ?hy5 ?_
          case hy5 => intro w' hw'; go_simp; (try with_reducible rfl)
          simp only [Act.put, List.setIfInBounds_toArray, List.set_cons_zero, List.set_cons_succ]
          refine regS_take (i := 6) (v := ?_) rfl (by kernel_rfl) (by kernel_rfl) (by kernel_rfl) (fun _ _ _ h => h) (by rfl) hS ?hy6 ?_
          case hy6 => intro w' hw'; go_simp; (try with_reducible rfl)
          simp only [Act.put, List.setIfInBounds_toArray, List.set_cons_zero, List.set_cons_succ]
          refine regS_take (i := 7) (v := ?_) rfl (by kernel_rfl) (by kernel_rfl) (by kernel_rfl) (fun _ _ _ h => h) (by rfl) hS ?hy7 ?_
          case hy7 => intro w' hw'; go_simp; (try with_reducible rfl)
          simp only [Act.put, List.setIfInBounds_toArray, List.set_cons_zero, List.set_cons_succ]
          refine regS_take (i := 8) (v := ?_) rfl (by kernel_rfl) (by kernel_rfl) (by kernel_rfl) (fun _ _ _ h => h) (by rfl) hS ?hy8 ?_
          case hy8 => intro w' hw'; go_simp; (try with_reducible rfl)
          simp only [Act.put, List.setIfInBounds_toArray, List.set_cons_zero, List.set_cons_succ]
          refine regS_take (i := 9) (v := ?_) rfl (by kernel_rfl) (by kernel_rfl) (by kernel_rfl) (fun _ _ _ h => h) (by rfl) hS ?hy9 ?_
          case hy9 => intro w' hw'; go_simp; (try with_reducible rfl)
          simp only [Act.put, List.setIfInBounds_toArray, List.set_cons_zero, List.set_cons_succ]
          refine regS_take (i := 10) (v := ?_) rfl (by kernel_rfl) (by kernel_rfl) (by kernel_rfl) (fun _ _ _ h => h) (by rfl) hS ?hy10 ?_
          case hy10 => intro w' hw'; go_simp; (try with_reducible rfl)
          simp only [Act.put, List.setIfInBounds_toArray, List.set_cons_zero, List.set_cons_succ]
          refine regS_take (i := 11) (v := ?_) rfl (by kernel_rfl) (by kernel_rfl) (by kernel_rfl) (fun _ _ _ h => h) (by rfl) hS ?hy11 ?_
          case hy11 => intro w' hw'; go_simp; (try with_reducible rfl)
          simp only [Act.put, List.setIfInBounds_toArray, List.set_cons_zero, List.set_cons_succ]
          refine regS_take (i := 12) (v := ?_) rfl (by kernel_rfl) (by kernel_rfl) (by kernel_rfl) (fun _ _ _ h => h) (by rfl) hS ?hy12 ?_
          case hy12 => intro w' hw'; go_simp; (try with_reducible rfl)
          simp only [Act.put, List.setIfInBounds_toArray, List.set_cons_zero, List.set_cons_succ]
          refine regS_take (i := 13) (v := ?_) rfl (by kernel_rfl) (by kernel_rfl) (by kernel_rfl) (fun _ _ _ h => h) (by rfl) hS ?hy13 ?_
          case hy13 => intro w' hw'; go_simp; (try with_reducible rfl)
          simp only [Act.put, List.setIfInBounds_toArray, List.set_cons_zero, List.set_cons_succ]
          refine regS_take (i := 14) (v := ?_) rfl (by kernel_rfl) (by kernel_rfl) (by kernel_rfl) (fun _ _ _ h => h) (by rfl) hS ?hy14 ?_
          case hy14 => intro w' hw'; go_simp; (try with_reducible rfl)
          simp only [Act.put, List.setIfInBounds_toArray, List.set_cons_zero, List.set_cons_succ]
          refine regS_take (i := 15) (v := ?_) rfl (by kernel_rfl) (by kernel_rfl) (by kernel_rfl) (fun _ _ _ h => h) (by rfl) hS ?hy15 ?_
          case hy15 => intro w' hw'; go_simp; (try with_reducible rfl)
          simp only [Act.put, List.setIfInBounds_toArray, List.set_cons_zero, List.set_cons_succ]
          refine regS_take (i := 16) (v := ?_) rfl (by kernel_rfl) (by kernel_rfl) (by kernel_rfl) (fun _ _ _ h => h) (by rfl) hS ?hy16 ?_
          case hy16 => intro w' hw'; go_simp; (try with_reducible rfl)
          simp only [Act.put, List.setIfInBounds_toArray, List.set_cons_zero, List.set_cons_succ]
          refine regS_take (i := 17) (v := ?_) rfl (by kernel_rfl) (by kernel_rfl) (by kernel_rfl) (fun _ _ _ h => h) (by rfl) hS ?hy17 ?_
          case hy17 => intro w' hw'; go_simp; (try with_reducible rfl)
          simp only [Act.put, List.setIfInBounds_toArray, List.set_cons_zero, List.set_cons_succ]
          refine regS_take (i := 18) (v := ?_) rfl (by kernel_rfl) (by kernel_rfl) (by kernel_rfl) (fun _ _ _ h => h) (by rfl) hS ?hy18 ?_
          case hy18 => intro w' hw'; go_simp; (try with_reducible rfl)
          simp only [Act.put, List.setIfInBounds_toArray, List.set_cons_zero, List.set_cons_succ]
          refine regS_take (i := 19) (v := ?_) rfl (by kernel_rfl) (by kernel_rfl) (by kernel_rfl) (fun _ _ _ h => h) (by rfl) hS ?hy19 ?_
          case hy19 => intro w' hw'; go_simp; (try with_reducible rfl)
          simp only [Act.put, List.setIfInBounds_toArray, List.set_cons_zero, List.set_cons_succ]
          refine regS_take (i := 20) (v := ?_) rfl (by kernel_rfl) (by kernel_rfl) (by kernel_rfl) (fun _ _ _ h => h) (by rfl) hS ?hy20 ?_
          case hy20 => intro w' hw'; go_simp; (try with_reducible rfl)
          simp only [Act.put, List.setIfInBounds_toArray, List.set_cons_zero, List.set_cons_succ]
          refine regS_take (i := 22) (v := ?_) rfl (by kernel_rfl) (by kernel_rfl) (by kernel_rfl) (fun _ _ _ h => h) (by rfl) hS ?hy22 ?_
          case hy22 => intro w' hw'; go_simp; (try with_reducible rfl)
          simp only [Act.put, List.setIfInBounds_toArray, List.set_cons_zero, List.set_cons_succ]
          refine regS_do (i := 21) rfl (by kernel_rfl) (fun K' hK => ?_)
          go_simp
          refine (H.order _ i c2 a L wd HA.out OM.out (by have := HN.out; omega) (Y2.out.below hS.1)).mono ?_
          rintro e w6 ⟨v6, rfl, y6, b6⟩
          have s2 := hS.1.trans (b6.mono hS.1.size)
          rw [OS.out] at y6
          have Y6 := Lib.hid y6
          refine hK.out _ _ ⟨s2, C1.out _ s2, C2.out _ s2⟩ ?_
          clear hK K' hS b6 y6
          refine regS_do (i := 23) rfl (by kernel_rfl) (fun K' hK => ?_)
          go_simp
          have CS := same_any v6 _ L L (by rw [LN.out]; have := HN.out; omega) w6 Y6.out (Y2.out.below s2)
          rw [show decide (L = L) = true by simp] at CS
          refine CS.mono ?_
          rintro e w7 ⟨rfl, b7⟩
          have s3 := s2.trans (b7.mono s2.size)
          refine hK.out _ _ ⟨s3, C1.out _ s3, C2.out _ s3⟩ ?_
          clear hK K' s2 b7 CS
          have hS : Below w2.heap.size w2 w7 ∧ w7.cell? ⟨b1, o1 + k, none⟩ = some (.int .u64 (z : Int)) ∧ w7.cell? ⟨b2, o2, none⟩ = some (.int .u64 (z : Int)) := ⟨s3, C1.out _ s3, C2.out _ s3⟩
          refine regS_take (i := 24) (v := ?_) rfl (by kernel_rfl) (by kernel_rfl) (by kernel_rfl) (fun _ _ _ h => h) (by rfl) hS ?hy24 ?_
          case hy24 => intro w' hw'; go_simp; (try with_reducible rfl)
          simp only [Act.put, List.setIfInBounds_toArray, List.set_cons_zero, List.set_cons_succ]
          refine regS_take (i := 25) (v := ?_) rfl (by kernel_rfl) (by kernel_rfl) (by kernel_rfl) (fun _ _ _ h => h) (by rfl) hS ?hy25 ?_
          case hy25 => intro w' hw'; go_simp; (try with_reducible rfl)
          simp only [Act.put, List.setIfInBounds_toArray, List.set_cons_zero, List.set_cons_succ]
          refine regS_end (by kernel_rfl) ?_
          have BZ := Lib.hid (B2.out.trans (s3.mono B2.out.size))
          clear hS s3 C1 C2
          go_wp2
          go_ret
          exact ⟨rfl, BZ.out⟩
end Go.Proofs.Ytlgpgdliakiomaa
