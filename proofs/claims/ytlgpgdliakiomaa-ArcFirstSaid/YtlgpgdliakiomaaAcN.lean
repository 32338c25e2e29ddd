/- What the document's Nearest of layer 9 answers. -/
import Derived.Test.YtlgpgdliakiomaaAcR
import Derived.Test.YtlgpgdliakiomaaUs
import Derived.Deep.QuietTactic
import Derived.BigQuiet
namespace Go.Proofs.Ytlgpgdliakiomaa
open Go.RowKit

/-- The nearest of those from a place on, as a place of all of them. -/
def bestN (key : Nat) (ids : List Nat) (m : Nat) : Int := match nearL key (ids.drop m) with
  | none => -1
  | some k => ((m + k : Nat) : Int)
theorem bestN_zero (key : Nat) (ids : List Nat) : bestN key ids 0 = nearI key ids := by
  rw [bestN, nearI, List.drop_zero]
  cases nearL key ids <;> simp
theorem bestN_end (key : Nat) (ids : List Nat) : bestN key ids ids.length = -1 := by
  rw [bestN, List.drop_eq_nil_of_le (Nat.le_refl _)]
  rfl
theorem bestN_step (key : Nat) (ids : List Nat) (j : Nat) (x : Nat) (hx : ids[j]? = some x) :
    (nearL key (ids.drop (j + 1)) = none → bestN key ids j = (j : Int)) ∧ (∀ k, nearL key (ids.drop (j + 1)) = some k → bestN key ids j = if distN key x ≤ distN key (ids.getD (j + 1 + k) 0) then (j : Int) else ((j + 1 + k : Nat) : Int)) := by
  have e : ids.drop j = x :: ids.drop (j + 1) := drop_at hx
  constructor
  · intro h
    rw [bestN, e, nearL, h]
    rfl
  · intro k h
    have e2 : (ids.drop (j + 1)).getD k 0 = ids.getD (j + 1 + k) 0 := by simp [List.getD]
    by_cases hle : distN key x ≤ distN key (ids.getD (j + 1 + k) 0)
    · have e3 : nearL key (ids.drop j) = some 0 := by rw [e, nearL, h]; simp only [e2]; rw [if_pos hle]
      rw [bestN, e3, if_pos hle]
      rfl
    · have e3 : nearL key (ids.drop j) = some (k + 1) := by rw [e, nearL, h]; simp only [e2]; rw [if_neg hle]
      rw [bestN, e3, if_neg hle]
      show ((j + (k + 1) : Nat) : Int) = _
      congr 1
      omega

set_option maxRecDepth 100000 in
set_option maxHeartbeats 2000000 in
theorem refNearest_any (A : Option Addr) (n cap key : Nat) (ids : List Nat) (hk : key < 18446744073709551616) (hids : ∀ x ∈ ids, x < 18446744073709551616) (hn : n ≤ 100000) (w : World) (h : UsAt w (.slice A n cap) ids) :
    Calls Try.prog 20 #[.slice A n cap, .int .u64 (key : Int)] w fun e w' => e = .returned (.int .i64 (nearI key ids)) ∧ Below w.heap.size w w' := by
  have HZ := Lib.hid h.size
  have H := Lib.hid h
  have HK := Lib.hid (And.intro hk hn)
  have HI := Lib.hid hids
  clear h hk hids hn
  have t0 : IntKind.i64.wrap ((n : Int) - 1) = (n : Int) - 1 := by have := HK.out; rw [IntWalk.i64_in _ (by omega)]
  go_enter Try.func20, Try.ntmps20
  go_wp2_with fail
  go_loopw [5, 6] (fun b i wr => ∃ m : Nat, m ≤ n ∧ i = .int .i64 ((m : Int) - 1) ∧ b = .int .i64 (bestN key ids m) ∧ Below w.heap.size w wr) (fun _ i _ => (intOf i + 1).toNat)
  case atStart => exact ⟨n, Nat.le_refl _, rfl, by rw [HZ.out.1, bestN_end], Below.refl _ _⟩
  case round =>
    obtain ⟨m, hm, rfl, rfl, hb⟩ := hrel
    have HB := Lib.hid hb
    clear hb
    by_cases h0 : m = 0
    · subst h0
      have d : decide ((0 : Int) ≤ ((0 : Nat) : Int) - 1) = false := by decide
      rw [bestN_zero]
      go_wp2
      go_ret
      exact ⟨rfl, HB.out⟩
    · obtain ⟨j, rfl⟩ : ∃ j, m = j + 1 := ⟨m - 1, by omega⟩
      have e : ((j + 1 : Nat) : Int) - 1 = (j : Int) := by omega
      rw [e]
      have d : decide ((0 : Int) ≤ (j : Int)) = true := by simp
      have hjl : j < ids.length := by have := HZ.out.1; omega
      obtain ⟨x, hx⟩ : ∃ x, ids[j]? = some x := ⟨_, List.getElem?_eq_getElem hjl⟩
      obtain ⟨s1, s2⟩ := bestN_step key ids j x hx
      have hxl : x < 18446744073709551616 := HI.out x (List.mem_of_getElem? hx)
      obtain ⟨b, off, rfl, hb, hcell⟩ := H.out.spots (by intro e; rw [e] at hjl; simp at hjl)
      have cx := (HB.out.cell (p := ⟨b, off + j, none⟩) hb).trans (hcell j x hx)
      have t1 : IntKind.i64.wrap ((j : Int) - 1) = (j : Int) - 1 := by have := HK.out; rw [IntWalk.i64_in _ (by omega)]
      have HJ := Lib.hid (And.intro hm hjl)
      cases hn : nearL key (ids.drop (j + 1)) with
      | none =>
        have eb : bestN key ids (j + 1) = -1 := by rw [bestN, hn]
        rw [eb]
        have S := Lib.hid (s1 hn)
        have d2 : decide ((-1 : Int) < 0) = true := by decide
        clear s1 s2 hn hcell e eb
        go_wp2_with fail
        go_quiet (fail)
        go_wp2
        exact ⟨⟨j, by omega, rfl, by rw [S.out], below_drewN HB.out _⟩, by simp [intOf]⟩
      | some k =>
        have eb : bestN key ids (j + 1) = ((j + 1 + k : Nat) : Int) := by rw [bestN, hn]
        rw [eb]
        have S := s2 k hn
        have hkl : j + 1 + k < ids.length := by
          have := (nearL_spec key _ k hn).1
          rw [List.length_drop] at this
          omega
        obtain ⟨y, hy⟩ : ∃ y, ids[j + 1 + k]? = some y := ⟨_, List.getElem?_eq_getElem hkl⟩
        have ey : ids.getD (j + 1 + k) 0 = y := by simp [List.getD, hy]
        rw [ey] at S
        have hyl : y < 18446744073709551616 := HI.out y (List.mem_of_getElem? hy)
        obtain ⟨q, hq⟩ : ∃ q, q = j + 1 + k := ⟨_, rfl⟩
        rw [← hq] at S hy hkl ⊢
        have cy := (HB.out.cell (p := ⟨b, off + q, none⟩) hb).trans (hcell q y hy)
        have d2 : decide ((q : Int) < 0) = false := by simp
        have D1 := fun w => Lib.hid (refDist_any key x HK.out.1 hxl w)
        have D2 := fun w => Lib.hid (refDist_any key y HK.out.1 hyl w)
        have jq : (q : Int) < (n : Int) := by have := HZ.out.1; omega
        have jj : (j : Int) < (n : Int) := by have := HZ.out.1; omega
        obtain ⟨dx, hdx⟩ : ∃ dx, dx = distN key x := ⟨_, rfl⟩
        obtain ⟨dy, hdy⟩ : ∃ dy, dy = distN key y := ⟨_, rfl⟩
        simp only [← hdx] at S D1
        simp only [← hdy] at S D2
        have CX := Lib.hid cx
        have CY := Lib.hid cy
        clear s1 s2 hn hcell e eb ey hy hx hdx hdy hkl hxl hyl hq hjl hm cx cy
        by_cases hle : dx ≤ dy
        · rw [if_pos hle] at S
          have HS := Lib.hid S
          have d3 : decide ((dx : Int) ≤ (dy : Int)) = true := by simp; omega
          have d4 : decide (dx ≤ dy) = true := by simp; omega
          clear S hle
          go_wp2_with fail
          refine regS_begin (fun w' => Below w.heap.size w w' ∧ w'.cell? ⟨b, off + j, none⟩ = some (.int .u64 (x : Int)) ∧ w'.cell? ⟨b, off + q, none⟩ = some (.int .u64 (y : Int))) (by kernel_rfl) ⟨HB.out.drew, CX.out, CY.out⟩ ?_
          have hS : Below w.heap.size w wr.drew ∧ wr.drew.cell? ⟨b, off + j, none⟩ = some (.int .u64 (x : Int)) ∧ wr.drew.cell? ⟨b, off + q, none⟩ = some (.int .u64 (y : Int)) := ⟨HB.out.drew, CX.out, CY.out⟩
          obtain ⟨wd, hwd⟩ : ∃ wd, wd = wr.drew := ⟨_, rfl⟩
          rw [← hwd] at hS ⊢
          clear hwd
          refine regS_take (i := 0) (v := ?_) rfl (by kernel_rfl) (by kernel_rfl) (by kernel_rfl) (fun _ _ _ h => h) (by rfl) hS ?hy0 ?_
          case hy0 => intro w' hw'; go_simp; (try with_reducible rfl)
          simp only [Act.put, List.setIfInBounds_toArray, List.set_cons_zero, List.set_cons_succ]
          refine regS_take (i := 1) (v := ?_) rfl (by kernel_rfl) (by kernel_rfl) (by kernel_rfl) (fun _ _ _ h => h) (by rfl) hS ?hy1 ?_
          case hy1 => intro w' hw'; go_simp; (try with_reducible rfl)
          simp only [Act.put, List.setIfInBounds_toArray, List.set_cons_zero, List.set_cons_succ]
          refine regS_take (i := 2) (v := ?_) rfl (by kernel_rfl) (by kernel_rfl) (by kernel_rfl) (fun _ _ _ h => h) (by rfl) hS ?hy2 ?_
          case hy2 => intro w' hw'; go_simp; (try with_reducible rfl)
          simp only [Act.put, List.setIfInBounds_toArray, List.set_cons_zero, List.set_cons_succ]
          refine regS_take (i := 3) (v := ?_) rfl (by kernel_rfl) (by kernel_rfl) (by kernel_rfl) (fun _ _ _ h => h) (by rfl) hS ?hy3 ?_
          case hy3 => intro w' hw'; go_simp; (try with_reducible rfl)
          simp only [Act.put, List.setIfInBounds_toArray, List.set_cons_zero, List.set_cons_succ]
          refine regS_take (i := 4) (v := ?_) rfl (by kernel_rfl) (by kernel_rfl) (by kernel_rfl) (fun _ _ _ h => h) (by rfl) hS ?hy4 ?_
          case hy4 => intro w' hw'; go_simp; (try with_reducible rfl)
          simp only [Act.put, List.setIfInBounds_toArray, List.set_cons_zero, List.set_cons_succ]
          refine regS_take (i := 5) (v := ?_) rfl (by kernel_rfl) (by kernel_rfl) (by kernel_rfl) (fun _ _ _ h => h) (by rfl) hS ?hy5 ?_
          case hy5 => intro w' hw'; go_simp; (try with_reducible rfl)
          simp only [Act.put, List.setIfInBounds_toArray, List.set_cons_zero, List.set_cons_succ]
          refine regS_take (i := 6) (v := ?_) rfl (by kernel_rfl) (by kernel_rfl) (by kernel_rfl) (fun _ _ _ h => h) (by rfl) hS ?hy6 ?_
          case hy6 => intro w' hw'; go_simp; (try with_reducible rfl)
          simp only [Act.put, List.setIfInBounds_toArray, List.set_cons_zero, List.set_cons_succ]
          refine regS_take (i := 7) (v := ?_) rfl (by kernel_rfl) (by kernel_rfl) (by kernel_rfl) (fun _ _ _ h => h) (by rfl) hS ?hy7 ?_
          case hy7 => intro w' hw'; go_simp; (try with_reducible rfl)
          simp only [Act.put, List.setIfInBounds_toArray, List.set_cons_zero, List.set_cons_succ]
          refine regS_take (i := 9) (v := ?_) rfl (by kernel_rfl) (by kernel_rfl) (by kernel_rfl) (fun _ _ _ h => h) (by rfl) hS ?hy9 ?_
          case hy9 => intro w' hw'; go_simp; (try with_reducible rfl)
          simp only [Act.put, List.setIfInBounds_toArray, List.set_cons_zero, List.set_cons_succ]
          refine regS_take (i := 10) (v := ?_) rfl (by kernel_rfl) (by kernel_rfl) (by kernel_rfl) (fun _ _ _ h => h) (by rfl) hS ?hy10 ?_
          case hy10 => intro w' hw'; go_simp; (try with_reducible rfl)
          simp only [Act.put, List.setIfInBounds_toArray, List.set_cons_zero, List.set_cons_succ]
          refine regS_take (i := 11) (v := ?_) rfl (by kernel_rfl) (by kernel_rfl) (by kernel_rfl) (fun _ _ _ h => h) (by rfl) hS ?hy11 ?_
          case hy11 => intro w' hw'; go_simp; (try with_reducible rfl)
          simp only [Act.put, List.setIfInBounds_toArray, List.set_cons_zero, List.set_cons_succ]
          refine regS_take (i := 12) (v := ?_) rfl (by kernel_rfl) (by kernel_rfl) (by kernel_rfl) (fun _ _ _ h => h) (by rfl) hS ?hy12 ?_
          case hy12 => intro w' hw'; go_simp; (try with_reducible rfl)
          simp only [Act.put, List.setIfInBounds_toArray, List.set_cons_zero, List.set_cons_succ]
          refine regS_take (i := 13) (v := ?_) rfl (by kernel_rfl) (by kernel_rfl) (by kernel_rfl) (fun _ _ _ h => h) (by rfl) hS ?hy13 ?_
          case hy13 => intro w' hw'; go_simp; (try with_reducible rfl)
          simp only [Act.put, List.setIfInBounds_toArray, List.set_cons_zero, List.set_cons_succ]
          refine regS_do (i := 8) rfl (by kernel_rfl) (fun K' hK => ?_)
          go_simp
          refine (D1 wd).out.mono ?_
          rintro e w6 ⟨rfl, rfl⟩
          refine hK.out _ _ hS ?_
          clear hK K'
          refine regS_do (i := 14) rfl (by kernel_rfl) (fun K' hK => ?_)
          go_simp
          refine (D2 wd).out.mono ?_
          rintro e w6 ⟨rfl, rfl⟩
          refine hK.out _ _ hS ?_
          clear hK K'
          refine regS_take (i := 15) (v := ?_) rfl (by kernel_rfl) (by kernel_rfl) (by kernel_rfl) (fun _ _ _ h => h) (by rfl) hS ?hy15 ?_
          case hy15 => intro w' hw'; go_simp; (try with_reducible rfl)
          simp only [Act.put, List.setIfInBounds_toArray, List.set_cons_zero, List.set_cons_succ]
          refine regS_take (i := 16) (v := ?_) rfl (by kernel_rfl) (by kernel_rfl) (by kernel_rfl) (fun _ _ _ h => h) (by rfl) hS ?hy16 ?_
          case hy16 => intro w' hw'; go_simp; (try with_reducible rfl)
          simp only [Act.put, List.setIfInBounds_toArray, List.set_cons_zero, List.set_cons_succ]
          refine regS_end (by kernel_rfl) ?_
          have BZ := Lib.hid hS.1
          clear hS
          go_wp2
          exact ⟨⟨j, by have := HJ.out; omega, rfl, by rw [HS.out], BZ.out⟩, by simp [intOf]⟩
        · rw [if_neg hle] at S
          have HS := Lib.hid S
          have d3 : decide ((dx : Int) ≤ (dy : Int)) = false := by simp; omega
          have d4 : decide (dx ≤ dy) = false := by simp; omega
          clear S hle
          go_wp2_with fail
          refine regS_begin (fun w' => Below w.heap.size w w' ∧ w'.cell? ⟨b, off + j, none⟩ = some (.int .u64 (x : Int)) ∧ w'.cell? ⟨b, off + q, none⟩ = some (.int .u64 (y : Int))) (by kernel_rfl) ⟨HB.out.drew, CX.out, CY.out⟩ ?_
          have hS : Below w.heap.size w wr.drew ∧ wr.drew.cell? ⟨b, off + j, none⟩ = some (.int .u64 (x : Int)) ∧ wr.drew.cell? ⟨b, off + q, none⟩ = some (.int .u64 (y : Int)) := ⟨HB.out.drew, CX.out, CY.out⟩
          obtain ⟨wd, hwd⟩ : ∃ wd, wd = wr.drew := ⟨_, rfl⟩
          rw [← hwd] at hS ⊢
          clear hwd
          refine regS_take (i := 0) (v := ?_) rfl (by kernel_rfl) (by kernel_rfl) (by kernel_rfl) (fun _ _ _ h => h) (by rfl) hS ?hy0 ?_
          case hy0 => intro w' hw'; go_simp; (try with_reducible rfl)
          simp only [Act.put, List.setIfInBounds_toArray, List.set_cons_zero, List.set_cons_succ]
          refine regS_take (i := 1) (v := ?_) rfl (by kernel_rfl) (by kernel_rfl) (by kernel_rfl) (fun _ _ _ h => h) (by rfl) hS ?hy1 ?_
          case hy1 => intro w' hw'; go_simp; (try with_reducible rfl)
          simp only [Act.put, List.setIfInBounds_toArray, List.set_cons_zero, List.set_cons_succ]
          refine regS_take (i := 2) (v := ?_) rfl (by kernel_rfl) (by kernel_rfl) (by kernel_rfl) (fun _ _ _ h => h) (by rfl) hS ?hy2 ?_
          case hy2 => intro w' hw'; go_simp; (try with_reducible rfl)
          simp only [Act.put, List.setIfInBounds_toArray, List.set_cons_zero, List.set_cons_succ]
          refine regS_take (i := 3) (v := ?_) rfl (by kernel_rfl) (by kernel_rfl) (by kernel_rfl) (fun _ _ _ h => h) (by rfl) hS ?hy3 ?_
          case hy3 => intro w' hw'; go_simp; (try with_reducible rfl)
          simp only [Act.put, List.setIfInBounds_toArray, List.set_cons_zero, List.set_cons_succ]
          refine regS_take (i := 4) (v := ?_) rfl (by kernel_rfl) (by kernel_rfl) (by kernel_rfl) (fun _ _ _ h => h) (by rfl) hS ?hy4 ?_
          case hy4 => intro w' hw'; go_simp; (try with_reducible rfl)
          simp only [Act.put, List.setIfInBounds_toArray, List.set_cons_zero, List.set_cons_succ]
          refine regS_take (i := 5) (v := ?_) rfl (by kernel_rfl) (by kernel_rfl) (by kernel_rfl) (fun _ _ _ h => h) (by rfl) hS ?hy5 ?_
          case hy5 => intro w' hw'; go_simp; (try with_reducible rfl)
          simp only [Act.put, List.setIfInBounds_toArray, List.set_cons_zero, List.set_cons_succ]
          refine regS_take (i := 6) (v := ?_) rfl (by kernel_rfl) (by kernel_rfl) (by kernel_rfl) (fun _ _ _ h => h) (by rfl) hS ?hy6 ?_
          case hy6 => intro w' hw'; go_simp; (try with_reducible rfl)
          simp only [Act.put, List.setIfInBounds_toArray, List.set_cons_zero, List.set_cons_succ]
          refine regS_take (i := 7) (v := ?_) rfl (by kernel_rfl) (by kernel_rfl) (by kernel_rfl) (fun _ _ _ h => h) (by rfl) hS ?hy7 ?_
          case hy7 => intro w' hw'; go_simp; (try with_reducible rfl)
          simp only [Act.put, List.setIfInBounds_toArray, List.set_cons_zero, List.set_cons_succ]
          refine regS_take (i := 9) (v := ?_) rfl (by kernel_rfl) (by kernel_rfl) (by kernel_rfl) (fun _ _ _ h => h) (by rfl) hS ?hy9 ?_
          case hy9 => intro w' hw'; go_simp; (try with_reducible rfl)
          simp only [Act.put, List.setIfInBounds_toArray, List.set_cons_zero, List.set_cons_succ]
          refine regS_take (i := 10) (v := ?_) rfl (by kernel_rfl) (by kernel_rfl) (by kernel_rfl) (fun _ _ _ h => h) (by rfl) hS ?hy10 ?_
          case hy10 => intro w' hw'; go_simp; (try with_reducible rfl)
          simp only [Act.put, List.setIfInBounds_toArray, List.set_cons_zero, List.set_cons_succ]
          refine regS_take (i := 11) (v := ?_) rfl (by kernel_rfl) (by kernel_rfl) (by kernel_rfl) (fun _ _ _ h => h) (by rfl) hS ?hy11 ?_
          case hy11 => intro w' hw'; go_simp; (try with_reducible rfl)
          simp only [Act.put, List.setIfInBounds_toArray, List.set_cons_zero, List.set_cons_succ]
          refine regS_take (i := 12) (v := ?_) rfl (by kernel_rfl) (by kernel_rfl) (by kernel_rfl) (fun _ _ _ h => h) (by rfl) hS ?hy12 ?_
          case hy12 => intro w' hw'; go_simp; (try with_reducible rfl)
          simp only [Act.put, List.setIfInBounds_toArray, List.set_cons_zero, List.set_cons_succ]
          refine regS_take (i := 13) (v := ?_) rfl (by kernel_rfl) (by kernel_rfl) (by kernel_rfl) (fun _ _ _ h => h) (by rfl) hS ?hy13 ?_
          case hy13 => intro w' hw'; go_simp; (try with_reducible rfl)
          simp only [Act.put, List.setIfInBounds_toArray, List.set_cons_zero, List.set_cons_succ]
          refine regS_do (i := 8) rfl (by kernel_rfl) (fun K' hK => ?_)
          go_simp
          refine (D1 wd).out.mono ?_
          rintro e w6 ⟨rfl, rfl⟩
          refine hK.out _ _ hS ?_
          clear hK K'
          refine regS_do (i := 14) rfl (by kernel_rfl) (fun K' hK => ?_)
          go_simp
          refine (D2 wd).out.mono ?_
          rintro e w6 ⟨rfl, rfl⟩
          refine hK.out _ _ hS ?_
          clear hK K'
          refine regS_take (i := 15) (v := ?_) rfl (by kernel_rfl) (by kernel_rfl) (by kernel_rfl) (fun _ _ _ h => h) (by rfl) hS ?hy15 ?_
          case hy15 => intro w' hw'; go_simp; (try with_reducible rfl)
          simp only [Act.put, List.setIfInBounds_toArray, List.set_cons_zero, List.set_cons_succ]
          refine regS_take (i := 16) (v := ?_) rfl (by kernel_rfl) (by kernel_rfl) (by kernel_rfl) (fun _ _ _ h => h) (by rfl) hS ?hy16 ?_
          case hy16 => intro w' hw'; go_simp; (try with_reducible rfl)
          simp only [Act.put, List.setIfInBounds_toArray, List.set_cons_zero, List.set_cons_succ]
          refine regS_end (by kernel_rfl) ?_
          have BZ := Lib.hid hS.1
          clear hS
          go_wp2
          exact ⟨⟨j, by have := HJ.out; omega, rfl, by rw [HS.out], BZ.out⟩, by simp [intOf]⟩
end Go.Proofs.Ytlgpgdliakiomaa
