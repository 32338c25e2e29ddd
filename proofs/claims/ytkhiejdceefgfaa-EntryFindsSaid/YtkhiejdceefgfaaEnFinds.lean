/- EntryFinds' core: over what package entry answers. -/
import Derived.Test.YtkhiejdceefgfaaEnK
import Derived.Test.YtkhiejdceefgfaaEnW
import Derived.Test.YtkhiejdceefgfaaEnG
import Derived.Test.YtkhiejdceefgfaaGenR
namespace Go.Proofs.Ytkhiejdceefgfaa
open Go.RowKit

theorem ent_spots {w : World} {g off k : Nat} {e : Ent} (h : ∀ j u, e.cells[j]? = some u → w.cell? ⟨g, off + k * 6 + j, none⟩ = some u) :
    w.cell? ⟨g, off + k * 6, none⟩ = some (.string ⟨e.name.toArray⟩) ∧ w.cell? ⟨g, off + k * 6 + 1, none⟩ = some (.int .u64 (e.id : Int)) ∧ w.cell? ⟨g, off + k * 6 + 2, none⟩ = some (.int .i64 e.since) ∧ w.cell? ⟨g, off + k * 6 + 3, none⟩ = some (.int .i64 e.till) ∧ w.cell? ⟨g, off + k * 6 + 4, none⟩ = some (.int .i64 e.index) ∧ w.cell? ⟨g, off + k * 6 + 5, none⟩ = some (.string ⟨e.tag.toArray⟩) :=
  ⟨h 0 _ rfl, h 1 _ rfl, h 2 _ rfl, h 3 _ rfl, h 4 _ rfl, h 5 _ rfl⟩

set_option maxHeartbeats 4000000 in
set_option maxRecDepth 100000 in
theorem entFinds_core (H : EntryIs) (A : Option Addr) (n cap : Nat) (l : List Ent) (a b : Ent) (w : World) (h : EntsAt w (.slice A n cap) l) :
    Calls Try.prog 5 #[.slice A n cap, a.val, b.val] w fun e w' => e = .returned (.bool true) ∧ Below w.heap.size w w' := by
  have HH := Lib.hid H
  have HL := Lib.hid h
  have HN := Lib.hid h.size.1
  have HV := Lib.hid (Ent.val_cells a)
  clear H h
  obtain ⟨gn, hgn⟩ : ∃ q, q = decide (100 < n) := ⟨_, rfl⟩
  obtain ⟨ga, hga⟩ : ∃ q, q = greatB a := ⟨_, rfl⟩
  obtain ⟨gb, hgb⟩ : ∃ q, q = greatB b := ⟨_, rfl⟩
  have CA := fun w => Lib.hid (great_any a w)
  have CB := fun w => Lib.hid (great_any b w)
  simp only [← hga] at CA
  simp only [← hgb] at CB
  have r0 : decide ((100 : Int) < (n : Int)) = gn := by rw [hgn]; congr 1; apply propext; omega
  have HG := Lib.hid hgn
  clear hgn hga hgb
  go_enter Try.func5, Try.ntmps5
  go_wp2_with (first | (refine wpList_box_row rfl 24 (.tmp 1) rfl a.cells rfl ?_) | (refine wpList_box_row rfl 24 (.tmp 2) rfl b.cells rfl ?_))
  intro w1 b1 x1 z1
  have X1 : Hid (EntAt w1 w.heap.size a) := Lib.hid x1
  have B1 := Lib.hid b1
  have Z1 := Lib.hid (show w.heap.size < w1.heap.size by omega)
  clear b1 x1 z1
  go_wp2_with (refine wpList_box_row rfl 24 _ rfl b.cells rfl ?_)
  intro w2 b2 x2 z2
  have X2 : Hid (EntAt w2 w.heap.size a) := Lib.hid (Whole.below X1.out b2 X1.out.lt)
  have Y2 : Hid (EntAt w2 w1.heap.size b) := Lib.hid x2
  have B2 := Lib.hid (B1.out.trans (b2.mono B1.out.size))
  obtain ⟨g, hg⟩ : ∃ g, g = w.heap.size := ⟨_, rfl⟩
  rw [← hg] at X2 ⊢
  obtain ⟨x, hx⟩ : ∃ x, x = w1.heap.size := ⟨_, rfl⟩
  rw [← hx] at Y2 ⊢
  clear b2 x2 z2 X1 B1 Z1 hg hx
  cases gn with
  | true =>
    go_wp2_with fail
    refine (works11 HH.out w2).mono ?_
    rintro e w3 ⟨rfl, hb⟩
    have BF := Lib.hid (B2.out.trans (hb.mono B2.out.size))
    clear hb
    go_wp2
    go_ret
    exact ⟨rfl, BF.out⟩
  | false =>
    have hle : n ≤ 100 := by have q := HG.out; simp at q; exact q
    obtain ⟨a0, a1, a2, a3, a4, a5⟩ := X2.out.six
    go_wp2_with fail
    refine (CA w2).out.mono ?_
    rintro e w3 ⟨rfl, hb⟩
    have X3 : Hid (EntAt w3 g a) := Lib.hid (Whole.below X2.out hb X2.out.lt)
    have Y3 : Hid (EntAt w3 x b) := Lib.hid (Whole.below Y2.out hb Y2.out.lt)
    have B3 := Lib.hid (B2.out.trans (hb.mono B2.out.size))
    clear hb X2 Y2 B2 a0 a1 a2 a3 a4 a5
    cases ga with
    | true =>
      go_wp2_with fail
      refine (works11 HH.out w3).mono ?_
      rintro e w4 ⟨rfl, hb⟩
      have BF := Lib.hid (B3.out.trans (hb.mono B3.out.size))
      clear hb
      go_wp2
      go_ret
      exact ⟨rfl, BF.out⟩
    | false =>
      obtain ⟨c0, c1, c2, c3, c4, c5⟩ := Y3.out.six
      go_wp2_with fail
      refine (CB w3).out.mono ?_
      rintro e w4 ⟨rfl, hb⟩
      have X4 : Hid (EntAt w4 g a) := Lib.hid (Whole.below X3.out hb X3.out.lt)
      have Y4 : Hid (EntAt w4 x b) := Lib.hid (Whole.below Y3.out hb Y3.out.lt)
      have B4 := Lib.hid (B3.out.trans (hb.mono B3.out.size))
      clear hb X3 Y3 B3 c0 c1 c2 c3 c4 c5
      cases gb with
      | true =>
        go_wp2_with fail
        refine (works11 HH.out w4).mono ?_
        rintro e w5 ⟨rfl, hb⟩
        have BF := Lib.hid (B4.out.trans (hb.mono B4.out.size))
        clear hb
        go_wp2
        go_ret
        exact ⟨rfl, BF.out⟩
      | false =>
        clear CA CB
        go_wp2_with fail
        go_loopw [7] (fun i wr => ∃ k : Nat, k ≤ n ∧ i = .int .i64 (k : Int) ∧ EntAt wr g a ∧ EntAt wr x b ∧ Below w.heap.size w wr) (fun i _ => n - (intOf i).toNat)
        case atStart => exact ⟨0, Nat.zero_le _, rfl, X4.out, Y4.out, B4.out⟩
        case round =>
          obtain ⟨k, hk, rfl, hx, hy, hb⟩ := hrel
          have XR : Hid (EntAt wr g a) := Lib.hid hx
          have YR : Hid (EntAt wr x b) := Lib.hid hy
          have BR := Lib.hid hb
          clear hx hy hb X4 Y4 B4
          by_cases hlt : k < n
          · have dk : decide ((k : Int) < (n : Int)) = true := by simp; omega
            obtain ⟨e, he⟩ : ∃ e, l[k]? = some e := ⟨_, List.getElem?_eq_getElem (by rw [← HN.out]; exact hlt)⟩
            have hne : l ≠ [] := by rintro rfl; simp at he
            obtain ⟨gl, off, rfl, _, hc⟩ := (HL.out.below BR.out).spots hne
            obtain ⟨c0, c1, c2, c3, c4, c5⟩ := ent_spots (hc k e he)
            have jk : (k : Int) < (n : Int) := by omega
            have r4 : IntKind.i64.wrap ((k : Int) + 1) = ((k + 1 : Nat) : Int) := by rw [IntWalk.i64_in _ (by omega)]; omega
            have CE := Lib.hid (great_any e wr)
            obtain ⟨ge, hge⟩ : ∃ q, q = greatB e := ⟨_, rfl⟩
            rw [← hge] at CE
            clear hc he hne hge
            go_wp2_with fail
            refine CE.out.mono ?_
            rintro e' w5 ⟨rfl, hb⟩
            have X5 : Hid (EntAt w5 g a) := Lib.hid (Whole.below XR.out hb XR.out.lt)
            have Y5 : Hid (EntAt w5 x b) := Lib.hid (Whole.below YR.out hb YR.out.lt)
            have B5 := Lib.hid (BR.out.trans (hb.mono BR.out.size))
            clear hb XR YR BR c0 c1 c2 c3 c4 c5 CE
            cases ge with
            | true =>
              go_wp2_with fail
              refine (works11 HH.out w5).mono ?_
              rintro e w6 ⟨rfl, hb⟩
              have BF := Lib.hid (B5.out.trans (hb.mono B5.out.size))
              clear hb
              go_wp2
              go_ret
              exact ⟨rfl, BF.out⟩
            | false =>
              go_wp2_with fail
              exact ⟨⟨k + 1, by omega, by go_num, X5.out, Y5.out, B5.out⟩, by simp [intOf]; omega⟩
          · obtain rfl : k = n := by omega
            have dk : decide ((k : Int) < (k : Int)) = false := by simp
            clear hlt hk
            go_wp2_with fail
            refine reg_begin (by kernel_rfl) fun w3 hb hz => ?_
            have X3 : Hid (EntAt w3 g a) := Lib.hid (Whole.below XR.out hb XR.out.lt)
            have Y3 : Hid (EntAt w3 x b) := Lib.hid (Whole.below YR.out hb YR.out.lt)
            have B3 := Lib.hid (BR.out.trans (hb.mono BR.out.size))
            clear hb hz XR YR BR
            refine reg_take (i := 0) (v := a.val) rfl (by kernel_rfl) (by kernel_rfl) (by kernel_rfl) (fun _ _ _ h => h) (by rfl) ?hy0 ?_
            case hy0 => intro w' hw'; exact exec_load_ent _ rfl g rfl a w' (Whole.below X3.out hw' X3.out.lt)
            simp only [Act.put, List.setIfInBounds_toArray, List.set_cons_zero, List.set_cons_succ]
            refine reg_take (i := 3) (v := a.val) rfl (by kernel_rfl) (by kernel_rfl) (by kernel_rfl) (fun _ _ _ h => h) (by rfl) ?hy3 ?_
            case hy3 => intro w' hw'; exact exec_load_ent _ rfl g rfl a w' (Whole.below X3.out hw' X3.out.lt)
            simp only [Act.put, List.setIfInBounds_toArray, List.set_cons_zero, List.set_cons_succ]
            refine reg_take (i := 1) (v := b.val) rfl (by kernel_rfl) (by kernel_rfl) (by kernel_rfl) (fun _ _ _ h => h) (by rfl) ?hy1 ?_
            case hy1 => intro w' hw'; exact exec_load_ent _ rfl x rfl b w' (Whole.below Y3.out hw' Y3.out.lt)
            simp only [Act.put, List.setIfInBounds_toArray, List.set_cons_zero, List.set_cons_succ]
            refine reg_take (i := 4) (v := b.val) rfl (by kernel_rfl) (by kernel_rfl) (by kernel_rfl) (fun _ _ _ h => h) (by rfl) ?hy4 ?_
            case hy4 => intro w' hw'; exact exec_load_ent _ rfl x rfl b w' (Whole.below Y3.out hw' Y3.out.lt)
            simp only [Act.put, List.setIfInBounds_toArray, List.set_cons_zero, List.set_cons_succ]
            refine reg_call (i := 2) rfl (by kernel_rfl) (fun K' hK => ?_)
            go_simp
            refine (HH.out.who a b w3).mono ?_
            rintro e w4 ⟨rfl, hb⟩
            have X4 : Hid (EntAt w4 g a) := Lib.hid (Whole.below X3.out hb X3.out.lt)
            have B4 := Lib.hid (B3.out.trans (hb.mono B3.out.size))
            refine hK.out _ _ hb ?_
            clear hK K' hb X3 Y3 B3
            refine reg_call (i := 5) rfl (by kernel_rfl) (fun K' hK => ?_)
            go_simp
            refine (refWho_any a b w4).mono ?_
            rintro e w5 ⟨rfl, hb⟩
            have X5 : Hid (EntAt w5 g a) := Lib.hid (Whole.below X4.out hb X4.out.lt)
            have B5 := Lib.hid (B4.out.trans (hb.mono B4.out.size))
            refine hK.out _ _ hb ?_
            clear hK K' hb X4 B4
            have rc : ∀ w', Below w5.heap.size w5 w' → w'.cell? ⟨g, 0, none⟩ = some (.string ⟨a.name.toArray⟩) := fun w' h => (EntAt.six (Whole.below X5.out h X5.out.lt)).1
            refine reg_take (i := 6) (v := ?_) rfl (by kernel_rfl) (by kernel_rfl) (by kernel_rfl) (fun _ _ _ h => h) (by rfl) ?hy6 ?_
            case hy6 => intro w' hw'; go_simp; (try with_reducible rfl)
            simp only [Act.put, List.setIfInBounds_toArray, List.set_cons_zero, List.set_cons_succ]
            refine reg_take (i := 7) (v := ?_) rfl (by kernel_rfl) (by kernel_rfl) (by kernel_rfl) (fun _ _ _ h => h) (by rfl) ?hy7 ?_
            case hy7 => intro w' hw'; go_simp; (try with_reducible rfl)
            simp only [Act.put, List.setIfInBounds_toArray, List.set_cons_zero, List.set_cons_succ]
            refine reg_take (i := 8) (v := ?_) rfl (by kernel_rfl) (by kernel_rfl) (by kernel_rfl) (fun _ _ _ h => h) (by rfl) ?hy8 ?_
            case hy8 => intro w' hw'; go_simp; (try with_reducible rfl)
            simp only [Act.put, List.setIfInBounds_toArray, List.set_cons_zero, List.set_cons_succ]
            refine reg_take (i := 9) (v := ?_) rfl (by kernel_rfl) (by kernel_rfl) (by kernel_rfl) (fun _ _ _ h => h) (by rfl) ?hy9 ?_
            case hy9 => intro w' hw'; go_simp; (try with_reducible rfl)
            simp only [Act.put, List.setIfInBounds_toArray, List.set_cons_zero, List.set_cons_succ]
            refine reg_take (i := 12) (v := ?_) rfl (by kernel_rfl) (by kernel_rfl) (by kernel_rfl) (fun _ _ _ h => h) (by rfl) ?hy12 ?_
            case hy12 => intro w' hw'; go_simp; (try with_reducible rfl)
            simp only [Act.put, List.setIfInBounds_toArray, List.set_cons_zero, List.set_cons_succ]
            refine reg_take (i := 13) (v := ?_) rfl (by kernel_rfl) (by kernel_rfl) (by kernel_rfl) (fun _ _ _ h => h) (by rfl) ?hy13 ?_
            case hy13 => intro w' hw'; go_simp; (try with_reducible rfl)
            simp only [Act.put, List.setIfInBounds_toArray, List.set_cons_zero, List.set_cons_succ]
            refine reg_take (i := 10) (v := .string ⟨a.name.toArray⟩) rfl (by kernel_rfl) (by kernel_rfl) (by kernel_rfl) (fun _ _ _ h => h) (by rfl) ?hy10 ?_
            case hy10 => intro w' hw'; have c := rc w' hw'; go_simp; (try with_reducible rfl)
            simp only [Act.put, List.setIfInBounds_toArray, List.set_cons_zero, List.set_cons_succ]
            refine reg_take (i := 14) (v := .string ⟨a.name.toArray⟩) rfl (by kernel_rfl) (by kernel_rfl) (by kernel_rfl) (fun _ _ _ h => h) (by rfl) ?hy14 ?_
            case hy14 => intro w' hw'; have c := rc w' hw'; go_simp; (try with_reducible rfl)
            simp only [Act.put, List.setIfInBounds_toArray, List.set_cons_zero, List.set_cons_succ]
            refine reg_call (i := 11) rfl (by kernel_rfl) (fun K' hK => ?_)
            go_simp
            refine (HH.out.find A _ cap l a.name w5 (by omega) (HL.out.below B5.out)).mono ?_
            rintro e w6 ⟨rfl, hb⟩
            have B6 := Lib.hid (B5.out.trans (hb.mono B5.out.size))
            refine hK.out _ _ hb ?_
            clear hK K' hb X5 B5 rc
            refine reg_call (i := 15) rfl (by kernel_rfl) (fun K' hK => ?_)
            go_simp
            refine (refFind_any A _ cap l a.name w6 (by omega) (HL.out.below B6.out)).mono ?_
            rintro e w7 ⟨rfl, rfl⟩
            have hb := Below.refl w7.heap.size w7
            refine hK.out _ _ hb ?_
            clear hK K' hb
            refine reg_take (i := 16) (v := ?_) rfl (by kernel_rfl) (by kernel_rfl) (by kernel_rfl) (fun _ _ _ h => h) (by rfl) ?hy16 ?_
            case hy16 => intro w' hw'; go_simp; (try with_reducible rfl)
            simp only [Act.put, List.setIfInBounds_toArray, List.set_cons_zero, List.set_cons_succ]
            refine reg_take (i := 17) (v := ?_) rfl (by kernel_rfl) (by kernel_rfl) (by kernel_rfl) (fun _ _ _ h => h) (by rfl) ?hy17 ?_
            case hy17 => intro w' hw'; go_simp; (try with_reducible rfl)
            simp only [Act.put, List.setIfInBounds_toArray, List.set_cons_zero, List.set_cons_succ]
            refine reg_take (i := 18) (v := ?_) rfl (by kernel_rfl) (by kernel_rfl) (by kernel_rfl) (fun _ _ _ h => h) (by rfl) ?hy18 ?_
            case hy18 => intro w' hw'; go_simp; (try with_reducible rfl)
            simp only [Act.put, List.setIfInBounds_toArray, List.set_cons_zero, List.set_cons_succ]
            refine reg_call (i := 19) rfl (by kernel_rfl) (fun K' hK => ?_)
            go_simp
            refine (works11 HH.out w7).mono ?_
            rintro e w8 ⟨rfl, hb⟩
            have B8 := Lib.hid (B6.out.trans (hb.mono B6.out.size))
            refine hK.out _ _ hb ?_
            clear hK K' hb B6
            refine reg_take (i := 20) (v := ?_) rfl (by kernel_rfl) (by kernel_rfl) (by kernel_rfl) (fun _ _ _ h => h) (by rfl) ?hy20 ?_
            case hy20 => intro w' hw'; go_simp; (try with_reducible rfl)
            simp only [Act.put, List.setIfInBounds_toArray, List.set_cons_zero, List.set_cons_succ]
            refine reg_take (i := 21) (v := ?_) rfl (by kernel_rfl) (by kernel_rfl) (by kernel_rfl) (fun _ _ _ h => h) (by rfl) ?hy21 ?_
            case hy21 => intro w' hw'; go_simp; (try with_reducible rfl)
            simp only [Act.put, List.setIfInBounds_toArray, List.set_cons_zero, List.set_cons_succ]
            refine reg_end (by kernel_rfl) ?_
            go_wp2
            go_ret
            exact ⟨rfl, B8.out⟩
end Go.Proofs.Ytkhiejdceefgfaa
