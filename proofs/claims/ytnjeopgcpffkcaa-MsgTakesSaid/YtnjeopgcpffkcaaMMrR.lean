/- The document's Right: may a message be? (Written by tools/mkmrright.py.) -/
import Derived.Test.YtnjeopgcpffkcaaMMrB
import Derived.Test.YtnjeopgcpffkcaaGbh
import Derived.Test.YtnjeopgcpffkcaaGo
import Derived.Test.YtnjeopgcpffkcaaGba
import Derived.Test.YtnjeopgcpffkcaaGj
import Derived.Test.YtnjeopgcpffkcaaGb
import Derived.Deep.LoopGhost
namespace Go.Proofs.Ytnjeopgcpffkcaa
set_option maxRecDepth 100000
open Go.RowKit

set_option maxHeartbeats 32000000 in
theorem refMsRight_any (m : Mg) (e t : Row) (hes : m.es.length ≤ 1000000) (hits : m.its.length ≤ 1000000) (w : World) (h : Lists w e t m) :
    Calls Try.prog 13 #[(m.raw e t).val] w fun x w' => x = .returned (.bool (rightM m)) ∧ Below w.heap.size w w' := by
  obtain ⟨eA, eN, eC⟩ := e
  obtain ⟨tA, tN, tC⟩ := t
  have HEN := Lib.hid (show eN = m.es.length from h.en)
  have HTN := Lib.hid (show tN = m.its.length from h.tn)
  have HES := Lib.hid (show RowsAt w (.slice eA eN eC) 6 (m.es.map Ent.enc) from h.es)
  have HITS := Lib.hid (show RowsAt w (.slice tA tN tC) 4 (m.its.map Item.enc) from h.its)
  have HL := Lib.hid (And.intro hes hits)
  have CL := fun w => Lib.hid (refLetters_any m.kind w)
  have HD := Lib.hid (letters_dash m.kind)
  have CB := fun w1 (b : Below w.heap.size w w1) => Lib.hid (refBare_any m ⟨eA, eN, eC⟩ ⟨tA, tN, tC⟩ w1 (h.below b))
  have CS := fun e1 t1 w1 (b : Below w.heap.size w w1) hl => Lib.hid (refMsSame_any m (bareM m) ⟨eA, eN, eC⟩ ⟨tA, tN, tC⟩ e1 t1 hes hits w1 (h.below b) hl)
  have CI := fun w => Lib.hid (show Calls Try.prog 39 #[.int .i64 m.kind, .int .u8 107] w fun e w' => e = .returned (.bool (inK m.kind 5)) ∧ Below w.heap.size w w' from by have q := refMsIn_any m.kind (letC 5) w; rw [letters_in m.kind 5 (by decide)] at q; exact q)
  have CK := fun w => Lib.hid ((refLbKey_any m.key w).mono (R' := fun x w' => x = .returned (.bool (keyB m.key)) ∧ Below w.heap.size w w') fun _ _ q => ⟨q.1, q.2 ▸ Below.refl _ _⟩)
  obtain ⟨q, hq⟩ : ∃ q, q = rightM m := ⟨_, rfl⟩
  rw [← hq]
  have HF : Hid (¬ RightM m → q = false) := Lib.hid (fun k => by rw [hq, rightM, decide_eq_false k])
  have HT : Hid (RightM m → q = true) := Lib.hid (fun k => by rw [hq, rightM, decide_eq_true k])
  obtain ⟨L, hL⟩ : ∃ L, L = lettersK m.kind := ⟨_, rfl⟩
  rw [← hL] at CL HD
  obtain ⟨qs, hqs⟩ : ∃ q, q = decide (m = bareM m) := ⟨_, rfl⟩
  rw [← hqs] at CS
  have HQS := Lib.hid hqs
  obtain ⟨q5, hq5⟩ : ∃ q, q = inK m.kind 5 := ⟨_, rfl⟩
  rw [← hq5] at CI
  have HQ5 := Lib.hid hq5
  obtain ⟨qk, hqk⟩ : ∃ q, q = keyB m.key := ⟨_, rfl⟩
  rw [← hqk] at CK
  have HQK := Lib.hid hqk
  clear h hes hits hq hL hqs hq5 hqk
  go_enter Try.func13, Try.ntmps13
  go_wp2_with (refine wpList_box_row rfl 27 _ rfl (m.raw ⟨eA, eN, eC⟩ ⟨tA, tN, tC⟩).enc.toArray (by with_unfolding_all exact rfl) ?_)
  intro w1 b1 x1 z1
  obtain ⟨gM, hgM⟩ : ∃ g, g = w.heap.size := ⟨_, rfl⟩
  have M_M := Lib.hid (show w.heap.size ≤ gM from by rw [hgM]; exact Nat.le_refl _)
  have B1 := Lib.hid b1
  rw [← hgM] at x1 ⊢
  have M1 : Hid (Mr.At w1 gM (m.raw ⟨eA, eN, eC⟩ ⟨tA, tN, tC⟩)) := Lib.hid x1
  clear b1 x1 z1 hgM 
  cases hk : knownK m.kind with
  | false =>
    have r0 : (L == [45]) = true := by have q := HD.out; rw [hk] at q; simpa using q
    go_wp2_with (with_reducible refine wpList_load_whole_st Mr.isRec rfl _ rfl gM (by with_unfolding_all exact rfl) _ _ (Mr.len _) M1.out ?_)
    refine reg_begin (by kernel_rfl) fun w2 b2 z2 => ?_
    have M2 : Hid (Mr.At w2 gM (m.raw ⟨eA, eN, eC⟩ ⟨tA, tN, tC⟩)) := Lib.hid (Whole.below M1.out b2 M1.out.lt)
    have B2 := Lib.hid (B1.out.trans (b2.mono B1.out.size))
    clear b2 z2 M1 B1
    refine reg_take (i := 0) (v := ?_) rfl (by kernel_rfl) (by kernel_rfl) (by kernel_rfl) (fun _ _ _ h => h) (by rfl) ?hy0 ?_
    case hy0 => intro w' hw'; go_simp; (try with_reducible rfl)
    simp only [Act.put, List.setIfInBounds_toArray, List.set_cons_zero, List.set_cons_succ]
    refine reg_take (i := 1) (v := (.int .i64 ((m.raw ⟨eA, eN, eC⟩ ⟨tA, tN, tC⟩)).kind)) rfl (by kernel_rfl) (by kernel_rfl) (by kernel_rfl) (fun _ _ _ h => h) (by rfl) ?hy1 ?_
    case hy1 => intro w' hw'; have c := Mr.At.at_kind (Whole.below M2.out hw' M2.out.lt); go_simp; (try with_reducible rfl)
    simp only [Act.put, List.setIfInBounds_toArray, List.set_cons_zero, List.set_cons_succ]
    refine reg_call (i := 2) rfl (by kernel_rfl) (fun K' hK => ?_)
    go_simp
    refine ((CL w2).out).mono ?_
    rintro e3 w3 ⟨rfl, b3⟩
    have M3 : Hid (Mr.At w3 gM (m.raw ⟨eA, eN, eC⟩ ⟨tA, tN, tC⟩)) := Lib.hid (Whole.below M2.out b3 M2.out.lt)
    have B3 := Lib.hid (B2.out.trans (b3.mono B2.out.size))
    refine hK.out _ _ b3 ?_
    clear hK K' b3 M2 B2
    refine reg_take (i := 3) (v := ?_) rfl (by kernel_rfl) (by kernel_rfl) (by kernel_rfl) (fun _ _ _ h => h) (by rfl) ?hy3 ?_
    case hy3 => intro w' hw'; go_simp; (try with_reducible rfl)
    simp only [Act.put, List.setIfInBounds_toArray, List.set_cons_zero, List.set_cons_succ]
    refine reg_take (i := 4) (v := ?_) rfl (by kernel_rfl) (by kernel_rfl) (by kernel_rfl) (fun _ _ _ h => h) (by rfl) ?hy4 ?_
    case hy4 => intro w' hw'; go_simp; (try with_reducible rfl)
    simp only [Act.put, List.setIfInBounds_toArray, List.set_cons_zero, List.set_cons_succ]
    refine reg_skip (i := 5) rfl (by kernel_rfl) (by kernel_rfl) (by kernel_rfl) (fun _ _ _ h => h) (by rfl) ?_
    simp only [Act.put, List.setIfInBounds_toArray, List.set_cons_zero, List.set_cons_succ]
    refine reg_skip (i := 6) rfl (by kernel_rfl) (by kernel_rfl) (by kernel_rfl) (fun _ _ _ h => h) (by rfl) ?_
    simp only [Act.put, List.setIfInBounds_toArray, List.set_cons_zero, List.set_cons_succ]
    refine reg_skip (i := 7) rfl (by kernel_rfl) (by kernel_rfl) (by kernel_rfl) (fun _ _ _ h => h) (by rfl) ?_
    simp only [Act.put, List.setIfInBounds_toArray, List.set_cons_zero, List.set_cons_succ]
    refine reg_take (i := 8) (v := ?_) rfl (by kernel_rfl) (by kernel_rfl) (by kernel_rfl) (fun _ _ _ h => h) (by rfl) ?hy8 ?_
    case hy8 => intro w' hw'; go_simp; (try with_reducible rfl)
    simp only [Act.put, List.setIfInBounds_toArray, List.set_cons_zero, List.set_cons_succ]
    refine reg_take (i := 9) (v := ?_) rfl (by kernel_rfl) (by kernel_rfl) (by kernel_rfl) (fun _ _ _ h => h) (by rfl) ?hy9 ?_
    case hy9 => intro w' hw'; go_simp; (try with_reducible rfl)
    simp only [Act.put, List.setIfInBounds_toArray, List.set_cons_zero, List.set_cons_succ]
    refine reg_skip (i := 10) rfl (by kernel_rfl) (by kernel_rfl) (by kernel_rfl) (fun _ _ _ h => h) (by rfl) ?_
    simp only [Act.put, List.setIfInBounds_toArray, List.set_cons_zero, List.set_cons_succ]
    refine reg_skip (i := 11) rfl (by kernel_rfl) (by kernel_rfl) (by kernel_rfl) (fun _ _ _ h => h) (by rfl) ?_
    simp only [Act.put, List.setIfInBounds_toArray, List.set_cons_zero, List.set_cons_succ]
    refine reg_skip (i := 12) rfl (by kernel_rfl) (by kernel_rfl) (by kernel_rfl) (fun _ _ _ h => h) (by rfl) ?_
    simp only [Act.put, List.setIfInBounds_toArray, List.set_cons_zero, List.set_cons_succ]
    refine reg_take (i := 13) (v := ?_) rfl (by kernel_rfl) (by kernel_rfl) (by kernel_rfl) (fun _ _ _ h => h) (by rfl) ?hy13 ?_
    case hy13 => intro w' hw'; go_simp; (try with_reducible rfl)
    simp only [Act.put, List.setIfInBounds_toArray, List.set_cons_zero, List.set_cons_succ]
    refine reg_take (i := 14) (v := ?_) rfl (by kernel_rfl) (by kernel_rfl) (by kernel_rfl) (fun _ _ _ h => h) (by rfl) ?hy14 ?_
    case hy14 => intro w' hw'; go_simp; (try with_reducible rfl)
    simp only [Act.put, List.setIfInBounds_toArray, List.set_cons_zero, List.set_cons_succ]
    refine reg_skip (i := 15) rfl (by kernel_rfl) (by kernel_rfl) (by kernel_rfl) (fun _ _ _ h => h) (by rfl) ?_
    simp only [Act.put, List.setIfInBounds_toArray, List.set_cons_zero, List.set_cons_succ]
    refine reg_skip (i := 16) rfl (by kernel_rfl) (by kernel_rfl) (by kernel_rfl) (fun _ _ _ h => h) (by rfl) ?_
    simp only [Act.put, List.setIfInBounds_toArray, List.set_cons_zero, List.set_cons_succ]
    refine reg_skip (i := 17) rfl (by kernel_rfl) (by kernel_rfl) (by kernel_rfl) (fun _ _ _ h => h) (by rfl) ?_
    simp only [Act.put, List.setIfInBounds_toArray, List.set_cons_zero, List.set_cons_succ]
    refine reg_skip (i := 18) rfl (by kernel_rfl) (by kernel_rfl) (by kernel_rfl) (fun _ _ _ h => h) (by rfl) ?_
    simp only [Act.put, List.setIfInBounds_toArray, List.set_cons_zero, List.set_cons_succ]
    refine reg_skip (i := 19) rfl (by kernel_rfl) (by kernel_rfl) (by kernel_rfl) (fun _ _ _ h => h) (by rfl) ?_
    simp only [Act.put, List.setIfInBounds_toArray, List.set_cons_zero, List.set_cons_succ]
    refine reg_take (i := 20) (v := ?_) rfl (by kernel_rfl) (by kernel_rfl) (by kernel_rfl) (fun _ _ _ h => h) (by rfl) ?hy20 ?_
    case hy20 => intro w' hw'; go_simp; (try with_reducible rfl)
    simp only [Act.put, List.setIfInBounds_toArray, List.set_cons_zero, List.set_cons_succ]
    refine reg_end (by kernel_rfl) ?_
    have HV : Hid (q = false) := Lib.hid (HF.out (fun k => by have h1 := k.k1; have h2 := k.k2; rw [knownK, decide_eq_true h1, decide_eq_true h2] at hk; cases hk))
    go_wp2
    go_ret
    exact ⟨by rw [HV.out]; rfl, B3.out⟩
  | true =>
    have r0 : (L == [45]) = false := by have q := HD.out; rw [hk] at q; simpa using q
    have HK : Hid (1 ≤ m.kind ∧ m.kind ≤ 16) := Lib.hid (by simpa [knownK] using hk)
    clear hk
    by_cases h1 : m.rid < 0
    · have d1 : decide (m.rid < 0) = true := by simpa using h1
      go_wp2_with (with_reducible refine wpList_load_whole_st Mr.isRec rfl _ rfl gM (by with_unfolding_all exact rfl) _ _ (Mr.len _) M1.out ?_)
      refine reg_begin (by kernel_rfl) fun w2 b2 z2 => ?_
      have M2 : Hid (Mr.At w2 gM (m.raw ⟨eA, eN, eC⟩ ⟨tA, tN, tC⟩)) := Lib.hid (Whole.below M1.out b2 M1.out.lt)
      have B2 := Lib.hid (B1.out.trans (b2.mono B1.out.size))
      clear b2 z2 M1 B1
      refine reg_take (i := 0) (v := ?_) rfl (by kernel_rfl) (by kernel_rfl) (by kernel_rfl) (fun _ _ _ h => h) (by rfl) ?hy0 ?_
      case hy0 => intro w' hw'; go_simp; (try with_reducible rfl)
      simp only [Act.put, List.setIfInBounds_toArray, List.set_cons_zero, List.set_cons_succ]
      refine reg_take (i := 1) (v := (.int .i64 ((m.raw ⟨eA, eN, eC⟩ ⟨tA, tN, tC⟩)).kind)) rfl (by kernel_rfl) (by kernel_rfl) (by kernel_rfl) (fun _ _ _ h => h) (by rfl) ?hy1 ?_
      case hy1 => intro w' hw'; have c := Mr.At.at_kind (Whole.below M2.out hw' M2.out.lt); go_simp; (try with_reducible rfl)
      simp only [Act.put, List.setIfInBounds_toArray, List.set_cons_zero, List.set_cons_succ]
      refine reg_call (i := 2) rfl (by kernel_rfl) (fun K' hK => ?_)
      go_simp
      refine ((CL w2).out).mono ?_
      rintro e3 w3 ⟨rfl, b3⟩
      have M3 : Hid (Mr.At w3 gM (m.raw ⟨eA, eN, eC⟩ ⟨tA, tN, tC⟩)) := Lib.hid (Whole.below M2.out b3 M2.out.lt)
      have B3 := Lib.hid (B2.out.trans (b3.mono B2.out.size))
      refine hK.out _ _ b3 ?_
      clear hK K' b3 M2 B2
      refine reg_take (i := 3) (v := ?_) rfl (by kernel_rfl) (by kernel_rfl) (by kernel_rfl) (fun _ _ _ h => h) (by rfl) ?hy3 ?_
      case hy3 => intro w' hw'; go_simp; (try with_reducible rfl)
      simp only [Act.put, List.setIfInBounds_toArray, List.set_cons_zero, List.set_cons_succ]
      refine reg_take (i := 4) (v := ?_) rfl (by kernel_rfl) (by kernel_rfl) (by kernel_rfl) (fun _ _ _ h => h) (by rfl) ?hy4 ?_
      case hy4 => intro w' hw'; go_simp; (try with_reducible rfl)
      simp only [Act.put, List.setIfInBounds_toArray, List.set_cons_zero, List.set_cons_succ]
      refine reg_take (i := 5) (v := ?_) rfl (by kernel_rfl) (by kernel_rfl) (by kernel_rfl) (fun _ _ _ h => h) (by rfl) ?hy5 ?_
      case hy5 => intro w' hw'; go_simp; (try with_reducible rfl)
      simp only [Act.put, List.setIfInBounds_toArray, List.set_cons_zero, List.set_cons_succ]
      refine reg_take (i := 6) (v := .int .i64 m.rid) rfl (by kernel_rfl) (by kernel_rfl) (by kernel_rfl) (fun _ _ _ h => h) (by rfl) ?hy6 ?_
      case hy6 => intro w' hw'; have c := (show w'.cell? ⟨gM, 1, none⟩ = some (.int .i64 m.rid) from (Whole.below M3.out hw' M3.out.lt).at_ 1); go_simp; (try with_reducible rfl)
      simp only [Act.put, List.setIfInBounds_toArray, List.set_cons_zero, List.set_cons_succ]
      refine reg_take (i := 7) (v := ?_) rfl (by kernel_rfl) (by kernel_rfl) (by kernel_rfl) (fun _ _ _ h => h) (by rfl) ?hy7 ?_
      case hy7 => intro w' hw'; go_simp; (try with_reducible rfl)
      simp only [Act.put, List.setIfInBounds_toArray, List.set_cons_zero, List.set_cons_succ]
      refine reg_take (i := 8) (v := ?_) rfl (by kernel_rfl) (by kernel_rfl) (by kernel_rfl) (fun _ _ _ h => h) (by rfl) ?hy8 ?_
      case hy8 => intro w' hw'; go_simp; (try with_reducible rfl)
      simp only [Act.put, List.setIfInBounds_toArray, List.set_cons_zero, List.set_cons_succ]
      refine reg_take (i := 9) (v := ?_) rfl (by kernel_rfl) (by kernel_rfl) (by kernel_rfl) (fun _ _ _ h => h) (by rfl) ?hy9 ?_
      case hy9 => intro w' hw'; go_simp; (try with_reducible rfl)
      simp only [Act.put, List.setIfInBounds_toArray, List.set_cons_zero, List.set_cons_succ]
      refine reg_skip (i := 10) rfl (by kernel_rfl) (by kernel_rfl) (by kernel_rfl) (fun _ _ _ h => h) (by rfl) ?_
      simp only [Act.put, List.setIfInBounds_toArray, List.set_cons_zero, List.set_cons_succ]
      refine reg_skip (i := 11) rfl (by kernel_rfl) (by kernel_rfl) (by kernel_rfl) (fun _ _ _ h => h) (by rfl) ?_
      simp only [Act.put, List.setIfInBounds_toArray, List.set_cons_zero, List.set_cons_succ]
      refine reg_skip (i := 12) rfl (by kernel_rfl) (by kernel_rfl) (by kernel_rfl) (fun _ _ _ h => h) (by rfl) ?_
      simp only [Act.put, List.setIfInBounds_toArray, List.set_cons_zero, List.set_cons_succ]
      refine reg_take (i := 13) (v := ?_) rfl (by kernel_rfl) (by kernel_rfl) (by kernel_rfl) (fun _ _ _ h => h) (by rfl) ?hy13 ?_
      case hy13 => intro w' hw'; go_simp; (try with_reducible rfl)
      simp only [Act.put, List.setIfInBounds_toArray, List.set_cons_zero, List.set_cons_succ]
      refine reg_take (i := 14) (v := ?_) rfl (by kernel_rfl) (by kernel_rfl) (by kernel_rfl) (fun _ _ _ h => h) (by rfl) ?hy14 ?_
      case hy14 => intro w' hw'; go_simp; (try with_reducible rfl)
      simp only [Act.put, List.setIfInBounds_toArray, List.set_cons_zero, List.set_cons_succ]
      refine reg_skip (i := 15) rfl (by kernel_rfl) (by kernel_rfl) (by kernel_rfl) (fun _ _ _ h => h) (by rfl) ?_
      simp only [Act.put, List.setIfInBounds_toArray, List.set_cons_zero, List.set_cons_succ]
      refine reg_skip (i := 16) rfl (by kernel_rfl) (by kernel_rfl) (by kernel_rfl) (fun _ _ _ h => h) (by rfl) ?_
      simp only [Act.put, List.setIfInBounds_toArray, List.set_cons_zero, List.set_cons_succ]
      refine reg_skip (i := 17) rfl (by kernel_rfl) (by kernel_rfl) (by kernel_rfl) (fun _ _ _ h => h) (by rfl) ?_
      simp only [Act.put, List.setIfInBounds_toArray, List.set_cons_zero, List.set_cons_succ]
      refine reg_skip (i := 18) rfl (by kernel_rfl) (by kernel_rfl) (by kernel_rfl) (fun _ _ _ h => h) (by rfl) ?_
      simp only [Act.put, List.setIfInBounds_toArray, List.set_cons_zero, List.set_cons_succ]
      refine reg_skip (i := 19) rfl (by kernel_rfl) (by kernel_rfl) (by kernel_rfl) (fun _ _ _ h => h) (by rfl) ?_
      simp only [Act.put, List.setIfInBounds_toArray, List.set_cons_zero, List.set_cons_succ]
      refine reg_take (i := 20) (v := ?_) rfl (by kernel_rfl) (by kernel_rfl) (by kernel_rfl) (fun _ _ _ h => h) (by rfl) ?hy20 ?_
      case hy20 => intro w' hw'; go_simp; (try with_reducible rfl)
      simp only [Act.put, List.setIfInBounds_toArray, List.set_cons_zero, List.set_cons_succ]
      refine reg_end (by kernel_rfl) ?_
      have HV : Hid (q = false) := Lib.hid (HF.out (fun k => by have := k.r1; omega))
      go_wp2
      go_ret
      exact ⟨by rw [HV.out]; rfl, B3.out⟩
    · have d1 : decide (m.rid < 0) = false := by simpa using h1
      by_cases h2 : 1073741824 < m.rid
      · have d2 : decide (1073741824 < m.rid) = true := by simpa using h2
        go_wp2_with (with_reducible refine wpList_load_whole_st Mr.isRec rfl _ rfl gM (by with_unfolding_all exact rfl) _ _ (Mr.len _) M1.out ?_)
        refine reg_begin (by kernel_rfl) fun w2 b2 z2 => ?_
        have M2 : Hid (Mr.At w2 gM (m.raw ⟨eA, eN, eC⟩ ⟨tA, tN, tC⟩)) := Lib.hid (Whole.below M1.out b2 M1.out.lt)
        have B2 := Lib.hid (B1.out.trans (b2.mono B1.out.size))
        clear b2 z2 M1 B1
        refine reg_take (i := 0) (v := ?_) rfl (by kernel_rfl) (by kernel_rfl) (by kernel_rfl) (fun _ _ _ h => h) (by rfl) ?hy0 ?_
        case hy0 => intro w' hw'; go_simp; (try with_reducible rfl)
        simp only [Act.put, List.setIfInBounds_toArray, List.set_cons_zero, List.set_cons_succ]
        refine reg_take (i := 1) (v := (.int .i64 ((m.raw ⟨eA, eN, eC⟩ ⟨tA, tN, tC⟩)).kind)) rfl (by kernel_rfl) (by kernel_rfl) (by kernel_rfl) (fun _ _ _ h => h) (by rfl) ?hy1 ?_
        case hy1 => intro w' hw'; have c := Mr.At.at_kind (Whole.below M2.out hw' M2.out.lt); go_simp; (try with_reducible rfl)
        simp only [Act.put, List.setIfInBounds_toArray, List.set_cons_zero, List.set_cons_succ]
        refine reg_call (i := 2) rfl (by kernel_rfl) (fun K' hK => ?_)
        go_simp
        refine ((CL w2).out).mono ?_
        rintro e3 w3 ⟨rfl, b3⟩
        have M3 : Hid (Mr.At w3 gM (m.raw ⟨eA, eN, eC⟩ ⟨tA, tN, tC⟩)) := Lib.hid (Whole.below M2.out b3 M2.out.lt)
        have B3 := Lib.hid (B2.out.trans (b3.mono B2.out.size))
        refine hK.out _ _ b3 ?_
        clear hK K' b3 M2 B2
        refine reg_take (i := 3) (v := ?_) rfl (by kernel_rfl) (by kernel_rfl) (by kernel_rfl) (fun _ _ _ h => h) (by rfl) ?hy3 ?_
        case hy3 => intro w' hw'; go_simp; (try with_reducible rfl)
        simp only [Act.put, List.setIfInBounds_toArray, List.set_cons_zero, List.set_cons_succ]
        refine reg_take (i := 4) (v := ?_) rfl (by kernel_rfl) (by kernel_rfl) (by kernel_rfl) (fun _ _ _ h => h) (by rfl) ?hy4 ?_
        case hy4 => intro w' hw'; go_simp; (try with_reducible rfl)
        simp only [Act.put, List.setIfInBounds_toArray, List.set_cons_zero, List.set_cons_succ]
        refine reg_take (i := 5) (v := ?_) rfl (by kernel_rfl) (by kernel_rfl) (by kernel_rfl) (fun _ _ _ h => h) (by rfl) ?hy5 ?_
        case hy5 => intro w' hw'; go_simp; (try with_reducible rfl)
        simp only [Act.put, List.setIfInBounds_toArray, List.set_cons_zero, List.set_cons_succ]
        refine reg_take (i := 6) (v := .int .i64 m.rid) rfl (by kernel_rfl) (by kernel_rfl) (by kernel_rfl) (fun _ _ _ h => h) (by rfl) ?hy6 ?_
        case hy6 => intro w' hw'; have c := (show w'.cell? ⟨gM, 1, none⟩ = some (.int .i64 m.rid) from (Whole.below M3.out hw' M3.out.lt).at_ 1); go_simp; (try with_reducible rfl)
        simp only [Act.put, List.setIfInBounds_toArray, List.set_cons_zero, List.set_cons_succ]
        refine reg_take (i := 7) (v := ?_) rfl (by kernel_rfl) (by kernel_rfl) (by kernel_rfl) (fun _ _ _ h => h) (by rfl) ?hy7 ?_
        case hy7 => intro w' hw'; go_simp; (try with_reducible rfl)
        simp only [Act.put, List.setIfInBounds_toArray, List.set_cons_zero, List.set_cons_succ]
        refine reg_take (i := 8) (v := ?_) rfl (by kernel_rfl) (by kernel_rfl) (by kernel_rfl) (fun _ _ _ h => h) (by rfl) ?hy8 ?_
        case hy8 => intro w' hw'; go_simp; (try with_reducible rfl)
        simp only [Act.put, List.setIfInBounds_toArray, List.set_cons_zero, List.set_cons_succ]
        refine reg_take (i := 9) (v := ?_) rfl (by kernel_rfl) (by kernel_rfl) (by kernel_rfl) (fun _ _ _ h => h) (by rfl) ?hy9 ?_
        case hy9 => intro w' hw'; go_simp; (try with_reducible rfl)
        simp only [Act.put, List.setIfInBounds_toArray, List.set_cons_zero, List.set_cons_succ]
        refine reg_take (i := 10) (v := ?_) rfl (by kernel_rfl) (by kernel_rfl) (by kernel_rfl) (fun _ _ _ h => h) (by rfl) ?hy10 ?_
        case hy10 => intro w' hw'; go_simp; (try with_reducible rfl)
        simp only [Act.put, List.setIfInBounds_toArray, List.set_cons_zero, List.set_cons_succ]
        refine reg_take (i := 11) (v := .int .i64 m.rid) rfl (by kernel_rfl) (by kernel_rfl) (by kernel_rfl) (fun _ _ _ h => h) (by rfl) ?hy11 ?_
        case hy11 => intro w' hw'; have c := (show w'.cell? ⟨gM, 1, none⟩ = some (.int .i64 m.rid) from (Whole.below M3.out hw' M3.out.lt).at_ 1); go_simp; (try with_reducible rfl)
        simp only [Act.put, List.setIfInBounds_toArray, List.set_cons_zero, List.set_cons_succ]
        refine reg_take (i := 12) (v := ?_) rfl (by kernel_rfl) (by kernel_rfl) (by kernel_rfl) (fun _ _ _ h => h) (by rfl) ?hy12 ?_
        case hy12 => intro w' hw'; go_simp; (try with_reducible rfl)
        simp only [Act.put, List.setIfInBounds_toArray, List.set_cons_zero, List.set_cons_succ]
        refine reg_take (i := 13) (v := ?_) rfl (by kernel_rfl) (by kernel_rfl) (by kernel_rfl) (fun _ _ _ h => h) (by rfl) ?hy13 ?_
        case hy13 => intro w' hw'; go_simp; (try with_reducible rfl)
        simp only [Act.put, List.setIfInBounds_toArray, List.set_cons_zero, List.set_cons_succ]
        refine reg_take (i := 14) (v := ?_) rfl (by kernel_rfl) (by kernel_rfl) (by kernel_rfl) (fun _ _ _ h => h) (by rfl) ?hy14 ?_
        case hy14 => intro w' hw'; go_simp; (try with_reducible rfl)
        simp only [Act.put, List.setIfInBounds_toArray, List.set_cons_zero, List.set_cons_succ]
        refine reg_skip (i := 15) rfl (by kernel_rfl) (by kernel_rfl) (by kernel_rfl) (fun _ _ _ h => h) (by rfl) ?_
        simp only [Act.put, List.setIfInBounds_toArray, List.set_cons_zero, List.set_cons_succ]
        refine reg_skip (i := 16) rfl (by kernel_rfl) (by kernel_rfl) (by kernel_rfl) (fun _ _ _ h => h) (by rfl) ?_
        simp only [Act.put, List.setIfInBounds_toArray, List.set_cons_zero, List.set_cons_succ]
        refine reg_skip (i := 17) rfl (by kernel_rfl) (by kernel_rfl) (by kernel_rfl) (fun _ _ _ h => h) (by rfl) ?_
        simp only [Act.put, List.setIfInBounds_toArray, List.set_cons_zero, List.set_cons_succ]
        refine reg_skip (i := 18) rfl (by kernel_rfl) (by kernel_rfl) (by kernel_rfl) (fun _ _ _ h => h) (by rfl) ?_
        simp only [Act.put, List.setIfInBounds_toArray, List.set_cons_zero, List.set_cons_succ]
        refine reg_skip (i := 19) rfl (by kernel_rfl) (by kernel_rfl) (by kernel_rfl) (fun _ _ _ h => h) (by rfl) ?_
        simp only [Act.put, List.setIfInBounds_toArray, List.set_cons_zero, List.set_cons_succ]
        refine reg_take (i := 20) (v := ?_) rfl (by kernel_rfl) (by kernel_rfl) (by kernel_rfl) (fun _ _ _ h => h) (by rfl) ?hy20 ?_
        case hy20 => intro w' hw'; go_simp; (try with_reducible rfl)
        simp only [Act.put, List.setIfInBounds_toArray, List.set_cons_zero, List.set_cons_succ]
        refine reg_end (by kernel_rfl) ?_
        have HV : Hid (q = false) := Lib.hid (HF.out (fun k => by have := k.r2; omega))
        go_wp2
        go_ret
        exact ⟨by rw [HV.out]; rfl, B3.out⟩
      · have d2 : decide (1073741824 < m.rid) = false := by simpa using h2
        have HR : Hid (0 ≤ m.rid ∧ m.rid ≤ 1073741824) := Lib.hid (by omega)
        clear h1 h2
        go_wp2_with (with_reducible refine wpList_load_whole_st Mr.isRec rfl _ rfl gM (by with_unfolding_all exact rfl) _ _ (Mr.len _) M1.out ?_)
        refine reg_begin (by kernel_rfl) fun w2 b2 z2 => ?_
        have M2 : Hid (Mr.At w2 gM (m.raw ⟨eA, eN, eC⟩ ⟨tA, tN, tC⟩)) := Lib.hid (Whole.below M1.out b2 M1.out.lt)
        have B2 := Lib.hid (B1.out.trans (b2.mono B1.out.size))
        clear b2 z2 M1 B1
        refine reg_take (i := 0) (v := ?_) rfl (by kernel_rfl) (by kernel_rfl) (by kernel_rfl) (fun _ _ _ h => h) (by rfl) ?hy0 ?_
        case hy0 => intro w' hw'; go_simp; (try with_reducible rfl)
        simp only [Act.put, List.setIfInBounds_toArray, List.set_cons_zero, List.set_cons_succ]
        refine reg_take (i := 1) (v := (.int .i64 ((m.raw ⟨eA, eN, eC⟩ ⟨tA, tN, tC⟩)).kind)) rfl (by kernel_rfl) (by kernel_rfl) (by kernel_rfl) (fun _ _ _ h => h) (by rfl) ?hy1 ?_
        case hy1 => intro w' hw'; have c := Mr.At.at_kind (Whole.below M2.out hw' M2.out.lt); go_simp; (try with_reducible rfl)
        simp only [Act.put, List.setIfInBounds_toArray, List.set_cons_zero, List.set_cons_succ]
        refine reg_call (i := 2) rfl (by kernel_rfl) (fun K' hK => ?_)
        go_simp
        refine ((CL w2).out).mono ?_
        rintro e3 w3 ⟨rfl, b3⟩
        have M3 : Hid (Mr.At w3 gM (m.raw ⟨eA, eN, eC⟩ ⟨tA, tN, tC⟩)) := Lib.hid (Whole.below M2.out b3 M2.out.lt)
        have B3 := Lib.hid (B2.out.trans (b3.mono B2.out.size))
        refine hK.out _ _ b3 ?_
        clear hK K' b3 M2 B2
        refine reg_take (i := 3) (v := ?_) rfl (by kernel_rfl) (by kernel_rfl) (by kernel_rfl) (fun _ _ _ h => h) (by rfl) ?hy3 ?_
        case hy3 => intro w' hw'; go_simp; (try with_reducible rfl)
        simp only [Act.put, List.setIfInBounds_toArray, List.set_cons_zero, List.set_cons_succ]
        refine reg_take (i := 4) (v := ?_) rfl (by kernel_rfl) (by kernel_rfl) (by kernel_rfl) (fun _ _ _ h => h) (by rfl) ?hy4 ?_
        case hy4 => intro w' hw'; go_simp; (try with_reducible rfl)
        simp only [Act.put, List.setIfInBounds_toArray, List.set_cons_zero, List.set_cons_succ]
        refine reg_take (i := 5) (v := ?_) rfl (by kernel_rfl) (by kernel_rfl) (by kernel_rfl) (fun _ _ _ h => h) (by rfl) ?hy5 ?_
        case hy5 => intro w' hw'; go_simp; (try with_reducible rfl)
        simp only [Act.put, List.setIfInBounds_toArray, List.set_cons_zero, List.set_cons_succ]
        refine reg_take (i := 6) (v := .int .i64 m.rid) rfl (by kernel_rfl) (by kernel_rfl) (by kernel_rfl) (fun _ _ _ h => h) (by rfl) ?hy6 ?_
        case hy6 => intro w' hw'; have c := (show w'.cell? ⟨gM, 1, none⟩ = some (.int .i64 m.rid) from (Whole.below M3.out hw' M3.out.lt).at_ 1); go_simp; (try with_reducible rfl)
        simp only [Act.put, List.setIfInBounds_toArray, List.set_cons_zero, List.set_cons_succ]
        refine reg_take (i := 7) (v := ?_) rfl (by kernel_rfl) (by kernel_rfl) (by kernel_rfl) (fun _ _ _ h => h) (by rfl) ?hy7 ?_
        case hy7 => intro w' hw'; go_simp; (try with_reducible rfl)
        simp only [Act.put, List.setIfInBounds_toArray, List.set_cons_zero, List.set_cons_succ]
        refine reg_take (i := 8) (v := ?_) rfl (by kernel_rfl) (by kernel_rfl) (by kernel_rfl) (fun _ _ _ h => h) (by rfl) ?hy8 ?_
        case hy8 => intro w' hw'; go_simp; (try with_reducible rfl)
        simp only [Act.put, List.setIfInBounds_toArray, List.set_cons_zero, List.set_cons_succ]
        refine reg_take (i := 9) (v := ?_) rfl (by kernel_rfl) (by kernel_rfl) (by kernel_rfl) (fun _ _ _ h => h) (by rfl) ?hy9 ?_
        case hy9 => intro w' hw'; go_simp; (try with_reducible rfl)
        simp only [Act.put, List.setIfInBounds_toArray, List.set_cons_zero, List.set_cons_succ]
        refine reg_take (i := 10) (v := ?_) rfl (by kernel_rfl) (by kernel_rfl) (by kernel_rfl) (fun _ _ _ h => h) (by rfl) ?hy10 ?_
        case hy10 => intro w' hw'; go_simp; (try with_reducible rfl)
        simp only [Act.put, List.setIfInBounds_toArray, List.set_cons_zero, List.set_cons_succ]
        refine reg_take (i := 11) (v := .int .i64 m.rid) rfl (by kernel_rfl) (by kernel_rfl) (by kernel_rfl) (fun _ _ _ h => h) (by rfl) ?hy11 ?_
        case hy11 => intro w' hw'; have c := (show w'.cell? ⟨gM, 1, none⟩ = some (.int .i64 m.rid) from (Whole.below M3.out hw' M3.out.lt).at_ 1); go_simp; (try with_reducible rfl)
        simp only [Act.put, List.setIfInBounds_toArray, List.set_cons_zero, List.set_cons_succ]
        refine reg_take (i := 12) (v := ?_) rfl (by kernel_rfl) (by kernel_rfl) (by kernel_rfl) (fun _ _ _ h => h) (by rfl) ?hy12 ?_
        case hy12 => intro w' hw'; go_simp; (try with_reducible rfl)
        simp only [Act.put, List.setIfInBounds_toArray, List.set_cons_zero, List.set_cons_succ]
        refine reg_take (i := 13) (v := ?_) rfl (by kernel_rfl) (by kernel_rfl) (by kernel_rfl) (fun _ _ _ h => h) (by rfl) ?hy13 ?_
        case hy13 => intro w' hw'; go_simp; (try with_reducible rfl)
        simp only [Act.put, List.setIfInBounds_toArray, List.set_cons_zero, List.set_cons_succ]
        refine reg_take (i := 14) (v := ?_) rfl (by kernel_rfl) (by kernel_rfl) (by kernel_rfl) (fun _ _ _ h => h) (by rfl) ?hy14 ?_
        case hy14 => intro w' hw'; go_simp; (try with_reducible rfl)
        simp only [Act.put, List.setIfInBounds_toArray, List.set_cons_zero, List.set_cons_succ]
        refine reg_take (i := 15) (v := Mr.val ((m.raw ⟨eA, eN, eC⟩ ⟨tA, tN, tC⟩))) rfl (by kernel_rfl) (by kernel_rfl) (by kernel_rfl) (fun _ _ _ h => h) (by rfl) ?hy15 ?_
        case hy15 => intro w' hw'; exact exec_load_whole_st Mr.isRec _ rfl gM rfl _ _ (Mr.len _) w' (Whole.below M3.out hw' M3.out.lt)
        simp only [Act.put, List.setIfInBounds_toArray, List.set_cons_zero, List.set_cons_succ]
        refine reg_take (i := 16) (v := Mr.val ((m.raw ⟨eA, eN, eC⟩ ⟨tA, tN, tC⟩))) rfl (by kernel_rfl) (by kernel_rfl) (by kernel_rfl) (fun _ _ _ h => h) (by rfl) ?hy16 ?_
        case hy16 => intro w' hw'; exact exec_load_whole_st Mr.isRec _ rfl gM rfl _ _ (Mr.len _) w' (Whole.below M3.out hw' M3.out.lt)
        simp only [Act.put, List.setIfInBounds_toArray, List.set_cons_zero, List.set_cons_succ]
        refine reg_call (i := 17) rfl (by kernel_rfl) (fun K' hK => ?_)
        go_simp
        refine ((CB w3 B3.out).out).mono ?_
        rintro e4 w4 ⟨e1, t1, rfl, hL, b4⟩
        have M4 : Hid (Mr.At w4 gM (m.raw ⟨eA, eN, eC⟩ ⟨tA, tN, tC⟩)) := Lib.hid (Whole.below M3.out b4 M3.out.lt)
        have B4 := Lib.hid (B3.out.trans (b4.mono B3.out.size))
        have L4 : Hid (Lists w4 e1 t1 (bareM m)) := Lib.hid hL
        refine hK.out _ _ b4 ?_
        clear hK K' b4 M3 B3 hL
        refine reg_call (i := 18) rfl (by kernel_rfl) (fun K' hK => ?_)
        go_simp
        refine ((CS e1 t1 w4 B4.out L4.out).out).mono ?_
        rintro e5 w5 ⟨rfl, b5⟩
        have M5 : Hid (Mr.At w5 gM (m.raw ⟨eA, eN, eC⟩ ⟨tA, tN, tC⟩)) := Lib.hid (Whole.below M4.out b5 M4.out.lt)
        have L5 : Hid (Lists w5 e1 t1 (bareM m)) := Lib.hid (L4.out.below b5)
        have B5 := Lib.hid (B4.out.trans (b5.mono B4.out.size))
        refine hK.out _ _ b5 ?_
        clear hK K' b5 M4 L4 B4
        refine reg_take (i := 19) (v := ?_) rfl (by kernel_rfl) (by kernel_rfl) (by kernel_rfl) (fun _ _ _ h => h) (by rfl) ?hy19 ?_
        case hy19 => intro w' hw'; go_simp; (try with_reducible rfl)
        simp only [Act.put, List.setIfInBounds_toArray, List.set_cons_zero, List.set_cons_succ]
        refine reg_take (i := 20) (v := ?_) rfl (by kernel_rfl) (by kernel_rfl) (by kernel_rfl) (fun _ _ _ h => h) (by rfl) ?hy20 ?_
        case hy20 => intro w' hw'; go_simp; (try with_reducible rfl)
        simp only [Act.put, List.setIfInBounds_toArray, List.set_cons_zero, List.set_cons_succ]
        refine reg_end (by kernel_rfl) ?_
        clear d1 d2 r0
        cases qs with
        | false =>
          have HV : Hid (q = false) := Lib.hid (HF.out (fun k => by have h1 := HQS.out; rw [decide_eq_true k.bare] at h1; cases h1))
          go_wp2
          go_ret
          exact ⟨by rw [HV.out]; rfl, B5.out⟩
        | true =>
          have HB : Hid (m = bareM m) := Lib.hid (by have q := HQS.out; exact of_decide_eq_true q.symm)
          obtain ⟨m0, m1, m2, m3, m4, m5, m6, m7, m8, m9, m10⟩ := Mr.At.all M5.out
          by_cases g0 : m.error < 0
          · have x0 : decide (m.error < 0) = true := by simpa using g0
            have HV : Hid (q = false) := Lib.hid (HF.out (fun k => by have := k.e1; omega))
            go_wp2
            go_ret
            exact ⟨by rw [HV.out]; rfl, B5.out⟩
          · have x0 : decide (m.error < 0) = false := by simpa using g0
            by_cases g1 : 99 < m.error
            · have x1 : decide (99 < m.error) = true := by simpa using g1
              have HV : Hid (q = false) := Lib.hid (HF.out (fun k => by have := k.e2; omega))
              go_wp2
              go_ret
              exact ⟨by rw [HV.out]; rfl, B5.out⟩
            · have x1 : decide (99 < m.error) = false := by simpa using g1
              by_cases g2 : m.ver < 0
              · have x2 : decide (m.ver < 0) = true := by simpa using g2
                have HV : Hid (q = false) := Lib.hid (HF.out (fun k => by have := k.v1; omega))
                go_wp2
                go_ret
                exact ⟨by rw [HV.out]; rfl, B5.out⟩
              · have x2 : decide (m.ver < 0) = false := by simpa using g2
                by_cases g3 : 1073741824 < m.ver
                · have x3 : decide (1073741824 < m.ver) = true := by simpa using g3
                  have HV : Hid (q = false) := Lib.hid (HF.out (fun k => by have := k.v2; omega))
                  go_wp2
                  go_ret
                  exact ⟨by rw [HV.out]; rfl, B5.out⟩
                · have x3 : decide (1073741824 < m.ver) = false := by simpa using g3
                  by_cases g4 : 32 < m.val.length
                  · have x4 : decide ((32 : Int) < (m.val.length : Int)) = true := by simp; omega
                    have HV : Hid (q = false) := Lib.hid (HF.out (fun k => by have := k.val; omega))
                    go_wp2
                    go_ret
                    exact ⟨by rw [HV.out]; rfl, B5.out⟩
                  · have x4 : decide ((32 : Int) < (m.val.length : Int)) = false := by simp; omega
                    have HN : Hid (0 ≤ m.error ∧ m.error ≤ 99 ∧ 0 ≤ m.ver ∧ m.ver ≤ 1073741824 ∧ m.val.length ≤ 32) := Lib.hid (by omega)
                    go_wp2_with fail
                    refine (CI _).out.mono ?_
                    rintro x u1 ⟨rfl, b1⟩
                    have M1 : Hid (Mr.At u1 gM (m.raw ⟨eA, eN, eC⟩ ⟨tA, tN, tC⟩)) := Lib.hid (Whole.below M5.out b1 M5.out.lt)
                    have B1 := Lib.hid (B5.out.trans (b1.mono B5.out.size))
                    clear b1 m0 m1 m2 m3 m4 m5 m6 m7 m8 m9 m10
                    obtain ⟨m0, m1, m2, m3, m4, m5, m6, m7, m8, m9, m10⟩ := Mr.At.all M1.out
                    clear g0 g1 g2 g3 g4
                    cases q5 with
                    | false =>
                      have HKEY : Hid (inK m.kind 5 = true → keyB m.key = true) := Lib.hid (fun h => by rw [← HQ5.out] at h; cases h)
                      by_cases j0 : 8 < eN
                      · have y0 : decide ((8 : Int) < (eN : Int)) = true := by simp; omega
                        have HV : Hid (q = false) := Lib.hid (HF.out (fun k => by have := k.many; have := HEN.out; omega))
                        go_wp2
                        go_ret
                        exact ⟨by rw [HV.out]; rfl, B1.out⟩
                      · have y0 : decide ((8 : Int) < (eN : Int)) = false := by simp; omega
                        by_cases j1 : 16 < tN
                        · have y1 : decide ((16 : Int) < (tN : Int)) = true := by simp; omega
                          have HV : Hid (q = false) := Lib.hid (HF.out (fun k => by have := k.items; have := HTN.out; omega))
                          go_wp2
                          go_ret
                          exact ⟨by rw [HV.out]; rfl, B1.out⟩
                        · have y1 : decide ((16 : Int) < (tN : Int)) = false := by simp; omega
                          have HEI : Hid (eN ≤ 8 ∧ tN ≤ 16) := Lib.hid (by omega)
                          clear j0 j1
                          by_cases j7 : m.kind = 7
                          · have z7 : (m.kind == 7) = true := by simp [j7]
                            by_cases j8 : eN = 1
                            · have z8 : ((eN : Int) != 1) = false := by simp; omega
                              have HONE : Hid (m.kind = 7 → m.es.length = 1) := Lib.hid (fun _ => by rw [← HEN.out]; exact j8)
                              clear j7 j8
                              go_wp2_with fail
                              go_loopw [3] (fun i wr => ∃ k : Nat, k ≤ eN ∧ i = .int .i64 (k : Int) ∧ (m.es.take k).all entR = true ∧ Mr.At wr gM (m.raw ⟨eA, eN, eC⟩ ⟨tA, tN, tC⟩) ∧ Below w.heap.size w wr) (fun i _ => eN - (intOf i).toNat)
                              case atStart => exact ⟨0, Nat.zero_le _, rfl, by simp, M1.out, B1.out⟩
                              case round =>
                                obtain ⟨k, hk, rfl, ht, hm, hb⟩ := hrel
                                have T0 := Lib.hid ht
                                have M0 := Lib.hid hm
                                have B0 := Lib.hid hb
                                clear ht hm hb M1 B1
                                clear m0 m1 m2 m3 m4 m5 m6 m7 m8 m9 m10
                                obtain ⟨m0, m1, m2, m3, m4, m5, m6, m7, m8, m9, m10⟩ := Mr.At.all M0.out
                                by_cases hlt : k < eN
                                · have dk : decide ((k : Int) < (eN : Int)) = true := by simp; omega
                                  have dk2 : decide (k < eN) = true := by simp; omega
                                  have jk : (k : Int) < (eN : Int) := by omega
                                  obtain ⟨x, hx⟩ : ∃ x, m.es[k]? = some x := ⟨_, List.getElem?_eq_getElem (by rw [← HEN.out]; exact hlt)⟩
                                  obtain ⟨b, off, rfl, hbl, hc⟩ := HES.out.row (entC_len m.es) (by decide) (map_at hx)
                                  have HC := Lib.hid (fun j u (hj : x.enc[j]? = some u) => (B0.out.cell (p := ⟨b, off + k * 6 + j, none⟩) hbl).trans (hc j u hj))
                                  have HU : Hid (entR x = true → (m.es.take (k + 1)).all entR = true) := Lib.hid (fun e => by rw [allTake hx, T0.out, e]; rfl)
                                  have HV : Hid (entR x = false → q = false) := Lib.hid (fun e => HF.out (fun h => by have := h.es x (List.mem_of_getElem? hx); rw [e] at this; cases this))
                                  have CE := fun w => Lib.hid (refRight_any x w)
                                  have r4 : IntKind.i64.wrap ((k : Int) + 1) = ((k + 1 : Nat) : Int) := by have := HL.out.1; have := HEN.out; rw [IntWalk.i64_in _ (by omega)]; omega
                                  clear hc hx
                                  generalize entR x = qx at *
                                  go_wp2_with (with_reducible refine wpList_load_rec Ent.isRec rfl _ rfl b (off + k * 6) (by with_unfolding_all exact rfl) x.enc (Ent.len _) HC.out ?_)
                                  refine (CE _).out.mono ?_
                                  rintro y u3 ⟨rfl, b3⟩
                                  have M3 : Hid (Mr.At u3 gM (m.raw ⟨some ⟨b, off, none⟩, eN, eC⟩ ⟨tA, tN, tC⟩)) := Lib.hid (Whole.below M0.out b3 M0.out.lt)
                                  have B3 := Lib.hid (B0.out.trans (b3.mono B0.out.size))
                                  clear b3 M0 B0 HC CE m0 m1 m2 m3 m4 m5 m6 m7 m8 m9 m10
                                  cases qx with
                                  | true =>
                                    have HW := Lib.hid (HU.out rfl)
                                    go_wp2
                                    exact ⟨⟨k + 1, by omega, by go_num, HW.out, M3.out, B3.out⟩, by simp [intOf]; omega⟩
                                  | false =>
                                    have HW := Lib.hid (HV.out rfl)
                                    go_wp2
                                    go_ret
                                    exact ⟨by rw [HW.out]; rfl, B3.out⟩
                                · obtain rfl : k = eN := by omega
                                  have dk : decide ((k : Int) < (k : Int)) = false := by simp
                                  have HX : Hid (∀ e ∈ m.es, entR e = true) := Lib.hid (by have := T0.out; rw [List.take_of_length_le (by rw [← HEN.out]; omega)] at this; exact List.all_eq_true.1 this)
                                  clear T0
                                  go_wp2_with fail
                                  go_loopw [4] (fun i wr => ∃ j : Nat, j ≤ tN ∧ i = .int .i64 (j : Int) ∧ (m.its.take j).all itemB = true ∧ Mr.At wr gM (m.raw ⟨eA, k, eC⟩ ⟨tA, tN, tC⟩) ∧ Below w.heap.size w wr) (fun i _ => tN - (intOf i).toNat)
                                  case atStart => exact ⟨0, Nat.zero_le _, rfl, by simp, M0.out, B0.out⟩
                                  case round =>
                                    obtain ⟨j, hj, rfl, ht, hm, hb⟩ := hrel
                                    have T1 := Lib.hid ht
                                    have M4 := Lib.hid hm
                                    have B4 := Lib.hid hb
                                    clear ht hm hb M0 B0 m0 m1 m2 m3 m4 m5 m6 m7 m8 m9 m10
                                    obtain ⟨m0, m1, m2, m3, m4, m5, m6, m7, m8, m9, m10⟩ := Mr.At.all M4.out
                                    by_cases hlt : j < tN
                                    · have dj : decide ((j : Int) < (tN : Int)) = true := by simp; omega
                                      have jk : (j : Int) < (tN : Int) := by omega
                                      obtain ⟨x, hx⟩ : ∃ x, m.its[j]? = some x := ⟨_, List.getElem?_eq_getElem (by rw [← HTN.out]; exact hlt)⟩
                                      obtain ⟨b, off, rfl, hbl, hc⟩ := HITS.out.row (itemC_len m.its) (by decide) (map_at hx)
                                      have HC := Lib.hid (fun j' u (hj' : x.enc[j']? = some u) => (B4.out.cell (p := ⟨b, off + j * 4 + j', none⟩) hbl).trans (hc j' u hj'))
                                      have HU : Hid (itemB x = true → (m.its.take (j + 1)).all itemB = true) := Lib.hid (fun e => by rw [allTake hx, T1.out, e]; rfl)
                                      have HV : Hid (itemB x = false → q = false) := Lib.hid (fun e => HF.out (fun h => by have := h.its x (List.mem_of_getElem? hx); rw [e] at this; cases this))
                                      have CE := fun w => Lib.hid (refItem_any x w)
                                      have r4 : IntKind.i64.wrap ((j : Int) + 1) = ((j + 1 : Nat) : Int) := by have := HL.out.2; have := HTN.out; rw [IntWalk.i64_in _ (by omega)]; omega
                                      clear hc hx
                                      generalize itemB x = qx at *
                                      go_wp2_with (with_reducible refine wpList_load_rec Item.isRec rfl _ rfl b (off + j * 4) (by with_unfolding_all exact rfl) x.enc (Item.len _) HC.out ?_)
                                      refine (CE _).out.mono ?_
                                      rintro y u5 ⟨rfl, b5⟩
                                      have M5 : Hid (Mr.At u5 gM (m.raw ⟨eA, k, eC⟩ ⟨some ⟨b, off, none⟩, tN, tC⟩)) := Lib.hid (Whole.below M4.out b5 M4.out.lt)
                                      have B5 := Lib.hid (B4.out.trans (b5.mono B4.out.size))
                                      clear b5 M4 B4 HC CE m0 m1 m2 m3 m4 m5 m6 m7 m8 m9 m10
                                      cases qx with
                                      | true =>
                                        have HW := Lib.hid (HU.out rfl)
                                        go_wp2
                                        exact ⟨⟨j + 1, by omega, by go_num, HW.out, M5.out, B5.out⟩, by simp [intOf]; omega⟩
                                      | false =>
                                        have HW := Lib.hid (HV.out rfl)
                                        go_wp2
                                        go_ret
                                        exact ⟨by rw [HW.out]; rfl, B5.out⟩
                                    · obtain rfl : j = tN := by omega
                                      have dj : decide ((j : Int) < (j : Int)) = false := by simp
                                      have HY : Hid (∀ i ∈ m.its, itemB i = true) := Lib.hid (by have := T1.out; rw [List.take_of_length_le (by rw [← HTN.out]; omega)] at this; exact List.all_eq_true.1 this)
                                      have HV : Hid (q = true) := Lib.hid (HT.out ⟨HK.out.1, HK.out.2, HR.out.1, HR.out.2, HB.out, HN.out.1, HN.out.2.1, HN.out.2.2.1, HN.out.2.2.2.1, HKEY.out, HN.out.2.2.2.2, HONE.out, by have := HEI.out; have := HEN.out; omega, by have := HEI.out; have := HTN.out; omega, HX.out, HY.out⟩)
                                      go_wp2
                                      go_ret
                                      exact ⟨by rw [HV.out]; rfl, B4.out⟩
                            · have z8 : ((eN : Int) != 1) = true := by simp; omega
                              have HV : Hid (q = false) := Lib.hid (HF.out (fun k => by have := k.one j7; have := HEN.out; omega))
                              go_wp2
                              go_ret
                              exact ⟨by rw [HV.out]; rfl, B1.out⟩
                          · have z7 : (m.kind == 7) = false := by simp [j7]
                            have HONE : Hid (m.kind = 7 → m.es.length = 1) := Lib.hid (fun h => absurd h j7)
                            clear j7
                            go_wp2_with fail
                            go_loopw [3] (fun i wr => ∃ k : Nat, k ≤ eN ∧ i = .int .i64 (k : Int) ∧ (m.es.take k).all entR = true ∧ Mr.At wr gM (m.raw ⟨eA, eN, eC⟩ ⟨tA, tN, tC⟩) ∧ Below w.heap.size w wr) (fun i _ => eN - (intOf i).toNat)
                            case atStart => exact ⟨0, Nat.zero_le _, rfl, by simp, M1.out, B1.out⟩
                            case round =>
                              obtain ⟨k, hk, rfl, ht, hm, hb⟩ := hrel
                              have T0 := Lib.hid ht
                              have M0 := Lib.hid hm
                              have B0 := Lib.hid hb
                              clear ht hm hb M1 B1
                              clear m0 m1 m2 m3 m4 m5 m6 m7 m8 m9 m10
                              obtain ⟨m0, m1, m2, m3, m4, m5, m6, m7, m8, m9, m10⟩ := Mr.At.all M0.out
                              by_cases hlt : k < eN
                              · have dk : decide ((k : Int) < (eN : Int)) = true := by simp; omega
                                have dk2 : decide (k < eN) = true := by simp; omega
                                have jk : (k : Int) < (eN : Int) := by omega
                                obtain ⟨x, hx⟩ : ∃ x, m.es[k]? = some x := ⟨_, List.getElem?_eq_getElem (by rw [← HEN.out]; exact hlt)⟩
                                obtain ⟨b, off, rfl, hbl, hc⟩ := HES.out.row (entC_len m.es) (by decide) (map_at hx)
                                have HC := Lib.hid (fun j u (hj : x.enc[j]? = some u) => (B0.out.cell (p := ⟨b, off + k * 6 + j, none⟩) hbl).trans (hc j u hj))
                                have HU : Hid (entR x = true → (m.es.take (k + 1)).all entR = true) := Lib.hid (fun e => by rw [allTake hx, T0.out, e]; rfl)
                                have HV : Hid (entR x = false → q = false) := Lib.hid (fun e => HF.out (fun h => by have := h.es x (List.mem_of_getElem? hx); rw [e] at this; cases this))
                                have CE := fun w => Lib.hid (refRight_any x w)
                                have r4 : IntKind.i64.wrap ((k : Int) + 1) = ((k + 1 : Nat) : Int) := by have := HL.out.1; have := HEN.out; rw [IntWalk.i64_in _ (by omega)]; omega
                                clear hc hx
                                generalize entR x = qx at *
                                go_wp2_with (with_reducible refine wpList_load_rec Ent.isRec rfl _ rfl b (off + k * 6) (by with_unfolding_all exact rfl) x.enc (Ent.len _) HC.out ?_)
                                refine (CE _).out.mono ?_
                                rintro y u3 ⟨rfl, b3⟩
                                have M3 : Hid (Mr.At u3 gM (m.raw ⟨some ⟨b, off, none⟩, eN, eC⟩ ⟨tA, tN, tC⟩)) := Lib.hid (Whole.below M0.out b3 M0.out.lt)
                                have B3 := Lib.hid (B0.out.trans (b3.mono B0.out.size))
                                clear b3 M0 B0 HC CE m0 m1 m2 m3 m4 m5 m6 m7 m8 m9 m10
                                cases qx with
                                | true =>
                                  have HW := Lib.hid (HU.out rfl)
                                  go_wp2
                                  exact ⟨⟨k + 1, by omega, by go_num, HW.out, M3.out, B3.out⟩, by simp [intOf]; omega⟩
                                | false =>
                                  have HW := Lib.hid (HV.out rfl)
                                  go_wp2
                                  go_ret
                                  exact ⟨by rw [HW.out]; rfl, B3.out⟩
                              · obtain rfl : k = eN := by omega
                                have dk : decide ((k : Int) < (k : Int)) = false := by simp
                                have HX : Hid (∀ e ∈ m.es, entR e = true) := Lib.hid (by have := T0.out; rw [List.take_of_length_le (by rw [← HEN.out]; omega)] at this; exact List.all_eq_true.1 this)
                                clear T0
                                go_wp2_with fail
                                go_loopw [4] (fun i wr => ∃ j : Nat, j ≤ tN ∧ i = .int .i64 (j : Int) ∧ (m.its.take j).all itemB = true ∧ Mr.At wr gM (m.raw ⟨eA, k, eC⟩ ⟨tA, tN, tC⟩) ∧ Below w.heap.size w wr) (fun i _ => tN - (intOf i).toNat)
                                case atStart => exact ⟨0, Nat.zero_le _, rfl, by simp, M0.out, B0.out⟩
                                case round =>
                                  obtain ⟨j, hj, rfl, ht, hm, hb⟩ := hrel
                                  have T1 := Lib.hid ht
                                  have M4 := Lib.hid hm
                                  have B4 := Lib.hid hb
                                  clear ht hm hb M0 B0 m0 m1 m2 m3 m4 m5 m6 m7 m8 m9 m10
                                  obtain ⟨m0, m1, m2, m3, m4, m5, m6, m7, m8, m9, m10⟩ := Mr.At.all M4.out
                                  by_cases hlt : j < tN
                                  · have dj : decide ((j : Int) < (tN : Int)) = true := by simp; omega
                                    have jk : (j : Int) < (tN : Int) := by omega
                                    obtain ⟨x, hx⟩ : ∃ x, m.its[j]? = some x := ⟨_, List.getElem?_eq_getElem (by rw [← HTN.out]; exact hlt)⟩
                                    obtain ⟨b, off, rfl, hbl, hc⟩ := HITS.out.row (itemC_len m.its) (by decide) (map_at hx)
                                    have HC := Lib.hid (fun j' u (hj' : x.enc[j']? = some u) => (B4.out.cell (p := ⟨b, off + j * 4 + j', none⟩) hbl).trans (hc j' u hj'))
                                    have HU : Hid (itemB x = true → (m.its.take (j + 1)).all itemB = true) := Lib.hid (fun e => by rw [allTake hx, T1.out, e]; rfl)
                                    have HV : Hid (itemB x = false → q = false) := Lib.hid (fun e => HF.out (fun h => by have := h.its x (List.mem_of_getElem? hx); rw [e] at this; cases this))
                                    have CE := fun w => Lib.hid (refItem_any x w)
                                    have r4 : IntKind.i64.wrap ((j : Int) + 1) = ((j + 1 : Nat) : Int) := by have := HL.out.2; have := HTN.out; rw [IntWalk.i64_in _ (by omega)]; omega
                                    clear hc hx
                                    generalize itemB x = qx at *
                                    go_wp2_with (with_reducible refine wpList_load_rec Item.isRec rfl _ rfl b (off + j * 4) (by with_unfolding_all exact rfl) x.enc (Item.len _) HC.out ?_)
                                    refine (CE _).out.mono ?_
                                    rintro y u5 ⟨rfl, b5⟩
                                    have M5 : Hid (Mr.At u5 gM (m.raw ⟨eA, k, eC⟩ ⟨some ⟨b, off, none⟩, tN, tC⟩)) := Lib.hid (Whole.below M4.out b5 M4.out.lt)
                                    have B5 := Lib.hid (B4.out.trans (b5.mono B4.out.size))
                                    clear b5 M4 B4 HC CE m0 m1 m2 m3 m4 m5 m6 m7 m8 m9 m10
                                    cases qx with
                                    | true =>
                                      have HW := Lib.hid (HU.out rfl)
                                      go_wp2
                                      exact ⟨⟨j + 1, by omega, by go_num, HW.out, M5.out, B5.out⟩, by simp [intOf]; omega⟩
                                    | false =>
                                      have HW := Lib.hid (HV.out rfl)
                                      go_wp2
                                      go_ret
                                      exact ⟨by rw [HW.out]; rfl, B5.out⟩
                                  · obtain rfl : j = tN := by omega
                                    have dj : decide ((j : Int) < (j : Int)) = false := by simp
                                    have HY : Hid (∀ i ∈ m.its, itemB i = true) := Lib.hid (by have := T1.out; rw [List.take_of_length_le (by rw [← HTN.out]; omega)] at this; exact List.all_eq_true.1 this)
                                    have HV : Hid (q = true) := Lib.hid (HT.out ⟨HK.out.1, HK.out.2, HR.out.1, HR.out.2, HB.out, HN.out.1, HN.out.2.1, HN.out.2.2.1, HN.out.2.2.2.1, HKEY.out, HN.out.2.2.2.2, HONE.out, by have := HEI.out; have := HEN.out; omega, by have := HEI.out; have := HTN.out; omega, HX.out, HY.out⟩)
                                    go_wp2
                                    go_ret
                                    exact ⟨by rw [HV.out]; rfl, B4.out⟩
                    | true =>
                      go_wp2_with fail
                      refine (CK _).out.mono ?_
                      rintro x u2 ⟨rfl, b2⟩
                      have M2 : Hid (Mr.At u2 gM (m.raw ⟨eA, eN, eC⟩ ⟨tA, tN, tC⟩)) := Lib.hid (Whole.below M1.out b2 M1.out.lt)
                      have B2 := Lib.hid (B1.out.trans (b2.mono B1.out.size))
                      clear b2 M1 B1 m0 m1 m2 m3 m4 m5 m6 m7 m8 m9 m10
                      obtain ⟨m0, m1, m2, m3, m4, m5, m6, m7, m8, m9, m10⟩ := Mr.At.all M2.out
                      cases qk with
                      | false =>
                        have HV : Hid (q = false) := Lib.hid (HF.out (fun k => by have h1 := k.key HQ5.out.symm; rw [← HQK.out] at h1; cases h1))
                        go_wp2
                        go_ret
                        exact ⟨by rw [HV.out]; rfl, B2.out⟩
                      | true =>
                        have HKEY : Hid (inK m.kind 5 = true → keyB m.key = true) := Lib.hid (fun _ => HQK.out.symm)
                        by_cases j0 : 8 < eN
                        · have y0 : decide ((8 : Int) < (eN : Int)) = true := by simp; omega
                          have HV : Hid (q = false) := Lib.hid (HF.out (fun k => by have := k.many; have := HEN.out; omega))
                          go_wp2
                          go_ret
                          exact ⟨by rw [HV.out]; rfl, B2.out⟩
                        · have y0 : decide ((8 : Int) < (eN : Int)) = false := by simp; omega
                          by_cases j1 : 16 < tN
                          · have y1 : decide ((16 : Int) < (tN : Int)) = true := by simp; omega
                            have HV : Hid (q = false) := Lib.hid (HF.out (fun k => by have := k.items; have := HTN.out; omega))
                            go_wp2
                            go_ret
                            exact ⟨by rw [HV.out]; rfl, B2.out⟩
                          · have y1 : decide ((16 : Int) < (tN : Int)) = false := by simp; omega
                            have HEI : Hid (eN ≤ 8 ∧ tN ≤ 16) := Lib.hid (by omega)
                            clear j0 j1
                            by_cases j7 : m.kind = 7
                            · have z7 : (m.kind == 7) = true := by simp [j7]
                              by_cases j8 : eN = 1
                              · have z8 : ((eN : Int) != 1) = false := by simp; omega
                                have HONE : Hid (m.kind = 7 → m.es.length = 1) := Lib.hid (fun _ => by rw [← HEN.out]; exact j8)
                                clear j7 j8
                                go_wp2_with fail
                                go_loopw [3] (fun i wr => ∃ k : Nat, k ≤ eN ∧ i = .int .i64 (k : Int) ∧ (m.es.take k).all entR = true ∧ Mr.At wr gM (m.raw ⟨eA, eN, eC⟩ ⟨tA, tN, tC⟩) ∧ Below w.heap.size w wr) (fun i _ => eN - (intOf i).toNat)
                                case atStart => exact ⟨0, Nat.zero_le _, rfl, by simp, M2.out, B2.out⟩
                                case round =>
                                  obtain ⟨k, hk, rfl, ht, hm, hb⟩ := hrel
                                  have T0 := Lib.hid ht
                                  have M0 := Lib.hid hm
                                  have B0 := Lib.hid hb
                                  clear ht hm hb M2 B2
                                  clear m0 m1 m2 m3 m4 m5 m6 m7 m8 m9 m10
                                  obtain ⟨m0, m1, m2, m3, m4, m5, m6, m7, m8, m9, m10⟩ := Mr.At.all M0.out
                                  by_cases hlt : k < eN
                                  · have dk : decide ((k : Int) < (eN : Int)) = true := by simp; omega
                                    have dk2 : decide (k < eN) = true := by simp; omega
                                    have jk : (k : Int) < (eN : Int) := by omega
                                    obtain ⟨x, hx⟩ : ∃ x, m.es[k]? = some x := ⟨_, List.getElem?_eq_getElem (by rw [← HEN.out]; exact hlt)⟩
                                    obtain ⟨b, off, rfl, hbl, hc⟩ := HES.out.row (entC_len m.es) (by decide) (map_at hx)
                                    have HC := Lib.hid (fun j u (hj : x.enc[j]? = some u) => (B0.out.cell (p := ⟨b, off + k * 6 + j, none⟩) hbl).trans (hc j u hj))
                                    have HU : Hid (entR x = true → (m.es.take (k + 1)).all entR = true) := Lib.hid (fun e => by rw [allTake hx, T0.out, e]; rfl)
                                    have HV : Hid (entR x = false → q = false) := Lib.hid (fun e => HF.out (fun h => by have := h.es x (List.mem_of_getElem? hx); rw [e] at this; cases this))
                                    have CE := fun w => Lib.hid (refRight_any x w)
                                    have r4 : IntKind.i64.wrap ((k : Int) + 1) = ((k + 1 : Nat) : Int) := by have := HL.out.1; have := HEN.out; rw [IntWalk.i64_in _ (by omega)]; omega
                                    clear hc hx
                                    generalize entR x = qx at *
                                    go_wp2_with (with_reducible refine wpList_load_rec Ent.isRec rfl _ rfl b (off + k * 6) (by with_unfolding_all exact rfl) x.enc (Ent.len _) HC.out ?_)
                                    refine (CE _).out.mono ?_
                                    rintro y u3 ⟨rfl, b3⟩
                                    have M3 : Hid (Mr.At u3 gM (m.raw ⟨some ⟨b, off, none⟩, eN, eC⟩ ⟨tA, tN, tC⟩)) := Lib.hid (Whole.below M0.out b3 M0.out.lt)
                                    have B3 := Lib.hid (B0.out.trans (b3.mono B0.out.size))
                                    clear b3 M0 B0 HC CE m0 m1 m2 m3 m4 m5 m6 m7 m8 m9 m10
                                    cases qx with
                                    | true =>
                                      have HW := Lib.hid (HU.out rfl)
                                      go_wp2
                                      exact ⟨⟨k + 1, by omega, by go_num, HW.out, M3.out, B3.out⟩, by simp [intOf]; omega⟩
                                    | false =>
                                      have HW := Lib.hid (HV.out rfl)
                                      go_wp2
                                      go_ret
                                      exact ⟨by rw [HW.out]; rfl, B3.out⟩
                                  · obtain rfl : k = eN := by omega
                                    have dk : decide ((k : Int) < (k : Int)) = false := by simp
                                    have HX : Hid (∀ e ∈ m.es, entR e = true) := Lib.hid (by have := T0.out; rw [List.take_of_length_le (by rw [← HEN.out]; omega)] at this; exact List.all_eq_true.1 this)
                                    clear T0
                                    go_wp2_with fail
                                    go_loopw [4] (fun i wr => ∃ j : Nat, j ≤ tN ∧ i = .int .i64 (j : Int) ∧ (m.its.take j).all itemB = true ∧ Mr.At wr gM (m.raw ⟨eA, k, eC⟩ ⟨tA, tN, tC⟩) ∧ Below w.heap.size w wr) (fun i _ => tN - (intOf i).toNat)
                                    case atStart => exact ⟨0, Nat.zero_le _, rfl, by simp, M0.out, B0.out⟩
                                    case round =>
                                      obtain ⟨j, hj, rfl, ht, hm, hb⟩ := hrel
                                      have T1 := Lib.hid ht
                                      have M4 := Lib.hid hm
                                      have B4 := Lib.hid hb
                                      clear ht hm hb M0 B0 m0 m1 m2 m3 m4 m5 m6 m7 m8 m9 m10
                                      obtain ⟨m0, m1, m2, m3, m4, m5, m6, m7, m8, m9, m10⟩ := Mr.At.all M4.out
                                      by_cases hlt : j < tN
                                      · have dj : decide ((j : Int) < (tN : Int)) = true := by simp; omega
                                        have jk : (j : Int) < (tN : Int) := by omega
                                        obtain ⟨x, hx⟩ : ∃ x, m.its[j]? = some x := ⟨_, List.getElem?_eq_getElem (by rw [← HTN.out]; exact hlt)⟩
                                        obtain ⟨b, off, rfl, hbl, hc⟩ := HITS.out.row (itemC_len m.its) (by decide) (map_at hx)
                                        have HC := Lib.hid (fun j' u (hj' : x.enc[j']? = some u) => (B4.out.cell (p := ⟨b, off + j * 4 + j', none⟩) hbl).trans (hc j' u hj'))
                                        have HU : Hid (itemB x = true → (m.its.take (j + 1)).all itemB = true) := Lib.hid (fun e => by rw [allTake hx, T1.out, e]; rfl)
                                        have HV : Hid (itemB x = false → q = false) := Lib.hid (fun e => HF.out (fun h => by have := h.its x (List.mem_of_getElem? hx); rw [e] at this; cases this))
                                        have CE := fun w => Lib.hid (refItem_any x w)
                                        have r4 : IntKind.i64.wrap ((j : Int) + 1) = ((j + 1 : Nat) : Int) := by have := HL.out.2; have := HTN.out; rw [IntWalk.i64_in _ (by omega)]; omega
                                        clear hc hx
                                        generalize itemB x = qx at *
                                        go_wp2_with (with_reducible refine wpList_load_rec Item.isRec rfl _ rfl b (off + j * 4) (by with_unfolding_all exact rfl) x.enc (Item.len _) HC.out ?_)
                                        refine (CE _).out.mono ?_
                                        rintro y u5 ⟨rfl, b5⟩
                                        have M5 : Hid (Mr.At u5 gM (m.raw ⟨eA, k, eC⟩ ⟨some ⟨b, off, none⟩, tN, tC⟩)) := Lib.hid (Whole.below M4.out b5 M4.out.lt)
                                        have B5 := Lib.hid (B4.out.trans (b5.mono B4.out.size))
                                        clear b5 M4 B4 HC CE m0 m1 m2 m3 m4 m5 m6 m7 m8 m9 m10
                                        cases qx with
                                        | true =>
                                          have HW := Lib.hid (HU.out rfl)
                                          go_wp2
                                          exact ⟨⟨j + 1, by omega, by go_num, HW.out, M5.out, B5.out⟩, by simp [intOf]; omega⟩
                                        | false =>
                                          have HW := Lib.hid (HV.out rfl)
                                          go_wp2
                                          go_ret
                                          exact ⟨by rw [HW.out]; rfl, B5.out⟩
                                      · obtain rfl : j = tN := by omega
                                        have dj : decide ((j : Int) < (j : Int)) = false := by simp
                                        have HY : Hid (∀ i ∈ m.its, itemB i = true) := Lib.hid (by have := T1.out; rw [List.take_of_length_le (by rw [← HTN.out]; omega)] at this; exact List.all_eq_true.1 this)
                                        have HV : Hid (q = true) := Lib.hid (HT.out ⟨HK.out.1, HK.out.2, HR.out.1, HR.out.2, HB.out, HN.out.1, HN.out.2.1, HN.out.2.2.1, HN.out.2.2.2.1, HKEY.out, HN.out.2.2.2.2, HONE.out, by have := HEI.out; have := HEN.out; omega, by have := HEI.out; have := HTN.out; omega, HX.out, HY.out⟩)
                                        go_wp2
                                        go_ret
                                        exact ⟨by rw [HV.out]; rfl, B4.out⟩
                              · have z8 : ((eN : Int) != 1) = true := by simp; omega
                                have HV : Hid (q = false) := Lib.hid (HF.out (fun k => by have := k.one j7; have := HEN.out; omega))
                                go_wp2
                                go_ret
                                exact ⟨by rw [HV.out]; rfl, B2.out⟩
                            · have z7 : (m.kind == 7) = false := by simp [j7]
                              have HONE : Hid (m.kind = 7 → m.es.length = 1) := Lib.hid (fun h => absurd h j7)
                              clear j7
                              go_wp2_with fail
                              go_loopw [3] (fun i wr => ∃ k : Nat, k ≤ eN ∧ i = .int .i64 (k : Int) ∧ (m.es.take k).all entR = true ∧ Mr.At wr gM (m.raw ⟨eA, eN, eC⟩ ⟨tA, tN, tC⟩) ∧ Below w.heap.size w wr) (fun i _ => eN - (intOf i).toNat)
                              case atStart => exact ⟨0, Nat.zero_le _, rfl, by simp, M2.out, B2.out⟩
                              case round =>
                                obtain ⟨k, hk, rfl, ht, hm, hb⟩ := hrel
                                have T0 := Lib.hid ht
                                have M0 := Lib.hid hm
                                have B0 := Lib.hid hb
                                clear ht hm hb M2 B2
                                clear m0 m1 m2 m3 m4 m5 m6 m7 m8 m9 m10
                                obtain ⟨m0, m1, m2, m3, m4, m5, m6, m7, m8, m9, m10⟩ := Mr.At.all M0.out
                                by_cases hlt : k < eN
                                · have dk : decide ((k : Int) < (eN : Int)) = true := by simp; omega
                                  have dk2 : decide (k < eN) = true := by simp; omega
                                  have jk : (k : Int) < (eN : Int) := by omega
                                  obtain ⟨x, hx⟩ : ∃ x, m.es[k]? = some x := ⟨_, List.getElem?_eq_getElem (by rw [← HEN.out]; exact hlt)⟩
                                  obtain ⟨b, off, rfl, hbl, hc⟩ := HES.out.row (entC_len m.es) (by decide) (map_at hx)
                                  have HC := Lib.hid (fun j u (hj : x.enc[j]? = some u) => (B0.out.cell (p := ⟨b, off + k * 6 + j, none⟩) hbl).trans (hc j u hj))
                                  have HU : Hid (entR x = true → (m.es.take (k + 1)).all entR = true) := Lib.hid (fun e => by rw [allTake hx, T0.out, e]; rfl)
                                  have HV : Hid (entR x = false → q = false) := Lib.hid (fun e => HF.out (fun h => by have := h.es x (List.mem_of_getElem? hx); rw [e] at this; cases this))
                                  have CE := fun w => Lib.hid (refRight_any x w)
                                  have r4 : IntKind.i64.wrap ((k : Int) + 1) = ((k + 1 : Nat) : Int) := by have := HL.out.1; have := HEN.out; rw [IntWalk.i64_in _ (by omega)]; omega
                                  clear hc hx
                                  generalize entR x = qx at *
                                  go_wp2_with (with_reducible refine wpList_load_rec Ent.isRec rfl _ rfl b (off + k * 6) (by with_unfolding_all exact rfl) x.enc (Ent.len _) HC.out ?_)
                                  refine (CE _).out.mono ?_
                                  rintro y u3 ⟨rfl, b3⟩
                                  have M3 : Hid (Mr.At u3 gM (m.raw ⟨some ⟨b, off, none⟩, eN, eC⟩ ⟨tA, tN, tC⟩)) := Lib.hid (Whole.below M0.out b3 M0.out.lt)
                                  have B3 := Lib.hid (B0.out.trans (b3.mono B0.out.size))
                                  clear b3 M0 B0 HC CE m0 m1 m2 m3 m4 m5 m6 m7 m8 m9 m10
                                  cases qx with
                                  | true =>
                                    have HW := Lib.hid (HU.out rfl)
                                    go_wp2
                                    exact ⟨⟨k + 1, by omega, by go_num, HW.out, M3.out, B3.out⟩, by simp [intOf]; omega⟩
                                  | false =>
                                    have HW := Lib.hid (HV.out rfl)
                                    go_wp2
                                    go_ret
                                    exact ⟨by rw [HW.out]; rfl, B3.out⟩
                                · obtain rfl : k = eN := by omega
                                  have dk : decide ((k : Int) < (k : Int)) = false := by simp
                                  have HX : Hid (∀ e ∈ m.es, entR e = true) := Lib.hid (by have := T0.out; rw [List.take_of_length_le (by rw [← HEN.out]; omega)] at this; exact List.all_eq_true.1 this)
                                  clear T0
                                  go_wp2_with fail
                                  go_loopw [4] (fun i wr => ∃ j : Nat, j ≤ tN ∧ i = .int .i64 (j : Int) ∧ (m.its.take j).all itemB = true ∧ Mr.At wr gM (m.raw ⟨eA, k, eC⟩ ⟨tA, tN, tC⟩) ∧ Below w.heap.size w wr) (fun i _ => tN - (intOf i).toNat)
                                  case atStart => exact ⟨0, Nat.zero_le _, rfl, by simp, M0.out, B0.out⟩
                                  case round =>
                                    obtain ⟨j, hj, rfl, ht, hm, hb⟩ := hrel
                                    have T1 := Lib.hid ht
                                    have M4 := Lib.hid hm
                                    have B4 := Lib.hid hb
                                    clear ht hm hb M0 B0 m0 m1 m2 m3 m4 m5 m6 m7 m8 m9 m10
                                    obtain ⟨m0, m1, m2, m3, m4, m5, m6, m7, m8, m9, m10⟩ := Mr.At.all M4.out
                                    by_cases hlt : j < tN
                                    · have dj : decide ((j : Int) < (tN : Int)) = true := by simp; omega
                                      have jk : (j : Int) < (tN : Int) := by omega
                                      obtain ⟨x, hx⟩ : ∃ x, m.its[j]? = some x := ⟨_, List.getElem?_eq_getElem (by rw [← HTN.out]; exact hlt)⟩
                                      obtain ⟨b, off, rfl, hbl, hc⟩ := HITS.out.row (itemC_len m.its) (by decide) (map_at hx)
                                      have HC := Lib.hid (fun j' u (hj' : x.enc[j']? = some u) => (B4.out.cell (p := ⟨b, off + j * 4 + j', none⟩) hbl).trans (hc j' u hj'))
                                      have HU : Hid (itemB x = true → (m.its.take (j + 1)).all itemB = true) := Lib.hid (fun e => by rw [allTake hx, T1.out, e]; rfl)
                                      have HV : Hid (itemB x = false → q = false) := Lib.hid (fun e => HF.out (fun h => by have := h.its x (List.mem_of_getElem? hx); rw [e] at this; cases this))
                                      have CE := fun w => Lib.hid (refItem_any x w)
                                      have r4 : IntKind.i64.wrap ((j : Int) + 1) = ((j + 1 : Nat) : Int) := by have := HL.out.2; have := HTN.out; rw [IntWalk.i64_in _ (by omega)]; omega
                                      clear hc hx
                                      generalize itemB x = qx at *
                                      go_wp2_with (with_reducible refine wpList_load_rec Item.isRec rfl _ rfl b (off + j * 4) (by with_unfolding_all exact rfl) x.enc (Item.len _) HC.out ?_)
                                      refine (CE _).out.mono ?_
                                      rintro y u5 ⟨rfl, b5⟩
                                      have M5 : Hid (Mr.At u5 gM (m.raw ⟨eA, k, eC⟩ ⟨some ⟨b, off, none⟩, tN, tC⟩)) := Lib.hid (Whole.below M4.out b5 M4.out.lt)
                                      have B5 := Lib.hid (B4.out.trans (b5.mono B4.out.size))
                                      clear b5 M4 B4 HC CE m0 m1 m2 m3 m4 m5 m6 m7 m8 m9 m10
                                      cases qx with
                                      | true =>
                                        have HW := Lib.hid (HU.out rfl)
                                        go_wp2
                                        exact ⟨⟨j + 1, by omega, by go_num, HW.out, M5.out, B5.out⟩, by simp [intOf]; omega⟩
                                      | false =>
                                        have HW := Lib.hid (HV.out rfl)
                                        go_wp2
                                        go_ret
                                        exact ⟨by rw [HW.out]; rfl, B5.out⟩
                                    · obtain rfl : j = tN := by omega
                                      have dj : decide ((j : Int) < (j : Int)) = false := by simp
                                      have HY : Hid (∀ i ∈ m.its, itemB i = true) := Lib.hid (by have := T1.out; rw [List.take_of_length_le (by rw [← HTN.out]; omega)] at this; exact List.all_eq_true.1 this)
                                      have HV : Hid (q = true) := Lib.hid (HT.out ⟨HK.out.1, HK.out.2, HR.out.1, HR.out.2, HB.out, HN.out.1, HN.out.2.1, HN.out.2.2.1, HN.out.2.2.2.1, HKEY.out, HN.out.2.2.2.2, HONE.out, by have := HEI.out; have := HEN.out; omega, by have := HEI.out; have := HTN.out; omega, HX.out, HY.out⟩)
                                      go_wp2
                                      go_ret
                                      exact ⟨by rw [HV.out]; rfl, B4.out⟩
end Go.Proofs.Ytnjeopgcpffkcaa
