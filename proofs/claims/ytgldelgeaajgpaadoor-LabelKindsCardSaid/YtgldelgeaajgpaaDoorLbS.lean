/- Package label, as landed: span.has, Key. -/
import Derived.Test.YtgldelgeaajgpaaDoorRecSp
import Derived.Test.YtgldelgeaajgpaaDoorLbM
import Derived.Test.YtgldelgeaajgpaaDoorStr
import Derived.Test.YtgldelgeaajgpaaDoorGenS
import Derived.Test.YtgldelgeaajgpaaDoorGenT
import Derived.Deep.DeepCutAuto
import Derived.Deep.LoopGhost
namespace Go.Proofs.YtgldelgeaajgpaaDoor
open Go.RowKit

/-- Does a byte lie in a span? -/
def Span.hasB (s : Span) (c : UInt8) : Bool := decide (s.lo ≤ c.toNat) && decide (c.toNat ≤ s.hi)

set_option maxHeartbeats 1000000 in
theorem has_any (s : Span) (c : UInt8) (w : World) :
    Calls Tryd.prog 27 #[s.val, .int .u8 (c.toNat : Int)] w fun e w' => e = .returned (.bool (s.hasB c)) ∧ Below w.heap.size w w' := by
  obtain ⟨b1, h1⟩ : ∃ b, b = decide (s.lo ≤ c.toNat) := ⟨_, rfl⟩
  obtain ⟨b2, h2⟩ : ∃ b, b = decide (c.toNat ≤ s.hi) := ⟨_, rfl⟩
  have d1 : decide ((s.lo : Int) ≤ (c.toNat : Int)) = b1 := by rw [h1]; congr 1; apply propext; omega
  have d2 : decide ((c.toNat : Int) ≤ (s.hi : Int)) = b2 := by rw [h2]; congr 1; apply propext; omega
  have HR : Hid (s.hasB c = (b1 && b2)) := Lib.hid (by rw [Span.hasB, h1, h2])
  have d1n := h1.symm
  have d2n := h2.symm
  clear h1 h2
  go_enter Tryd.func27, Tryd.ntmps27
  go_wp2_with (refine wpList_box_row rfl 38 _ rfl s.enc.toArray (by with_unfolding_all exact rfl) ?_)
  intro w1 b1 x1 z1
  obtain ⟨gS, hgS⟩ : ∃ g, g = w.heap.size := ⟨_, rfl⟩
  have M_S := Lib.hid (show w.heap.size ≤ gS from by rw [hgS]; exact Nat.le_refl _)
  have B1 := Lib.hid b1
  rw [← hgS] at x1 ⊢
  have S1 : Hid (Span.At w1 gS s) := Lib.hid x1
  clear b1 x1 z1 hgS 
  have c1 := Span.At.at_lo S1.out
  have c2 := Span.At.at_hi S1.out
  cases b1
  all_goals
    go_wp2
    go_ret
    exact ⟨by rw [HR.out]; rfl, B1.out⟩

def seenS : Span := ⟨33, 126⟩
theorem seen_is (c : UInt8) : seenS.hasB c = keyC c := by
  rw [Span.hasB, keyC]
  congr 1
  all_goals
    congr 1
    apply propext
    simp only [seenS]
    omega

set_option maxHeartbeats 1000000 in
theorem labelKey_any (l : List UInt8) (w : World) :
    Calls Tryd.prog 10 #[.string ⟨l.toArray⟩] w fun e w' => e = .returned (.bool (keyB l)) ∧ Below w.heap.size w w' := by
  by_cases h1 : l.length < 1
  · have HN : Hid (keyB l = false) := Lib.hid (by rw [keyB, decide_eq_false (by omega)]; rfl)
    have y1 : decide ((l.length : Int) < 1) = true := by simp; omega
    go_enter Tryd.func10, Tryd.ntmps10
    go_wp2
    go_ret
    exact ⟨by rw [HN.out]; rfl, Below.refl _ _⟩
  have y1 : decide ((l.length : Int) < 1) = false := by simp; omega
  by_cases h2 : 24 < l.length
  · have HN : Hid (keyB l = false) := Lib.hid (by rw [keyB, decide_eq_false (show ¬ l.length ≤ 24 by omega)]; simp)
    have y2 : decide (24 < (l.length : Int)) = true := by simp; omega
    have y2n : decide (24 < l.length) = true := by simp; omega
    clear h1
    go_enter Tryd.func10, Tryd.ntmps10
    go_wp2
    go_ret
    exact ⟨by rw [HN.out]; rfl, Below.refl _ _⟩
  have y2 : decide (24 < (l.length : Int)) = false := by simp; omega
  have y2n : decide (24 < l.length) = false := by simp; omega
  have HB := Lib.hid (show 1 ≤ l.length ∧ l.length ≤ 24 by omega)
  clear h1 h2
  go_enter Tryd.func10, Tryd.ntmps10
  go_wp2_with (refine wpList_alloc_row rfl 38 rfl Span.zero.enc.toArray Span.zero_is ?_)
  intro w1 b1 x1 z1
  obtain ⟨gS, hgS⟩ : ∃ g, g = w.heap.size := ⟨_, rfl⟩
  have M_S := Lib.hid (show w.heap.size ≤ gS from by rw [hgS]; exact Nat.le_refl _)
  have B1 := Lib.hid b1
  rw [← hgS] at x1 ⊢
  have S1 : Hid (Span.At w1 gS Span.zero) := Lib.hid x1
  clear b1 x1 z1 hgS 
  go_wp2_with (first | (with_reducible refine wpList_load_whole Span.isRec rfl _ rfl gS (by with_unfolding_all exact rfl) _ _ (Span.len _) S1.out ?_) | (with_reducible refine wpList_store_whole rfl 38 _ _ rfl gS seenS.enc.toArray (by with_unfolding_all exact rfl) (by with_unfolding_all exact rfl) _ _ S1.out (Span.size _) rfl (Span.one _) ?_))
  intro w2 q2 x2 z2
  have S2 : Hid (Span.At w2 gS seenS) := Lib.hid x2
  have B2 := Lib.hid (B1.out.grown q2 B1.out.size (fun k hk => by injection hk with hk; have := M_S.out; omega))
  clear q2 x2 z2 S1 B1
  go_wp2_with fail
  clear y1 y2 y2n
  go_loopw [16] (fun i wr => ∃ k : Nat, k ≤ l.length ∧ i = .int .i64 (k : Int) ∧ (l.take k).all keyC = true ∧ Span.At wr gS seenS ∧ Below w.heap.size w wr) (fun i _ => l.length - (intOf i).toNat)
  case atStart => exact ⟨0, Nat.zero_le _, rfl, rfl, S2.out, B2.out⟩
  case round =>
    obtain ⟨k, hk, rfl, ha, hs, hb⟩ := hrel
    have HA := Lib.hid ha
    have HS := Lib.hid hs
    have HBr := Lib.hid hb
    clear ha hs hb
    by_cases hlt : k < l.length
    · have dk : decide ((k : Int) < (l.length : Int)) = true := by simp; omega
      have dkn : decide (k < l.length) = true := by simp; omega
      obtain ⟨c, hc⟩ : ∃ c, l[k]? = some c := ⟨_, List.getElem?_eq_getElem hlt⟩
      have jk : (k : Int) < (l.length : Int) := by omega
      have r := str_at l k c hc
      have r4 : IntKind.i64.wrap ((k : Int) + 1) = ((k + 1 : Nat) : Int) := by have := HB.out; rw [IntWalk.i64_in _ (by omega)]; omega
      have HT := Lib.hid (all_take keyC l k c hc)
      have HF := Lib.hid (all_not keyC l k c hc)
      have CH := Lib.hid (fun w => has_any seenS c w)
      obtain ⟨q, hq⟩ : ∃ q, q = keyC c := ⟨_, rfl⟩
      simp only [seen_is, ← hq] at CH
      rw [← hq] at HT HF
      clear hc hq
      go_wp2_with (with_reducible refine wpList_load_whole Span.isRec rfl _ rfl gS (by with_unfolding_all exact rfl) _ _ (Span.len _) HS.out ?_)
      refine reg_begin (by kernel_rfl) fun w3 b3 z3 => ?_
      have S3 : Hid (Span.At w3 gS seenS) := Lib.hid (Whole.below HS.out b3 HS.out.lt)
      have B3 := Lib.hid (HBr.out.trans (b3.mono HBr.out.size))
      clear b3 z3 HS HBr
      refine reg_take (i := 0) (v := Span.val (seenS)) rfl (by kernel_rfl) (by kernel_rfl) (by kernel_rfl) (fun _ _ _ h => h) (by rfl) ?hy0 ?_
      case hy0 => intro w' hw'; exact exec_load_whole Span.isRec _ rfl gS rfl _ _ (Span.len _) w' (Whole.below S3.out hw' S3.out.lt)
      simp only [Act.put, List.setIfInBounds_toArray, List.set_cons_zero, List.set_cons_succ]
      refine reg_take (i := 1) (v := ?_) rfl (by kernel_rfl) (by kernel_rfl) (by kernel_rfl) (fun _ _ _ h => h) (by rfl) ?hy1 ?_
      case hy1 => intro w' hw'; go_simp; (try with_reducible rfl)
      simp only [Act.put, List.setIfInBounds_toArray, List.set_cons_zero, List.set_cons_succ]
      refine reg_take (i := 2) (v := ?_) rfl (by kernel_rfl) (by kernel_rfl) (by kernel_rfl) (fun _ _ _ h => h) (by rfl) ?hy2 ?_
      case hy2 => intro w' hw'; go_simp; (try with_reducible rfl)
      simp only [Act.put, List.setIfInBounds_toArray, List.set_cons_zero, List.set_cons_succ]
      refine reg_take (i := 3) (v := ?_) rfl (by kernel_rfl) (by kernel_rfl) (by kernel_rfl) (fun _ _ _ h => h) (by rfl) ?hy3 ?_
      case hy3 => intro w' hw'; go_simp; (try with_reducible rfl)
      simp only [Act.put, List.setIfInBounds_toArray, List.set_cons_zero, List.set_cons_succ]
      refine reg_call (i := 4) rfl (by kernel_rfl) (fun K' hK => ?_)
      go_simp
      refine (CH.out w3).mono ?_
      rintro e4 w4 ⟨rfl, b4⟩
      have S4 : Hid (Span.At w4 gS seenS) := Lib.hid (Whole.below S3.out b4 S3.out.lt)
      have B4 := Lib.hid (B3.out.trans (b4.mono B3.out.size))
      refine hK.out _ _ b4 ?_
      clear hK K' b4 S3 B3
      refine reg_take (i := 5) (v := ?_) rfl (by kernel_rfl) (by kernel_rfl) (by kernel_rfl) (fun _ _ _ h => h) (by rfl) ?hy5 ?_
      case hy5 => intro w' hw'; go_simp; (try with_reducible rfl)
      simp only [Act.put, List.setIfInBounds_toArray, List.set_cons_zero, List.set_cons_succ]
      refine reg_end (by kernel_rfl) ?_
      clear r CH
      cases q with
      | false =>
        have HN : Hid (keyB l = false) := Lib.hid (by rw [keyB, HF.out rfl]; simp)
        go_wp2
        go_ret
        exact ⟨by rw [HN.out]; rfl, B4.out⟩
      | true =>
        go_wp2
        exact ⟨⟨k + 1, by omega, by go_num, by rw [HT.out, HA.out]; rfl, S4.out, B4.out⟩, by simp [intOf]; omega⟩
    · obtain rfl : k = l.length := by omega
      have dk : decide ((l.length : Int) < (l.length : Int)) = false := by simp
      have HI : Hid (keyB l = true) := Lib.hid (by
        have e := HA.out
        rw [List.take_length] at e
        rw [keyB, e, decide_eq_true HB.out.1, decide_eq_true HB.out.2]
        rfl)
      go_wp2
      go_ret
      exact ⟨by rw [HI.out]; rfl, HBr.out⟩
end Go.Proofs.YtgldelgeaajgpaaDoor
