/- Package label, as landed: Number, ReadNumber. -/
import Derived.Test.YtgldelgeaajgpaaDoorLbV
import Derived.Test.YtgldelgeaajgpaaDoorLbC
import Derived.Test.YtgldelgeaajgpaaDoorSh
namespace Go.Proofs.YtgldelgeaajgpaaDoor
open Go.RowKit

theorem itoa_any (k : Int) (h1 : -9223372036854775808 ≤ k) (h2 : k < 9223372036854775808) (w : World) (T : PowT w) :
    Calls Tryd.prog 31 #[.int .i64 k] w fun e w' => e = .returned (.string ⟨(numL k).toArray⟩) ∧ Below w.heap.size w w' := by
  refine (Tryd.strconv_Itoa k h1 (by omega) w T).mono ?_
  rintro e w' ⟨rfl, q, os, rfl⟩
  rw [itoa_is]
  exact ⟨rfl, ⟨rfl, rfl, rfl, by show w.heap.size ≤ (w.heap ++ os).size; rw [Array.size_append]; omega, fun j hj => Sort.heap_grow_old (w.drewN q) os hj⟩⟩

theorem labelNumber_any (k : Int) (h1 : -9223372036854775808 ≤ k) (h2 : k < 9223372036854775808) (w : World) (T : PowT w) :
    Calls Tryd.prog 17 #[.int .i64 k] w fun e w' => e = .returned (.string ⟨(numL k).toArray⟩) ∧ Below w.heap.size w w' := by
  have C := Lib.hid (itoa_any k h1 h2 w T)
  clear T h1 h2
  go_enter Tryd.func17, Tryd.ntmps17
  go_wp2_with fail
  refine C.out.mono ?_
  rintro e w1 ⟨rfl, b1⟩
  have B1 := Lib.hid b1
  clear b1
  go_wp2
  go_ret
  exact ⟨rfl, B1.out⟩

/-- Atoi, at a text that is no number, or too great a one. -/
theorem atoi_none (l : List UInt8) (hl : l.length ≤ 100000) (h : ∀ v, Lib.atoiAll l ≠ .ok v) (w : World) (T : ErrT w) :
    Calls Tryd.prog 34 #[.string ⟨l.toArray⟩] w fun e w' => ∃ (n : Int) (t : TypeId) (N : Nat), e = .returned (.tuple #[.int .i64 n, .iface t (.pointer (some ⟨N, 0, none⟩))]) ∧ Below w.heap.size w w' := by
  have hs : (⟨l.toArray⟩ : ByteArray).size ≤ 281474976710656 := by show l.toArray.size ≤ _; simp; omega
  obtain ⟨⟨a, g1, g2⟩, b, g3, g4⟩ := T
  cases e : Lib.atoiAll l
  · exact absurd e (h _)
  · have q : Calls Tryd.prog 34 #[.string ⟨l.toArray⟩] w _ := Any.strconv_Atoi_syntax Tryd.laysC172 ⟨l.toArray⟩ hs (by simpa using e) a w g1 g2
    refine q.mono ?_
    rintro e w' ⟨N, rfl, -, -, hb⟩
    exact ⟨_, _, N, rfl, hb⟩
  · refine (Tryd.strconv_Atoi_range ⟨l.toArray⟩ hs (by simpa using e) b w g3 g4).mono ?_
    rintro e w' ⟨N, rfl, -, -, hb⟩
    exact ⟨_, _, N, rfl, hb⟩
theorem atoi_ok (l : List UInt8) (hl : l.length ≤ 100000) (v : Int) (h : Lib.atoiAll l = .ok v) (w : World) :
    Calls Tryd.prog 34 #[.string ⟨l.toArray⟩] w fun e w' => e = .returned (.tuple #[.int .i64 v, .nilIface]) ∧ Below w.heap.size w w' := by
  have hs : (⟨l.toArray⟩ : ByteArray).size ≤ 9223372036854775806 := by show l.toArray.size ≤ _; simp; omega
  refine (Tryd.strconv_Atoi_ok ⟨l.toArray⟩ hs v (by simpa using h) w).mono ?_
  rintro e w' ⟨rfl, rfl | ⟨t, rfl⟩⟩
  · exact ⟨rfl, Below.refl _ _⟩
  · exact ⟨rfl, Lib.bytesWorld_below _ _ _⟩

set_option maxHeartbeats 1000000 in
theorem labelReadNumber_any (l : List UInt8) (hl : l.length ≤ 100000) (w : World) (T : PowT w) (T2 : ErrT w) :
    Calls Tryd.prog 25 #[.string ⟨l.toArray⟩] w fun e w' => e = .returned (.tuple #[.int .i64 (rnA l), .bool (rnB l)]) ∧ Below w.heap.size w w' := by
  have T0 := Lib.hid T
  by_cases hv : ∃ v, Lib.atoiAll l = .ok v
  · obtain ⟨v, hv⟩ := hv
    have CA := Lib.hid (atoi_ok l hl v hv w)
    obtain ⟨v1, v2⟩ := Lib.atoiAll_bounds hv
    have CN := Lib.hid (fun w T => labelNumber_any v v1 (by omega) w T)
    by_cases hin : -1073741824 ≤ v ∧ v ≤ 1073741824
    · have d1 : decide (v < -1073741824) = false := by simp; omega
      have d2 : decide (1073741824 < v) = false := by simp; omega
      obtain ⟨M, hM⟩ : ∃ M, M = numL v := ⟨_, rfl⟩
      rw [← hM] at CN
      obtain ⟨q, hq⟩ : ∃ q, q = decide (l = M) := ⟨_, rfl⟩
      have d3 : (l == M) = q := by rw [hq]; by_cases h : l = M <;> simp [h]
      have d4 : (l != M) = !q := by rw [bne, d3]
      have HR : Hid (rnB l = q ∧ rnA l = if q = true then v else 0) := Lib.hid (by
        by_cases h : l = M
        · rw [hq, decide_eq_true h, h, hM]
          exact rn_this v hin.1 hin.2
        · rw [hq, decide_eq_false h]
          exact rn_other l v hv (.inr (.inr (by rw [← hM]; exact h))))
      clear hv v1 v2 hin hM hq T T2 hl
      go_enter Tryd.func25, Tryd.ntmps25
      go_wp2_with fail
      refine CA.out.mono ?_
      rintro e w1 ⟨rfl, b1⟩
      have B1 := Lib.hid b1
      clear b1
      go_wp2_with fail
      refine (CN.out w1 (T0.out.below B1.out)).mono ?_
      rintro e w2 ⟨rfl, b2⟩
      have B2 := Lib.hid (B1.out.trans (b2.mono B1.out.size))
      clear b2 B1 CA CN
      cases q
      all_goals
        go_wp2
        go_ret2
        exact ⟨by rw [HR.out.1, HR.out.2]; rfl, B2.out⟩
    · have HR : Hid (rnB l = false ∧ rnA l = 0) := Lib.hid (rn_other l v hv (by omega))
      rcases (show v < -1073741824 ∨ (¬ v < -1073741824 ∧ 1073741824 < v) by omega) with h | ⟨h, h'⟩
      · have d1 : decide (v < -1073741824) = true := by simp; omega
        clear hv v1 v2 hin T T2 hl h
        go_enter Tryd.func25, Tryd.ntmps25
        go_wp2_with fail
        refine CA.out.mono ?_
        rintro e w1 ⟨rfl, b1⟩
        have B1 := Lib.hid b1
        clear b1
        go_wp2
        go_ret2
        exact ⟨by rw [HR.out.1, HR.out.2]; rfl, B1.out⟩
      · have d1 : decide (v < -1073741824) = false := by simp; omega
        have d2 : decide (1073741824 < v) = true := by simp; omega
        clear hv v1 v2 hin T T2 hl h h'
        go_enter Tryd.func25, Tryd.ntmps25
        go_wp2_with fail
        refine CA.out.mono ?_
        rintro e w1 ⟨rfl, b1⟩
        have B1 := Lib.hid b1
        clear b1
        go_wp2
        go_ret2
        exact ⟨by rw [HR.out.1, HR.out.2]; rfl, B1.out⟩
  · have hv : ∀ v, Lib.atoiAll l ≠ .ok v := fun v e => hv ⟨v, e⟩
    have CA := Lib.hid (atoi_none l hl hv w T2)
    have HR : Hid (rnB l = false ∧ rnA l = 0) := Lib.hid (rn_none l hv)
    clear hv T T2 hl
    go_enter Tryd.func25, Tryd.ntmps25
    go_wp2_with fail
    refine CA.out.mono ?_
    rintro e w1 ⟨n, t, N, rfl, b1⟩
    have B1 := Lib.hid b1
    clear b1
    go_wp2
    go_ret2
    exact ⟨by rw [HR.out.1, HR.out.2]; rfl, B1.out⟩
end Go.Proofs.YtgldelgeaajgpaaDoor
