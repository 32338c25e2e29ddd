/- What the document's ReadBytes of layer 10 answers. -/
import Derived.Test.YtgldelgeaajgpaaDoorLbB
namespace Go.Proofs.YtgldelgeaajgpaaDoor
open Go.RowKit

theorem take_two (l : List UInt8) (i : Nat) (a b : UInt8) (ha : l[i]? = some a) (hb : l[i + 1]? = some b) : l.take (i + 2) = l.take i ++ [a, b] := by
  rw [show i + 2 = (i + 1) + 1 by omega, take_at hb, take_at ha, List.append_assoc]
  rfl
theorem split_two (l : List UInt8) (i : Nat) (a b : UInt8) (ha : l[i]? = some a) (hb : l[i + 1]? = some b) : l = l.take i ++ a :: b :: l.drop (i + 2) := by
  have e := drop_at ha
  rw [drop_at hb] at e
  have h := (List.take_append_drop i l).symm
  rw [e] at h
  exact h
theorem rb_bad (l : List UInt8) (h1 : l ≠ [45]) (h : l.length = 0 ∨ l.length % 2 = 1 ∨ 8192 < l.length) : rbB l = false ∧ rbA l = [] := by
  have e : rbO l = none := by rw [rbO, if_neg h1, if_pos h]
  exact ⟨by rw [rbB, e]; rfl, by rw [rbA, e]; rfl⟩
theorem rb_unpair (l : List UInt8) (h1 : l ≠ [45]) (h : ¬ (l.length = 0 ∨ l.length % 2 = 1 ∨ 8192 < l.length)) : rbB l = (unpair l).isSome ∧ rbA l = (unpair l).getD [] := by
  have e : rbO l = unpair l := by rw [rbO, if_neg h1, if_neg h]
  exact ⟨by rw [rbB, e], by rw [rbA, e]⟩

set_option maxRecDepth 100000 in
set_option maxHeartbeats 4000000 in
theorem refReadBytes_any (l : List UInt8) (hn : l.length ≤ 100000) (w : World) :
    Calls Tryd.prog 24 #[.string ⟨l.toArray⟩] w fun e w' => ∃ v', e = .returned (.tuple #[v', .bool (rbB l)]) ∧ BytesAt w' v' (rbA l) ∧ Below w.heap.size w w' := by
  by_cases h45 : l = [45]
  · subst h45
    have e1 : rbB [45] = true := rfl
    have e2 : rbA [45] = [] := rfl
    rw [e1, e2]
    go_enter Tryd.func24, Tryd.ntmps24
    go_wp2
    go_ret2
    exact ⟨_, rfl, BytesAt.nil _, Below.refl _ _⟩
  · have d0 : (l == [45]) = false := by rw [beq_eq_false_iff_ne]; exact h45
    by_cases hb : l.length = 0 ∨ l.length % 2 = 1 ∨ 8192 < l.length
    · obtain ⟨e1, e2⟩ := rb_bad l h45 hb
      rw [e1, e2]
      clear e1 e2 h45
      obtain ⟨n, hnn⟩ : ∃ n, n = l.length := ⟨_, rfl⟩
      rw [← hnn] at hb hn
      have rn : l.length = n := hnn.symm
      have hd : (((n : Int) == 0) = true) ∨ (((n : Int) == 0) = false ∧ (((n % 2 : Nat) : Int) == 1) = true) ∨ (((n : Int) == 0) = false ∧ (((n % 2 : Nat) : Int) == 1) = false ∧ decide ((8192 : Int) < (n : Int)) = true) := by
        simp only [beq_iff_eq, beq_eq_false_iff_ne, ne_eq, decide_eq_true_eq]
        omega
      obtain ⟨q, hq⟩ : ∃ q, q = n % 2 := ⟨_, rfl⟩
      rw [← hq] at hd
      have r1 : (n : Int) % 2 = (q : Int) := by omega
      clear hb hq hnn
      rcases hd with d1 | ⟨d1, d2⟩ | ⟨d1, d2, d3⟩
      all_goals
        go_enter Tryd.func24, Tryd.ntmps24
        go_wp2
        go_ret2
        exact ⟨_, rfl, BytesAt.nil _, Below.refl _ _⟩
    · obtain ⟨e1, e2⟩ := rb_unpair l h45 hb
      rw [e1, e2]
      clear e1 e2
      have RN := Lib.hid hb
      obtain ⟨n, hnn⟩ : ∃ n, n = l.length := ⟨_, rfl⟩
      have LN := Lib.hid hnn
      have rn : l.length = n := hnn.symm
      rw [← hnn] at hb hn RN
      obtain ⟨q, hq⟩ : ∃ q, q = n % 2 := ⟨_, rfl⟩
      have r1 : (n : Int) % 2 = (q : Int) := by omega
      have d1 : ((n : Int) == 0) = false := by rw [beq_eq_false_iff_ne]; omega
      have d2 : ((q : Int) == 1) = false := by rw [beq_eq_false_iff_ne]; omega
      have d3 : decide ((8192 : Int) < (n : Int)) = false := by rw [decide_eq_false_iff_not]; omega
      obtain ⟨i0, hi0, hz0, hz1, hz2⟩ := info_parts byte_info
      clear hb hq hnn hn h45
      go_enter Tryd.func24, Tryd.ntmps24
      go_wp2_with fail
      clear d0 d1 d2 d3 r1
      go_loopw [4, 5] (fun v i wr => ∃ (k : Nat) (out : List UInt8), 2 * k ≤ n ∧ i = .int .i64 ((2 * k : Nat) : Int) ∧ out.length = k ∧ unpair (l.take (2 * k)) = some out ∧ wr.ownsRow w.heap.size 5 1 v k (bv out) ∧ Below w.heap.size w wr) (fun _ i _ => n - (intOf i).toNat)
      case atStart => exact ⟨0, [], by omega, rfl, rfl, rfl, World.ownsRow_nil _ _ _ _, Below.refl _ _⟩
      case round =>
        obtain ⟨k, out, hk, rfl, hol, hup, ho, hb⟩ := hrel
        obtain ⟨Ao, co, rfl⟩ := own_form ho
        have HO := Lib.hid ho
        have HB := Lib.hid hb
        have HU := Lib.hid (And.intro hol hup)
        clear ho hb hol hup
        obtain ⟨i, hi⟩ : ∃ i, i = 2 * k := ⟨_, rfl⟩
        rw [← hi] at hk HU ⊢
        by_cases hlt : i < n
        · have dk : decide ((i : Int) < (n : Int)) = true := by simp; omega
          have h2 : i + 1 < n := by have := RN.out; omega
          obtain ⟨a, ha⟩ : ∃ a, l[i]? = some a := ⟨_, List.getElem?_eq_getElem (by rw [rn]; omega)⟩
          obtain ⟨b, hbb⟩ : ∃ b, l[i + 1]? = some b := ⟨_, List.getElem?_eq_getElem (by rw [rn]; omega)⟩
          obtain ⟨j, hj⟩ : ∃ j, j = i + 1 := ⟨_, rfl⟩
          have ra := str_at l i a ha
          have rb := str_at l j b (by rw [hj]; exact hbb)
          have HS := Lib.hid (split_two l i a b ha hbb)
          have HT := Lib.hid (take_two l i a b ha hbb)
          have CA := fun w => Lib.hid (refDigit_any a w)
          have CB := fun w => Lib.hid (refDigit_any b w)
          have la := digN_le a
          have lb := digN_le b
          have UN := fun h => Lib.hid (unpair_none (l.take i) (l.drop (i + 2)) out a b HU.out.2 h)
          have US := Lib.hid (unpair_snoc (l.take i) out a b HU.out.2)
          rw [← HT.out] at US
          rw [← HS.out] at UN
          obtain ⟨za, hza⟩ : ∃ z, z = digN a := ⟨_, rfl⟩
          obtain ⟨zb, hzb⟩ : ∃ z, z = digN b := ⟨_, rfl⟩
          rw [← hza] at la US UN
          rw [← hzb] at lb US UN
          simp only [← hza] at CA
          simp only [← hzb] at CB
          have t1 : IntKind.i64.wrap ((i : Int) + 1) = (j : Int) := by have := RN.out; rw [IntWalk.i64_in _ (by omega)]; omega
          have t2 : IntKind.i64.wrap ((i : Int) + 2) = (i : Int) + 2 := by have := RN.out; rw [IntWalk.i64_in _ (by omega)]
          have ji : (i : Int) < (n : Int) := by omega
          have jj : (j : Int) < (n : Int) := by omega
          have ji2 : i < n := by omega
          have jj2 : j < n := by omega
          have HI := Lib.hid (And.intro hi (And.intro hj (And.intro hlt h2)))
          clear ha hbb hza hzb hi hj h2 HS
          by_cases h16 : za = 16
          · have U := UN (.inl h16)
            have e1 : ((za : Int) == 16) = true := by rw [beq_iff_eq]; omega
            clear UN US h16
            go_wp2_with fail
            refine (CA _).out.mono ?_
            rintro e w1 ⟨rfl, rfl⟩
            go_wp2
            go_ret2
            exact ⟨_, by rw [U.out]; rfl, by rw [U.out]; exact BytesAt.nil _, HB.out⟩
          · have e1 : ((za : Int) == 16) = false := by rw [beq_eq_false_iff_ne]; omega
            by_cases h17 : zb = 16
            · have U := UN (.inr h17)
              have e2 : ((zb : Int) == 16) = true := by rw [beq_iff_eq]; omega
              clear UN US h16 h17
              go_wp2_with fail
              refine (CA _).out.mono ?_
              rintro e w1 ⟨rfl, rfl⟩
              go_wp2_with fail
              refine (CB _).out.mono ?_
              rintro e w1 ⟨rfl, rfl⟩
              go_wp2
              go_ret2
              exact ⟨_, by rw [U.out]; rfl, by rw [U.out]; exact BytesAt.nil _, HB.out⟩
            · have e2 : ((zb : Int) == 16) = false := by rw [beq_eq_false_iff_ne]; omega
              have US2 := US.out
              rw [if_neg (by omega)] at US2
              obtain ⟨x, hx⟩ : ∃ x, x = UInt8.ofNat (16 * za + zb) := ⟨_, rfl⟩
              rw [← hx] at US2
              have HU2 := Lib.hid US2
              obtain ⟨y, hy⟩ : ∃ y, y = 16 * za := ⟨_, rfl⟩
              obtain ⟨z, hz⟩ : ∃ z, z = y + zb := ⟨_, rfl⟩
              have s1 : IntKind.i64.wrap (16 * (za : Int)) = (y : Int) := by rw [IntWalk.i64_in _ (by omega)]; omega
              have s2 : IntKind.i64.wrap ((y : Int) + (zb : Int)) = (z : Int) := by rw [IntWalk.i64_in _ (by omega)]; omega
              have s3 : IntKind.u8.wrap (z : Int) = (x.toNat : Int) := by
                rw [IntWalk.u8_in _ (by omega), hx]
                simp
                omega
              clear UN US US2 h16 h17 hx hy hz
              go_wp2_with fail
              refine (CA _).out.mono ?_
              rintro e w1 ⟨rfl, rfl⟩
              go_wp2_with fail
              refine (CB _).out.mono ?_
              rintro e w1 ⟨rfl, rfl⟩
              go_wp2_with fail
              refine regS_begin (fun w' => Below w.heap.size w w') (by kernel_rfl) HB.out.drew ?_
              have hS : Below w.heap.size w wr.drew := HB.out.drew
              have HO2 : Hid (wr.drew.ownsRow w.heap.size 5 1 (.slice Ao k co) k (bv out)) := HO
              obtain ⟨wd, hwd⟩ : ∃ wd, wd = wr.drew := ⟨_, rfl⟩
              rw [← hwd] at hS HO2 ⊢
              clear hwd HB HO
              refine regS_take (i := 0) (v := ?_) rfl (by kernel_rfl) (by kernel_rfl) (by kernel_rfl) (fun _ _ _ h => h) (by rfl) hS ?hy0 ?_
              case hy0 => intro w' hw'; go_simp; (try with_reducible rfl)
              simp only [Act.put, List.setIfInBounds_toArray, List.set_cons_zero, List.set_cons_succ]
              refine regS_take (i := 1) (v := ?_) rfl (by kernel_rfl) (by kernel_rfl) (by kernel_rfl) (fun _ _ _ h => h) (by rfl) hS ?hy1 ?_
              case hy1 => intro w' hw'; go_simp; (try with_reducible rfl)
              simp only [Act.put, List.setIfInBounds_toArray, List.set_cons_zero, List.set_cons_succ]
              refine regS_take (i := 2) (v := ?_) rfl (by kernel_rfl) (by kernel_rfl) (by kernel_rfl) (fun _ _ _ h => h) (by rfl) hS ?hy2 ?_
              case hy2 => intro w' hw'; go_simp; (try with_reducible rfl)
              simp only [Act.put, List.setIfInBounds_toArray, List.set_cons_zero, List.set_cons_succ]
              refine regS_take (i := 3) (v := ?_) rfl (by kernel_rfl) (by kernel_rfl) (by kernel_rfl) (fun _ _ _ h => h) (by rfl) hS ?hy3 ?_
              case hy3 => intro w' hw'; go_simp; (try with_reducible rfl)
              simp only [Act.put, List.setIfInBounds_toArray, List.set_cons_zero, List.set_cons_succ]
              refine regS_take (i := 6) (v := ?_) rfl (by kernel_rfl) (by kernel_rfl) (by kernel_rfl) (fun _ _ _ h => h) (by rfl) hS ?hy6 ?_
              case hy6 => intro w' hw'; go_simp; (try with_reducible rfl)
              simp only [Act.put, List.setIfInBounds_toArray, List.set_cons_zero, List.set_cons_succ]
              refine regS_take (i := 7) (v := ?_) rfl (by kernel_rfl) (by kernel_rfl) (by kernel_rfl) (fun _ _ _ h => h) (by rfl) hS ?hy7 ?_
              case hy7 => intro w' hw'; go_simp; (try with_reducible rfl)
              simp only [Act.put, List.setIfInBounds_toArray, List.set_cons_zero, List.set_cons_succ]
              refine regS_take (i := 8) (v := ?_) rfl (by kernel_rfl) (by kernel_rfl) (by kernel_rfl) (fun _ _ _ h => h) (by rfl) hS ?hy8 ?_
              case hy8 => intro w' hw'; go_simp; (try with_reducible rfl)
              simp only [Act.put, List.setIfInBounds_toArray, List.set_cons_zero, List.set_cons_succ]
              refine regS_take (i := 9) (v := ?_) rfl (by kernel_rfl) (by kernel_rfl) (by kernel_rfl) (fun _ _ _ h => h) (by rfl) hS ?hy9 ?_
              case hy9 => intro w' hw'; go_simp; (try with_reducible rfl)
              simp only [Act.put, List.setIfInBounds_toArray, List.set_cons_zero, List.set_cons_succ]
              refine regS_do (i := 4) rfl (by kernel_rfl) (fun K' hK => ?_)
              go_simp
              refine (CA wd).out.mono ?_
              rintro e w6 ⟨rfl, rfl⟩
              refine hK.out _ _ hS ?_
              clear hK K'
              refine regS_take (i := 5) (v := ?_) rfl (by kernel_rfl) (by kernel_rfl) (by kernel_rfl) (fun _ _ _ h => h) (by rfl) hS ?hy5 ?_
              case hy5 => intro w' hw'; go_simp; (try with_reducible rfl)
              simp only [Act.put, List.setIfInBounds_toArray, List.set_cons_zero, List.set_cons_succ]
              refine regS_do (i := 10) rfl (by kernel_rfl) (fun K' hK => ?_)
              go_simp
              refine (CB wd).out.mono ?_
              rintro e w6 ⟨rfl, rfl⟩
              refine hK.out _ _ hS ?_
              clear hK K'
              refine regS_take (i := 11) (v := ?_) rfl (by kernel_rfl) (by kernel_rfl) (by kernel_rfl) (fun _ _ _ h => h) (by rfl) hS ?hy11 ?_
              case hy11 => intro w' hw'; go_simp; (try with_reducible rfl)
              simp only [Act.put, List.setIfInBounds_toArray, List.set_cons_zero, List.set_cons_succ]
              refine regS_take (i := 12) (v := ?_) rfl (by kernel_rfl) (by kernel_rfl) (by kernel_rfl) (fun _ _ _ h => h) (by rfl) hS ?hy12 ?_
              case hy12 => intro w' hw'; go_simp; (try with_reducible rfl)
              simp only [Act.put, List.setIfInBounds_toArray, List.set_cons_zero, List.set_cons_succ]
              refine regS_do (i := 13) rfl (by kernel_rfl) (fun K' hK => ?_)
              go_simp
              have sb : Below w.heap.size w (wd.alloc (.cells #[.int .u8 (x.toNat : Int)] 5)) := hS.alloc hS.size _
              have z3 := BytesAt.lit wd [x] #[.int .u8 (x.toNat : Int)] rfl
              have O3 := HO2.out.alloc (.cells #[.int .u8 (x.toNat : Int)] 5)
              refine hK.out _ _ sb ?_
              clear hK K' HO2 hS
              generalize wd.alloc (.cells #[.int .u8 (x.toNat : Int)] 5) = w4 at *
              refine regS_do (i := 14) rfl (by kernel_rfl) (fun K' hK => ?_)
              rw [if_pos (by rfl)]
              refine wp_append_bytes _ _ rfl w.heap.size _ _ _ rfl O3 _ _ rfl z3 (by have := HI.out; have := RN.out; simp; omega) sb.size ?_
              intro v5 w5 ho5 hg5
              have lt5 := O3.lt
              have B5 : Below w.heap.size w w5 := sb.grown hg5 sb.size (fun k hk => (lt5 k hk).1)
              have O5 : Hid (w5.ownsRow w.heap.size 5 1 v5 (k + 1) (bv (out ++ [x]))) := Lib.hid (by rw [bv_append]; exact ho5)
              refine hK.out _ _ B5 ?_
              have B5h := Lib.hid B5
              have hS : Below w.heap.size w w5 := B5
              clear hK K' ho5 hg5 lt5 z3 O3 sb B5
              simp only [Act.put, List.setIfInBounds_toArray, List.set_cons_zero, List.set_cons_succ]
              refine regS_take (i := 15) (v := ?_) rfl (by kernel_rfl) (by kernel_rfl) (by kernel_rfl) (fun _ _ _ h => h) (by rfl) hS ?hy15 ?_
              case hy15 => intro w' hw'; go_simp; (try with_reducible rfl)
              simp only [Act.put, List.setIfInBounds_toArray, List.set_cons_zero, List.set_cons_succ]
              refine regS_end (by kernel_rfl) ?_
              clear hS CA CB ra rb
              go_wp2_with fail
              have HIo := HI.out
              refine ⟨⟨k + 1, out ++ [x], by omega, by rw [show 2 * (k + 1) = i + 2 by omega]; simp, by simp [HU.out.1], by rw [show 2 * (k + 1) = i + 2 by omega]; exact HU2.out, O5.out, B5h.out⟩, by simp [intOf]; omega⟩
        · obtain rfl : i = n := by omega
          have dk : decide ((i : Int) < (i : Int)) = false := by simp
          have ht : l.take i = l := List.take_of_length_le (by omega)
          have HU2 := HU.out.2
          rw [ht] at HU2
          have U := Lib.hid HU2
          have Y : Hid (BytesAt wr (.slice Ao k co) out) := Lib.hid (BytesAt.of_own (base := w.heap.size) (by rw [HU.out.1]; exact HO.out))
          clear HU2 HO
          go_wp2
          go_ret2
          exact ⟨_, by rw [U.out]; rfl, by rw [U.out]; exact Y.out, HB.out⟩
end Go.Proofs.YtgldelgeaajgpaaDoor
