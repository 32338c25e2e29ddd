/- WindowOnce's core: over what package window answers. -/
import Derived.Test.YtemogdcjmehdcaaWiN
namespace Go.Proofs.Ytemogdcjmehdcaa
set_option maxRecDepth 100000
open Go.RowKit

theorem isInt_nat {x : Nat} (h : x < 65536) : IsInt (x : Int) := isInt_of (by omega) (by omega)

set_option maxRecDepth 100000 in
set_option maxHeartbeats 4000000 in
theorem winOnce_core (H : WindowIs) (A : Option Addr) (m cap : Nat) (l : List Nat) (hl : ∀ x ∈ l, x < 65536) (w : World) (h : HsAt w (.slice A m cap) l) :
    Calls Try.prog 4 #[.slice A m cap] w fun e w' => e = .returned (.bool true) ∧ Below w.heap.size w w' := by
  have HH := Lib.hid H
  obtain ⟨hlen, -⟩ := h.size
  have HA := Lib.hid h
  have HL := Lib.hid hlen
  have HI := Lib.hid hl
  clear h hlen hl H
  go_enter Try.func4, Try.ntmps4
  go_wp2_with fail
  refine (works20 HH.out w).mono ?_
  rintro e w1 ⟨rfl, b1⟩
  have B1 := Lib.hid b1
  clear b1
  by_cases hm : 100 < m
  · have d1 : decide ((100 : Int) < (m : Int)) = true := by simp; omega
    have d2 : decide (100 < m) = true := by simp; omega
    go_wp2
    go_ret
    exact ⟨rfl, B1.out⟩
  have d1 : decide ((100 : Int) < (m : Int)) = false := by simp; omega
  have d2 : decide (100 < m) = false := by simp; omega
  have HM := Lib.hid (show m ≤ 100 by omega)
  clear hm
  go_wp2_with (refine wpList_alloc_row rfl 24 rfl win0.cells win_zero ?_)
  intro w2 b2 x2 z2
  have X2 : Hid (Whole w2 w1.heap.size 24 win0.cells) := Lib.hid x2
  have B2 := Lib.hid (B1.out.trans (b2.mono B1.out.size))
  have Z2 := Lib.hid B1.out.size
  obtain ⟨g, hg⟩ : ∃ g, g = w1.heap.size := ⟨_, rfl⟩
  rw [← hg] at X2 Z2 ⊢
  clear b2 x2 z2 B1 hg d1 d2
  go_wp2_with (with_reducible refine wpList_store_whole rfl 24 _ _ rfl g win0.cells (by with_unfolding_all exact rfl) (by with_unfolding_all exact rfl) _ _ X2.out (win_size _) rfl (win_one _) ?_)
  intro w3 g3 x3 z3
  have X3 : Hid (WinAt w3 g win0) := Lib.hid x3
  have B3 := Lib.hid (B2.out.grown g3 B2.out.size (fun k hk => by injection hk with hk; have := Z2.out; omega))
  clear g3 x3 z3 X2 B2
  go_wp2_with fail
  go_loopw [4, 18] (fun t i wr => ∃ (k T : Nat) (W : Win), k ≤ m ∧ i = .int .i64 (k : Int) ∧ t = .int .i64 (T : Int) ∧ Inv W T (l.take k) ∧ WinAt wr g W ∧ Below w.heap.size w wr) (fun _ i _ => m - (intOf i).toNat)
  case atStart => exact ⟨0, 0, win0, Nat.zero_le _, rfl, rfl, Inv.start, X3.out, B3.out⟩
  case round =>
    obtain ⟨k, T, W, hk, rfl, rfl, hv, hx, hb⟩ := hrel
    have HV := Lib.hid hv
    have HX := Lib.hid hx
    have HB := Lib.hid hb
    clear hv hx hb X3 B3
    by_cases hlt : k < m
    · have dk : decide ((k : Int) < (m : Int)) = true := by simp; omega
      obtain ⟨x, he⟩ : ∃ x, l[k]? = some x := ⟨_, List.getElem?_eq_getElem (by rw [← HL.out]; exact hlt)⟩
      have hne : l ≠ [] := by rintro rfl; simp at he
      have hel : x < 65536 := HI.out x (List.mem_of_getElem? he)
      obtain ⟨b, off, rfl, hbl, hc⟩ := HA.out.spots hne
      have c := (HB.out.cell (p := ⟨b, off + k, none⟩) hbl).trans (hc k x he)
      have HD : Hid (l.take (k + 1) = l.take k ++ [x]) := Lib.hid (by rw [List.take_add_one, he]; rfl)
      have jk : (k : Int) < (m : Int) := by omega
      have r1 : IntKind.i64.wrap (x : Int) = (x : Int) := by rw [IntWalk.i64_in _ (by omega)]
      have HE := Lib.hid hel
      have r4 : IntKind.i64.wrap ((k : Int) + 1) = ((k + 1 : Nat) : Int) := by have := HM.out; rw [IntWalk.i64_in _ (by omega)]; omega
      by_cases h0 : x = 0
      · subst h0
        have HV2 := Lib.hid HV.out.nought
        rw [← HD.out] at HV2
        clear hc he hne hel
        go_wp2_with fail
        exact ⟨⟨k + 1, T, W, by omega, by go_num, rfl, HV2.out, HX.out, HB.out⟩, by simp [intOf]; omega⟩
      · have h1 : 1 ≤ x := by omega
        have d1 : decide ((x : Int) < 1) = false := by simp; omega
        have d2 : (x == 0) = false := by simp; omega
        have d3 : decide (x < 1) = false := by simp; omega
        have HV2 := Lib.hid (HV.out.step x h1 hel)
        have HMK := Lib.hid (fun hf => HV.out.marked x h1 hel hf)
        rw [← HD.out] at HV2
        have C1 := Lib.hid (fun w => HH.out.fresh W (x : Int) w HV.out.ok HV.out.isInt (isInt_nat hel))
        have C2 := Lib.hid (fun w => HH.out.mark W (x : Int) w HV.out.ok HV.out.isInt (isInt_nat hel))
        have C3 := Lib.hid (fun w => HH.out.seen (markW W (x : Int)) (x : Int) w HV2.out.ok HV2.out.isInt (isInt_nat hel))
        have C4 := Lib.hid (fun w => HH.out.fresh (markW W (x : Int)) (x : Int) w HV2.out.ok HV2.out.isInt (isInt_nat hel))
        have HT : Hid ((if T < x then (x : Int) else (T : Int)) = ((max T x : Nat) : Int)) := Lib.hid (by split <;> omega)
        have HSE : Hid (seenB (markW W (x : Int)) (x : Int) = decide (freshX (markW W (x : Int)) (x : Int) = 22)) := Lib.hid rfl
        generalize freshX (markW W (x : Int)) (x : Int) = F2 at *
        generalize seenB (markW W (x : Int)) (x : Int) = q2 at *
        generalize markW W (x : Int) = M at *
        generalize freshX W (x : Int) = F at *
        clear hc he hne hel h0 h1
        go_wp2_with (with_reducible refine wpList_load_win rfl _ rfl g (by with_unfolding_all exact rfl) W HX.out ?_)
        refine (C1.out wr).mono ?_
        rintro e w4 ⟨rfl, b4⟩
        have X4 : Hid (WinAt w4 g W) := Lib.hid (Whole.below HX.out b4 HX.out.lt)
        have B4 := Lib.hid (HB.out.trans (b4.mono HB.out.size))
        clear b4 HX HB C1 c
        go_wp2_with (with_reducible refine wpList_load_win rfl _ rfl g (by with_unfolding_all exact rfl) W X4.out ?_)
        refine (C2.out w4).mono ?_
        rintro e w5 ⟨rfl, b5⟩
        have X5 : Hid (Whole w5 g 24 W.cells) := Lib.hid (Whole.below X4.out b5 X4.out.lt)
        have B5 := Lib.hid (B4.out.trans (b5.mono B4.out.size))
        clear b5 X4 B4 C2
        go_wp2_with (with_reducible refine wpList_store_whole rfl 24 _ _ rfl g M.cells (by with_unfolding_all exact rfl) (by with_unfolding_all exact rfl) _ _ X5.out (win_size _) rfl (win_one _) ?_)
        intro w6 g6 x6 z6
        have X6 : Hid (WinAt w6 g M) := Lib.hid x6
        have B6 := Lib.hid (B5.out.grown g6 B5.out.size (fun k hk => by injection hk with hk; have := Z2.out; have := B5.out.size; omega))
        clear g6 x6 z6 X5 B5
        by_cases hF : F = 0
        · subst hF
          have hF2 : F2 = 22 := HMK.out rfl
          subst hF2
          have hq : q2 = true := HSE.out
          subst hq
          obtain ⟨c0, c1, c2⟩ := WinAt.three X6.out
          go_upto_region 15 with fail
          rw [HT.out]
          go_wp2_with fail
          refine (C3.out w6).mono ?_
          rintro e w7 ⟨rfl, b7⟩
          have X7 : Hid (WinAt w7 g M) := Lib.hid (Whole.below X6.out b7 X6.out.lt)
          have B7 := Lib.hid (B6.out.trans (b7.mono B6.out.size))
          clear b7 X6 B6 C3 c0 c1 c2
          obtain ⟨c0, c1, c2⟩ := WinAt.three X7.out
          go_wp2_with fail
          refine (C4.out w7).mono ?_
          rintro e w8 ⟨rfl, b8⟩
          have X8 : Hid (WinAt w8 g M) := Lib.hid (Whole.below X7.out b8 X7.out.lt)
          have B8 := Lib.hid (B7.out.trans (b8.mono B7.out.size))
          clear b8 X7 B7 C4 c0 c1 c2
          go_wp2_with fail
          exact ⟨⟨k + 1, max T x, M, by omega, by go_num, rfl, HV2.out, X8.out, B8.out⟩, by simp [intOf]; omega⟩
        · have e1 : (F == 0) = false := by simpa using hF
          have e2 : decide (F = 0) = false := by simpa using hF
          clear hF
          go_upto_region 15 with fail
          rw [HT.out]
          go_wp2_with fail
          exact ⟨⟨k + 1, max T x, M, by omega, by go_num, rfl, HV2.out, X6.out, B6.out⟩, by simp [intOf]; omega⟩
    · obtain rfl : k = m := by omega
      have dk : decide ((k : Int) < (k : Int)) = false := by simp
      have rT : IntKind.i64.wrap ((T : Int) - 140) = (T : Int) - 140 := by have := HV.out.low; rw [IntWalk.i64_in _ (by omega)]
      have c0 : wr.cell? ⟨g, 0, none⟩ = some (.int .i64 (T : Int)) := by rw [← HV.out.top]; exact (WinAt.three HX.out).1
      have HW : Hid (Inv W T l) := Lib.hid (by have q := HV.out; rw [HL.out, List.take_length] at q; exact q)
      go_wp2_with fail
      all_goals
        clear rT c0
        go_loopw [9] (fun i wr => ∃ n : Nat, 1 ≤ n ∧ n ≤ T + 1 ∧ i = .int .i64 (n : Int) ∧ WinAt wr g W ∧ Below w.heap.size w wr) (fun i _ => T + 1 - (intOf i).toNat)
        case atStart => exact ⟨(max ((T : Int) - 140) 1).toNat, by omega, by omega, by congr 1; omega, HX.out, HB.out⟩
        case round =>
          obtain ⟨n, hn1, hn2, rfl, hx, hb⟩ := hrel
          have HY := Lib.hid hx
          have HC := Lib.hid hb
          clear hx hb HX HB
          by_cases hle : n ≤ T
          · have dk : decide ((n : Int) ≤ (T : Int)) = true := by simp; omega
            have dk2 : decide (n ≤ T) = true := by simp; omega
            have hT := HW.out.low
            have C1 := Lib.hid (fun w => HH.out.seen W (n : Int) w HW.out.ok HW.out.isInt (isInt_nat (by omega)))
            have C2 := Lib.hid (fun w' (hb : Below w.heap.size w w') => among_any A k cap n l HI.out (by omega) (by have := HM.out; omega) w' (HA.out.below hb))
            rw [HW.out.seen n hn1 hle] at C1
            have rn : IntKind.i64.wrap ((T : Int) - (n : Int)) = (T : Int) - (n : Int) := by rw [IntWalk.i64_in _ (by omega)]
            have r4 : IntKind.i64.wrap ((n : Int) + 1) = ((n + 1 : Nat) : Int) := by rw [IntWalk.i64_in _ (by omega)]; omega
            obtain ⟨c, hc⟩ : ∃ c, c = decide (T < n + 128) := ⟨_, rfl⟩
            have d3 : decide ((T : Int) - (n : Int) < 128) = c := by rw [hc]; congr 1; apply propext; omega
            rw [← hc] at C1
            generalize amongFrom n 0 l = q at *
            have HN := Lib.hid (And.intro hn1 hle)
            clear hc hn1 hn2 hle hT
            go_wp2_with (with_reducible refine wpList_load_win rfl _ rfl g (by with_unfolding_all exact rfl) W HY.out ?_)
            refine (C1.out wr).mono ?_
            rintro e w7 ⟨rfl, b7⟩
            have X7 : Hid (WinAt w7 g W) := Lib.hid (Whole.below HY.out b7 HY.out.lt)
            have B7 := Lib.hid (HC.out.trans (b7.mono HC.out.size))
            clear b7 HY HC C1
            go_wp2_with fail
            refine (C2.out w7 B7.out).mono ?_
            rintro e w8 ⟨rfl, rfl⟩
            cases q <;> cases c <;> (go_wp2_with fail; exact ⟨⟨n + 1, by omega, by have := HN.out; omega, by go_num, X7.out, B7.out⟩, by have := HN.out; simp [intOf]; omega⟩)
          · have dk : decide ((n : Int) ≤ (T : Int)) = false := by simp; omega
            have dk2 : decide (n ≤ T) = false := by simp; omega
            go_wp2
            go_ret
            exact ⟨rfl, HC.out⟩
end Go.Proofs.Ytemogdcjmehdcaa
