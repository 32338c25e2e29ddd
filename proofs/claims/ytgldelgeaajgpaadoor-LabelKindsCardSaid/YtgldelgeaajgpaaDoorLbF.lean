/- What the document's ReadNumber of layer 10 answers. -/
import Derived.Test.YtgldelgeaajgpaaDoorLbN
import Derived.Test.YtgldelgeaajgpaaDoorLbD
namespace Go.Proofs.YtgldelgeaajgpaaDoor
open Go.RowKit

/-- The number that digits by ten are. -/
def decV (l : List UInt8) : Nat := l.foldl (fun n c => n * 10 + digN c) 0
theorem decV_snoc (l : List UInt8) (c : UInt8) : decV (l ++ [c]) = decV l * 10 + digN c := by simp [decV]
theorem decV_take (l : List UInt8) (k : Nat) (c : UInt8) (h : l[k]? = some c) : decV (l.take (k + 1)) = decV (l.take k) * 10 + digN c := by
  rw [take_at h, decV_snoc]
def allDec (l : List UInt8) : Bool := l.all fun c => decide (digN c < 10)
theorem allDec_take (l : List UInt8) (k : Nat) (c : UInt8) (h : l[k]? = some c) : allDec (l.take (k + 1)) = (allDec (l.take k) && decide (digN c < 10)) := by
  rw [take_at h]
  simp [allDec]
theorem allDec_not (l : List UInt8) (k : Nat) (c : UInt8) (h : l[k]? = some c) (hc : ¬ digN c < 10) : allDec l = false := by
  rw [allDec, List.all_eq_false]
  exact ⟨c, List.mem_of_getElem? h, by simp; omega⟩
theorem decV_lt (l : List UInt8) (h : allDec l = true) : decV l < 10 ^ l.length := by
  have key : ∀ (l : List UInt8) (n : Nat), (∀ c ∈ l, digN c < 10) → l.foldl (fun n c => n * 10 + digN c) n < (n + 1) * 10 ^ l.length := by
    intro l
    induction l with
    | nil => intro n _; simp
    | cons c l ih =>
      intro n hl
      have h1 := ih (n * 10 + digN c) fun d hd => hl d (by simp [hd])
      have h2 := hl c (by simp)
      simp only [List.foldl_cons, List.length_cons, Nat.pow_succ]
      have h3 : (n * 10 + digN c + 1) * 10 ^ l.length ≤ ((n + 1) * 10) * 10 ^ l.length := Nat.mul_le_mul_right _ (by omega)
      have h4 : ((n + 1) * 10) * 10 ^ l.length = (n + 1) * (10 ^ l.length * 10) := by rw [Nat.mul_assoc, Nat.mul_comm 10]
      omega
  have := key l 0 (by simpa [allDec] using h)
  simpa [decV] using this
/-- Is it below 0? -/
def isNeg (l : List UInt8) : Bool := l.head? == some 45
/-- The digits alone. -/
def digitsL (l : List UInt8) : List UInt8 := if isNeg l = true then l.drop 1 else l
/-- A text of digits, and no needless 0. -/
def rnT (g : Bool) (t : List UInt8) : Bool :=
  decide (1 ≤ t.length) && decide (t.length ≤ 10) && allDec t && decide (decV t ≤ 1073741824) && !(decide (1 < t.length) && t.head? == some 48) && !(g && decV t == 0)
/-- ReadNumber's answers. -/
def rnB (l : List UInt8) : Bool := rnT (isNeg l) (digitsL l)
def rnA (l : List UInt8) : Int := if rnB l = true then (if isNeg l = true then -(decV (digitsL l) : Int) else (decV (digitsL l) : Int)) else 0
theorem rnT_of (g : Bool) (t : List UInt8) (b4 b5 b6 : Bool) (h1 : 1 ≤ t.length) (h2 : t.length ≤ 10) (h3 : allDec t = true) (e4 : decide (decV t ≤ 1073741824) = b4)
    (e5 : (decide (1 < t.length) && t.head? == some 48) = b5) (e6 : (g && decV t == 0) = b6) : rnT g t = (b4 && !b5 && !b6) := by
  rw [rnT, decide_eq_true h1, decide_eq_true h2, h3, e4, e5, e6]
  simp
theorem head_is (t : List UInt8) (c : UInt8) (h : t[0]? = some c) : (t.head? == some 48) = decide (c = 48) := by
  rw [List.head?_eq_getElem?, h]
  by_cases hc : c = 48
  · rw [hc]; rfl
  · rw [decide_eq_false hc, beq_eq_false_iff_ne]
    intro e
    injection e with e
    exact hc e
theorem rn_not (l : List UInt8) (h : rnB l = false) : rnA l = 0 := by rw [rnA, h]; rfl

set_option maxHeartbeats 2000000 in
theorem refReadNumber_neg (l : List UInt8) (hl : l.length ≤ 100000) (c0 : UInt8) (h0 : l[0]? = some c0) (hc : c0 = 45) (w : World) :
    Calls Tryd.prog 26 #[.string ⟨l.toArray⟩] w fun e w' => e = .returned (.tuple #[.int .i64 (rnA l), .bool (rnB l)]) ∧ w = w' := by
  have lp : 0 < l.length := by
    have := List.getElem?_eq_some_iff.1 h0
    exact this.1
  have hg : isNeg l = true := by rw [isNeg, List.head?_eq_getElem?, h0, hc]; rfl
  have htl : digitsL l = l.drop 1 := by rw [digitsL, if_pos hg]
  have e0 : ((c0.toNat : Int) == 45) = true := by rw [hc]; rfl
  obtain ⟨m, hm⟩ : ∃ m, m = l.length := ⟨_, rfl⟩
  have d1 : decide ((l.length : Int) > 0) = true := by simp; omega
  have d1' : decide (0 < (l.length : Int)) = true := by simp; omega
  have rat := str_at l 0 c0 h0
  have jk : (0 : Int) < (l.length : Int) := by omega
  obtain ⟨t, ht⟩ : ∃ t, t = digitsL l := ⟨_, rfl⟩
  have RN := Lib.hid (show rnB l = rnT true t by rw [rnB, hg, ← ht])
  have RA := Lib.hid (show rnB l = true → rnA l = -(decV t : Int) by intro h; rw [rnA, if_pos h, hg, ← ht]; rfl)
  have NOT := Lib.hid (fun h => And.intro h (rn_not l h))
  obtain ⟨y, hy⟩ : ∃ y, y = t.length := ⟨_, rfl⟩
  have rl : l.length - 1 = y := by rw [hy, ht, htl]; simp
  have r1 : IntKind.i64.wrap ((l.length : Int) - 1) = (y : Int) := by rw [IntWalk.i64_in _ (by omega)]; omega
  have TAT := Lib.hid (fun k => (show l[1 + k]? = t[k]? by rw [ht, htl, List.getElem?_drop]))
  have HY := Lib.hid hy
  have HL := Lib.hid hl
  by_cases hb1 : y < 1
  · have HN : Hid (rnB l = false) := Lib.hid (by
      rw [RN.out, rnT, decide_eq_false (show ¬ 1 ≤ t.length by omega)]
      rfl)
    have y1 : decide ((y : Int) < 1) = true := by simp; omega
    clear hm ht hy htl
    go_enter Tryd.func26, Tryd.ntmps26
    go_wp2
    go_ret2
    exact ⟨by rw [HN.out, rn_not l HN.out]; rfl, rfl⟩
  have y1 : decide ((y : Int) < 1) = false := by simp; omega
  by_cases hb2 : 10 < y
  · have HN : Hid (rnB l = false) := Lib.hid (by
      rw [RN.out, rnT, decide_eq_false (show ¬ t.length ≤ 10 by omega)]
      simp)
    have y2 : decide (10 < (y : Int)) = true := by simp; omega
    clear hm ht hy htl hb1
    go_enter Tryd.func26, Tryd.ntmps26
    go_wp2
    go_ret2
    exact ⟨by rw [HN.out, rn_not l HN.out]; rfl, rfl⟩
  have y2 : decide (10 < (y : Int)) = false := by simp; omega
  have HB := Lib.hid (show 1 ≤ y ∧ y ≤ 10 by omega)
  have LE := Lib.hid (show l.length = 1 + y by omega)
  clear hm ht hy htl hb1 hb2
  go_enter Tryd.func26, Tryd.ntmps26
  go_wp2_with fail
  go_loop [5, 6] (fun v i => ∃ k : Nat, k ≤ y ∧ i = .int .i64 ((1 + k : Nat) : Int) ∧ v = .int .i64 (decV (t.take k) : Int) ∧ allDec (t.take k) = true) (fun _ i => 1 + y - (intOf i).toNat)
  case atStart => exact ⟨0, by omega, rfl, rfl, rfl⟩
  case round =>
    obtain ⟨k, hk, rfl, rfl, ha⟩ := hrel
    have HA := Lib.hid ha
    clear ha
    obtain ⟨x, hx⟩ : ∃ x, x = 1 + k := ⟨_, rfl⟩
    rw [← hx]
    have dle := fun (c : UInt8) => digN_le c
    have tlk : (t.take k).length ≤ 10 := by rw [List.length_take]; have := HB.out; have := HY.out; omega
    have hvl := Nat.lt_of_lt_of_le (decV_lt (t.take k) HA.out) (Nat.pow_le_pow_right (by decide) tlk)
    by_cases hlt : k < y
    · have dk : decide ((x : Int) < (l.length : Int)) = true := by have := LE.out; simp; omega
      have jk : (x : Int) < (l.length : Int) := by have := LE.out; omega
      have jk2 : x < l.length := by have := LE.out; omega
      obtain ⟨c, hc⟩ : ∃ c, t[k]? = some c := ⟨_, List.getElem?_eq_getElem (by have := HY.out; omega)⟩
      have r := str_at l x c (by rw [hx, TAT.out, hc])
      have CD := fun w => Lib.hid (refDigit_any c w)
      have HV := Lib.hid (decV_take t k c hc)
      have HA2 := Lib.hid (allDec_take t k c hc)
      by_cases h10 : digN c < 10
      · obtain ⟨z, hz⟩ : ∃ z, z = digN c := ⟨_, rfl⟩
        rw [← hz] at h10 HV HA2
        simp only [← hz] at CD
        obtain ⟨o, ho⟩ : ∃ o, o = decV (t.take k) := ⟨_, rfl⟩
        rw [← ho] at hvl HV ⊢
        have z1 : decide ((z : Int) > 9) = false := by simp; omega
        have z2 : decide (9 < (z : Int)) = false := by simp; omega
        have r2 : IntKind.i64.wrap ((o : Int) * 10) = ((o * 10 : Nat) : Int) := by rw [IntWalk.i64_in _ (by omega)]; omega
        have r3 : IntKind.i64.wrap (((o * 10 : Nat) : Int) + (z : Int)) = ((o * 10 + z : Nat) : Int) := by rw [IntWalk.i64_in _ (by omega)]; omega
        have r3' : IntKind.i64.wrap ((o : Int) * 10 + (z : Int)) = ((o * 10 + z : Nat) : Int) := by rw [IntWalk.i64_in _ (by omega)]; omega
        have r4 : IntKind.i64.wrap ((x : Int) + 1) = ((x + 1 : Nat) : Int) := by have := HL.out; rw [IntWalk.i64_in _ (by omega)]; omega
        have HZ := Lib.hid h10
        have HX := Lib.hid hx
        clear hc h10 dle hvl hz ho hx
        go_wp2_with fail
        refine (CD w).out.mono ?_
        rintro e w1 ⟨rfl, rfl⟩
        go_wp2
        exact ⟨⟨k + 1, by omega, by rw [HX.out]; go_num, by rw [HV.out]; simp, by rw [HA2.out, HA.out]; simp [HZ.out]⟩, by simp [intOf]; omega⟩
      · have HN : Hid (rnB l = false) := Lib.hid (by
          rw [RN.out, rnT, allDec_not t k c hc h10]
          simp)
        have h16 := digN_le c
        obtain ⟨z, hz⟩ : ∃ z, z = digN c := ⟨_, rfl⟩
        rw [← hz] at h10 h16
        simp only [← hz] at CD
        have z1 : decide ((z : Int) > 9) = true := by simp; omega
        have z2 : decide (9 < (z : Int)) = true := by simp; omega
        clear hc h10 dle hvl hz hx HV HA2
        go_wp2_with fail
        refine (CD w).out.mono ?_
        rintro e w1 ⟨rfl, rfl⟩
        go_wp2
        go_ret2
        exact ⟨by rw [HN.out, rn_not l HN.out]; rfl, rfl⟩
    · obtain rfl : y = k := by omega
      have dk : decide ((x : Int) < (l.length : Int)) = false := by have := LE.out; simp; omega
      have dkn : decide (x < l.length) = false := by have := LE.out; simp; omega
      have htk : t.take y = t := List.take_of_length_le (by rw [← HY.out]; exact Nat.le_refl _)
      rw [htk] at HA hvl ⊢
      obtain ⟨o, ho⟩ : ∃ o, o = decV t := ⟨_, rfl⟩
      rw [← ho] at hvl RA ⊢
      obtain ⟨c1, hc1⟩ : ∃ c, t[0]? = some c := ⟨_, List.getElem?_eq_getElem (by have := HY.out; have := HB.out; omega)⟩
      have rat1 := str_at l 1 c1 (by rw [← hc1, ← TAT.out])
      have HT := Lib.hid (fun b4 b5 b6 e4 e5 e6 => RN.out.trans (rnT_of true t b4 b5 b6 (by rw [← HY.out]; exact HB.out.1) (by rw [← HY.out]; exact HB.out.2) HA.out e4 e5 e6))
      have HH := Lib.hid (head_is t c1 hc1)
      have HO := Lib.hid ho
      clear hx dle tlk hc1 ho
      by_cases hA : 1073741824 < o
      · have HN : Hid (rnB l = false) := Lib.hid (by
          rw [HT.out false _ _ (decide_eq_false (by rw [← HO.out]; omega)) rfl rfl]
          rfl)
        have z1 : decide ((o : Int) > 1073741824) = true := by simp; omega
        have z2 : decide (1073741824 < (o : Int)) = true := by simp; omega
        have z2n : decide (1073741824 < o) = true := by simp; omega
        clear hA htk hvl
        go_wp2; go_ret2; exact ⟨by rw [HN.out, rn_not l HN.out]; rfl, rfl⟩
      have z1 : decide ((o : Int) > 1073741824) = false := by simp; omega
      have z2 : decide (1073741824 < (o : Int)) = false := by simp; omega
      have z2n : decide (1073741824 < o) = false := by simp; omega
      have e4 : decide (decV t ≤ 1073741824) = true := decide_eq_true (by rw [← HO.out]; omega)
      have E4 := Lib.hid e4
      have OL := Lib.hid hA
      have r5 : IntKind.i64.wrap (-(o : Int)) = -(o : Int) := by rw [IntWalk.i64_in _ (by omega)]
      clear e4 hA htk hvl
      by_cases hB : 1 < y
      · have z3 : decide ((y : Int) > 1) = true := by simp; omega
        have z4 : decide (1 < (y : Int)) = true := by simp; omega
        have z4n : decide (1 < y) = true := by simp; omega
        by_cases hC : c1 = 48
        · have z5 : ((c1.toNat : Int) == 48) = true := by rw [hC]; rfl
          have HN : Hid (rnB l = false) := Lib.hid (by
            rw [HT.out true true _ E4.out (by rw [HH.out, decide_eq_true hC, decide_eq_true (by rw [← HY.out]; exact hB)]; rfl) rfl]
            rfl)
          have cj : (1 : Int) < (l.length : Int) := by have := LE.out; omega
          have cj2 : 1 < l.length := by have := LE.out; omega
          clear hB hC
          go_wp2; go_ret2; exact ⟨by rw [HN.out, rn_not l HN.out]; rfl, rfl⟩
        · have z5 : ((c1.toNat : Int) == 48) = false := by
            rw [beq_eq_false_iff_ne]
            exact fun e => hC (UInt8.toNat_inj.1 (by rw [show (48 : UInt8).toNat = 48 from rfl]; omega))
          have E5 := Lib.hid (show (decide (1 < t.length) && t.head? == some 48) = false by rw [HH.out, decide_eq_false hC]; simp)
          have cj : (1 : Int) < (l.length : Int) := by have := LE.out; omega
          have cj2 : 1 < l.length := by have := LE.out; omega
          clear hB hC
          by_cases h0o : o = 0
          · have z6 : ((o : Int) == 0) = true := by rw [h0o]; rfl
            have z7 : (o == 0) = true := by rw [h0o]; rfl
            have HN : Hid (rnB l = false) := Lib.hid (by
              rw [HT.out true false true E4.out E5.out (by rw [← HO.out, h0o]; rfl)]
              rfl)
            clear h0o
            go_wp2; go_ret2; exact ⟨by rw [HN.out, rn_not l HN.out]; rfl, rfl⟩
          · have z6 : ((o : Int) == 0) = false := by rw [beq_eq_false_iff_ne]; omega
            have z7 : (o == 0) = false := by rw [beq_eq_false_iff_ne]; omega
            have HI : Hid (rnB l = true) := Lib.hid (by
              rw [HT.out true false false E4.out E5.out (by rw [← HO.out, z7]; rfl)]
              rfl)
            clear h0o
            go_wp2
            go_ret2
            exact ⟨by rw [HI.out, RA.out HI.out]; rfl, rfl⟩
      · have z3 : decide ((y : Int) > 1) = false := by simp; omega
        have z4 : decide (1 < (y : Int)) = false := by simp; omega
        have z4n : decide (1 < y) = false := by simp; omega
        have E5 := Lib.hid (show (decide (1 < t.length) && t.head? == some 48) = false by rw [decide_eq_false (by rw [← HY.out]; exact hB)]; rfl)
        clear hB
        by_cases h0o : o = 0
        · have z6 : ((o : Int) == 0) = true := by rw [h0o]; rfl
          have z7 : (o == 0) = true := by rw [h0o]; rfl
          have HN : Hid (rnB l = false) := Lib.hid (by
            rw [HT.out true false true E4.out E5.out (by rw [← HO.out, h0o]; rfl)]
            rfl)
          clear h0o
          go_wp2; go_ret2; exact ⟨by rw [HN.out, rn_not l HN.out]; rfl, rfl⟩
        · have z6 : ((o : Int) == 0) = false := by rw [beq_eq_false_iff_ne]; omega
          have z7 : (o == 0) = false := by rw [beq_eq_false_iff_ne]; omega
          have HI : Hid (rnB l = true) := Lib.hid (by
            rw [HT.out true false false E4.out E5.out (by rw [← HO.out, z7]; rfl)]
            rfl)
          clear h0o
          go_wp2
          go_ret2
          exact ⟨by rw [HI.out, RA.out HI.out]; rfl, rfl⟩

set_option maxHeartbeats 2000000 in
theorem refReadNumber_pos (l : List UInt8) (hl : l.length ≤ 100000) (c0 : UInt8) (h0 : l[0]? = some c0) (hc : c0 ≠ 45) (w : World) :
    Calls Tryd.prog 26 #[.string ⟨l.toArray⟩] w fun e w' => e = .returned (.tuple #[.int .i64 (rnA l), .bool (rnB l)]) ∧ w = w' := by
  have lp : 0 < l.length := by
    have := List.getElem?_eq_some_iff.1 h0
    exact this.1
  have hg : isNeg l = false := by
    rw [isNeg, List.head?_eq_getElem?, h0]
    simpa using hc
  have htl : digitsL l = l.drop 0 := by rw [digitsL, hg]; simp
  have e0 : ((c0.toNat : Int) == 45) = false := by
    rw [beq_eq_false_iff_ne]
    exact fun e => hc (UInt8.toNat_inj.1 (by rw [show (45 : UInt8).toNat = 45 from rfl]; omega))
  obtain ⟨m, hm⟩ : ∃ m, m = l.length := ⟨_, rfl⟩
  have d1 : decide ((l.length : Int) > 0) = true := by simp; omega
  have d1' : decide (0 < (l.length : Int)) = true := by simp; omega
  have rat := str_at l 0 c0 h0
  have jk : (0 : Int) < (l.length : Int) := by omega
  obtain ⟨t, ht⟩ : ∃ t, t = digitsL l := ⟨_, rfl⟩
  have RN := Lib.hid (show rnB l = rnT false t by rw [rnB, hg, ← ht])
  have RA := Lib.hid (show rnB l = true → rnA l = (decV t : Int) by intro h; rw [rnA, if_pos h, hg, ← ht]; rfl)
  have NOT := Lib.hid (fun h => And.intro h (rn_not l h))
  have hy : l.length = t.length := by rw [ht, htl]; simp
  have TAT := Lib.hid (fun k => (show l[0 + k]? = t[k]? by rw [ht, htl, List.getElem?_drop]))
  have HY := Lib.hid hy
  have HL := Lib.hid hl
  by_cases hb1 : l.length < 1
  · have HN : Hid (rnB l = false) := Lib.hid (by
      rw [RN.out, rnT, decide_eq_false (show ¬ 1 ≤ t.length by omega)]
      rfl)
    have y1 : decide ((l.length : Int) < 1) = true := by simp; omega
    clear hm ht hy htl
    go_enter Tryd.func26, Tryd.ntmps26
    go_wp2
    go_ret2
    exact ⟨by rw [HN.out, rn_not l HN.out]; rfl, rfl⟩
  have y1 : decide ((l.length : Int) < 1) = false := by simp; omega
  by_cases hb2 : 10 < l.length
  · have HN : Hid (rnB l = false) := Lib.hid (by
      rw [RN.out, rnT, decide_eq_false (show ¬ t.length ≤ 10 by omega)]
      simp)
    have y2 : decide (10 < (l.length : Int)) = true := by simp; omega
    clear hm ht hy htl hb1
    go_enter Tryd.func26, Tryd.ntmps26
    go_wp2
    go_ret2
    exact ⟨by rw [HN.out, rn_not l HN.out]; rfl, rfl⟩
  have y2 : decide (10 < (l.length : Int)) = false := by simp; omega
  have HB := Lib.hid (show 1 ≤ l.length ∧ l.length ≤ 10 by omega)
  have LE := Lib.hid (show l.length = 0 + l.length by omega)
  clear hm ht hy htl hb1 hb2
  go_enter Tryd.func26, Tryd.ntmps26
  go_wp2_with fail
  go_loop [5, 6] (fun v i => ∃ k : Nat, k ≤ l.length ∧ i = .int .i64 ((0 + k : Nat) : Int) ∧ v = .int .i64 (decV (t.take k) : Int) ∧ allDec (t.take k) = true) (fun _ i => 0 + l.length - (intOf i).toNat)
  case atStart => exact ⟨0, by omega, rfl, rfl, rfl⟩
  case round =>
    obtain ⟨k, hk, rfl, rfl, ha⟩ := hrel
    have HA := Lib.hid ha
    clear ha
    obtain ⟨x, hx⟩ : ∃ x, x = 0 + k := ⟨_, rfl⟩
    rw [← hx]
    have dle := fun (c : UInt8) => digN_le c
    have tlk : (t.take k).length ≤ 10 := by rw [List.length_take]; have := HB.out; have := HY.out; omega
    have hvl := Nat.lt_of_lt_of_le (decV_lt (t.take k) HA.out) (Nat.pow_le_pow_right (by decide) tlk)
    by_cases hlt : k < l.length
    · have dk : decide ((x : Int) < (l.length : Int)) = true := by have := LE.out; simp; omega
      have jk : (x : Int) < (l.length : Int) := by have := LE.out; omega
      have jk2 : x < l.length := by have := LE.out; omega
      obtain ⟨c, hc⟩ : ∃ c, t[k]? = some c := ⟨_, List.getElem?_eq_getElem (by have := HY.out; omega)⟩
      have r := str_at l x c (by rw [hx, TAT.out, hc])
      have CD := fun w => Lib.hid (refDigit_any c w)
      have HV := Lib.hid (decV_take t k c hc)
      have HA2 := Lib.hid (allDec_take t k c hc)
      by_cases h10 : digN c < 10
      · obtain ⟨z, hz⟩ : ∃ z, z = digN c := ⟨_, rfl⟩
        rw [← hz] at h10 HV HA2
        simp only [← hz] at CD
        obtain ⟨o, ho⟩ : ∃ o, o = decV (t.take k) := ⟨_, rfl⟩
        rw [← ho] at hvl HV ⊢
        have z1 : decide ((z : Int) > 9) = false := by simp; omega
        have z2 : decide (9 < (z : Int)) = false := by simp; omega
        have r2 : IntKind.i64.wrap ((o : Int) * 10) = ((o * 10 : Nat) : Int) := by rw [IntWalk.i64_in _ (by omega)]; omega
        have r3 : IntKind.i64.wrap (((o * 10 : Nat) : Int) + (z : Int)) = ((o * 10 + z : Nat) : Int) := by rw [IntWalk.i64_in _ (by omega)]; omega
        have r3' : IntKind.i64.wrap ((o : Int) * 10 + (z : Int)) = ((o * 10 + z : Nat) : Int) := by rw [IntWalk.i64_in _ (by omega)]; omega
        have r4 : IntKind.i64.wrap ((x : Int) + 1) = ((x + 1 : Nat) : Int) := by have := HL.out; rw [IntWalk.i64_in _ (by omega)]; omega
        have HZ := Lib.hid h10
        have HX := Lib.hid hx
        clear hc h10 dle hvl hz ho hx
        go_wp2_with fail
        refine (CD w).out.mono ?_
        rintro e w1 ⟨rfl, rfl⟩
        go_wp2
        exact ⟨⟨k + 1, by omega, by rw [HX.out]; go_num, by rw [HV.out]; simp, by rw [HA2.out, HA.out]; simp [HZ.out]⟩, by simp [intOf]; omega⟩
      · have HN : Hid (rnB l = false) := Lib.hid (by
          rw [RN.out, rnT, allDec_not t k c hc h10]
          simp)
        have h16 := digN_le c
        obtain ⟨z, hz⟩ : ∃ z, z = digN c := ⟨_, rfl⟩
        rw [← hz] at h10 h16
        simp only [← hz] at CD
        have z1 : decide ((z : Int) > 9) = true := by simp; omega
        have z2 : decide (9 < (z : Int)) = true := by simp; omega
        clear hc h10 dle hvl hz hx HV HA2
        go_wp2_with fail
        refine (CD w).out.mono ?_
        rintro e w1 ⟨rfl, rfl⟩
        go_wp2
        go_ret2
        exact ⟨by rw [HN.out, rn_not l HN.out]; rfl, rfl⟩
    · obtain rfl : l.length = k := by omega
      have dk : decide ((x : Int) < (l.length : Int)) = false := by have := LE.out; simp; omega
      have dkn : decide (x < l.length) = false := by have := LE.out; simp; omega
      have htk : t.take l.length = t := List.take_of_length_le (by rw [← HY.out]; exact Nat.le_refl _)
      rw [htk] at HA hvl ⊢
      obtain ⟨o, ho⟩ : ∃ o, o = decV t := ⟨_, rfl⟩
      rw [← ho] at hvl RA ⊢
      have hc1 : t[0]? = some c0 := by rw [← TAT.out]; exact h0
      have HT := Lib.hid (fun b4 b5 b6 e4 e5 e6 => RN.out.trans (rnT_of false t b4 b5 b6 (by rw [← HY.out]; exact HB.out.1) (by rw [← HY.out]; exact HB.out.2) HA.out e4 e5 e6))
      have HH := Lib.hid (head_is t c0 hc1)
      have HO := Lib.hid ho
      clear hx dle tlk hc1 ho
      by_cases hA : 1073741824 < o
      · have HN : Hid (rnB l = false) := Lib.hid (by
          rw [HT.out false _ _ (decide_eq_false (by rw [← HO.out]; omega)) rfl rfl]
          rfl)
        have z1 : decide ((o : Int) > 1073741824) = true := by simp; omega
        have z2 : decide (1073741824 < (o : Int)) = true := by simp; omega
        have z2n : decide (1073741824 < o) = true := by simp; omega
        clear hA htk hvl
        go_wp2; go_ret2; exact ⟨by rw [HN.out, rn_not l HN.out]; rfl, rfl⟩
      have z1 : decide ((o : Int) > 1073741824) = false := by simp; omega
      have z2 : decide (1073741824 < (o : Int)) = false := by simp; omega
      have z2n : decide (1073741824 < o) = false := by simp; omega
      have e4 : decide (decV t ≤ 1073741824) = true := decide_eq_true (by rw [← HO.out]; omega)
      have E4 := Lib.hid e4
      have OL := Lib.hid hA
      skip
      clear e4 hA htk hvl
      by_cases hB : 1 < l.length
      · have z3 : decide ((l.length : Int) > 1) = true := by simp; omega
        have z4 : decide (1 < (l.length : Int)) = true := by simp; omega
        have z4n : decide (1 < l.length) = true := by simp; omega
        by_cases hC : c0 = 48
        · have z5 : ((c0.toNat : Int) == 48) = true := by rw [hC]; rfl
          have HN : Hid (rnB l = false) := Lib.hid (by
            rw [HT.out true true _ E4.out (by rw [HH.out, decide_eq_true hC, decide_eq_true (by rw [← HY.out]; exact hB)]; rfl) rfl]
            rfl)
          skip
          clear hB hC
          go_wp2; go_ret2; exact ⟨by rw [HN.out, rn_not l HN.out]; rfl, rfl⟩
        · have z5 : ((c0.toNat : Int) == 48) = false := by
            rw [beq_eq_false_iff_ne]
            exact fun e => hC (UInt8.toNat_inj.1 (by rw [show (48 : UInt8).toNat = 48 from rfl]; omega))
          have E5 := Lib.hid (show (decide (1 < t.length) && t.head? == some 48) = false by rw [HH.out, decide_eq_false hC]; simp)
          skip
          clear hB hC
          have HI : Hid (rnB l = true) := Lib.hid (by
            rw [HT.out true false false E4.out E5.out rfl]
            rfl)
          go_wp2
          go_ret2
          exact ⟨by rw [HI.out, RA.out HI.out]; rfl, rfl⟩
      · have z3 : decide ((l.length : Int) > 1) = false := by simp; omega
        have z4 : decide (1 < (l.length : Int)) = false := by simp; omega
        have z4n : decide (1 < l.length) = false := by simp; omega
        have E5 := Lib.hid (show (decide (1 < t.length) && t.head? == some 48) = false by rw [decide_eq_false (by rw [← HY.out]; exact hB)]; rfl)
        clear hB
        have HI : Hid (rnB l = true) := Lib.hid (by
          rw [HT.out true false false E4.out E5.out rfl]
          rfl)
        go_wp2
        go_ret2
        exact ⟨by rw [HI.out, RA.out HI.out]; rfl, rfl⟩
end Go.Proofs.YtgldelgeaajgpaaDoor
