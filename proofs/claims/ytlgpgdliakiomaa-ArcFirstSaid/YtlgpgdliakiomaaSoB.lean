/- The library's stable sort at elements of one cell (uint64), walked: symMerge: two runs become one. -/
import Derived.Test.YtlgpgdliakiomaaSoA
import Derived.Deep.DeepCutAuto
namespace Go.Proofs.Ytlgpgdliakiomaa
open Go.Shelf Go.RowKit Go.Lib Go.Sort Go.Proofs

set_option maxRecDepth 1000000 in
set_option maxHeartbeats 2000000 in
theorem sym_one (g : Nat) (cb : Array Value) (cf : Nat → Nat → Int) (hS : SWO (ltOf cf)) (blk off cap : Nat) (d0 : Array Nat) (w0 : World)
    (eg : ∀ args w, (callFunc g args).run Try.prog w = .ok (.enter g args) w) (hcmp : CmpLays1 Try.prog g cb encU cf blk off d0.size w0) (R : Row1 encU w0 blk off d0)
    (a m b : Nat) (d : Array Nat) (w : World) (hs : d0.size = d.size) (S : SW encU w0 blk off d w) (hsz : d.size < 4611686018427387904) (h1 : a < m) (h2 : m < b) (h3 : b ≤ d.size) (hA : SortedIn (ltOf cf) a m d) (hB : SortedIn (ltOf cf) m b d) (hm1 : m = a + 1) :
    Calls Try.prog 28 #[.slice (some ⟨blk, off, none⟩) d.size cap, .int .i64 (a : Int), .int .i64 (m : Int), .int .i64 (b : Int), .func (.func g) #[] cb] w fun e w' => e = .returned (.tuple #[]) ∧ ∃ d', SW encU w0 blk off d' w' ∧ PermIn a b d d' ∧ SortedIn (ltOf cf) a b d' := by
  have mixed : Try.prog.follows .mixedOrders = true := by kernel_rfl
  have HC : Aside _ := hcmp
  have S0 : Aside (SW encU w0 blk off d w) := S
  have HA : Aside (SortedIn (ltOf cf) a m d) := hA
  have HB : Aside (SortedIn (ltOf cf) m b d) := hB
  have r0 : IntKind.i64.wrap ((m : Int) - (a : Int)) = (m : Int) - (a : Int) := by rw [IntKind.wrap_i64]; omega
  have r0' : IntKind.i64.wrap ((b : Int) - (m : Int)) = (b : Int) - (m : Int) := by rw [IntKind.wrap_i64]; omega
  clear S hA hB hcmp
  have hd1 : (((m : Int) - (a : Int)) == (1 : Int)) = true := by simp; omega
  have HM : Hid (m = a + 1) := hm1
  clear hm1
  go_enter Try.func28, Try.ntmps28
  go_wp2_with fail
  go_loopg [10, 11] (b - m) (fun kx s10 s11 wr => ∃ (i j : Nat), s10 = .int .i64 (i : Int) ∧ s11 = .int .i64 (j : Int) ∧ m ≤ i ∧ i ≤ j ∧ j ≤ b ∧ j - i ≤ kx ∧ Aside (SW encU w0 blk off d wr) ∧ Aside (B1 (ltOf cf) d a m b i j))
  case atStart => exact ⟨m, b, rfl, rfl, Nat.le_refl _, by omega, Nat.le_refl _, Nat.le_refl _, S0, B1.start _ _ _ _⟩
  case round =>
    clear S0
    obtain ⟨i, j, rfl, rfl, hi, hij, hj, hkx, S1, G⟩ := hrel
    by_cases hlt : i < j
    · have hltz : (i : Int) < (j : Int) := by omega
      obtain ⟨h, hh⟩ : ∃ h, h = (i + j) / 2 := ⟨_, rfl⟩
      have hih : i ≤ h := by omega
      have hhj : h < j := by omega
      have rr1 : IntKind.i64.wrap ((i : Int) + (j : Int)) = (i : Int) + (j : Int) := by rw [IntKind.wrap_i64]; omega
      have rr2 : IntKind.u64.wrap ((i : Int) + (j : Int)) = (i : Int) + (j : Int) := by rw [IntWalk.u64_in _ (by omega)]
      have rr3 : ((i : Int) + (j : Int)) / 2 = (h : Int) := by omega
      have rr4 : IntKind.u64.wrap (h : Int) = (h : Int) := by rw [IntWalk.u64_in _ (by omega)]
      clear hh
      cases hlv : (ltOf cf) d[h]! d[a]! with
      | true =>
        obtain ⟨iN2, hiN2⟩ : ∃ q, q = h := ⟨_, rfl⟩
        obtain ⟨jN2, hjN2⟩ : ∃ q, q = a := ⟨_, rfl⟩
        have ea2 : ((h : Int)).toNat = iN2 := by omega
        have pa2 : (0 : Int) ≤ (h : Int) := by omega
        have ba2 : (h : Int) < (d.size : Int) := by omega
        have ra2 : IntKind.i64.wrap ((h : Int)) = (h : Int) := by rw [IntKind.wrap_i64]; omega
        have ec2 : ((a : Int)).toNat = jN2 := by omega
        have pc2 : (0 : Int) ≤ (a : Int) := by omega
        have bc2 : (a : Int) < (d.size : Int) := by omega
        have rc2 : IntKind.i64.wrap ((a : Int)) = (a : Int) := by rw [IntKind.wrap_i64]; omega
        obtain ⟨x2, hx2⟩ : ∃ x, x = (d)[h]! := ⟨_, rfl⟩
        obtain ⟨y2, hy2⟩ : ∃ x, x = (d)[a]! := ⟨_, rfl⟩
        have l2a := S1.out.cl R (by omega) (h) (by omega)
        have l2b := S1.out.cl R (by omega) (a) (by omega)
        rw [← hx2, ← hiN2] at l2a
        rw [← hy2, ← hjN2] at l2b
        have hc2 := S1.out.cmp HC.out (by omega) x2 y2
        have hv2 : cf x2 y2 < 0 := by rw [hx2, hy2]; exact of_decide_eq_true hlv
        have hd2 : decide (cf x2 y2 < 0) = true := decide_eq_true hv2
        clear hx2 hy2 hiN2 hjN2
        simp only [encU] at *
        go_wp2_with fail
        go_quiet_grown (first | (go_at_fn g; refine Calls.grown_of (hc2 _ _)))
        have S2 : Aside (SW encU w0 blk off (d) (grow (wr.drewN nq) osq)) := S1.out.grown nq osq
        clear l2a l2b hc2 S1
        generalize grow (wr.drewN nq) osq = w2 at S2 ⊢
        clear nq osq
        clear ea2 ec2
        go_wp2
        go_roundg (j - (h + 1))
        case measure => omega
        case rel => exact ⟨h + 1, j, by go_num, rfl, by omega, by omega, hj, Nat.le_refl _, S2, G.out.yes hS HB.out (by omega) hlv⟩
      | false =>
        obtain ⟨iN3, hiN3⟩ : ∃ q, q = h := ⟨_, rfl⟩
        obtain ⟨jN3, hjN3⟩ : ∃ q, q = a := ⟨_, rfl⟩
        have ea3 : ((h : Int)).toNat = iN3 := by omega
        have pa3 : (0 : Int) ≤ (h : Int) := by omega
        have ba3 : (h : Int) < (d.size : Int) := by omega
        have ra3 : IntKind.i64.wrap ((h : Int)) = (h : Int) := by rw [IntKind.wrap_i64]; omega
        have ec3 : ((a : Int)).toNat = jN3 := by omega
        have pc3 : (0 : Int) ≤ (a : Int) := by omega
        have bc3 : (a : Int) < (d.size : Int) := by omega
        have rc3 : IntKind.i64.wrap ((a : Int)) = (a : Int) := by rw [IntKind.wrap_i64]; omega
        obtain ⟨x3, hx3⟩ : ∃ x, x = (d)[h]! := ⟨_, rfl⟩
        obtain ⟨y3, hy3⟩ : ∃ x, x = (d)[a]! := ⟨_, rfl⟩
        have l3a := S1.out.cl R (by omega) (h) (by omega)
        have l3b := S1.out.cl R (by omega) (a) (by omega)
        rw [← hx3, ← hiN3] at l3a
        rw [← hy3, ← hjN3] at l3b
        have hc3 := S1.out.cmp HC.out (by omega) x3 y3
        have hv3 : ¬ cf x3 y3 < 0 := by rw [hx3, hy3]; exact of_decide_eq_false hlv
        have hd3 : decide (cf x3 y3 < 0) = false := decide_eq_false hv3
        clear hx3 hy3 hiN3 hjN3
        simp only [encU] at *
        go_wp2_with fail
        go_quiet_grown (first | (go_at_fn g; refine Calls.grown_of (hc3 _ _)))
        have S2 : Aside (SW encU w0 blk off (d) (grow (wr.drewN nq) osq)) := S1.out.grown nq osq
        clear l3a l3b hc3 S1
        generalize grow (wr.drewN nq) osq = w2 at S2 ⊢
        clear nq osq
        clear ea3 ec3
        go_wp2
        go_roundg (h - i)
        case measure => omega
        case rel => exact ⟨i, h, rfl, rfl, hi, hih, by omega, Nat.le_refl _, S2, G.out.no hS HB.out (by omega) hlv⟩
    · have hnot : ¬ (i : Int) < (j : Int) := by omega
      obtain rfl : i = j := by omega
      have rr1 : IntKind.i64.wrap ((i : Int) - 1) = (i : Int) - 1 := by rw [IntKind.wrap_i64]; omega
      go_wp2_with fail
      go_loopg [13] (i - a) (fun kx s13 wr => ∃ (q k : Nat), s13 = .int .i64 (k : Int) ∧ k = a + q ∧ a + q + 1 ≤ i ∧ i - k ≤ kx ∧ Aside (SW encU w0 blk off (shUp d a q) wr))
      case atStart => exact ⟨0, a, rfl, rfl, by omega, by omega, S1⟩
      case round =>
        clear S1
        obtain ⟨q, k, rfl, hkq, hqi, hkx, S1⟩ := hrel
        have hq : (shUp d a q).size = d.size := shUp_size d a q
        by_cases hlt : k + 1 < i
        · have hltz : (k : Int) < (i : Int) - 1 := by omega
          obtain ⟨D, hD⟩ : ∃ D, D = shUp d a q := ⟨_, rfl⟩
          rw [← hD] at S1 hq
          have HD : Aside (D = shUp d a q) := hD
          have HK : Aside (k = a + q) := hkq
          clear hD hkq
          go_wp2_with fail
          obtain ⟨iN4, hiN4⟩ : ∃ q, q = k := ⟨_, rfl⟩
          obtain ⟨jN4, hjN4⟩ : ∃ q, q = k + 1 := ⟨_, rfl⟩
          have ea4 : ((k : Int)).toNat = iN4 := by omega
          have pa4 : (0 : Int) ≤ (k : Int) := by omega
          have ba4 : (k : Int) < (d.size : Int) := by omega
          have ra4 : IntKind.i64.wrap ((k : Int)) = (k : Int) := by rw [IntKind.wrap_i64]; omega
          have ec4 : ((k : Int) + 1).toNat = jN4 := by omega
          have pc4 : (0 : Int) ≤ (k : Int) + 1 := by omega
          have bc4 : (k : Int) + 1 < (d.size : Int) := by omega
          have rc4 : IntKind.i64.wrap ((k : Int) + 1) = (k : Int) + 1 := by rw [IntKind.wrap_i64]; omega
          obtain ⟨x4, hx4⟩ : ∃ x, x = (D)[k]! := ⟨_, rfl⟩
          obtain ⟨y4, hy4⟩ : ∃ x, x = (D)[k + 1]! := ⟨_, rfl⟩
          have S2 : Aside (SW encU w0 blk off (swp (D) (k) (k + 1)) ((wr.setCell ⟨blk, off + iN4, none⟩ (encU y4)).setCell ⟨blk, off + jN4, none⟩ (encU x4)).drew) := by rw [hiN4, hjN4, hx4, hy4]; exact S1.out.swapped R (k) (k + 1) (by omega) (by omega)
          have c4a := S1.out.c1 R (by omega) (k) (by omega)
          have c4b := S1.out.c1 R (by omega) (k + 1) (by omega)
          have f4a := S1.out.f1 R (by omega) (k) (by omega)
          have f4b := S1.out.f1 R (by omega) (k + 1) (by omega)
          obtain ⟨u4, c4c⟩ := S1.out.c2 R (by omega) (k) (k + 1) (by omega) (by omega) (encU y4)
          rw [← hjN4, ← hiN4] at c4c
          rw [← hx4, ← hiN4] at c4a
          rw [← hy4, ← hjN4] at c4b
          rw [← hiN4] at f4a
          rw [← hjN4] at f4b
          clear S1 hx4 hy4 hiN4 hjN4
          simp only [encU] at *
          go_wp2_with fail
          go_big_region_o
          clear c4a c4b c4c f4a f4b
          generalize ((wr.setCell ⟨blk, off + iN4, none⟩ (Value.int .u64 (y4 : Int))).setCell ⟨blk, off + jN4, none⟩ (Value.int .u64 (x4 : Int))).drew = w2 at S2 ⊢
          clear ea4 ec4
          go_wp2
          go_roundg (i - (k + 1))
          case measure => omega
          case rel => exact ⟨q + 1, k + 1, by go_num, by have := HK.out; omega, by have := HK.out; omega, Nat.le_refl _, by rw [shUp, ← HD.out, ← HK.out]; exact S2⟩
        · have hnot : ¬ (k : Int) < (i : Int) - 1 := by omega
          have HQ : Aside (q = i - 1 - a) := by show _ = _; omega
          clear hkq
          go_wp2
          (try simp only [Exit.inBlock, Exit.then]); refine bodyPost_ret (results_none rfl _ _ _) rfl ?_
          refine ⟨rfl, _, S1.out, shUp_perm _ _ _ _ _ (Nat.le_refl _) (by omega) h3, ?_⟩
          have hm := HM.out
          rw [HQ.out]
          exact one_left hS d a b i (by omega) hj h3 (by rw [← hm]; exact HB.out) (by rw [← hm]; exact G.out)

set_option maxRecDepth 1000000 in
set_option maxHeartbeats 2000000 in
theorem sym_two (g : Nat) (cb : Array Value) (cf : Nat → Nat → Int) (hS : SWO (ltOf cf)) (blk off cap : Nat) (d0 : Array Nat) (w0 : World)
    (eg : ∀ args w, (callFunc g args).run Try.prog w = .ok (.enter g args) w) (hcmp : CmpLays1 Try.prog g cb encU cf blk off d0.size w0) (R : Row1 encU w0 blk off d0)
    (a m b : Nat) (d : Array Nat) (w : World) (hs : d0.size = d.size) (S : SW encU w0 blk off d w) (hsz : d.size < 4611686018427387904) (h1 : a < m) (h2 : m < b) (h3 : b ≤ d.size) (hA : SortedIn (ltOf cf) a m d) (hB : SortedIn (ltOf cf) m b d) (hm1 : ¬ m = a + 1) (hb1 : b = m + 1) :
    Calls Try.prog 28 #[.slice (some ⟨blk, off, none⟩) d.size cap, .int .i64 (a : Int), .int .i64 (m : Int), .int .i64 (b : Int), .func (.func g) #[] cb] w fun e w' => e = .returned (.tuple #[]) ∧ ∃ d', SW encU w0 blk off d' w' ∧ PermIn a b d d' ∧ SortedIn (ltOf cf) a b d' := by
  have mixed : Try.prog.follows .mixedOrders = true := by kernel_rfl
  have HC : Aside _ := hcmp
  have S0 : Aside (SW encU w0 blk off d w) := S
  have HA : Aside (SortedIn (ltOf cf) a m d) := hA
  have HB : Aside (SortedIn (ltOf cf) m b d) := hB
  have r0 : IntKind.i64.wrap ((m : Int) - (a : Int)) = (m : Int) - (a : Int) := by rw [IntKind.wrap_i64]; omega
  have r0' : IntKind.i64.wrap ((b : Int) - (m : Int)) = (b : Int) - (m : Int) := by rw [IntKind.wrap_i64]; omega
  clear S hA hB hcmp
  have hd1 : (((m : Int) - (a : Int)) == (1 : Int)) = false := by simp; omega
  have hd2 : (((b : Int) - (m : Int)) == (1 : Int)) = true := by simp; omega
  have HM : Hid (b = m + 1) := hb1
  clear hb1
  go_enter Try.func28, Try.ntmps28
  go_wp2_with fail
  go_loopg [14, 15] (m - a) (fun kx s14 s15 wr => ∃ (i j : Nat), s14 = .int .i64 (i : Int) ∧ s15 = .int .i64 (j : Int) ∧ a ≤ i ∧ i ≤ j ∧ j ≤ m ∧ j - i ≤ kx ∧ Aside (SW encU w0 blk off d wr) ∧ Aside (B2 (ltOf cf) d a m i j))
  case atStart => exact ⟨a, m, rfl, rfl, Nat.le_refl _, by omega, Nat.le_refl _, Nat.le_refl _, S0, B2.start _ _ _⟩
  case round =>
    clear S0
    obtain ⟨i, j, rfl, rfl, hi, hij, hj, hkx, S1, G⟩ := hrel
    by_cases hlt : i < j
    · have hltz : (i : Int) < (j : Int) := by omega
      obtain ⟨h, hh⟩ : ∃ h, h = (i + j) / 2 := ⟨_, rfl⟩
      have hih : i ≤ h := by omega
      have hhj : h < j := by omega
      have rr1 : IntKind.i64.wrap ((i : Int) + (j : Int)) = (i : Int) + (j : Int) := by rw [IntKind.wrap_i64]; omega
      have rr2 : IntKind.u64.wrap ((i : Int) + (j : Int)) = (i : Int) + (j : Int) := by rw [IntWalk.u64_in _ (by omega)]
      have rr3 : ((i : Int) + (j : Int)) / 2 = (h : Int) := by omega
      have rr4 : IntKind.u64.wrap (h : Int) = (h : Int) := by rw [IntWalk.u64_in _ (by omega)]
      clear hh
      cases hlv : (ltOf cf) d[m]! d[h]! with
      | false =>
        obtain ⟨iN5, hiN5⟩ : ∃ q, q = m := ⟨_, rfl⟩
        obtain ⟨jN5, hjN5⟩ : ∃ q, q = h := ⟨_, rfl⟩
        have ea5 : ((m : Int)).toNat = iN5 := by omega
        have pa5 : (0 : Int) ≤ (m : Int) := by omega
        have ba5 : (m : Int) < (d.size : Int) := by omega
        have ra5 : IntKind.i64.wrap ((m : Int)) = (m : Int) := by rw [IntKind.wrap_i64]; omega
        have ec5 : ((h : Int)).toNat = jN5 := by omega
        have pc5 : (0 : Int) ≤ (h : Int) := by omega
        have bc5 : (h : Int) < (d.size : Int) := by omega
        have rc5 : IntKind.i64.wrap ((h : Int)) = (h : Int) := by rw [IntKind.wrap_i64]; omega
        obtain ⟨x5, hx5⟩ : ∃ x, x = (d)[m]! := ⟨_, rfl⟩
        obtain ⟨y5, hy5⟩ : ∃ x, x = (d)[h]! := ⟨_, rfl⟩
        have l5a := S1.out.cl R (by omega) (m) (by omega)
        have l5b := S1.out.cl R (by omega) (h) (by omega)
        rw [← hx5, ← hiN5] at l5a
        rw [← hy5, ← hjN5] at l5b
        have hc5 := S1.out.cmp HC.out (by omega) x5 y5
        have hv5 : ¬ cf x5 y5 < 0 := by rw [hx5, hy5]; exact of_decide_eq_false hlv
        have hd5 : decide (cf x5 y5 < 0) = false := decide_eq_false hv5
        clear hx5 hy5 hiN5 hjN5
        simp only [encU] at *
        go_wp2_with fail
        go_quiet_grown (first | (go_at_fn g; refine Calls.grown_of (hc5 _ _)))
        have S2 : Aside (SW encU w0 blk off (d) (grow (wr.drewN nq) osq)) := S1.out.grown nq osq
        clear l5a l5b hc5 S1
        generalize grow (wr.drewN nq) osq = w2 at S2 ⊢
        clear nq osq
        clear ea5 ec5
        go_wp2
        go_roundg (j - (h + 1))
        case measure => omega
        case rel => exact ⟨h + 1, j, by go_num, rfl, by omega, by omega, hj, Nat.le_refl _, S2, G.out.yes hS HA.out (by omega) hlv⟩
      | true =>
        obtain ⟨iN6, hiN6⟩ : ∃ q, q = m := ⟨_, rfl⟩
        obtain ⟨jN6, hjN6⟩ : ∃ q, q = h := ⟨_, rfl⟩
        have ea6 : ((m : Int)).toNat = iN6 := by omega
        have pa6 : (0 : Int) ≤ (m : Int) := by omega
        have ba6 : (m : Int) < (d.size : Int) := by omega
        have ra6 : IntKind.i64.wrap ((m : Int)) = (m : Int) := by rw [IntKind.wrap_i64]; omega
        have ec6 : ((h : Int)).toNat = jN6 := by omega
        have pc6 : (0 : Int) ≤ (h : Int) := by omega
        have bc6 : (h : Int) < (d.size : Int) := by omega
        have rc6 : IntKind.i64.wrap ((h : Int)) = (h : Int) := by rw [IntKind.wrap_i64]; omega
        obtain ⟨x6, hx6⟩ : ∃ x, x = (d)[m]! := ⟨_, rfl⟩
        obtain ⟨y6, hy6⟩ : ∃ x, x = (d)[h]! := ⟨_, rfl⟩
        have l6a := S1.out.cl R (by omega) (m) (by omega)
        have l6b := S1.out.cl R (by omega) (h) (by omega)
        rw [← hx6, ← hiN6] at l6a
        rw [← hy6, ← hjN6] at l6b
        have hc6 := S1.out.cmp HC.out (by omega) x6 y6
        have hv6 : cf x6 y6 < 0 := by rw [hx6, hy6]; exact of_decide_eq_true hlv
        have hd6 : decide (cf x6 y6 < 0) = true := decide_eq_true hv6
        clear hx6 hy6 hiN6 hjN6
        simp only [encU] at *
        go_wp2_with fail
        go_quiet_grown (first | (go_at_fn g; refine Calls.grown_of (hc6 _ _)))
        have S2 : Aside (SW encU w0 blk off (d) (grow (wr.drewN nq) osq)) := S1.out.grown nq osq
        clear l6a l6b hc6 S1
        generalize grow (wr.drewN nq) osq = w2 at S2 ⊢
        clear nq osq
        clear ea6 ec6
        go_wp2
        go_roundg (h - i)
        case measure => omega
        case rel => exact ⟨i, h, rfl, rfl, hi, hih, by omega, Nat.le_refl _, S2, G.out.no hS HA.out (by omega) hlv⟩
    · have hnot : ¬ (i : Int) < (j : Int) := by omega
      obtain rfl : i = j := by omega
      go_wp2_with fail
      go_loopg [17] (m - i) (fun kx s17 wr => ∃ (q k : Nat), s17 = .int .i64 (k : Int) ∧ k = m - q ∧ i + q ≤ m ∧ k - i ≤ kx ∧ Aside (SW encU w0 blk off (shDn d m q) wr))
      case atStart => exact ⟨0, m, rfl, rfl, by omega, Nat.le_refl _, S1⟩
      case round =>
        clear S1
        obtain ⟨q, k, rfl, hkq, hqi, hkx, S1⟩ := hrel
        have hq : (shDn d m q).size = d.size := shDn_size d m q
        by_cases hlt : i < k
        · have hltz : (i : Int) < (k : Int) := by omega
          have hgt : decide ((k : Int) > (i : Int)) = true := decide_eq_true hltz
          obtain ⟨D, hD⟩ : ∃ D, D = shDn d m q := ⟨_, rfl⟩
          rw [← hD] at S1 hq
          have HD : Aside (D = shDn d m q) := hD
          have HK : Aside (k = m - q) := hkq
          have hkm : k ≤ m := by omega
          clear hD hkq
          go_wp2_with fail
          obtain ⟨iN7, hiN7⟩ : ∃ q, q = k := ⟨_, rfl⟩
          obtain ⟨jN7, hjN7⟩ : ∃ q, q = k - 1 := ⟨_, rfl⟩
          have ea7 : ((k : Int)).toNat = iN7 := by omega
          have pa7 : (0 : Int) ≤ (k : Int) := by omega
          have ba7 : (k : Int) < (d.size : Int) := by omega
          have ra7 : IntKind.i64.wrap ((k : Int)) = (k : Int) := by rw [IntKind.wrap_i64]; omega
          have ec7 : ((k : Int) - 1).toNat = jN7 := by omega
          have pc7 : (0 : Int) ≤ (k : Int) - 1 := by omega
          have bc7 : (k : Int) - 1 < (d.size : Int) := by omega
          have rc7 : IntKind.i64.wrap ((k : Int) - 1) = (k : Int) - 1 := by rw [IntKind.wrap_i64]; omega
          obtain ⟨x7, hx7⟩ : ∃ x, x = (D)[k]! := ⟨_, rfl⟩
          obtain ⟨y7, hy7⟩ : ∃ x, x = (D)[k - 1]! := ⟨_, rfl⟩
          have S2 : Aside (SW encU w0 blk off (swp (D) (k) (k - 1)) ((wr.setCell ⟨blk, off + iN7, none⟩ (encU y7)).setCell ⟨blk, off + jN7, none⟩ (encU x7)).drew) := by rw [hiN7, hjN7, hx7, hy7]; exact S1.out.swapped R (k) (k - 1) (by omega) (by omega)
          have c7a := S1.out.c1 R (by omega) (k) (by omega)
          have c7b := S1.out.c1 R (by omega) (k - 1) (by omega)
          have f7a := S1.out.f1 R (by omega) (k) (by omega)
          have f7b := S1.out.f1 R (by omega) (k - 1) (by omega)
          obtain ⟨u7, c7c⟩ := S1.out.c2 R (by omega) (k) (k - 1) (by omega) (by omega) (encU y7)
          rw [← hjN7, ← hiN7] at c7c
          rw [← hx7, ← hiN7] at c7a
          rw [← hy7, ← hjN7] at c7b
          rw [← hiN7] at f7a
          rw [← hjN7] at f7b
          clear S1 hx7 hy7 hiN7 hjN7
          simp only [encU] at *
          go_wp2_with fail
          go_big_region_o
          clear c7a c7b c7c f7a f7b
          generalize ((wr.setCell ⟨blk, off + iN7, none⟩ (Value.int .u64 (y7 : Int))).setCell ⟨blk, off + jN7, none⟩ (Value.int .u64 (x7 : Int))).drew = w2 at S2 ⊢
          clear ea7 ec7
          go_wp2
          go_roundg (k - 1 - i)
          case measure => omega
          case rel => exact ⟨q + 1, k - 1, by go_num, by have := HK.out; omega, by have := HK.out; omega, Nat.le_refl _, by rw [shDn, ← HD.out, ← HK.out]; exact S2⟩
        · have hnot : ¬ (i : Int) < (k : Int) := by omega
          have hgt : decide ((k : Int) > (i : Int)) = false := decide_eq_false hnot
          have HQ : Aside (q = m - i) := by show _ = _; omega
          clear hkq
          go_wp2
          (try simp only [Exit.inBlock, Exit.then]); refine bodyPost_ret (results_none rfl _ _ _) rfl ?_
          refine ⟨rfl, _, S1.out, shDn_perm _ _ _ _ _ (by omega) (by omega) h3, ?_⟩
          have hm := HM.out
          rw [HQ.out, hm]
          exact one_right hS d a m i hi (by omega) (by omega) HA.out G.out

end Go.Proofs.Ytlgpgdliakiomaa
