/- The library's stable sort at elements of one cell (uint64), walked: insertion, runs, the entry: the row holds a sorted permutation. -/
import Derived.Test.YtlgpgdliakiomaaSoS
import Derived.Sort.WalkA
namespace Go.Proofs.Ytlgpgdliakiomaa
open Go.Shelf Go.RowKit Go.Lib Go.Sort Go.Proofs

set_option maxRecDepth 1000000 in
set_option maxHeartbeats 2000000 in
theorem insertion_any (g : Nat) (cb : Array Value) (cf : Nat → Nat → Int) (blk off cap a b : Nat) (d0 d : Array Nat) (w0 w : World)
    (eg : ∀ args w, (callFunc g args).run Try.prog w = .ok (.enter g args) w) (hcmp : CmpLays1 Try.prog g cb encU cf blk off d0.size w0) (R : Row1 encU w0 blk off d0) (hs : d0.size = d.size) (S : SW encU w0 blk off d w) (hsz : d.size < 4611686018427387904) (hab : a ≤ b) (hb : b ≤ d.size) :
    Calls Try.prog 27 #[.slice (some ⟨blk, off, none⟩) d.size cap, .int .i64 (a : Int), .int .i64 (b : Int), .func (.func g) #[] cb] w fun e w' => e = .returned (.tuple #[]) ∧ SW encU w0 blk off (Sort.insertionSort (ltOf cf) d a b) w' := by
  have mixed : Try.prog.follows .mixedOrders = true := by kernel_rfl
  have HC : Aside _ := hcmp
  have S0 : Aside (SW encU w0 blk off d w) := S
  clear S hcmp
  go_enter Try.func27, Try.ntmps27
  go_wp2
  go_loopg [8] (b - a) (fun g1 vi wr => ∃ (i : Nat) (dk : Array Nat), vi = .int .i64 (i : Int) ∧ a < i ∧ i ≤ b + 1 ∧ b + 1 - i ≤ g1 + 1 ∧ dk.size = d.size ∧ Aside (SW encU w0 blk off dk wr) ∧ Aside (insOuter (ltOf cf) a b i dk = insOuter (ltOf cf) a b (a + 1) d))
  case atStart => exact ⟨a + 1, d, by go_num, by omega, by omega, by omega, rfl, S0, rfl⟩
  case round =>
    clear S0
    obtain ⟨i, dk, rfl, hai, hib, hg1, hsk, S1, HO⟩ := hrel
    by_cases hlt : i < b
    · have hltz : (i : Int) < (b : Int) := by omega
      go_wp2
      go_loopg [9] i (fun g2 vj wr2 => ∃ (j : Nat) (dj : Array Nat), vj = .int .i64 (j : Int) ∧ a ≤ j ∧ j ≤ i ∧ j ≤ g2 ∧ dj.size = d.size ∧ Aside (SW encU w0 blk off dj wr2) ∧ Aside (insInner (ltOf cf) a j dj = insInner (ltOf cf) a i dk))
      case atStart => exact ⟨i, dk, rfl, by omega, Nat.le_refl _, Nat.le_refl _, hsk, S1, rfl⟩
      case round =>
        clear S1
        obtain ⟨j, dj, rfl, haj, hji, hg2, hsj, SJ, HI⟩ := hrel
        have out : (j ≤ a ∨ (ltOf cf) dj[j]! dj[j - 1]! = false) → Aside (insOuter (ltOf cf) a b (i + 1) dj = insOuter (ltOf cf) a b (a + 1) d) := fun hs => by
          show _ = _
          rw [← HO.out, insOuter_go _ _ _ _ _ hlt, ← HI.out, insInner_stop _ _ _ _ hs]
        have OUT : Aside _ := out
        clear out
        by_cases hja : a < j
        · have hjaz : (a : Int) < (j : Int) := by omega
          obtain ⟨jp, hjp⟩ : ∃ q, q + 1 = j := ⟨j - 1, by omega⟩
          have zjp : (j : Int) = (jp : Int) + 1 := by omega
          have hjad : decide ((jp : Int) + 1 > (a : Int)) = true := decide_eq_true (by omega)
          have hjaz' : (a : Int) < (jp : Int) + 1 := by omega
          cases hlv : (ltOf cf) dj[j]! dj[j - 1]! with
          | true =>
            obtain ⟨iN12, hiN12⟩ : ∃ q, q = j := ⟨_, rfl⟩
            obtain ⟨jN12, hjN12⟩ : ∃ q, q = j - 1 := ⟨_, rfl⟩
            have ea12 : ((jp : Int) + 1).toNat = iN12 := by omega
            have pa12 : (0 : Int) ≤ (jp : Int) + 1 := by omega
            have ba12 : (jp : Int) + 1 < (d.size : Int) := by omega
            have ra12 : IntKind.i64.wrap ((jp : Int) + 1) = (jp : Int) + 1 := by rw [IntKind.wrap_i64]; omega
            have ec12 : ((jp : Int)).toNat = jN12 := by omega
            have pc12 : (0 : Int) ≤ (jp : Int) := by omega
            have bc12 : (jp : Int) < (d.size : Int) := by omega
            have rc12 : IntKind.i64.wrap ((jp : Int)) = (jp : Int) := by rw [IntKind.wrap_i64]; omega
            obtain ⟨x12, hx12⟩ : ∃ x, x = (dj)[j]! := ⟨_, rfl⟩
            obtain ⟨y12, hy12⟩ : ∃ x, x = (dj)[j - 1]! := ⟨_, rfl⟩
            have l12a := SJ.out.cl R (by omega) (j) (by omega)
            have l12b := SJ.out.cl R (by omega) (j - 1) (by omega)
            rw [← hx12, ← hiN12] at l12a
            rw [← hy12, ← hjN12] at l12b
            have hc12 := SJ.out.cmp HC.out (by omega) x12 y12
            have hv12 : cf x12 y12 < 0 := by rw [hx12, hy12]; exact of_decide_eq_true hlv
            have hd12 : decide (cf x12 y12 < 0) = true := decide_eq_true hv12
            clear hx12 hy12 hiN12 hjN12
            simp only [encU] at *
            go_wp2_with fail
            go_quiet_grown (first | (go_at_fn g; refine Calls.grown_of (hc12 _ _)))
            have S2 : Aside (SW encU w0 blk off (dj) (grow (wr.drewN nq) osq)) := SJ.out.grown nq osq
            clear l12a l12b hc12 SJ
            generalize grow (wr.drewN nq) osq = w2 at S2 ⊢
            clear nq osq
            clear ea12 ec12
            go_wp2_with fail
            obtain ⟨iN13, hiN13⟩ : ∃ q, q = j := ⟨_, rfl⟩
            obtain ⟨jN13, hjN13⟩ : ∃ q, q = j - 1 := ⟨_, rfl⟩
            have ea13 : ((jp : Int) + 1).toNat = iN13 := by omega
            have pa13 : (0 : Int) ≤ (jp : Int) + 1 := by omega
            have ba13 : (jp : Int) + 1 < (d.size : Int) := by omega
            have ra13 : IntKind.i64.wrap ((jp : Int) + 1) = (jp : Int) + 1 := by rw [IntKind.wrap_i64]; omega
            have ec13 : ((jp : Int)).toNat = jN13 := by omega
            have pc13 : (0 : Int) ≤ (jp : Int) := by omega
            have bc13 : (jp : Int) < (d.size : Int) := by omega
            have rc13 : IntKind.i64.wrap ((jp : Int)) = (jp : Int) := by rw [IntKind.wrap_i64]; omega
            obtain ⟨x13, hx13⟩ : ∃ x, x = (dj)[j]! := ⟨_, rfl⟩
            obtain ⟨y13, hy13⟩ : ∃ x, x = (dj)[j - 1]! := ⟨_, rfl⟩
            have S3 : Aside (SW encU w0 blk off (swp (dj) (j) (j - 1)) ((w2.setCell ⟨blk, off + iN13, none⟩ (encU y13)).setCell ⟨blk, off + jN13, none⟩ (encU x13)).drew) := by rw [hiN13, hjN13, hx13, hy13]; exact S2.out.swapped R (j) (j - 1) (by omega) (by omega)
            have c13a := S2.out.c1 R (by omega) (j) (by omega)
            have c13b := S2.out.c1 R (by omega) (j - 1) (by omega)
            have f13a := S2.out.f1 R (by omega) (j) (by omega)
            have f13b := S2.out.f1 R (by omega) (j - 1) (by omega)
            obtain ⟨u13, c13c⟩ := S2.out.c2 R (by omega) (j) (j - 1) (by omega) (by omega) (encU y13)
            rw [← hjN13, ← hiN13] at c13c
            rw [← hx13, ← hiN13] at c13a
            rw [← hy13, ← hjN13] at c13b
            rw [← hiN13] at f13a
            rw [← hjN13] at f13b
            clear S2 hx13 hy13 hiN13 hjN13
            simp only [encU] at *
            go_wp2_with fail
            go_big_region_o
            clear c13a c13b c13c f13a f13b
            generalize ((w2.setCell ⟨blk, off + iN13, none⟩ (Value.int .u64 (y13 : Int))).setCell ⟨blk, off + jN13, none⟩ (Value.int .u64 (x13 : Int))).drew = w3 at S3 ⊢
            clear ea13 ec13
            go_wp2
            go_roundg (j - 1)
            case measure => omega
            case rel => exact ⟨j - 1, swp dj j (j - 1), by first | rfl | go_num | (congr 1; omega), by omega, by omega, Nat.le_refl _, by rw [size_swp]; exact hsj, S3, (show Aside _ from by show _ = _; rw [← HI.out, insInner_go (ltOf cf) a j dj hja hlv])⟩
          | false =>
            obtain ⟨iN14, hiN14⟩ : ∃ q, q = j := ⟨_, rfl⟩
            obtain ⟨jN14, hjN14⟩ : ∃ q, q = j - 1 := ⟨_, rfl⟩
            have ea14 : ((jp : Int) + 1).toNat = iN14 := by omega
            have pa14 : (0 : Int) ≤ (jp : Int) + 1 := by omega
            have ba14 : (jp : Int) + 1 < (d.size : Int) := by omega
            have ra14 : IntKind.i64.wrap ((jp : Int) + 1) = (jp : Int) + 1 := by rw [IntKind.wrap_i64]; omega
            have ec14 : ((jp : Int)).toNat = jN14 := by omega
            have pc14 : (0 : Int) ≤ (jp : Int) := by omega
            have bc14 : (jp : Int) < (d.size : Int) := by omega
            have rc14 : IntKind.i64.wrap ((jp : Int)) = (jp : Int) := by rw [IntKind.wrap_i64]; omega
            obtain ⟨x14, hx14⟩ : ∃ x, x = (dj)[j]! := ⟨_, rfl⟩
            obtain ⟨y14, hy14⟩ : ∃ x, x = (dj)[j - 1]! := ⟨_, rfl⟩
            have l14a := SJ.out.cl R (by omega) (j) (by omega)
            have l14b := SJ.out.cl R (by omega) (j - 1) (by omega)
            rw [← hx14, ← hiN14] at l14a
            rw [← hy14, ← hjN14] at l14b
            have hc14 := SJ.out.cmp HC.out (by omega) x14 y14
            have hv14 : ¬ cf x14 y14 < 0 := by rw [hx14, hy14]; exact of_decide_eq_false hlv
            have hd14 : decide (cf x14 y14 < 0) = false := decide_eq_false hv14
            clear hx14 hy14 hiN14 hjN14
            simp only [encU] at *
            go_wp2_with fail
            go_quiet_grown (first | (go_at_fn g; refine Calls.grown_of (hc14 _ _)))
            have S2 : Aside (SW encU w0 blk off (dj) (grow (wr.drewN nq) osq)) := SJ.out.grown nq osq
            clear l14a l14b hc14 SJ
            generalize grow (wr.drewN nq) osq = w2 at S2 ⊢
            clear nq osq
            clear ea14 ec14
            go_wp2
            go_roundg (b - (i + 1))
            case measure => omega
            case rel => exact ⟨i + 1, dj, by go_num, by omega, by omega, by omega, hsj, S2, OUT.out (Or.inr hlv)⟩
        · have hjaz : decide ((j : Int) > (a : Int)) = false := decide_eq_false (by omega)
          have hjaz' : ¬ (a : Int) < (j : Int) := by omega
          go_wp2_with fail
          go_big_region_o
          have S2 : Aside (SW encU w0 blk off dj wr.drew) := SJ.out.drew
          clear SJ
          generalize wr.drew = w2 at S2 ⊢
          go_wp2
          go_roundg (b - (i + 1))
          case measure => omega
          case rel => exact ⟨i + 1, dj, by go_num, by omega, by omega, by omega, hsj, S2, OUT.out (Or.inl (by omega))⟩
    · have hltz : ¬ (i : Int) < (b : Int) := by omega
      go_wp2
      go_end0
      exact ⟨rfl, by unfold Sort.insertionSort; rw [← HO.out, insOuter_stop _ _ _ _ _ hlt]; exact S1.out⟩

set_option maxRecDepth 1000000 in
set_option maxHeartbeats 2000000 in
theorem stable_any (g : Nat) (cb : Array Value) (cf : Nat → Nat → Int) (blk off cap n : Nat) (d0 d : Array Nat) (w0 w : World)
    (eg : ∀ args w, (callFunc g args).run Try.prog w = .ok (.enter g args) w) (hcmp : CmpLays1 Try.prog g cb encU cf blk off d0.size w0) (R : Row1 encU w0 blk off d0) (hs : d0.size = d.size) (S : SW encU w0 blk off d w) (hsz : d.size < 4611686018427387904) (hS : SWO (ltOf cf)) (hn : n ≤ d.size) (hn1 : d.size ≤ n) (hn2 : n ≤ 100000000) :
    Calls Try.prog 24 #[.slice (some ⟨blk, off, none⟩) d.size cap, .int .i64 (n : Int), .func (.func g) #[] cb] w fun e w' => e = .returned (.tuple #[]) ∧ ∃ d', SW encU w0 blk off d' w' ∧ PermIn 0 n d d' ∧ SortedIn (ltOf cf) 0 n d' := by
  have mixed : Try.prog.follows .mixedOrders = true := by kernel_rfl
  have HC : Aside _ := hcmp
  have S0 : Aside (SW encU w0 blk off d w) := S
  clear S hcmp
  go_enter Try.func24, Try.ntmps24
  go_wp2_with fail
  go_loopg [7, 8] (n + 20) (fun kx s7 s8 wr => ∃ (t A B : Nat) (dk : Array Nat), s7 = .int .i64 (A : Int) ∧ s8 = .int .i64 (B : Int) ∧ B ≤ A + 20 ∧ A + 20 ≤ B ∧ A ≤ n ∧ n + 20 - B ≤ kx ∧ dk.size = d.size ∧ Aside (A = t * 20) ∧ Aside (SW encU w0 blk off dk wr) ∧ Aside (PermIn 0 n d dk) ∧ Aside (Pre (ltOf cf) dk 20 t))
  case atStart => exact ⟨0, 0, 20, d, rfl, rfl, by omega, by omega, Nat.zero_le _, by omega, rfl, rfl, S0, permIn_refl _ _ _, fun k hk => absurd hk (by omega)⟩
  case round =>
    clear S0
    obtain ⟨t, A, B, dk, rfl, rfl, hB, hB', hA, hkx, hz, HA, S1, P1, G1⟩ := hrel
    by_cases hlt : B ≤ n
    · have hltz : (B : Int) ≤ (n : Int) := by omega
      have C := Lib.hid (insertion_any g cb cf blk off cap A B d0 dk w0 wr eg HC.out R (by omega) S1.out (by omega) (by omega) (by omega))
      have I1 : Aside _ := insertionSort_holds (lt := ltOf cf) hS dk A B (by omega) (by omega)
      obtain ⟨D, hD⟩ : ∃ D, D = Sort.insertionSort (ltOf cf) dk A B := ⟨_, rfl⟩
      rw [← hD] at C I1
      rw [hz] at C
      clear hD S1
      have r1 : IntKind.i64.wrap ((B : Int) + 20) = (B : Int) + 20 := by rw [IntKind.wrap_i64]; omega
      go_wp2_with (go_at_call 27; refine C.out.mono ?_; rintro e w2 ⟨rfl, S2⟩)
      go_roundg (n - B)
      case measure => omega
      case rel =>
        have hA' := HA.out
        refine ⟨t + 1, B, B + 20, D, rfl, by go_num, by omega, by omega, hlt, by omega, I1.out.1.1.trans hz, (show _ = _ by omega), S2, permIn_trans _ _ _ _ _ P1.out (permIn_mono _ _ _ _ _ _ (Nat.zero_le _) hlt (by omega) I1.out.1), (G1.out.keep I1.out.1 (by omega)).snoc ?_⟩
        rw [← hA', show A + 20 = B by omega]
        exact I1.out.2
    · have hnot : ¬ (B : Int) ≤ (n : Int) := by omega
      have C := Lib.hid (insertion_any g cb cf blk off cap A n d0 dk w0 wr eg HC.out R (by omega) S1.out (by omega) (by omega) (by omega))
      have I1 : Aside _ := insertionSort_holds (lt := ltOf cf) hS dk A n (by omega) (by omega)
      obtain ⟨D, hD⟩ : ∃ D, D = Sort.insertionSort (ltOf cf) dk A n := ⟨_, rfl⟩
      rw [← hD] at C I1
      rw [hz] at C
      have hzD : D.size = d.size := I1.out.1.1.trans hz
      have P2 : Aside (PermIn 0 n d D) := permIn_trans _ _ _ _ _ P1.out (permIn_mono _ _ _ _ _ _ (Nat.zero_le _) (Nat.le_refl _) (by omega) I1.out.1)
      have G2 : Aside (Runs (ltOf cf) D 20 0 n) := by
        have hA' := HA.out
        refine (G1.out.keep I1.out.1 (by omega)).runs ?_ (by omega)
        rw [← hA']
        exact I1.out.2
      clear hD S1 I1 P1 G1 HA
      go_wp2_with (go_at_call 27; refine C.out.mono ?_; rintro e w2 ⟨rfl, s2⟩; have S2 : Aside (SW encU w0 blk off D w2) := s2; clear s2)
      clear C
      go_loopg [6] n (fun kx s6 wr => ∃ (q : Nat) (dk : Array Nat), s6 = .int .i64 (q : Int) ∧ 20 ≤ q ∧ q ≤ 2 * n + 20 ∧ n - q ≤ kx ∧ dk.size = d.size ∧ Aside (SW encU w0 blk off dk wr) ∧ Aside (PermIn 0 n d dk) ∧ Aside (Runs (ltOf cf) dk q 0 n))
      case atStart => exact ⟨20, D, rfl, Nat.le_refl _, by omega, by omega, hzD, S2, P2, G2⟩
      case round =>
        clear S2 P2 G2 hzD hz hkx
        obtain ⟨q, dk, rfl, hq1, hq2, hkx, hz, S1, P1, G1⟩ := hrel
        by_cases hlt : q < n
        · have hltz : (q : Int) < (n : Int) := by omega
          obtain ⟨Q, hQ, hQ'⟩ : ∃ Q, Q ≤ q + q ∧ q + q ≤ Q := ⟨q + q, Nat.le_refl _, Nat.le_refl _⟩
          have r1 : IntKind.i64.wrap ((2 : Int) * (q : Int)) = (Q : Int) := by rw [IntKind.wrap_i64]; omega
          have r2 : IntKind.i64.wrap ((q : Int) * (2 : Int)) = (Q : Int) := by rw [IntKind.wrap_i64]; omega
          go_wp2_with fail
          go_loopg [7, 8] (n + Q) (fun kx2 s7 s8 wr2 => ∃ (t A B : Nat) (dj : Array Nat), s7 = .int .i64 (A : Int) ∧ s8 = .int .i64 (B : Int) ∧ B ≤ A + Q ∧ A + Q ≤ B ∧ A ≤ n ∧ n + Q - B ≤ kx2 ∧ dj.size = d.size ∧ Aside (A = t * Q) ∧ Aside (SW encU w0 blk off dj wr2) ∧ Aside (PermIn 0 n d dj) ∧ Aside (Pre (ltOf cf) dj Q t) ∧ Aside (Runs (ltOf cf) dj q A n))
          case atStart => exact ⟨0, 0, Q, dk, rfl, rfl, by omega, by omega, Nat.zero_le _, by omega, hz, (show _ = _ by omega), S1, P1, fun k hk => absurd hk (by omega), G1⟩
          case round =>
            clear S1 P1 G1 hz
            obtain ⟨t, A, B, dj, rfl, rfl, hB, hB', hA, hkx2, hz, HA, S1, P1, G1, U1⟩ := hrel
            have r3 : IntKind.i64.wrap ((A : Int) + (q : Int)) = (A : Int) + (q : Int) := by rw [IntKind.wrap_i64]; omega
            have e3 : ((A + q : Nat) : Int) = (A : Int) + (q : Int) := by omega
            have F1 : Aside _ := U1.out.first
            by_cases hle : B ≤ n
            · have hlez : (B : Int) ≤ (n : Int) := by omega
              have r4 : IntKind.i64.wrap ((B : Int) + (Q : Int)) = (B : Int) + (Q : Int) := by rw [IntKind.wrap_i64]; omega
              have C := Lib.hid (symMerge_any g cb cf hS blk off cap d0 w0 eg HC.out R (B - A) A (A + q) B dj wr (Nat.le_refl _) (by omega) S1.out (by omega) (by omega) (by omega) (by omega) (by
                have := F1.out
                rw [Nat.min_eq_left (by omega)] at this
                exact this) (by
                have := U1.out.next.first
                rw [show A + q + q = B by omega, Nat.min_eq_left (by omega)] at this
                exact this))
              rw [hz, e3] at C
              clear S1 F1
              go_wp2_with (go_at_call 28; refine C.out.mono ?_; rintro e w3 ⟨rfl, d2, s2, p2, g2⟩)
              go_roundg (n - B)
              case measure => omega
              case rel =>
                have hA' := HA.out
                have hU := (U1.out.next.next).keep p2 (by omega)
                rw [show A + q + q = B by omega] at hU
                refine ⟨t + 1, B, B + Q, d2, rfl, by go_num, by omega, by omega, hle, by omega, p2.1.trans hz, (show _ = _ by rw [Nat.succ_mul]; omega), s2, permIn_trans _ _ _ _ _ P1.out (permIn_mono _ _ _ _ _ _ (Nat.zero_le _) hle (by omega) p2), (G1.out.keep p2 (by omega)).snoc ?_, hU⟩
                rw [← hA', show A + Q = B by omega]
                exact g2
            · have hlez : ¬ (B : Int) ≤ (n : Int) := by omega
              by_cases hmn : A + q < n
              · have hmnz : (A : Int) + (q : Int) < (n : Int) := by omega
                have C := Lib.hid (symMerge_any g cb cf hS blk off cap d0 w0 eg HC.out R (n - A) A (A + q) n dj wr (Nat.le_refl _) (by omega) S1.out (by omega) (by omega) (by omega) (by omega) (by
                  have := F1.out
                  rw [Nat.min_eq_left (by omega)] at this
                  exact this) (by
                  have := U1.out.next.first
                  rw [Nat.min_eq_right (by omega)] at this
                  exact this))
                rw [hz, e3] at C
                clear S1 F1
                go_wp2_with (go_at_call 28; refine C.out.mono ?_; rintro e w3 ⟨rfl, d2, s2, p2, g2⟩)
                go_roundg (n - Q)
                case measure => omega
                case rel =>
                  have hA' := HA.out
                  refine ⟨Q, d2, rfl, by omega, by omega, Nat.le_refl _, p2.1.trans hz, s2, permIn_trans _ _ _ _ _ P1.out (permIn_mono _ _ _ _ _ _ (Nat.zero_le _) (Nat.le_refl _) (by omega) p2), (G1.out.keep p2 (by omega)).runs ?_ (by omega)⟩
                  rw [← hA']
                  exact g2
              · have hmnz : ¬ (A : Int) + (q : Int) < (n : Int) := by omega
                go_wp2_with fail
                go_roundg (n - Q)
                case measure => omega
                case rel =>
                  have hA' := HA.out
                  refine ⟨Q, dj, rfl, by omega, by omega, Nat.le_refl _, hz, S1, P1, G1.out.runs ?_ (by omega)⟩
                  rw [← hA']
                  have := F1.out
                  rw [Nat.min_eq_right (by omega)] at this
                  exact this
        · have hnot : ¬ (q : Int) < (n : Int) := by omega
          go_wp2_with fail
          go_end0
          refine ⟨rfl, dk, S1.out, P1.out, ?_⟩
          have := G1.out.first
          rw [Nat.min_eq_right (by omega)] at this
          exact this

set_option maxRecDepth 1000000 in
set_option maxHeartbeats 2000000 in
/-- slices.SortStableFunc. -/
theorem sortStable_any (g : Nat) (cb : Array Value) (cf : Nat → Nat → Int) (hS : SWO (ltOf cf)) (blk off cap : Nat) (d : Array Nat) (w : World)
    (eg : ∀ args w, (callFunc g args).run Try.prog w = .ok (.enter g args) w) (hcmp : CmpLays1 Try.prog g cb encU cf blk off d.size w) (R : Row1 encU w blk off d) (hn : d.size ≤ 100000000) :
    Calls Try.prog 22 #[.slice (some ⟨blk, off, none⟩) d.size cap, .func (.func g) #[] cb] w fun e w' => e = .returned (.tuple #[]) ∧ ∃ d', SW encU w blk off d' w' ∧ PermIn 0 d.size d d' ∧ SortedIn (ltOf cf) 0 d.size d' := by
  have C := Lib.hid (stable_any g cb cf blk off cap d.size d d w w eg hcmp R rfl (SW.start R.hH) (by omega) hS (Nat.le_refl _) (Nat.le_refl _) hn)
  clear eg hcmp R
  go_enter Try.func22, Try.ntmps22
  go_wp2_with (go_at_call 24; refine C.out.mono ?_; rintro e w2 ⟨rfl, h2⟩)
  go_end0
  exact ⟨rfl, h2⟩
end Go.Proofs.Ytlgpgdliakiomaa
