/- Layer 23: the chapter's example. -/
import Derived.Test.YtjohlnpalcmhbaaTbF
import Derived.Test.YtjohlnpalcmhbaaUs
namespace Go.Proofs.Ytjohlnpalcmhbaa
set_option maxRecDepth 100000
open Go.RowKit

def wkS (n k : Nat) : Ses := { Ses.zero with id := n, state := 3, used := k }
def wkL (k : Nat) : List Ses := (List.range k).map fun i => wkS (i + 1) i
def wkB (k : Nat) : List Nat := ((List.range k).filter fun i => i != 5).map fun i => i + 1
def sA : Ses := { Ses.zero with id := 99, state := 3 }
def sB : Ses := { Ses.zero with id := 3, state := 3 }
theorem wk_add : ∀ k, k < 24 → addS (wkL k) [] (wkS (k + 1) k) = (wkL (k + 1), 0) := by decide +kernel
theorem wkL_length (k : Nat) : (wkL k).length = k := by simp [wkL]
theorem wkB_length (k : Nat) : (wkB k).length ≤ k := by
  rw [wkB, List.length_map]
  exact Nat.le_trans (List.length_filter_le _ _) (by simp)
theorem wkB_five {k : Nat} (h : k = 5) : wkB (k + 1) = wkB k := by subst h; decide
theorem wkB_step {k : Nat} (h : k ≠ 5) : wkB (k + 1) = wkB k ++ [k + 1] := by
  simp [wkB, List.range_succ, List.filter_append, h]
theorem wk_full : ∃ L, addS (wkL 24) (wkB 24) sA = (L, 0) ∧ L.length = 24 ∧ firstS (byIdP 6) L 0 = -1 ∧ firstS (byIdP 99) L 0 = 23 :=
  ⟨(wkL 24).eraseIdx 5 ++ [sA], by decide +kernel, by decide +kernel, by decide +kernel, by decide +kernel⟩
theorem wk_again : (addS (wkL 24) (wkB 24) sB).2 = 26 := by decide +kernel

theorem u64_parts : ∃ i, Try.prog.info? 23 = some i ∧ i.zero = some (.int .u64 0) ∧ i.size = 1 := by
  have h : (Try.prog.info? 23).map (fun i => (i.zero, i.size)) = some (some (.int .u64 0), 1) := by kernel_rfl
  cases hi : Try.prog.info? 23 with
  | none => rw [hi] at h; cases h
  | some i =>
    rw [hi] at h
    simp only [Option.map_some, Option.some.injEq, Prod.mk.injEq] at h
    exact ⟨i, rfl, h.1, h.2⟩
theorem wpList_one_u64 {ops : Array Oper} {rest : List Oper} {o : Oper} {a : Act} {w : World} {Q : Exit → Act → World → Prop} (hgd : o.guard = none) (y : Operand) (ho : o.op = .buildSlice 32 1 #[(0, y)]) (n : Nat) (hy : a.eval y = .int .u64 (n : Int))
    (h : ∀ w', Below w.heap.size w w' → UsAt w' (.slice (some ⟨w.heap.size, 0, none⟩) 1 1) [n] → wpList Try.prog ops Q rest (a.put o.dst (.slice (some ⟨w.heap.size, 0, none⟩) 1 1)) w') : wpList Try.prog ops Q (o :: rest) a w :=
  wpList_plain hgd fun _ hK => by
    obtain ⟨i, h1, h2, h3⟩ := u64_parts
    have hf : filled 1 1 (Value.int .u64 0).cells [(0, .int .u64 (n : Int))] = some #[.int .u64 (n : Int)] := by kernel_rfl
    have hu := run_buildSlice (P := Try.prog) (w := w) Try.underlying32 h1 h2 1 (by rw [h3]; decide) (by rw [h3]; decide) #[(0, .int .u64 (n : Int))] #[.int .u64 (n : Int)] (by rw [h3]; exact hf)
    have q := hK _ _ (h (w.alloc (.cells #[.int .u64 (n : Int)] 23)) ((Below.refl _ _).alloc (Nat.le_refl _) _) (UsAt.lit w [n] _ rfl))
    unfold Oper.wp execOp
    simp only [ho, List.map_toArray, List.map_cons, List.map_nil, hy, hu, Sem.run_bind, Sem.run_pure, Result.andThen_ok, Oper.upon]
    exact q

set_option maxRecDepth 100000 in
set_option maxHeartbeats 2000000 in
theorem works23 (w : World) : Calls Try.prog 9 #[] w fun e w' => e = .returned (.bool true) ∧ Below w.heap.size w w' := by
  go_enter Try.func9, Try.ntmps9
  go_wp2_with fail
  go_loopw [1, 2, 11] (fun lv bv i wr => ∃ k : Nat, k ≤ 24 ∧ i = .int .i64 (k : Int) ∧ OwnRows wr w.heap.size 36 20 lv ((wkL k).map Ses.enc) ∧ wr.ownsRow w.heap.size 23 1 bv (wkB k).length (us (wkB k)) ∧ Below w.heap.size w wr) (fun _ _ i _ => 24 - (intOf i).toNat)
  case atStart => exact ⟨0, Nat.zero_le _, rfl, OwnRows.nil _ _ _ _, World.ownsRow_nil _ _ _ _, Below.refl _ _⟩
  case round =>
    obtain ⟨k, hk, rfl, hl, hbv, hb⟩ := hrel
    have OL := Lib.hid hl
    have OB := Lib.hid hbv
    have B0 := Lib.hid hb
    clear hl hbv hb
    by_cases hlt : k < 24
    · have dk : decide ((k : Int) < 24) = true := by simp; omega
      obtain ⟨n, hn⟩ : ∃ n, n = k + 1 := ⟨_, rfl⟩
      have r1 : IntKind.u64.wrap (k : Int) = (k : Int) := by rw [IntKind.wrap_u64]; omega
      have r2 : IntKind.u64.wrap ((k : Int) + 1) = (n : Int) := by rw [IntKind.wrap_u64]; omega
      have r4 : IntKind.i64.wrap ((k : Int) + 1) = ((k + 1 : Nat) : Int) := by rw [IntWalk.i64_in _ (by omega)]; omega
      have HA : Hid (addS (wkL k) [] (wkS n k) = (wkL (k + 1), 0)) := Lib.hid (by rw [hn]; exact wk_add k hlt)
      have HN := Lib.hid hn
      clear hn
      go_wp2_with (first | (with_reducible refine wpList_build_rec rfl 36 _ rfl #[(0, .int .u64 (n : Int)), (4, .int .i64 3), (12, .int .i64 (k : Int))] (by with_unfolding_all exact rfl) (wkS n k).enc.toArray (by kernel_rfl) ?_) | (refine wpList_alloc_row rfl 36 rfl Ses.zero.enc.toArray Ses.zero_is ?_))
      intro w2 b2 x2 z2
      obtain ⟨gX, hgX⟩ : ∃ q, q = wr.heap.size := ⟨_, rfl⟩
      have BX := Lib.hid b2
      have HG := Lib.hid hgX
      rw [← hgX] at x2 ⊢
      have X2 : Hid (Ses.At w2 gX Ses.zero) := Lib.hid x2
      clear b2 x2 z2 hgX r1 r2
      go_wp2_with (with_reducible refine wpList_store_whole rfl 36 _ _ rfl gX (wkS n k).enc.toArray (by with_unfolding_all exact rfl) (by with_unfolding_all exact rfl) _ _ X2.out (Ses.size _) rfl (Ses.one _) ?_)
      intro w3 q3 x3 z3
      have X3 : Hid (Ses.At w3 gX (wkS n k)) := Lib.hid x3
      have b3 : Below wr.heap.size wr w3 := BX.out.grown q3 BX.out.size (fun k hk => by injection hk with hk; have := HG.out; omega)
      have L3 := Lib.hid (OL.out.below b3 rfl)
      have U3 := Lib.hid (kept_below OB.out b3 rfl)
      have B3 := Lib.hid (B0.out.trans (b3.mono B0.out.size))
      clear q3 x3 z3 b3 X2 BX OL OB B0
      obtain ⟨A, cap, hv⟩ := L3.out.form
      rw [List.length_map] at hv
      subst hv
      have CA := tbAdd_any A (wkL k).length cap (wkL k) none 0 0 [] (wkS n k) w3.heap.size w3 (Nat.le_refl _) (by rw [wkL_length]; omega) (by decide) L3.out.rows (UsAt.nil _)
      rw [HA.out] at CA
      have CA := Lib.hid CA
      go_wp2_with (with_reducible refine wpList_load_whole Ses.isRec rfl _ rfl gX (by with_unfolding_all exact rfl) _ _ (Ses.len _) X3.out ?_)
      refine CA.out.mono ?_
      rintro e w4 ⟨v, rfl, o4, b4⟩
      have O4 := Lib.hid o4
      have X4 : Hid (Ses.At w4 gX (wkS n k)) := Lib.hid (Whole.below X3.out b4 X3.out.lt)
      have U4 := Lib.hid (kept_below U3.out b4 rfl)
      have B4 := Lib.hid (B3.out.trans (b4.mono B3.out.size))
      clear o4 b4 X3 L3 CA HA
      by_cases h5 : k = 5
      · have d5 : ((k : Int) != 5) = false := by rw [bne_eq_false_iff_eq]; omega
        have HW := Lib.hid (wkB_five h5)
        clear h5
        go_wp2
        exact ⟨⟨k + 1, by omega, by go_num, O4.out.less B3.out.size, by rw [HW.out]; exact U4.out, B4.out⟩, by simp [intOf]; omega⟩
      · have d5 : ((k : Int) != 5) = true := by rw [bne_iff_ne]; omega
        have HW : Hid (wkB (k + 1) = wkB k ++ [n]) := Lib.hid (by rw [HN.out]; exact wkB_step h5)
        have c0 : w4.cell? ⟨gX, 0, none⟩ = some (.int .u64 (n : Int)) := Ses.At.at_id X4.out
        have HLB := Lib.hid (wkB_length k)
        clear h5
        go_wp2_with (with_reducible refine wpList_one_u64 rfl _ rfl n (by with_unfolding_all exact rfl) ?_)
        intro w5 b5 y5
        have Y5 := Lib.hid y5
        have O5 := Lib.hid (O4.out.below b5 rfl)
        have U5 := Lib.hid (kept_below U4.out b5 rfl)
        have B5 := Lib.hid (B4.out.trans (b5.mono B4.out.size))
        clear b5 y5 c0 X4 U4 B4
        go_wp2_with (with_reducible refine wpList_append_us rfl _ _ rfl w.heap.size _ _ _ ?hv U5.out _ [n] ?hx Y5.out ?hlen ?hbase ?_)
        case hv => exact rfl
        case hx => exact rfl
        case hlen => have := HLB.out; simp; omega
        case hbase => exact B5.out.size
        intro v' w6 o6 q6
        have hne : v.ownBlock = none ∨ v.ownBlock ≠ u2.ownBlock := by
          cases hv : v.ownBlock with
          | none => exact .inl rfl
          | some g =>
            refine .inr fun e => ?_
            have h1 := (O4.out.lt g hv).1
            have h2 := (World.ownsRow.lt U3.out g e.symm).2
            omega
        have O6 : Hid (OwnRows w6 w3.heap.size 36 20 v ((wkL (k + 1)).map Ses.enc)) := Lib.hid ⟨World.ownsRow.kept O5.out.1 q6 hne, O5.out.2⟩
        have U6 : Hid (w6.ownsRow w.heap.size 23 1 v' (wkB (k + 1)).length (us (wkB (k + 1)))) := Lib.hid (by rw [HW.out, us_append, List.length_append]; exact o6)
        have B6 := Lib.hid (B5.out.grown q6 B5.out.size (fun k hk => (World.ownsRow.lt U5.out k hk).1))
        clear o6 q6 hne U5 Y5 B5 O5 O4
        go_wp2
        exact ⟨⟨k + 1, by omega, by go_num, O6.out.less B3.out.size, U6.out, B6.out⟩, by simp [intOf]; omega⟩
    · obtain rfl : k = 24 := by omega
      obtain ⟨A, cap, hv⟩ := OL.out.form
      rw [List.length_map, wkL_length] at hv
      subst hv
      have U0 := UsAt.of_own OB.out
      obtain ⟨C, bc, hv2, -, -⟩ := id U0
      rw [show (wkB 24).length = 23 by decide +kernel] at hv2
      subst hv2
      have LL := Lib.hid OL.out.rows
      have UU := Lib.hid U0
      obtain ⟨kL, hadd, hlen, h6, h99⟩ := wk_full
      have C1 := Lib.hid (fun w' hl hu => by have t := tbAdd_any A 24 cap (wkL 24) C 23 bc (wkB 24) sA w'.heap.size w' (Nat.le_refl _) (by rw [wkL_length]; decide) (by decide) hl hu; rw [hadd] at t; exact t)
      have C2 := Lib.hid (fun w' hl hu => by have t := tbAdd_any A 24 cap (wkL 24) C 23 bc (wkB 24) sB w'.heap.size w' (Nat.le_refl _) (by rw [wkL_length]; decide) (by decide) hl hu; rw [wk_again] at t; exact t)
      have HLN := Lib.hid hlen
      have C6 : Hid (∀ A' cap' w', RowsAt w' (.slice A' 24 cap') 20 (kL.map Ses.enc) → Calls Try.prog 10 #[.slice A' 24 cap', .int .u64 6] w' fun e w'' => e = .returned (.int .i64 (-1)) ∧ Below w'.heap.size w' w'') := Lib.hid (fun A' cap' w' h => by have t := tbById_any A' 24 cap' kL 6 w' (by decide) h; rw [h6] at t; exact t)
      have C99 : Hid (∀ A' cap' w', RowsAt w' (.slice A' 24 cap') 20 (kL.map Ses.enc) → Calls Try.prog 10 #[.slice A' 24 cap', .int .u64 99] w' fun e w'' => e = .returned (.int .i64 23) ∧ Below w'.heap.size w' w'') := Lib.hid (fun A' cap' w' h => by have t := tbById_any A' 24 cap' kL 99 w' (by decide) h; rw [h99] at t; exact t)
      clear hadd hlen h6 h99 U0 OL OB
      have L0 : Hid (RowsAt wr (.slice A 24 cap) 20 ((wkL 24).map Ses.enc)) := Lib.hid (LL.out)
      have U0 : Hid (UsAt wr (.slice C 23 bc) (wkB 24)) := Lib.hid (UU.out)
      go_wp2_with (with_reducible refine wpList_build_rec rfl 36 _ rfl #[(0, .int .u64 99), (4, .int .i64 3)] (by with_unfolding_all exact rfl) sA.enc.toArray (by kernel_rfl) ?_)
      refine (C1.out wr L0.out U0.out).mono ?_
      rintro e1 w1 ⟨v, rfl, o1, b1⟩
      have L1 : Hid (RowsAt w1 (.slice A 24 cap) 20 ((wkL 24).map Ses.enc)) := Lib.hid (L0.out.below b1)
      have U1 : Hid (UsAt w1 (.slice C 23 bc) (wkB 24)) := Lib.hid (U0.out.below b1)
      have B1 := Lib.hid (B0.out.trans (b1.mono B0.out.size))
      clear b1 L0 U0 B0
      obtain ⟨A', cap', hv⟩ := o1.form
      rw [List.length_map, HLN.out] at hv
      subst hv
      have V1 : Hid (RowsAt w1 (.slice A' 24 cap') 20 (kL.map Ses.enc)) := Lib.hid (o1.rows)
      clear o1
      go_wp2_with (with_reducible refine wpList_build_rec rfl 36 _ rfl #[(0, .int .u64 3), (4, .int .i64 3)] (by with_unfolding_all exact rfl) sB.enc.toArray (by kernel_rfl) ?_)
      refine (C2.out w1 L1.out U1.out).mono ?_
      rintro e2 w2 ⟨v2, rfl, o2, b2⟩
      have L2 : Hid (RowsAt w2 (.slice A 24 cap) 20 ((wkL 24).map Ses.enc)) := Lib.hid (L1.out.below b2)
      have U2 : Hid (UsAt w2 (.slice C 23 bc) (wkB 24)) := Lib.hid (U1.out.below b2)
      have V2 : Hid (RowsAt w2 (.slice A' 24 cap') 20 (kL.map Ses.enc)) := Lib.hid (V1.out.below b2)
      have B2 := Lib.hid (B1.out.trans (b2.mono B1.out.size))
      clear b2 L1 U1 V1 B1
      clear o2
      go_wp2_with fail
      refine (C6.out A' cap' w2 V2.out).mono ?_
      rintro e3 w3 ⟨rfl, b3⟩
      have L3 : Hid (RowsAt w3 (.slice A 24 cap) 20 ((wkL 24).map Ses.enc)) := Lib.hid (L2.out.below b3)
      have U3 : Hid (UsAt w3 (.slice C 23 bc) (wkB 24)) := Lib.hid (U2.out.below b3)
      have V3 : Hid (RowsAt w3 (.slice A' 24 cap') 20 (kL.map Ses.enc)) := Lib.hid (V2.out.below b3)
      have B3 := Lib.hid (B2.out.trans (b3.mono B2.out.size))
      clear b3 L2 U2 V2 B2
      go_wp2_with fail
      refine (C99.out A' cap' w3 V3.out).mono ?_
      rintro e4 w4 ⟨rfl, b4⟩
      have L4 : Hid (RowsAt w4 (.slice A 24 cap) 20 ((wkL 24).map Ses.enc)) := Lib.hid (L3.out.below b4)
      have U4 : Hid (UsAt w4 (.slice C 23 bc) (wkB 24)) := Lib.hid (U3.out.below b4)
      have V4 : Hid (RowsAt w4 (.slice A' 24 cap') 20 (kL.map Ses.enc)) := Lib.hid (V3.out.below b4)
      have B4 := Lib.hid (B3.out.trans (b4.mono B3.out.size))
      clear b4 L3 U3 V3 B3
      go_wp2
      go_ret
      exact ⟨rfl, B4.out⟩
end Go.Proofs.Ytjohlnpalcmhbaa
