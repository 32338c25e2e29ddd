/- The document's office: Revoke. -/
import Derived.Test.YtfcjemedheccgaaDoorMOfV
namespace Go.Proofs.YtfcjemedheccgaaDoor
set_option maxRecDepth 100000
open Go.RowKit

set_option maxHeartbeats 4000000 in
theorem rffRevoke_any (g : Nat) (v u : Value) (s : OS) (n : List UInt8) (N : Nat) (ok : s.Ok N) (hN : N ≤ 1500000) (w : World) (h : RffAt w g v u s) :
    Calls Tryd.prog 27 #[.pointer (some ⟨g, 0, none⟩), .string ⟨n.toArray⟩] w fun e w' => ∃ x v' u', e = .returned (.tuple #[x, .int .i64 (revC s n)]) ∧ OwnRows w' w.heap.size 48 6 x ((revL s n).map Ent.enc) ∧ RffAt w' g v' u' (revS s n) ∧ Moves (Foot g v u) (Foot g v' u') w w' := by
  have CM := fun w h => Lib.hid (rffGone_any g v u s n (by have := ok.gone; omega) w h)
  have CA := fun u' w h => Lib.hid (rffAdvance_any g v u' (s.mark n) (N + 1) (ok.mark n) (by omega) w h)
  have O := Lib.hid h
  have HC : Hid (revC s n = if s.knows n = false then 30 else if s.marked n = true then 33 else advC s) := Lib.hid rfl
  have HD : Hid (advC s = if s.idx = s.len then 36 else 0) := Lib.hid rfl
  have HE : Hid (advC (s.mark n) = advC s) := Lib.hid rfl
  have HKN : Hid (s.knows n = decide (n ∈ s.issued.map (·.name))) := Lib.hid rfl
  have HU : Hid ((nmC s.gone).length + (nmC [n]).length ≤ 10000000) := Lib.hid (by rw [nmC_length]; have := ok.gone; simp [nmC]; omega)
  obtain ⟨RC, hRC⟩ : ∃ q, q = revC s n := ⟨_, rfl⟩
  obtain ⟨RL, hRL⟩ : ∃ q, q = revL s n := ⟨_, rfl⟩
  obtain ⟨RS, hRS⟩ : ∃ q, q = revS s n := ⟨_, rfl⟩
  have HRC := Lib.hid hRC
  have HRL : Hid (RL = if revC s n = 0 then advL (s.mark n) else []) := Lib.hid (by rw [hRL, revL])
  have HRS : Hid (RS = if revC s n = 0 then advS (s.mark n) else s) := Lib.hid (by rw [hRS, revS])
  have bad : Hid (∀ (c : Int) (w' : World), c ≠ 0 → revC s n = c → Below w.heap.size w w' → ∃ x v' u', Ending.returned (.tuple #[.slice none 0 0, .int .i64 c]) = .returned (.tuple #[x, .int .i64 RC]) ∧ OwnRows w' w.heap.size 48 6 x (RL.map Ent.enc) ∧ RffAt w' g v' u' RS ∧ Moves (Foot g v u) (Foot g v' u') w w') := Lib.hid (by
    intro c w' hc e b
    have hne : revC s n ≠ 0 := by rw [e]; exact hc
    rw [HRL.out, HRS.out, hRC, if_neg hne, if_neg hne, e]
    exact ⟨_, v, u, rfl, OwnRows.nil _ _ _ _, O.out.below b, Moves.of_below _ b⟩)
  rw [← hRC, ← hRL, ← hRS]
  clear hRC hRL hRS
  obtain ⟨L, hL⟩ : ∃ q, q = s.issued := ⟨_, rfl⟩
  have HL := Lib.hid hL
  obtain ⟨m, hm⟩ : ∃ q, q = L.length := ⟨_, rfl⟩
  have HM := Lib.hid hm
  have HN : Hid (m ≤ 4000000) := Lib.hid (by rw [hm, hL]; have := ok.many; omega)
  obtain ⟨A, cap, hv⟩ := h.rows.form
  rw [List.length_map, ← hL, ← hm] at hv
  have HR : Hid (RowsAt w v 6 (L.map Ent.enc)) := Lib.hid (by rw [hL]; exact h.rows.rows)
  have c3 := RffAt.c3 h
  subst hv
  clear h ok hN hL hm
  go_enter Tryd.func27, Tryd.ntmps27
  go_wp2_with fail
  go_loop [6, 7] (fun t i => ∃ k : Nat, k ≤ m ∧ i = .int .i64 (k : Int) ∧ t = .bool (!freshB (L.take k) n)) (fun _ i => m - (intOf i).toNat)
  case atStart => exact ⟨0, Nat.zero_le _, rfl, by simp [freshB]⟩
  case round =>
    obtain ⟨k, hk, rfl, rfl⟩ := hrel
    obtain ⟨t, ht⟩ : ∃ t, t = !freshB (L.take k) n := ⟨_, rfl⟩
    have HT := Lib.hid ht
    rw [← ht]
    clear ht
    by_cases hlt : k < m
    · have dk : decide ((k : Int) < (m : Int)) = true := by simp; omega
      have jk : (k : Int) < (m : Int) := by omega
      have r4 : IntKind.i64.wrap ((k : Int) + 1) = ((k + 1 : Nat) : Int) := by have := HN.out; rw [IntWalk.i64_in _ (by omega)]; omega
      obtain ⟨x, hx⟩ : ∃ x, L[k]? = some x := ⟨_, List.getElem?_eq_getElem (by rw [← HM.out]; exact hlt)⟩
      obtain ⟨b, off, rfl, _, hc⟩ := HR.out.row (fun c hc => (entC_one L c hc).1) (by decide) (by rw [List.getElem?_map, hx]; rfl : (L.map Ent.enc)[k]? = some x.enc)
      have c0 : w.cell? ⟨b, off + k * 6, none⟩ = some (.string ⟨x.name.toArray⟩) := hc 0 _ rfl
      have HTK := Lib.hid (take_more hx)
      clear hc hx
      cases t with
      | true =>
        have HV : Hid (true = !freshB (L.take (k + 1)) n) := Lib.hid (by
          have q : freshB (L.take k) n = false := by simpa using HT.out.symm
          rw [HTK.out, freshB_snoc, q]; rfl)
        go_wp2
        exact ⟨⟨k + 1, by omega, by go_num, by rw [← HV.out]⟩, by simp [intOf]; omega⟩
      | false =>
        have q : freshB (L.take k) n = true := by simpa using HT.out.symm
        have HQ := Lib.hid q
        clear q
        by_cases hn : x.name = n
        · have r : (x.name == n) = true := by simp [hn]
          have HV : Hid (true = !freshB (L.take (k + 1)) n) := Lib.hid (by rw [HTK.out, freshB_snoc, HQ.out]; simp [hn])
          clear hn
          go_wp2
          exact ⟨⟨k + 1, by omega, by go_num, by rw [← HV.out]⟩, by simp [intOf]; omega⟩
        · have r : (x.name == n) = false := by simp [hn]
          have HV : Hid (false = !freshB (L.take (k + 1)) n) := Lib.hid (by rw [HTK.out, freshB_snoc, HQ.out]; simp [hn])
          clear hn
          go_wp2
          exact ⟨⟨k + 1, by omega, by go_num, by rw [← HV.out]⟩, by simp [intOf]; omega⟩
    · have dk : decide ((k : Int) < (m : Int)) = false := by simp; omega
      have HK : Hid (s.knows n = t) := Lib.hid (by
        have q := HT.out
        rw [List.take_of_length_le (by rw [← HM.out]; omega), freshB, Bool.not_not, HL.out, ← HKN.out] at q
        exact q.symm)
      cases t with
      | false =>
        go_wp2
        go_ret2
        obtain ⟨x, v', u', a, b, c, d⟩ := bad.out 30 w (by decide) (by rw [HC.out, if_pos HK.out]) (Below.refl _ _)
        first | exact ⟨x, a, b, v', u', c, d⟩ | exact ⟨x, v', u', a, b, c, d⟩
      | true =>
        have h1 : Hid (¬ s.knows n = false) := Lib.hid (by rw [HK.out]; decide)
        have C1 := Lib.hid (CM w O.out)
        obtain ⟨q, hq⟩ : ∃ q, q = s.marked n := ⟨_, rfl⟩
        have HQ := Lib.hid hq
        rw [← hq] at C1
        clear hq
        go_wp2_with fail
        refine C1.out.out.mono ?_
        rintro e w1 ⟨rfl, b1⟩
        have B1 := Lib.hid b1
        have O1 := Lib.hid (O.out.below b1)
        clear b1 C1 c3
        cases q with
        | true =>
          go_wp2
          go_ret2
          obtain ⟨x, v', u', a, b, c, d⟩ := bad.out 33 w1 (by decide) (by rw [HC.out, if_neg h1.out, if_pos HQ.out.symm]) B1.out
          first | exact ⟨x, a, b, v', u', c, d⟩ | exact ⟨x, v', u', a, b, c, d⟩
        | false =>
          have h2 : Hid (¬ s.marked n = true) := Lib.hid (by rw [← HQ.out]; decide)
          have c1 := RffAt.c1 O1.out
          have c2 := RffAt.c2 O1.out
          by_cases hx : s.idx = s.len
          · have HX : Hid (revC s n = 36) := Lib.hid (by rw [HC.out, if_neg h1.out, if_neg h2.out, HD.out, if_pos hx])
            rw [hx] at c2
            clear hx
            go_wp2_with fail
            go_quiet (fail)
            go_wp2
            go_ret2
            obtain ⟨x, v', u', a, b, c, d⟩ := bad.out 36 _ (by decide) HX.out (below_drewN B1.out _)
            first | exact ⟨x, a, b, v', u', c, d⟩ | exact ⟨x, v', u', a, b, c, d⟩
          · have d : (s.idx == s.len) = false := by simpa using hx
            have d' : decide (s.idx = s.len) = false := by simpa using hx
            have H0 : Hid (revC s n = 0) := Lib.hid (by rw [HC.out, if_neg h1.out, if_neg h2.out, HD.out, if_neg hx])
            have HA0 : Hid (advC (s.mark n) = 0) := Lib.hid (by rw [HE.out, HD.out, if_neg hx])
            have HDONE : Hid (∀ x v' u' w', OwnRows w' w.heap.size 48 6 x ((advL (s.mark n)).map Ent.enc) → RffAt w' g v' u' (advS (s.mark n)) → Moves (Foot g (.slice A m cap) u) (Foot g v' u') w w' → ∃ x1 v' u', Ending.returned (.tuple #[x, .int .i64 0]) = .returned (.tuple #[x1, .int .i64 RC]) ∧ OwnRows w' w.heap.size 48 6 x1 (RL.map Ent.enc) ∧ RffAt w' g v' u' RS ∧ Moves (Foot g (.slice A m cap) u) (Foot g v' u') w w') := Lib.hid (by
              intro x v' u' w' a b c
              rw [HRL.out, HRS.out, HRC.out, H0.out, if_pos rfl, if_pos rfl]
              exact ⟨_, _, _, rfl, a, b, c⟩)
            clear hx
            go_wp2_with fail
            go_quiet (fail)
            obtain ⟨w2, hw2⟩ : ∃ q, q = w1.drewN nq := ⟨_, rfl⟩
            have B2 : Hid (Below w.heap.size w w2) := Lib.hid (by rw [hw2]; exact below_drewN B1.out _)
            have O2 := Lib.hid (O.out.below B2.out)
            rw [← hw2]
            clear hw2 c1 c2 O1 B1 d d'
            have c4 := RffAt.c4 O2.out
            go_wp2_with (with_reducible refine wpList_one_str rfl _ rfl n (by with_unfolding_all exact rfl) ?_)
            intro w3 b3 y3 z3
            have B3 := Lib.hid (B2.out.trans (b3.mono B2.out.size))
            have O3 := Lib.hid (O.out.below B3.out)
            have Y3 := Lib.hid y3
            clear b3 y3 z3 c4 O2 B2
            go_wp2_with (with_reducible refine wpList_append_rows_at strZ rfl _ _ rfl u (by with_unfolding_all exact rfl) O3.out.names _ (nmC [n]) (by with_unfolding_all exact rfl) Y3.out (nmC_one _) HU.out (Nat.zero_le _) ?_)
            intro u' w4 o4 q4 h4
            have X4 : Hid (Whole w4 g 44 (rffC (.slice A m cap) u s).toArray) := Lib.hid (O3.out.whole.grown_own q4 O3.out.gu)
            rw [← nmC_append] at o4
            obtain ⟨A', cap', hu⟩ := o4.form
            have o4' := Lib.hid o4
            have q4' := Lib.hid q4
            have h4' := Lib.hid h4
            subst hu
            clear o4 q4 h4 Y3
            go_wp2_with (with_reducible refine wpList_put_cell 42 ⟨by kernel_rfl, by kernel_rfl⟩ rfl _ _ rfl g 4 (by with_unfolding_all exact rfl) _ (by with_unfolding_all exact rfl) (by with_unfolding_all exact rfl) (by with_unfolding_all exact rfl) _ _ X4.out _ (by with_unfolding_all exact rfl) ?_)
            intro w5 q5 x5 z5
            have E := Lib.hid (O3.out.gone_more (n := n) q4'.out o4'.out h4'.out q5 x5)
            have M5 := Lib.hid ((Moves.of_below (Foot g (.slice A m cap) u) B3.out).trans E.out.2)
            clear q5 x5 z5 X4 o4' q4' h4' O3 B3
            have C5 := Lib.hid (CA _ w5 E.out.1).out
            rw [HA0.out] at C5
            go_wp2_with fail
            refine C5.out.mono ?_
            rintro e w6 ⟨x, v', rfl, r6, o6, m6⟩
            have F := Lib.hid (HDONE.out x v' _ w6 (r6.less M5.out.keeps.size) o6 (M5.out.trans m6))
            clear r6 o6 m6 E M5 C5 CA
            go_wp2
            go_ret2
            obtain ⟨x, v', u', a, b, c, d⟩ := F.out
            first | exact ⟨x, a, b, v', u', c, d⟩ | exact ⟨x, v', u', a, b, c, d⟩
end Go.Proofs.YtfcjemedheccgaaDoor
