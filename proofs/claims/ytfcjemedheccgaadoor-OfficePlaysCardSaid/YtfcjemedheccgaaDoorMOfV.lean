/- The document's office: Advance. -/
import Derived.Test.YtfcjemedheccgaaDoorMOfU
import Derived.Test.YtfcjemedheccgaaDoorGbh
namespace Go.Proofs.YtfcjemedheccgaaDoor
set_option maxRecDepth 100000
open Go.RowKit

set_option maxHeartbeats 1000000 in
theorem rffAdvance_end (g : Nat) (v u : Value) (s : OS) (hx : s.idx = s.len) (w : World) (h : RffAt w g v u s) :
    Calls Tryd.prog 26 #[.pointer (some ⟨g, 0, none⟩)] w fun e w' => e = .returned (.tuple #[.slice none 0 0, .int .i64 36]) ∧ Below w.heap.size w w' := by
  have O := Lib.hid h
  have c1 := RffAt.c1 h
  have c2 := RffAt.c2 h
  rw [hx] at c2
  clear hx h
  go_enter Tryd.func26, Tryd.ntmps26
  go_wp2_with fail
  go_quiet (fail)
  go_wp2
  go_ret2
  exact ⟨rfl, below_drewN (Below.refl _ _) _⟩
/-- An empty literal of entries. -/
theorem own_none (w : World) : OwnRows (w.alloc (.cells #[] 48)) w.heap.size 48 6 (.slice (some ⟨w.heap.size, 0, none⟩) 0 0) [] :=
  ⟨World.ownsRow_lit w #[] 0 (Nat.le_refl _) (by simp [maxLen]) rfl, fun c hc => by cases hc⟩
/-- While it goes on: what is issued so far (the first i of the old ones). -/
structure AvAt (w wr : World) (s0 : OS) (g : Nat) (v u : Value) (i : Nat) (old out v' : Value) (L : List Ent) : Prop where
  old_ : OwnRows wr w.heap.size 48 6 old (L.map Ent.enc)
  out_ : OwnRows wr w.heap.size 48 6 out (((refLat s0.gone L i).map s0.sign).map Ent.enc)
  off : RffAt wr g v' u (s0.more ((refLat s0.gone L i).map s0.sign))
  moves : Moves (Foot g v u) (Foot g v' u) w wr
  oldF : ∀ k, old.ownBlock = some k → ¬ Foot g v' u k
  outF : ∀ k, out.ownBlock = some k → ¬ Foot g v' u k
  apt : Apt old out
theorem lastD_mem (l : List Ent) (n : List UInt8) (h : n ∈ l.map (·.name)) : lastD l n ∈ l := by
  refine snocInd (p := fun l => n ∈ l.map (·.name) → lastD l n ∈ l) (fun h => by cases h) (fun l e ih h => ?_) l h
  rw [lastD_snoc]
  split
  · simp
  · next hn =>
    rw [List.map_append, List.mem_append] at h
    rcases h with k | k
    · exact List.mem_append_left _ (ih k)
    · simp only [List.map_cons, List.map_nil, List.mem_singleton] at k
      exact absurd k.symm hn
theorem firsts_length (g : List (List UInt8)) (l : List Ent) : (firsts g l).length ≤ l.length := by
  rw [← latest_names, List.length_map]
  exact latest_length g l
theorem refLat_from {g : List (List UInt8)} {l : List Ent} {i : Nat} : ∀ e ∈ refLat g l i, e ∈ l := fun e he => by
  obtain ⟨n, hn, rfl⟩ := List.mem_map.1 he
  have h := ((firsts_mem g _ n).1 hn).2
  obtain ⟨x, hx, rfl⟩ := List.mem_map.1 h
  exact lastD_mem l _ (List.mem_map.2 ⟨x, List.mem_of_mem_take hx, rfl⟩)
theorem refLat_length (g : List (List UInt8)) (l : List Ent) (i : Nat) : (refLat g l i).length ≤ l.length := by
  rw [refLat, List.length_map]
  exact Nat.le_trans (firsts_length g _) (by rw [List.length_take]; omega)
def freshB (l : List Ent) (n : List UInt8) : Bool := !decide (n ∈ l.map (·.name))
theorem freshB_snoc (l : List Ent) (y : Ent) (n : List UInt8) : freshB (l ++ [y]) n = (freshB l n && !decide (y.name = n)) := by
  have h : n ∈ (l ++ [y]).map (·.name) ↔ n ∈ l.map (·.name) ∨ y.name = n := by
    rw [List.map_append, List.mem_append, List.map_cons, List.map_nil, List.mem_singleton]
    exact ⟨fun q => q.imp (fun z => z) Eq.symm, fun q => q.imp (fun z => z) Eq.symm⟩
  rw [freshB, freshB]
  by_cases h1 : n ∈ l.map (·.name)
  · rw [decide_eq_true (h.2 (.inl h1)), decide_eq_true h1]; rfl
  · by_cases h2 : y.name = n
    · rw [decide_eq_true (h.2 (.inr h2)), decide_eq_false h1, decide_eq_true h2]; rfl
    · rw [decide_eq_false (fun q => (h.1 q).elim h1 h2), decide_eq_false h1, decide_eq_false h2]; rfl
theorem OS.more_more (s : OS) (a b : List Ent) : (s.more a).more b = s.more (a ++ b) := by simp [OS.more, List.append_assoc]
section
variable {w wr wa wb wc : World} {s0 : OS} {g i : Nat} {v u old out v' v2 out2 : Value} {L : List Ent}
theorem AvAt.below (I : AvAt w wr s0 g v u i old out v' L) (b : Below wr.heap.size wr wa) : AvAt w wa s0 g v u i old out v' L :=
  ⟨I.old_.below b rfl, I.out_.below b rfl, I.off.below b, I.moves.trans (Moves.of_below _ b), I.oldF, I.outF, I.apt⟩
theorem AvAt.skip (I : AvAt w wr s0 g v u i old out v' L) (e : refLat s0.gone L (i + 1) = refLat s0.gone L i) : AvAt w wr s0 g v u (i + 1) old out v' L :=
  ⟨I.old_, by rw [e]; exact I.out_, by rw [e]; exact I.off, I.moves, I.oldF, I.outF, I.apt⟩
theorem AvAt.issued (I : AvAt w wr s0 g v u i old out v' L) {x : Ent} (e : refLat s0.gone L (i + 1) = refLat s0.gone L i ++ [x]) (o : RffAt wa g v2 u ((s0.more ((refLat s0.gone L i).map s0.sign)).more [s0.sign x])) (m : Moves (Foot g v' u) (Foot g v2 u) wr wa)
    (b : Below wa.heap.size wa wb) (ho : OwnRows wc w.heap.size 48 6 out2 (((refLat s0.gone L i).map s0.sign).map Ent.enc ++ [(s0.sign x).enc])) (hg : wb.grownBy wc out.ownBlock) (hat : out2.ownBlock = out.ownBlock ∨ out2.ownBlock = some wb.heap.size) : AvAt w wc s0 g v u (i + 1) old out2 v2 L := by
  have oldF2 : ∀ k, old.ownBlock = some k → ¬ Foot g v2 u k := fun k hk f => (m.foot k f).elim (I.oldF k hk) (fun q => by have := (I.old_.lt k hk).2; omega)
  have outF2 : ∀ k, out.ownBlock = some k → ¬ Foot g v2 u k := fun k hk f => (m.foot k f).elim (I.outF k hk) (fun q => by have := (I.out_.lt k hk).2; omega)
  have old1 := (I.old_.keeps m.keeps I.oldF).below b rfl
  have off1 := o.below b
  have kg : Keeps (fun k => out.ownBlock = some k) wb wc := Keeps.of_grown hg (fun k hk => .inl hk)
  refine ⟨⟨old1.1.kept hg I.apt.turn.far, old1.2⟩, ?_, ?_, ?_, oldF2, ?_, ?_⟩
  · rw [e, List.map_append, List.map_append]
    exact ho
  · rw [e, List.map_append, ← OS.more_more]
    exact off1.keeps kg (fun k f hk => outF2 k hk f)
  · have m1 := (I.moves.trans m).trans (Moves.of_below _ b)
    exact ⟨m1.keeps.then kg (fun k hk => .inr (I.out_.lt k hk).1), m1.foot⟩
  · intro k hk f
    rcases hat with q | q
    · exact outF2 k (q ▸ hk) f
    · rw [q] at hk
      injection hk with hk
      have := off1.lt k f
      omega
  · exact (I.apt.turn.next old1.1 hat rfl).turn
end
set_option maxHeartbeats 4000000 in
theorem rffAdvance_on (g : Nat) (v u : Value) (s : OS) (N : Nat) (ok : s.Ok N) (hN : N ≤ 2000000) (hx : s.idx ≠ s.len) (w : World) (h : RffAt w g v u s) :
    Calls Tryd.prog 26 #[.pointer (some ⟨g, 0, none⟩)] w fun e w' => ∃ x v', e = .returned (.tuple #[x, .int .i64 0]) ∧ OwnRows w' w.heap.size 48 6 x (s.out.map Ent.enc) ∧ RffAt w' g v' u (s.next.more s.out) ∧ Moves (Foot g v u) (Foot g v' u) w w' := by
  have O := Lib.hid h
  have c1 := RffAt.c1 h
  have c2 := RffAt.c2 h
  have d : (s.idx == s.len) = false := by simpa using hx
  have d' : decide (s.idx = s.len) = false := by simpa using hx
  have r4 : IntKind.i64.wrap (s.idx + 1) = s.idx + 1 := by have := ok.idx1; have := ok.idx2; have := ok.len2; rw [IntWalk.i64_in _ (by omega)]
  obtain ⟨SO, hSO⟩ : ∃ q, q = s.out := ⟨_, rfl⟩
  have HSO := Lib.hid hSO
  obtain ⟨s0, hs0⟩ : ∃ q, q = s.next := ⟨_, rfl⟩
  have HS0 := Lib.hid hs0
  rw [← hSO, ← hs0]
  have OKS := Lib.hid (ok.next hx)
  rw [← hs0] at OKS
  clear h hSO hs0
  go_enter Tryd.func26, Tryd.ntmps26
  go_wp2_with fail
  go_quiet (fail)
  obtain ⟨w1, hw1⟩ : ∃ q, q = w.drewN nq := ⟨_, rfl⟩
  have B1 : Hid (Below w.heap.size w w1) := Lib.hid (by rw [hw1]; exact below_drewN (Below.refl _ _) _)
  have O1 := Lib.hid (O.out.below B1.out)
  rw [← hw1]
  clear hw1 c1 c2 O d d'
  have c2 := RffAt.c2 O1.out
  have X1 : Hid (Whole w1 g 44 (rffC v u s).toArray) := Lib.hid O1.out.whole
  go_wp2_with (with_reducible refine wpList_put_cell 3 ⟨by kernel_rfl, by kernel_rfl⟩ rfl _ _ rfl g 2 (by with_unfolding_all exact rfl) (.int .i64 (s.idx + 1)) (by with_unfolding_all exact rfl) (by with_unfolding_all exact rfl) (by with_unfolding_all exact rfl) _ _ X1.out _ (by with_unfolding_all exact rfl) ?_)
  intro w2 q2 x2 z2
  have O2 : Hid (RffAt w2 g v u s0) := Lib.hid (by rw [HS0.out]; exact O1.out.turned q2 x2 rfl rfl rfl rfl)
  have M2 : Hid (Moves (Foot g v u) (Foot g v u) w w2) := Lib.hid ((Moves.of_below _ B1.out).trans ⟨Keeps.of_grown q2 (fun k hk => .inl (.inl (by injection hk with hk; exact hk.symm))), fun i h => .inl h⟩)
  clear q2 x2 z2 O1 X1 B1 c2 r4
  obtain ⟨L, hL⟩ : ∃ q, q = s.issued := ⟨_, rfl⟩
  have HL := Lib.hid hL
  have O2' : Hid (RffAt (w2.alloc (.cells #[] 48)) g v u s0) := Lib.hid (O2.out.below ((Below.refl _ _).alloc (Nat.le_refl _) _))
  have R2 : Hid (RowsAt (w2.alloc (.cells #[] 48)) v 6 (L.map Ent.enc)) := Lib.hid (by have q := O2'.out.rows.rows; rw [HS0.out] at q; rw [hL]; exact q)
  have c3 := RffAt.c3 O2'.out
  have HLN : Hid (L.length ≤ 2000000) := Lib.hid (by rw [hL]; have := ok.many; omega)
  have HSUM : Hid (([] : List (List Value)).length + (L.map Ent.enc).length ≤ 10000000) := Lib.hid (by rw [List.length_map]; have := HLN.out; simp; omega)
  have HSZ : Hid (w2.heap.size ≤ (w2.alloc (.cells #[] 48)).heap.size) := Lib.hid (by simp)
  clear hL
  go_wp2_with (with_reducible refine wpList_append_rows_at entZ rfl _ _ rfl (.slice (some ⟨w2.heap.size, 0, none⟩) 0 0) (by with_unfolding_all exact rfl) (own_none w2) _ (L.map Ent.enc) (by with_unfolding_all exact rfl) R2.out (entC_one _) HSUM.out HSZ.out ?_)
  intro old w3 o3 q3 h3
  have b3 : Below w2.heap.size w2 w3 := ((Below.refl w2.heap.size w2).alloc (Nat.le_refl _) _).grown q3 (by simp) (fun k hk => by injection hk with hk; exact Nat.le_of_eq hk)
  have hob : ∀ k, old.ownBlock = some k → w2.heap.size ≤ k := fun k hk => by
    rcases h3 with q | q
    · rw [q] at hk; injection hk with hk; exact Nat.le_of_eq hk
    · rw [q] at hk; injection hk with hk; omega
  have hne : old.ownBlock ≠ none := fun hk => by
    rcases h3 with q | q
    · rw [q] at hk; cases hk
    · rw [q] at hk; cases hk
  have I3 : Hid (AvAt w w3 s0 g v u 0 old (.slice none 0 0) v L) := Lib.hid
    ⟨o3.less M2.out.keeps.size, OwnRows.nil _ _ _ _, by rw [show s0.more ((refLat s0.gone L 0).map s0.sign) = s0 from by simp [refLat, firsts, OS.more]]; exact O2.out.below b3, M2.out.trans (Moves.of_below _ b3),
      fun k hk f => by have := hob k hk; have := O2.out.lt k f; omega, fun k hk => by simp [Value.ownBlock] at hk, .inr (by simpa [Value.ownBlock] using hne)⟩
  have HT : Hid (s0.gone = s.gone ∧ s0.issued = s.issued) := Lib.hid (by rw [HS0.out]; exact ⟨rfl, rfl⟩)
  have HOUT : Hid (SO = (refLat s0.gone L L.length).map s0.sign) := Lib.hid (by rw [HSO.out, refLat_all, HL.out, HS0.out]; rfl)
  have HEN : Hid (∀ e ∈ L, e.name.length ≤ 1000 ∧ e.id < 18446744073709551616) := Lib.hid (by rw [HL.out]; exact ok.ents)
  have HIL : Hid (s0.issued.length ≤ 2000000 ∧ s0.issued = L) := Lib.hid ⟨by rw [HT.out.2]; have := ok.many; omega, by rw [HT.out.2, HL.out]⟩
  obtain ⟨m, hm⟩ : ∃ q, q = L.length := ⟨_, rfl⟩
  have HM := Lib.hid hm
  have HMN : Hid (m ≤ 2000000) := Lib.hid (by rw [hm]; exact HLN.out)
  have HN2 := Lib.hid hN
  clear o3 q3 h3 b3 hob hne ok hN hx hm O2 O2' M2 R2 c3 HSUM HSZ
  go_wp2_with fail
  go_loopw [5, 6] (fun o i wr => ∃ (k : Nat) (v' out : Value), k ≤ m ∧ out = o ∧ i = .int .i64 (k : Int) ∧ AvAt w wr s0 g v u k old out v' L) (fun _ i _ => m - (intOf i).toNat)
  case atStart => exact ⟨0, _, _, Nat.zero_le _, rfl, rfl, I3.out⟩
  case round =>
    clear I3
    obtain ⟨k, v', out, hk, rfl, rfl, hr⟩ := hrel
    have I := Lib.hid hr
    clear hr
    obtain ⟨A, cap, hov⟩ := I.out.old_.form
    rw [List.length_map, ← HM.out] at hov
    by_cases hlt : k < m
    · have dk : decide ((k : Int) < (m : Int)) = true := by simp; omega
      have jk : (k : Int) < (m : Int) := by omega
      have r4 : IntKind.i64.wrap ((k : Int) + 1) = ((k + 1 : Nat) : Int) := by have := HMN.out; rw [IntWalk.i64_in _ (by omega)]; omega
      obtain ⟨x, hx⟩ : ∃ x, L[k]? = some x := ⟨_, List.getElem?_eq_getElem (by rw [← HM.out]; exact hlt)⟩
      have hxa : (L.map Ent.enc)[k]? = some x.enc := by rw [List.getElem?_map, hx]; rfl
      obtain ⟨go, cap2, e1, -, hgo, -⟩ := I.out.old_.spot (by intro e; rw [e] at hxa; simp at hxa)
      rw [hov] at e1
      injection e1 with e1 e2 e3
      subst e1 e3 hov
      have HROW : Hid (∀ j y, L[j]? = some y → ∀ w', Below wr.heap.size wr w' → ∀ q c, y.enc[q]? = some c → w'.cell? ⟨go, j * 6 + q, none⟩ = some c) := Lib.hid (fun j y hy w' b q c hq => by
        obtain ⟨go', cap', e', -, -, hc⟩ := (I.out.old_.below b rfl).spot (by intro e; rw [e] at hxa; simp at hxa)
        injection e' with e1
        injection e1 with e1
        injection e1 with e1
        subst e1
        exact hc j y.enc (by rw [List.getElem?_map, hy]; rfl) q c hq)
      have HX := Lib.hid hx
      clear hxa hgo e2 hx
      obtain ⟨wo, hwo⟩ : ∃ q, q = wr := ⟨_, rfl⟩
      subst hwo
      go_wp2_with fail
      go_loopw [7, 8] (fun t i wr => ∃ j : Nat, j ≤ k ∧ i = .int .i64 (j : Int) ∧ t = .bool (freshB (L.take j) x.name) ∧ Below wo.heap.size wo wr) (fun _ i _ => k - (intOf i).toNat)
      case atStart => exact ⟨0, Nat.zero_le _, rfl, by simp [freshB], Below.refl _ _⟩
      case round =>
        obtain ⟨j, hj, rfl, rfl, hb⟩ := hrel
        have BB := Lib.hid hb
        clear hb
        obtain ⟨t, ht⟩ : ∃ t, t = freshB (L.take j) x.name := ⟨_, rfl⟩
        have HT2 := Lib.hid ht
        rw [← ht]
        clear ht
        by_cases hlt2 : j < k
        · have dj : decide ((j : Int) < (k : Int)) = true := by simp; omega
          have jj : (j : Int) < (m : Int) := by omega
          have r5 : IntKind.i64.wrap ((j : Int) + 1) = ((j + 1 : Nat) : Int) := by have := HMN.out; rw [IntWalk.i64_in _ (by omega)]; omega
          obtain ⟨y, hy⟩ : ∃ y, L[j]? = some y := ⟨_, List.getElem?_eq_getElem (by rw [← HM.out]; omega)⟩
          have c1 : wr.cell? ⟨go, j * 6, none⟩ = some (.string ⟨y.name.toArray⟩) := HROW.out j y hy wr BB.out 0 _ rfl
          have c2 : wr.cell? ⟨go, k * 6, none⟩ = some (.string ⟨x.name.toArray⟩) := HROW.out k x HX.out wr BB.out 0 _ rfl
          have HTK := Lib.hid (take_more hy)
          clear hy
          cases t with
          | false =>
            have HV : Hid (false = freshB (L.take (j + 1)) x.name) := Lib.hid (by rw [HTK.out, freshB_snoc, ← HT2.out]; rfl)
            go_wp2_with fail
            go_quiet (fail)
            go_wp2
            exact ⟨⟨j + 1, by omega, by go_num, by rw [← HV.out], below_drewN BB.out _⟩, by simp [intOf]; omega⟩
          | true =>
            by_cases hn : y.name = x.name
            · have r : (y.name == x.name) = true := by simp [hn]
              have r' : (y.name != x.name) = false := by simp [hn]
              have HV : Hid (false = freshB (L.take (j + 1)) x.name) := Lib.hid (by rw [HTK.out, freshB_snoc, ← HT2.out]; simp [hn])
              clear hn
              go_wp2_with fail
              go_quiet (fail)
              go_wp2
              exact ⟨⟨j + 1, by omega, by go_num, by rw [← HV.out], below_drewN BB.out _⟩, by simp [intOf]; omega⟩
            · have r : (y.name == x.name) = false := by simp [hn]
              have r' : (y.name != x.name) = true := by simp [hn]
              have HV : Hid (true = freshB (L.take (j + 1)) x.name) := Lib.hid (by rw [HTK.out, freshB_snoc, ← HT2.out]; simp [hn])
              clear hn
              go_wp2_with fail
              go_quiet (fail)
              go_wp2
              exact ⟨⟨j + 1, by omega, by go_num, by rw [← HV.out], below_drewN BB.out _⟩, by simp [intOf]; omega⟩
        · have dj : decide ((j : Int) < (k : Int)) = false := by simp; omega
          obtain rfl : j = k := by omega
          have I1 := Lib.hid (I.out.below BB.out)
          cases t with
          | false =>
            have I2 := Lib.hid (I1.out.skip (refLat_skip HX.out (.inl (by simpa [freshB] using HT2.out.symm))))
            clear I1
            go_wp2
            exact ⟨⟨j + 1, v', out, by omega, rfl, by go_num, I2.out⟩, by simp [intOf]; omega⟩
          | true =>
            have HFI : Hid (x.name ∉ (L.take j).map (·.name)) := Lib.hid (by have q := HT2.out.symm; rw [freshB, Bool.not_eq_true', decide_eq_false_iff_not] at q; exact q)
            have HGN : Hid ((s0.more ((refLat s0.gone L j).map s0.sign)).gone.length ≤ 4000000) := Lib.hid (by show s0.gone.length ≤ _; have := OKS.out.gone; have := HN2.out; omega)
            have CM := Lib.hid (rffGone_any g v' u (s0.more ((refLat s0.gone L j).map s0.sign)) x.name HGN.out wr I1.out.off)
            rw [show (s0.more ((refLat s0.gone L j).map s0.sign)).marked x.name = s0.marked x.name from rfl] at CM
            obtain ⟨q, hq⟩ : ∃ q, q = s0.marked x.name := ⟨_, rfl⟩
            rw [← hq] at CM
            have HQ : Hid (q = decide (x.name ∈ s0.gone)) := Lib.hid hq
            have cx : wr.cell? ⟨go, j * 6, none⟩ = some (.string ⟨x.name.toArray⟩) := HROW.out j x HX.out wr BB.out 0 _ rfl
            clear hq
            go_wp2_with fail
            refine CM.out.mono ?_
            rintro e w4 ⟨rfl, b4⟩
            have I4 := Lib.hid (I1.out.below b4)
            have B4 := Lib.hid (BB.out.trans (b4.mono BB.out.size))
            clear b4 CM I1 cx
            cases q with
            | true =>
              have I5 := Lib.hid (I4.out.skip (refLat_skip HX.out (.inr (by simpa using HQ.out.symm))))
              clear I4
              go_wp2
              exact ⟨⟨j + 1, v', out, by omega, rfl, by go_num, I5.out⟩, by simp [intOf]; omega⟩
            | false =>
              have HNG : Hid (x.name ∉ s0.gone) := Lib.hid (by simpa using HQ.out.symm)
              have HC : Hid (∀ q c, x.enc[q]? = some c → w4.cell? ⟨go, j * 6 + q, none⟩ = some c) := Lib.hid (HROW.out j x HX.out w4 B4.out)
              go_wp2_with (first | (with_reducible refine wpList_load_rec Ent.isRec rfl _ rfl go (j * 6) (by with_unfolding_all exact rfl) x.enc (Ent.len _) HC.out ?_) | (refine wpList_alloc_row rfl 48 rfl ent0.cells ent_zero ?_))
              intro w5 b5 x5 z5
              have X5 := Lib.hid x5
              have B5 := Lib.hid b5
              obtain ⟨gE, hE⟩ : ∃ q, q = w4.heap.size := ⟨_, rfl⟩
              have HEE := Lib.hid hE
              rw [← hE] at X5 ⊢
              clear b5 x5 z5 hE HC
              go_wp2_with (with_reducible refine wpList_store_whole rfl 48 _ _ rfl gE x.cells (by with_unfolding_all exact rfl) (by with_unfolding_all exact rfl) _ _ X5.out (ent_size' _) rfl (Ent.cells_one _) ?_)
              intro w6 q6 x6 z6
              have E6 : Hid (Ent.At w6 gE x) := Lib.hid x6
              have B6 := Lib.hid (B5.out.grown q6 B5.out.size (fun k hk => by injection hk with hk; have := HEE.out; omega))
              have BW := Lib.hid (B4.out.trans (B6.out.mono B4.out.size))
              have HWE : Hid (wo.heap.size ≤ gE) := Lib.hid (by have := B4.out.size; have := HEE.out; omega)
              clear q6 x6 z6 X5 B5 I4 B4 B6 HEE
              obtain ⟨wq, hwq⟩ : ∃ q, q = w6 := ⟨_, rfl⟩
              subst hwq
              go_wp2_with fail
              go_loopw [10] (fun i wr => ∃ p : Nat, j ≤ p ∧ p ≤ m ∧ i = .int .i64 (p : Int) ∧ Ent.At wr gE (lastR ((L.drop j).take (p - j)) x) ∧ Below wo.heap.size wo wr) (fun i _ => m - (intOf i).toNat)
              case atStart => exact ⟨j, Nat.le_refl _, by omega, rfl, by rw [Nat.sub_self]; exact E6.out, BW.out⟩
              case round =>
                clear E6 BW
                obtain ⟨p, hjp, hpm, rfl, hE, hB⟩ := hrel
                obtain ⟨z, hz⟩ : ∃ q, q = lastR ((L.drop j).take (p - j)) x := ⟨_, rfl⟩
                have HZ := Lib.hid hz
                rw [← hz] at hE
                have EE := Lib.hid hE
                have B7 := Lib.hid hB
                clear hE hB hz
                by_cases hlt3 : p < m
                · have dp : decide ((p : Int) < (m : Int)) = true := by simp; omega
                  have jp : (p : Int) < (m : Int) := by omega
                  have r6 : IntKind.i64.wrap ((p : Int) + 1) = ((p + 1 : Nat) : Int) := by have := HMN.out; rw [IntWalk.i64_in _ (by omega)]; omega
                  obtain ⟨y, hy⟩ : ∃ y, L[p]? = some y := ⟨_, List.getElem?_eq_getElem (by rw [← HM.out]; omega)⟩
                  have HY := Lib.hid hy
                  have c1 : wr.cell? ⟨go, p * 6, none⟩ = some (.string ⟨y.name.toArray⟩) := HROW.out p y hy wr B7.out 0 _ rfl
                  have c2 := Ent.At.at_name EE.out
                  have HZ2 : Hid (lastR ((L.drop j).take (p + 1 - j)) x = if y.name = z.name then y else z) := Lib.hid (by
                    rw [show p + 1 - j = (p - j) + 1 from by omega, List.take_add_one, List.getElem?_drop, show j + (p - j) = p from by omega, hy, HZ.out]
                    exact lastR_snoc _ _ _)
                  clear hy
                  by_cases hn : y.name = z.name
                  · have r : (y.name == z.name) = true := by simp [hn]
                    rw [if_pos hn] at HZ2
                    clear hn
                    go_wp2_with fail
                    go_quiet (fail)
                    obtain ⟨w8, hw8⟩ : ∃ q, q = wr.drewN nq := ⟨_, rfl⟩
                    have E8 : Hid (Ent.At w8 gE z) := Lib.hid (by rw [hw8]; exact EE.out)
                    have B8 : Hid (Below wo.heap.size wo w8) := Lib.hid (by rw [hw8]; exact below_drewN B7.out _)
                    rw [← hw8]
                    clear hw8 c1 c2 EE B7
                    have HC : Hid (∀ q c, y.enc[q]? = some c → w8.cell? ⟨go, p * 6 + q, none⟩ = some c) := Lib.hid (HROW.out p y HY.out w8 B8.out)
                    go_wp2_with (first | (with_reducible refine wpList_load_rec Ent.isRec rfl _ rfl go (p * 6) (by with_unfolding_all exact rfl) y.enc (Ent.len _) HC.out ?_) | (with_reducible refine wpList_store_whole rfl 48 _ _ rfl gE y.cells (by with_unfolding_all exact rfl) (by with_unfolding_all exact rfl) _ _ E8.out (ent_size' _) rfl (Ent.cells_one _) ?_))
                    intro w9 q9 x9 z9
                    have E9 : Hid (Ent.At w9 gE y) := Lib.hid x9
                    have B9 := Lib.hid (B8.out.grown q9 B8.out.size (fun k hk => by injection hk with hk; have := HWE.out; omega))
                    clear q9 x9 z9 E8 B8 HC
                    go_wp2
                    exact ⟨⟨p + 1, by omega, by omega, by go_num, by rw [HZ2.out]; exact E9.out, B9.out⟩, by simp [intOf]; omega⟩
                  · have r : (y.name == z.name) = false := by simp [hn]
                    rw [if_neg hn] at HZ2
                    clear hn
                    go_wp2_with fail
                    go_quiet (fail)
                    go_wp2
                    exact ⟨⟨p + 1, by omega, by omega, by go_num, by rw [HZ2.out]; exact EE.out, below_drewN B7.out _⟩, by simp [intOf]; omega⟩
                · have dp : decide ((p : Int) < (m : Int)) = false := by simp; omega
                  have HZD : Hid (z = lastD L x.name) := Lib.hid (by
                    have q := HZ.out
                    rw [List.take_of_length_le (by rw [List.length_drop, ← HM.out]; omega), lastR_last HX.out] at q
                    exact q)
                  have HTK : Hid (refLat s0.gone L (j + 1) = refLat s0.gone L j ++ [z]) := Lib.hid (by rw [HZD.out]; exact refLat_take HX.out HFI.out HNG.out)
                  have HZM : Hid (z ∈ L) := Lib.hid (by rw [HZD.out]; exact lastD_mem L _ (List.mem_map.2 ⟨x, List.mem_of_getElem? HX.out, rfl⟩))
                  have I7 := Lib.hid (I.out.below B7.out)
                  have OKM : Hid ((s0.more ((refLat s0.gone L j).map s0.sign)).Ok 4000000) := Lib.hid ((OKS.out.more (fun e he => by
                    obtain ⟨y, hy, rfl⟩ := List.mem_map.1 he
                    exact HEN.out y (refLat_from y hy))).mono (by have h1 := refLat_length s0.gone L j; have h2 := HLN.out; have h3 := HN2.out; rw [List.length_map]; omega))
                  have CI := Lib.hid (rffIssue1_any g v' u (s0.more ((refLat s0.gone L j).map s0.sign)) 4000000 OKM.out (by decide) z (HEN.out z HZM.out) wr I7.out.off)
                  rw [show (s0.more ((refLat s0.gone L j).map s0.sign)).sign z = s0.sign z from rfl] at CI
                  obtain ⟨S, hS⟩ : ∃ q, q = s0.sign z := ⟨_, rfl⟩
                  have HS := Lib.hid hS
                  rw [← hS] at CI
                  obtain ⟨LO, hLO⟩ : ∃ q, q = ((refLat s0.gone L j).map s0.sign).map Ent.enc := ⟨_, rfl⟩
                  have HLO := Lib.hid hLO
                  have HONE : Hid (∀ c ∈ [S.enc], c.length = 6 ∧ ∀ u ∈ c, u.oneCell' = true) := Lib.hid (entC_one [S])
                  have HSUM : Hid (LO.length + [S.enc].length ≤ 10000000) := Lib.hid (by rw [hLO, List.length_singleton, List.length_map, List.length_map]; have h1 := refLat_length s0.gone L j; have h2 := HLN.out; omega)
                  clear hS hLO
                  go_wp2_with (with_reducible refine wpList_load_whole Ent.isRec rfl _ rfl gE (by with_unfolding_all exact rfl) _ _ (Ent.len _) EE.out ?_)
                  refine CI.out.mono ?_
                  rintro e w10 ⟨v10, rfl, o10, m10⟩
                  have O10 := Lib.hid o10
                  have M10 := Lib.hid m10
                  have U10 : Hid (OwnRows w10 w.heap.size 48 6 out LO) := Lib.hid (by rw [HLO.out]; exact I7.out.out_.keeps m10.keeps I7.out.outF)
                  have Z10 : Hid (w.heap.size ≤ w10.heap.size) := Lib.hid (Nat.le_trans I7.out.moves.keeps.size m10.keeps.size)
                  clear o10 m10 CI EE OKM
                  go_wp2_with (with_reducible refine Ent.wpList_one rfl _ rfl S (by with_unfolding_all exact rfl) ?_)
                  intro w11 b11 y11 z11
                  have Y11 := Lib.hid y11
                  have B11 := Lib.hid b11
                  have U11 := Lib.hid (U10.out.below b11 rfl)
                  have Z11 := Lib.hid (Nat.le_trans Z10.out b11.size)
                  clear b11 y11 z11 U10 Z10
                  go_wp2_with (with_reducible refine wpList_append_rows_at entZ rfl _ _ rfl out (by with_unfolding_all exact rfl) U11.out _ [S.enc] (by with_unfolding_all exact rfl) Y11.out HONE.out HSUM.out Z11.out ?_)
                  intro out2 w12 o12 q12 h12
                  have I12 : Hid (AvAt w w12 s0 g v u (j + 1) (.slice (some ⟨go, 0, none⟩) m cap) out2 v10 L) := Lib.hid (I7.out.issued HTK.out (by have q := O10.out; rw [HS.out] at q; exact q) M10.out B11.out (by rw [← HLO.out, ← HS.out]; exact o12) q12 h12)
                  clear o12 q12 h12 U11 Y11 B11 O10 M10 I7
                  go_wp2
                  exact ⟨⟨j + 1, v10, out2, by omega, rfl, by go_num, I12.out⟩, by simp [intOf]; omega⟩
    · have dk : decide ((k : Int) < (m : Int)) = false := by simp; omega
      obtain rfl : k = m := by omega
      have E : Hid (OwnRows wr w.heap.size 48 6 out (SO.map Ent.enc) ∧ RffAt wr g v' u (s0.more SO) ∧ Moves (Foot g v u) (Foot g v' u) w wr) := Lib.hid (by
        have h1 := I.out.out_
        have h2 := I.out.off
        rw [HM.out, ← HOUT.out] at h1 h2
        exact ⟨h1, h2, I.out.moves⟩)
      subst hov
      clear I
      go_wp2
      go_ret2
      exact ⟨_, _, rfl, E.out⟩
theorem rffAdvance_any (g : Nat) (v u : Value) (s : OS) (N : Nat) (ok : s.Ok N) (hN : N ≤ 2000000) (w : World) (h : RffAt w g v u s) :
    Calls Tryd.prog 26 #[.pointer (some ⟨g, 0, none⟩)] w fun e w' => ∃ x v', e = .returned (.tuple #[x, .int .i64 (advC s)]) ∧ OwnRows w' w.heap.size 48 6 x ((advL s).map Ent.enc) ∧ RffAt w' g v' u (advS s) ∧ Moves (Foot g v u) (Foot g v' u) w w' := by
  rw [advC, advL, advS]
  by_cases hx : s.idx = s.len
  · rw [if_pos hx, if_pos hx, if_pos hx]
    exact (rffAdvance_end g v u s hx w h).mono fun _ _ q => ⟨_, v, q.1, OwnRows.nil _ _ _ _, h.below q.2, Moves.of_below _ q.2⟩
  · rw [if_neg hx, if_neg hx, if_neg hx]
    exact rffAdvance_on g v u s N ok hN hx w h
end Go.Proofs.YtfcjemedheccgaaDoor
