/- Layer 23 as landed: the library's DeleteFunc over whatever closure tells of a session, Close. -/
import Derived.Test.YtjohlnpalcmhbaaTbC
namespace Go.Proofs.Ytjohlnpalcmhbaa
set_option maxRecDepth 100000
open Go.RowKit

theorem firstS_spec (p : Ses → Bool) (l : List Ses) (j : Nat) :
    (firstS p l j = -1 ∧ ∀ x ∈ l, p x = false) ∨ ∃ k x, firstS p l j = ((j + k : Nat) : Int) ∧ l[k]? = some x ∧ p x = true ∧ ∀ y ∈ l.take k, p y = false := by
  induction l generalizing j with
  | nil => exact .inl ⟨rfl, fun x hx => by cases hx⟩
  | cons x r ih =>
    rw [firstS]
    cases hp : p x with
    | true => exact .inr ⟨0, x, by simp, rfl, hp, fun y hy => by simp at hy⟩
    | false =>
      rcases ih (j + 1) with ⟨h, h'⟩ | ⟨k, y, h, h1, h2, h3⟩
      · refine .inl ⟨by rw [if_neg (by simp)]; exact h, fun y hy => ?_⟩
        rcases List.mem_cons.1 hy with rfl | hy
        · exact hp
        · exact h' y hy
      · refine .inr ⟨k + 1, y, by rw [if_neg (by simp), h]; omega, by rw [List.getElem?_cons_succ]; exact h1, h2, fun z hz => ?_⟩
        rw [List.take_succ_cons] at hz
        rcases List.mem_cons.1 hz with rfl | hz
        · exact hp
        · exact h3 z hz
/-- So far it has been gone through. -/
structure Del (p : Ses → Bool) (l : List Ses) (i j : Nat) (M : List Ses) : Prop where
  lt : i < j
  le : j ≤ l.length
  len : M.length = l.length
  done : M.take i = (l.take j).filter fun s => !p s
  rest : M.drop j = l.drop j
theorem filter_all {p : Ses → Bool} {l : List Ses} (h : ∀ x ∈ l, p x = false) : (l.filter fun s => !p s) = l := List.filter_eq_self.2 fun x hx => by simp [h x hx]
theorem Del.start {p : Ses → Bool} {l : List Ses} {k : Nat} {x : Ses} (h1 : l[k]? = some x) (h2 : p x = true) (h3 : ∀ y ∈ l.take k, p y = false) : Del p l k (k + 1) l :=
  ⟨Nat.lt_succ_self _, (List.getElem?_eq_some_iff.1 h1).1, rfl, by
    rw [List.take_add_one, h1, List.filter_append, filter_all h3]
    simp [h2], rfl⟩
theorem Del.at_ {p : Ses → Bool} {l M : List Ses} {i j : Nat} (h : Del p l i j M) {x : Ses} (hx : l[j]? = some x) : M[j]? = some x := by
  have e := congrArg (fun (L : List Ses) => L[0]?) h.rest
  simp only [List.getElem?_drop, Nat.add_zero] at e
  rw [e, hx]
theorem Del.skip {p : Ses → Bool} {l M : List Ses} {i j : Nat} (h : Del p l i j M) {x : Ses} (hx : l[j]? = some x) (hp : p x = true) : Del p l i (j + 1) M :=
  ⟨by have := h.lt; omega, (List.getElem?_eq_some_iff.1 hx).1, h.len, by rw [h.done, List.take_add_one, hx, List.filter_append]; simp [hp], by
    rw [Nat.add_comm, ← List.drop_drop, ← List.drop_drop]
    have e := congrArg (List.drop 1) h.rest
    rw [List.drop_drop, List.drop_drop] at e
    rw [List.drop_drop, List.drop_drop, Nat.add_comm 1 j]
    exact e⟩
theorem Del.keep {p : Ses → Bool} {l M : List Ses} {i j : Nat} (h : Del p l i j M) {x : Ses} (hx : l[j]? = some x) (hp : p x = false) : Del p l (i + 1) (j + 1) (M.set i x) := by
  have hil : i < M.length := by rw [h.len]; have := h.lt; have := (List.getElem?_eq_some_iff.1 hx).1; omega
  refine ⟨by have := h.lt; omega, (List.getElem?_eq_some_iff.1 hx).1, by rw [List.length_set]; exact h.len, ?_, ?_⟩
  · rw [List.take_add_one, List.getElem?_set_self hil, List.take_set_of_le (Nat.le_refl _), h.done, List.take_add_one, hx, List.filter_append]
    simp [hp]
  · have e := congrArg (List.drop 1) h.rest
    rw [List.drop_drop, List.drop_drop] at e
    rw [List.drop_set_of_lt (by have := h.lt; omega)]
    exact e
theorem Del.all {p : Ses → Bool} {l M : List Ses} {i : Nat} (h : Del p l i l.length M) : M.take i = l.filter fun s => !p s := by
  rw [h.done, List.take_length]

theorem zero_ones (n : Nat) : ∀ u ∈ (Builtin.zeroCells Ses.zero.enc.toArray n).toList, u.oneCell' = true := by
  intro u hu
  have h1 : ∀ i, i < 20 → (Ses.zero.enc.toArray[i]!).oneCell' = true := by decide
  simp only [Builtin.zeroCells, Array.toList_map, List.mem_map] at hu
  obtain ⟨i, -, rfl⟩ := hu
  exact h1 _ (Nat.mod_lt _ (by decide))
section
variable {w : World} {base : Nat}
/-- What is behind the first of a row of one's own is made zeros. -/
theorem run_clear_rows (ty : TypeId) (g n cap i c : Nat) (L : List (List Value)) (hown : OwnRows w base 36 20 (.slice (some ⟨g, 0, none⟩) n cap) L) (hn : n = L.length) (hi : i ≤ n) (A : Addr) (hA : i < n → A = ⟨g, i * 20, none⟩) :
    ∃ w', (Builtin.clear_ #[22] ty #[.slice (some A) (n - i) c]).run Try.prog w = .ok (.tuple #[]) w' ∧ OwnRows w' base 36 20 (.slice (some ⟨g, 0, none⟩) i cap) (L.take i) ∧ w.grownBy w' (some g) := by
  subst hn
  obtain ⟨⟨hl, hr⟩, hk⟩ := hown
  rcases hr with ⟨h1, -⟩ | ⟨g', cap', cur, h1, hb, hg, hnc, hcm, hcs, htake⟩
  · cases h1
  injection h1 with h1 h2 h3
  injection h1 with h1
  injection h1 with h1
  subst h1 h3
  have hkt : ∀ c ∈ L.take i, c.length = 20 := fun c hc => hk c (List.mem_of_mem_take hc)
  have hlt : (L.take i).length = i := by rw [List.length_take]; omega
  have hfl : (L.take i).flatten.length = i * 20 := by rw [flat_len hkt, hlt]
  have hft : L.flatten.take (i * 20) = (L.take i).flatten := by
    conv => lhs; rw [← List.take_append_drop i L, List.flatten_append]
    exact List.take_left' hfl
  have hcap : i ≤ cap := Nat.le_trans hi hnc
  have hct : cur.toList.take (i * 20) = (L.take i).flatten := by
    rw [← hft, ← htake, List.take_take, Nat.min_eq_left (Nat.mul_le_mul_right _ hi)]
  rcases Nat.lt_or_ge i L.length with q | q
  · obtain ⟨i0, h1, h2, h3⟩ := Ses.info
    rw [hA q]
    have hvl : (Builtin.zeroCells Ses.zero.enc.toArray (L.length - i)).toList.length = (L.length - i) * 20 := by rw [Array.length_toList, size_zeroCells]; rfl
    have hfit : i * 20 + 0 + (Builtin.zeroCells Ses.zero.enc.toArray (L.length - i)).toList.length ≤ cur.size := by
      rw [hvl, hcs]
      have := Nat.mul_le_mul_right 20 hnc
      omega
    have hst := run_storeCells_at Try.prog g (i * 20) 36 _ 0 cur w hg hfit (zero_ones _)
    obtain ⟨N, hN⟩ : ∃ N, N = (cur.toList.take (i * 20 + 0) ++ (Builtin.zeroCells Ses.zero.enc.toArray (L.length - i)).toList ++ cur.toList.drop (i * 20 + 0 + (Builtin.zeroCells Ses.zero.enc.toArray (L.length - i)).toList.length)).toArray := ⟨_, rfl⟩
    rw [← hN] at hst
    obtain ⟨r, hr⟩ : ∃ r, L.length - i = r + 1 := ⟨L.length - i - 1, by omega⟩
    refine ⟨w.setRow g N, ?_, ⟨⟨by rw [hfl, hlt], .inr ⟨g, cap, N, by rw [hlt], hb, setRow_heap w g cur _ _ _ hg, by rw [hlt]; exact hcap, hcm, ?_, ?_⟩⟩, hkt⟩, grown_setRow w g _⟩
    · rw [hr] at hst ⊢
      simp [Builtin.clear_, run_underlying Try.underlying22, zeroValue, typeInfo, h1, h2, Value.cells, hst]
    · have := hfit
      rw [hN]
      simp only [List.size_toArray, List.length_append, List.length_take, List.length_drop, Array.length_toList] at *
      omega
    · rw [hlt]
      have h5 : (cur.toList.take (i * 20 + 0)).length = i * 20 := by rw [List.length_take, Array.length_toList]; omega
      rw [hN, List.append_assoc, List.take_left' h5]
      exact hct
  · have e : i = L.length := by omega
    subst e
    refine ⟨w, ?_, ⟨⟨by rw [hfl, hlt], .inr ⟨g, cap, cur, by rw [hlt], hb, hg, by rw [hlt]; exact hcap, hcm, hcs, by rw [hlt]; exact hct⟩⟩, hkt⟩, World.grownBy.refl w _⟩
    rw [Nat.sub_self]
    simp [Builtin.clear_, run_underlying Try.underlying22]
theorem wpList_clear_rows {ops : Array Oper} {rest : List Oper} {o : Oper} {a : Act} {Q : Exit → Act → World → Prop} (hgd : o.guard = none) (s : Operand) (ho : o.op = .call { callee := .builtin .clear, args := #[s], argTypes := #[22] })
    (g n cap i c : Nat) (L : List (List Value)) (hown : OwnRows w base 36 20 (.slice (some ⟨g, 0, none⟩) n cap) L) (hn : n = L.length) (hi : i ≤ n) (A : Addr) (hA : i < n → A = ⟨g, i * 20, none⟩) (hs : a.eval s = .slice (some A) (n - i) c)
    (h : ∀ w', OwnRows w' base 36 20 (.slice (some ⟨g, 0, none⟩) i cap) (L.take i) → w.grownBy w' (some g) → wpList Try.prog ops Q rest (a.put o.dst (.tuple #[])) w') : wpList Try.prog ops Q (o :: rest) a w :=
  wpList_plain hgd fun _ hK => by
    obtain ⟨w', hr, h2, h3⟩ := run_clear_rows o.type g n cap i c L hown hn hi A hA
    have q := hK _ _ (h w' h2 h3)
    unfold Oper.wp execOp
    simp only [ho, resolve, invoke, builtin, Sem.run_bind, Sem.run_pure, Result.andThen_ok, List.map_toArray, List.map_cons, List.map_nil, hs, hr]
    exact q
end

set_option maxRecDepth 100000 in
set_option maxHeartbeats 1000000 in
theorem deleteFunc_any (W : World) (F : FuncId) (caps : Array Value) (p : Ses → Bool) (hT : Tells W F caps p) (v : Value) (l : List Ses) (hl : l.length ≤ 100000) (w : World) (hb : Below W.heap.size W w) (h : OwnRows w W.heap.size 36 20 v (l.map Ses.enc)) :
    Calls Try.prog 45 #[v, .func (.func F) #[] caps] w fun e w' => ∃ v', e = .returned v' ∧ OwnRows w' W.heap.size 36 20 v' ((l.filter fun s => !p s).map Ses.enc) ∧ Below W.heap.size W w' := by
  obtain ⟨A, cap, rfl⟩ := h.form
  rw [List.length_map] at h ⊢
  have H := Lib.hid h
  have HL := Lib.hid hl
  have eg := hT.1
  have HC := Lib.hid hT.2
  have B0 := Lib.hid hb
  have CI := Lib.hid (indexFunc_any F caps p A l.length cap l w (by omega) h.rows (hT.below hb))
  have HF := Lib.hid (firstS_spec p l 0)
  obtain ⟨R, hR⟩ : ∃ R, R = firstS p l 0 := ⟨_, rfl⟩
  simp only [← hR] at CI HF
  clear h hl hR hT hb
  go_enter Try.func45, Try.ntmps45
  go_wp2_with fail
  refine CI.out.mono ?_
  rintro e w1 ⟨rfl, b1⟩
  have H1 := Lib.hid (H.out.below b1 rfl)
  have B1 := Lib.hid (B0.out.trans (b1.mono B0.out.size))
  clear b1 CI H B0
  rcases HF.out with ⟨hR, hall⟩ | ⟨k, x, hR, hx, hpx, hpre⟩
  · have HA := Lib.hid hall
    subst hR
    clear hall HF
    go_wp2
    go_ret
    exact ⟨_, rfl, by rw [filter_all HA.out]; exact H1.out, B1.out⟩
  · rw [Nat.zero_add] at hR
    subst hR
    have hkl := (List.getElem?_eq_some_iff.1 hx).1
    obtain ⟨g, rfl⟩ := H1.out.spot (by intro e; rw [List.map_eq_nil_iff] at e; rw [e] at hkl; simp at hkl)
    have HG := Lib.hid (H1.out.lt g rfl).1
    have e0 : ((k : Int) == -1) = false := by rw [beq_eq_false_iff_ne]; omega
    have r0 : IntKind.i64.wrap ((k : Int) + 1) = ((k + 1 : Nat) : Int) := by have := HL.out; rw [IntWalk.i64_in _ (by omega)]; omega
    have HD := Lib.hid (Del.start hx hpx hpre)
    obtain ⟨n, hn⟩ : ∃ n, n = l.length := ⟨_, rfl⟩
    have HN := Lib.hid hn
    rw [← hn] at H1 HL
    simp only [← hn]
    clear hx hpx hpre HF hkl hn
    go_wp2_with fail
    go_loopw [5, 6] (fun i j wr => ∃ (i' j' : Nat) (M : List Ses), i = .int .i64 (i' : Int) ∧ j = .int .i64 (j' : Int) ∧ Del p l i' j' M ∧ OwnRows wr W.heap.size 36 20 (.slice (some ⟨g, 0, none⟩) n cap) (M.map Ses.enc) ∧ Below W.heap.size W wr) (fun _ j _ => n - (intOf j).toNat)
    case atStart => exact ⟨k, k + 1, l, rfl, rfl, HD.out, H1.out, B1.out⟩
    case round =>
      obtain ⟨i, j, M, rfl, rfl, hd, ho, hb⟩ := hrel
      have D0 := Lib.hid hd
      have O0 := Lib.hid ho
      have B0 := Lib.hid hb
      have hij := hd.lt
      have hjn : j ≤ n := by have := hd.le; have := HN.out; omega
      clear hd ho hb H1 B1 HD e0 r0
      by_cases hlt : j < n
      · have dk : decide ((j : Int) < (n : Int)) = true := by simp; omega
        obtain ⟨x, hx⟩ : ∃ x, l[j]? = some x := ⟨_, List.getElem?_eq_getElem (by rw [← HN.out]; exact hlt)⟩
        have hMx := D0.out.at_ hx
        obtain ⟨b, off, hbo, hc⟩ := ses_row O0.out.rows hMx
        injection hbo with hbo
        injection hbo with hb1 hb2
        subst hb1 hb2
        have HX : Hid (∀ q u, x.enc[q]? = some u → wr.cell? ⟨g, j * 20 + q, none⟩ = some u) := Lib.hid (fun q u hq => by have t := hc wr (Below.refl _ _) q u hq; rwa [Nat.zero_add] at t)
        have r4 : IntKind.i64.wrap ((j : Int) + 1) = ((j + 1 : Nat) : Int) := by have := HL.out; rw [IntWalk.i64_in _ (by omega)]; omega
        have r5 : IntKind.i64.wrap ((i : Int) + 1) = ((i + 1 : Nat) : Int) := by have := HL.out; rw [IntWalk.i64_in _ (by omega)]; omega
        have jk : (j : Int) < (n : Int) := by omega
        have ji : (i : Int) < (n : Int) := by omega
        have HXX := Lib.hid hx
        clear hc hx hMx
        go_wp2_with (first | (with_reducible refine wpList_load_rec Ses.isRec rfl _ rfl g (j * 20) (by with_unfolding_all exact rfl) x.enc (Ses.len _) HX.out ?_) | (refine wpList_alloc_row rfl 36 rfl Ses.zero.enc.toArray Ses.zero_is ?_))
        intro w2 b2 x2 z2
        obtain ⟨gV, hgV⟩ : ∃ q, q = wr.heap.size := ⟨_, rfl⟩
        have NV := Lib.hid (show g < gV from by rw [hgV]; exact (O0.out.lt g rfl).2)
        have MV := Lib.hid (show W.heap.size ≤ gV from by rw [hgV]; exact B0.out.size)
        rw [← hgV] at x2 ⊢
        have X2 : Hid (Ses.At w2 gV Ses.zero) := Lib.hid x2
        have O2 := Lib.hid (O0.out.below b2 rfl)
        have B2 := Lib.hid (B0.out.trans (b2.mono B0.out.size))
        clear b2 x2 z2 O0 B0 HX hgV
        go_wp2_with (with_reducible refine wpList_store_whole rfl 36 _ _ rfl gV x.enc.toArray (by with_unfolding_all exact rfl) (by with_unfolding_all exact rfl) _ _ X2.out (Ses.size _) rfl (Ses.one _) ?_)
        intro w3 q3 x3 z3
        have X3 : Hid (Ses.At w3 gV x) := Lib.hid x3
        have O3 := Lib.hid (O2.out.far q3 (fun e => by have h : g = gV := Option.some.inj e; have := NV.out; omega))
        have B3 := Lib.hid (B2.out.grown q3 B2.out.size (fun k hk => by injection hk with hk; have := MV.out; omega))
        clear q3 x3 z3 X2 O2 B2
        have CP := Lib.hid (HC.out x w3 B3.out)
        obtain ⟨q, hq⟩ : ∃ q, q = p x := ⟨_, rfl⟩
        simp only [← hq] at CP
        have HQ := Lib.hid hq
        clear hq
        go_wp2_with (with_reducible refine wpList_load_whole Ses.isRec rfl _ rfl gV (by with_unfolding_all exact rfl) _ _ (Ses.len _) X3.out ?_)
        refine CP.out.mono ?_
        rintro e w4 ⟨rfl, b4⟩
        have X4 : Hid (Ses.At w4 gV x) := Lib.hid (Whole.below X3.out b4 X3.out.lt)
        have O4 := Lib.hid (O3.out.below b4 rfl)
        have B4 := Lib.hid (B3.out.trans (b4.mono B3.out.size))
        clear b4 X3 O3 B3 CP
        cases q with
        | true =>
          have D5 := Lib.hid (D0.out.skip HXX.out HQ.out.symm)
          go_wp2
          exact ⟨⟨i, j + 1, M, rfl, by go_num, D5.out, O4.out, B4.out⟩, by simp [intOf]; omega⟩
        | false =>
          have D5 := Lib.hid (D0.out.keep HXX.out HQ.out.symm)
          have hil : i < (M.map Ses.enc).length := by rw [List.length_map, D0.out.len, ← HN.out]; omega
          have HIL := Lib.hid hil
          clear hil
          go_wp2_with (first | (with_reducible refine wpList_load_whole Ses.isRec rfl _ rfl gV (by with_unfolding_all exact rfl) _ _ (Ses.len _) X4.out ?_) | (with_reducible refine wpList_put_row (k := 20) rfl _ _ rfl (by with_unfolding_all exact Ses.size x) _ _ _ i g O4.out HIL.out rfl (by with_unfolding_all exact rfl) x.enc (by with_unfolding_all exact rfl) (Ses.len x) (fun u hu => (Ses.fits x).one u hu) ?_))
          intro w5 o5 q5 z5
          have O5 : Hid (OwnRows w5 W.heap.size 36 20 (.slice (some ⟨g, 0, none⟩) n cap) ((M.set i x).map Ses.enc)) := Lib.hid (o5.eqL (by rw [List.map_set]))
          have B5 := Lib.hid (B4.out.grown q5 B4.out.size (fun k hk => by injection hk with hk; have := HG.out; omega))
          clear o5 q5 z5 O4 B4 X4
          go_wp2
          exact ⟨⟨i + 1, j + 1, M.set i x, by go_num, by go_num, D5.out, O5.out, B5.out⟩, by simp [intOf]; omega⟩
      · obtain rfl : j = n := by omega
        have dk : decide ((j : Int) < (j : Int)) = false := by simp
        have hlen : j = (M.map Ses.enc).length := by rw [List.length_map, D0.out.len, HN.out]
        have HLN := Lib.hid hlen
        have HIJ := Lib.hid hij
        have hcp := O0.out.rows.size.2
        have HCP := Lib.hid hcp
        clear hlen hcp
        go_wp2_with (first | (with_reducible refine wpList_exec rfl _ (exec_slice_lo _ _ rfl g 0 j cap i (by with_unfolding_all exact rfl) (by with_unfolding_all exact rfl) (Nat.le_of_lt HIJ.out) _) ?_) | (with_reducible refine wpList_clear_rows rfl _ rfl g j cap i (cap - i) _ O0.out HLN.out (Nat.le_of_lt HIJ.out) (sufA g 0 cap i) (fun q => by rw [sufA_is q HCP.out, Nat.zero_add]) (by with_unfolding_all exact rfl) ?_))
        intro w5 o5 q5
        have O5 := Lib.hid o5
        have B5 := Lib.hid (B0.out.grown q5 B0.out.size (fun k hk => by injection hk with hk; have := HG.out; omega))
        clear o5 q5 O0 B0
        go_wp2_with (with_reducible refine wpList_exec rfl _ (exec_slice_hi _ _ rfl (some ⟨g, 0, none⟩) j cap i (by with_unfolding_all exact rfl) (by with_unfolding_all exact rfl) (by have := HIJ.out; have := HCP.out; omega) _) ?_)
        go_wp2
        go_ret
        have HV : (M.map Ses.enc).take i = (l.filter fun s => !p s).map Ses.enc := by
          rw [← List.map_take, Del.all (by have := D0.out; rw [HN.out] at this; exact this)]
        exact ⟨_, rfl, O5.out.eqL HV, B5.out⟩

theorem enter_close1 : ∀ args w, (callFunc 46 args).run Try.prog w = .ok (.enter 46 args) w := by
  intro args w
  have hn : decide (Try.f46.name = "runtime.NumGoroutine") = false := by kernel_rfl
  have hb : Try.f46.body.isNone = false := by kernel_rfl
  exact enter_of Try.func46 hn hb args w
def nameP (n : List UInt8) (s : Ses) : Bool := decide (s.peer.name = n)
set_option maxRecDepth 100000 in
set_option maxHeartbeats 1000000 in
theorem close1_any (n : List UInt8) (g : Nat) (s : Ses) (w : World) (h : CellAt w g (.string ⟨n.toArray⟩)) :
    Calls Try.prog 46 #[s.val, .pointer (some ⟨g, 0, none⟩)] w fun e w' => e = .returned (.bool (nameP n s)) ∧ Below w.heap.size w w' := by
  obtain ⟨q, hq⟩ : ∃ q, q = nameP n s := ⟨_, rfl⟩
  have e1 : (s.peer.name == n) = q := by rw [hq, nameP, Bool.eq_iff_iff, beq_iff_eq, decide_eq_true_eq]
  rw [← hq]
  clear hq
  go_enter Try.func46, Try.ntmps46
  have C0 : Hid (CellAt w g (.string ⟨n.toArray⟩)) := Lib.hid (h)
  clear h
  go_wp2_with (refine wpList_box_row rfl 36 _ rfl s.enc.toArray (by with_unfolding_all exact rfl) ?_)
  intro w1 b1 x1 z1
  obtain ⟨gS, hgS⟩ : ∃ g, g = w.heap.size := ⟨_, rfl⟩
  have M_S := Lib.hid (show w.heap.size ≤ gS from by rw [hgS]; exact Nat.le_refl _)
  have C1 : Hid (CellAt w1 g (.string ⟨n.toArray⟩)) := Lib.hid (C0.out.below b1)
  have B1 := Lib.hid b1
  rw [← hgS] at x1 ⊢
  have S1 : Hid (Ses.At w1 gS s) := Lib.hid x1
  clear b1 x1 z1 hgS C0
  have c1 := Ses.At.at_peer_name S1.out
  have c2 := C1.out.cell
  go_wp2
  go_ret
  exact ⟨rfl, B1.out⟩
set_option maxRecDepth 100000 in
set_option maxHeartbeats 1000000 in
theorem tbClose_any (A : Option Addr) (m cap : Nat) (l : List Ses) (n : List UInt8) (base : Nat) (w : World) (hb : base ≤ w.heap.size) (hl : l.length ≤ 100000) (h : RowsAt w (.slice A m cap) 20 (l.map Ses.enc)) :
    Calls Try.prog 26 #[.slice A m cap, .string ⟨n.toArray⟩] w fun e w' => ∃ v, e = .returned v ∧ OwnRows w' base 36 20 v ((closeS l n).map Ses.enc) ∧ Below w.heap.size w w' := by
  have HB := Lib.hid hb
  have HL := Lib.hid hl
  have HR := Lib.hid h
  have hmf : ∀ (fn : Fn) (first cap : Array Value) (w : World), (Instr.makeFunc fn first cap).run Try.prog w = .ok (.func fn first cap) w := fun _ _ _ _ => rfl
  clear hb hl h
  go_enter Try.func26, Try.ntmps26
  go_wp2_with (refine wpList_box_one rfl 9 _ rfl (.string ⟨n.toArray⟩) (by with_unfolding_all exact rfl) (by with_unfolding_all exact rfl) ?_)
  intro wa b1 x1 z1
  obtain ⟨gn, hgn⟩ : ∃ q, q = w.heap.size := ⟨_, rfl⟩
  have BA := Lib.hid b1
  rw [← hgn] at x1 ⊢
  have XA := Lib.hid x1
  have LA := Lib.hid (HR.out.below BA.out)
  clear b1 z1 hgn x1
  go_wp2_with (with_reducible refine wpList_build_1 rfl _ rfl A m cap l (by with_unfolding_all exact rfl) LA.out ?_)
  intro wp bp xp
  have BP := Lib.hid bp
  have XP := Lib.hid xp
  clear bp xp
  go_wp2_with fail
  refine (concatS_any _ 1 [l] rfl wa.heap.size wp BP.out.size XP.out (by decide) (by have := HL.out; simp; omega)).mono ?_
  rintro e wq ⟨v, rfl, oq, bq⟩
  have OQ : Hid (OwnRows wq wa.heap.size 36 20 v (l.map Ses.enc)) := Lib.hid (oq.eqL (by simp))
  have BQ := Lib.hid (BP.out.trans (bq.mono BP.out.size))
  clear oq bq BP XP LA
  go_wp2_with fail
  refine (deleteFunc_any wa 46 #[.pointer (some ⟨gn, 0, none⟩)] (nameP n) ⟨enter_close1, fun s w' hb => close1_any n gn s w' (XA.out.below hb)⟩ v l HL.out wq BQ.out OQ.out).mono ?_
  rintro e w3 ⟨v', rfl, o3, b3⟩
  have O3 := Lib.hid o3
  have B3 := Lib.hid (BA.out.trans (b3.mono BA.out.size))
  clear o3 b3 OQ BQ hmf
  go_wp2
  go_ret
  exact ⟨v', rfl, (O3.out.less (Nat.le_trans HB.out BA.out.size)).eqL (by rw [closeS]; congr 2; funext s; rw [nameP]; exact decide_not.symm), B3.out⟩
end Go.Proofs.Ytjohlnpalcmhbaa
