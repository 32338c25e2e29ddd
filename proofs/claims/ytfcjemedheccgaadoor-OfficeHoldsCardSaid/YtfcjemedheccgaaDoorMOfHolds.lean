/- OfficeHolds' core. -/
import Derived.Test.YtfcjemedheccgaaDoorMOfH
import Derived.Test.YtfcjemedheccgaaDoorGbe
import Derived.Test.YtfcjemedheccgaaDoorGbg
namespace Go.Proofs.YtfcjemedheccgaaDoor
set_option maxRecDepth 100000
open Go.RowKit

/-- The office, the names that were revoked (the call's own), apart. -/
structure HoAt (W wr : World) (g : Nat) (v u x : Value) (gn : List (List UInt8)) (s : OS) : Prop where
  off : OffAt wr g v u s
  names : OwnRows wr W.heap.size 9 1 x (nmC gn)
  apart : ∀ i, x.ownBlock = some i → ¬ Foot g v u i
  feet : ∀ i, Foot g v u i → W.heap.size ≤ i
  low : Below W.heap.size W wr
section
variable {W wr w' : World} {g : Nat} {v u x v' u' x' : Value} {gn : List (List UInt8)} {s s' : OS}
theorem HoAt.move (h : HoAt W wr g v u x gn s) (o : OffAt w' g v' u' s') (m : Moves (Foot g v u) (Foot g v' u') wr w') : HoAt W w' g v' u' x gn s' :=
  ⟨o, h.names.keeps m.keeps (fun i e => h.apart i e), fun i e k => (m.foot i k).elim (h.apart i e) (fun q => by have := (h.names.lt i e).2; omega), fun i k => (m.foot i k).elim (h.feet i) (fun q => Nat.le_trans h.low.size q), h.low.trans (m.keeps.below h.feet h.low.size)⟩
theorem HoAt.below (h : HoAt W wr g v u x gn s) (b : Below wr.heap.size wr w') : HoAt W w' g v u x gn s := h.move (h.off.below b) (Moves.of_below _ b)
theorem HoAt.append {n : List UInt8} (h : HoAt W wr g v u x gn s) (q : wr.grownBy w' x.ownBlock) (ho : OwnRows w' W.heap.size 9 1 x' (nmC gn ++ nmC [n])) (hat : x'.ownBlock = x.ownBlock ∨ x'.ownBlock = some wr.heap.size) : HoAt W w' g v u x' (gn ++ [n]) s :=
  ⟨h.off.keeps (F := fun i => x.ownBlock = some i) (Keeps.of_grown q (fun k e => .inl e)) (fun i f k => h.apart i k f), by rw [nmC_append]; exact ho,
    fun i e f => hat.elim (fun k => h.apart i (k ▸ e) f) (fun k => by rw [k] at e; injection e with e; have := h.off.lt i f; omega), h.feet, h.low.grown q h.low.size (fun k hk => (h.names.lt k hk).1)⟩
end
theorem rev_gone {s : OS} {n : List UInt8} : (revS s n).gone = if revC s n = 0 then s.gone ++ [n] else s.gone := by
  rw [revS]
  split
  · rw [advS]
    split <;> rfl
  · rfl
theorem iss_gone {s : OS} {n : List UInt8} {id : Nat} {f u : Int} : (issS s n id f u).gone = s.gone := by
  rw [issS]
  split <;> rfl
theorem adv_gone {s : OS} : (advS s).gone = s.gone := by
  rw [advS]
  split <;> rfl
/-- Rows from a place on. -/
theorem rows_rest {w : World} {A : Option Addr} {m cap k : Nat} {L : List (List Value)} (h : RowsAt w (.slice A m cap) k L) (lo : Nat) (hlo : lo ≤ m) : RowsAt w (sliced A lo m cap k) k (L.drop lo) := by
  obtain ⟨A', cap', e, hcap, hc⟩ := h
  injection e with e1 e2 e3
  subst e1 e2 e3
  refine ⟨_, cap - lo, by rw [sliced, List.length_drop], by rw [List.length_drop]; omega, fun hl => ?_⟩
  have hlt : lo < L.length := by
    rcases Nat.lt_or_ge lo L.length with q | q
    · exact q
    · exact absurd (List.drop_eq_nil_of_le q) hl
  obtain ⟨ad, rfl, hcell⟩ := hc (by rintro rfl; simp at hlt)
  rw [if_neg (by omega)]
  refine ⟨ad.add (lo * k), rfl, fun i c hi j u hj => ?_⟩
  rw [List.getElem?_drop] at hi
  rw [Addr.add_add, show lo * k + (i * k + j) = (lo + i) * k + j by rw [Nat.add_mul]; omega]
  exact hcell _ c hi j u hj
theorem exec_rest {ev : Operand → Value} {o : Oper} (x y : Operand) (ho : o.op = .slice 40 x (some y) none none) (A : Option Addr) (m cap lo : Nat) (hx : ev x = .slice A m cap) (hy : ev y = .int .i64 (lo : Int)) (hlo : lo ≤ m) (w : World) :
    (execOp ev o).run Tryd.prog w = .ok (.value (sliced A lo m cap 6)) w := by
  have hu : Tryd.prog.underlying 40 = some (.slice (Tryd.prog.elem 40)) := by kernel_rfl
  have he : Tryd.prog.elem 40 = 48 := by kernel_rfl
  obtain ⟨i, h1, h2, h3⟩ := Ent.info
  have q := run_slice_l (w := w) 40 A m cap hu .i64 (lo : Int) (by omega) (by omega)
  have hz : (sizeOf 48).run Tryd.prog w = .ok 6 w := by simp [sizeOf, typeInfo, h1, h3]
  rw [he, hz, Result.andThen_ok, Int.toNat_natCast] at q
  unfold execOp
  simp only [ho, Option.map_some, Option.map_none, hx, hy]
  have q2 := (run_sliceAt_slice (w := w) 40 (.slice A m cap) (some (.int .i64 (lo : Int))) none none hu).trans q
  simp [q2]
theorem exec_neq_int {ev : Operand → Value} {o : Oper} (x y : Operand) (r : TypeId) (ho : o.op = .binOp .neq 3 x y r) (a b : Int) (hx : ev x = .int .i64 a) (hy : ev y = .int .i64 b) (q : Bool) (hq : (a != b) = q) (w : World) :
    (execOp ev o).run Tryd.prog w = .ok (.value (.bool q)) w := by
  subst hq
  unfold execOp
  simp only [ho, hx, hy]
  go_simp
theorem exec_lss_int {ev : Operand → Value} {o : Oper} (x y : Operand) {r : TypeId} (ho : o.op = .binOp .lss 3 x y r) (a b : Int) (hx : ev x = .int .i64 a) (hy : ev y = .int .i64 b) (q : Bool) (hq : decide (a < b) = q) (w : World) :
    (execOp ev o).run Tryd.prog w = .ok (.value (.bool q)) w := by
  subst hq
  unfold execOp
  simp only [ho, hx, hy]
  go_simp
theorem wpList_lss_int {ops : Array Oper} {rest : List Oper} {o : Oper} {a : Act} {w : World} {Q : Exit → Act → World → Prop} (hgd : o.guard = none) (x y : Operand) {r : TypeId} (ho : o.op = .binOp .lss 3 x y r) (p q : Int) (hx : a.eval x = .int .i64 p) (hy : a.eval y = .int .i64 q) (b : Bool) (hb : decide (p < q) = b)
    (h : wpList Tryd.prog ops Q rest (a.put o.dst (.bool b)) w) : wpList Tryd.prog ops Q (o :: rest) a w :=
  wpList_plain hgd fun K hK => by
    have e := exec_lss_int (o := o) (ev := a.eval) x y ho p q hx hy b hb w
    have q' := hK _ _ h
    unfold Oper.wp
    rw [e]
    exact q'
/-- An office with 6 gates. -/
theorem six_good : ¬ keyBad 6 0 := by decide
set_option maxHeartbeats 4000000 in
theorem offHolds_core (seed : List UInt8) (A : Option Addr) (m cap : Nat) (l : List Deed) (hid : ∀ d ∈ l, d.id < 18446744073709551616) (w : World) (T : Tab w) (h : RowsAt w (.slice A m cap) 5 (l.map Deed.enc)) :
    Calls Tryd.prog 5 #[.string ⟨seed.toArray⟩, .slice A m cap] w fun e w' => e = .returned (.bool true) ∧ Below w.heap.size w w' := by
  have H := Lib.hid h
  have hlen := h.size.1
  rw [List.length_map] at hlen
  have HL := Lib.hid hlen
  have T0 := Lib.hid T
  have HID := Lib.hid hid
  have CG := fun w1 (b : Below w.heap.size w w1) => Lib.hid (greatD_any A m cap l w1 (H.out.below b))
  have WK := Lib.hid (works14 w T)
  by_cases hs : 300 < seed.length
  · have d : decide ((seed.length : Int) > 300) = true := by simp; omega
    have d' : decide ((300 : Int) < (seed.length : Int)) = true := by simp; omega
    have d'' : decide (300 < seed.length) = true := by simp; omega
    clear hs h hlen T hid
    go_enter Tryd.func5, Tryd.ntmps5
    go_wp2_with fail
    refine WK.out.mono ?_
    rintro e w1 ⟨rfl, b1⟩
    have B1 := Lib.hid b1
    clear b1
    go_wp2
    go_ret
    exact ⟨rfl, B1.out⟩
  have d : decide ((seed.length : Int) > 300) = false := by simp; omega
  have d' : decide ((300 : Int) < (seed.length : Int)) = false := by simp; omega
  have d'' : decide (300 < seed.length) = false := by simp; omega
  have HS : Hid (seed.length ≤ 4000) := Lib.hid (by omega)
  obtain ⟨q, hq⟩ : ∃ q, q = greatD l := ⟨_, rfl⟩
  have HQ := Lib.hid hq
  rw [← hq] at CG
  clear hs h hlen T hid hq
  cases q with
  | true =>
    go_enter Tryd.func5, Tryd.ntmps5
    go_wp2_with fail
    refine WK.out.mono ?_
    rintro e w1 ⟨rfl, b1⟩
    have B1 := Lib.hid b1
    clear b1
    go_wp2_with fail
    refine (CG w1 B1.out).out.mono ?_
    rintro e w2 ⟨rfl, rfl⟩
    go_wp2
    go_ret
    exact ⟨rfl, B1.out⟩
  | false =>
    obtain ⟨hm20, hnm⟩ := greatD_no HQ.out.symm
    have HNM := Lib.hid hnm
    have HM20 : Hid (m ≤ 20) := Lib.hid (by rw [HL.out]; exact hm20)
    clear hm20 hnm
    have C1 := fun w t => Lib.hid (offNew_good seed 6 HS.out six_good w t)
    obtain ⟨s0, hs0⟩ : ∃ q : OS, q = ⟨seed, 6, 0, [], []⟩ := ⟨_, rfl⟩
    rw [← hs0] at C1
    have HG0 : Hid (s0.gone = []) := Lib.hid (by rw [hs0])
    have OK0 : Hid (s0.Ok 0) := Lib.hid (by
      rw [hs0]
      exact ⟨HS.out, by show (1 : Int) ≤ 6; decide, by show (6 : Int) ≤ 64; decide, Int.le_refl _, by show (0 : Int) ≤ 6; decide, Nat.le_refl _, Nat.le_refl _, fun e he => by cases he⟩)
    have HH : Hid (∀ l, (deedsS s0 l).Held) := Lib.hid (fun l => by
      rw [hs0]
      exact OS.Held.deeds (OS.Held.new (by decide) (by decide)) l)
    have OKK : Hid (∀ k, k ≤ 20 → (deedsS s0 (l.take k)).Ok (2 ^ (k + 1))) := Lib.hid (fun k hk => OK0.out.deeds_in _ k (by rw [List.length_take]; omega) (fun d hd => by
      have := List.mem_of_mem_take hd
      exact ⟨HNM.out d this, HID.out d this⟩))
    clear hs0
    go_enter Tryd.func5, Tryd.ntmps5
    go_wp2_with fail
    refine WK.out.mono ?_
    rintro e w1 ⟨rfl, b1⟩
    have B1 := Lib.hid b1
    clear b1 WK
    go_wp2_with fail
    refine (CG w1 B1.out).out.mono ?_
    rintro e w2 ⟨rfl, rfl⟩
    clear CG
    go_wp2_with fail
    refine (C1 w1 (T0.out.below B1.out T0.out.pos)).out.mono ?_
    rintro e w2 ⟨g, rfl, o2, hg, b2⟩
    have I2 : Hid (∃ v u, HoAt w w2 g v u (.slice none 0 0) (deedsS s0 (l.take 0)).gone (deedsS s0 (l.take 0))) := Lib.hid ⟨.slice none 0 0, .slice none 0 0, o2, (by
      rw [show (deedsS s0 (l.take 0)).gone = [] from HG0.out]; exact OwnRows.nil _ _ _ _), (fun i e => by cases e), (fun i k => by
        rcases k with e | e | e
        · have := B1.out.size; omega
        · cases e
        · cases e), B1.out.trans (b2.mono B1.out.size)⟩
    clear b2 o2 hg C1 B1
    go_wp2_with fail
    go_loopw [7, 39] (fun x i wr => ∃ k : Nat, k ≤ m ∧ i = .int .i64 (k : Int) ∧ ∃ v u, HoAt w wr g v u x (deedsS s0 (l.take k)).gone (deedsS s0 (l.take k))) (fun _ i _ => m - (intOf i).toNat)
    case atStart => exact ⟨0, Nat.zero_le _, rfl, I2.out⟩
    case round =>
      clear I2
      obtain ⟨k, hk, rfl, v, u, hr⟩ := hrel
      have I := Lib.hid hr
      clear hr
      by_cases hlt : k < m
      · have dk : decide ((k : Int) < (m : Int)) = true := by simp; omega
        have jk : (k : Int) < (m : Int) := by omega
        have r4 : IntKind.i64.wrap ((k : Int) + 1) = ((k + 1 : Nat) : Int) := by have := HM20.out; rw [IntWalk.i64_in _ (by omega)]; omega
        obtain ⟨y, hx⟩ : ∃ x, l[k]? = some x := ⟨_, List.getElem?_eq_getElem (by rw [← HL.out]; exact hlt)⟩
        obtain ⟨gl, off, rfl, hgl, hc⟩ := H.out.row (fun c hc => (deedC_one l c hc).1) (by decide) (by rw [List.getElem?_map, hx]; rfl : (l.map Deed.enc)[k]? = some y.enc)
        have HC := Lib.hid (fun j u (hj : y.enc[j]? = some u) => (I.out.low.cell (p := ⟨gl, off + k * 5 + j, none⟩) hgl).trans (hc j u hj))
        have HX : Hid (y.name.length ≤ 1000 ∧ y.id < 18446744073709551616) := Lib.hid (by have h1 := List.mem_of_getElem? hx; have h2 := HNM.out y h1; exact ⟨by omega, HID.out y h1⟩)
        have HT : Hid (deedsS s0 (l.take (k + 1)) = deedS (deedsS s0 (l.take k)) y) := Lib.hid (by rw [List.take_add_one, hx]; exact deedsS_snoc s0 _ y)
        have OK1 : Hid ((deedsS s0 (l.take k)).Ok 1048576) := Lib.hid ((OKK.out k (by have := HM20.out; omega)).mono (Nat.le_trans (Nat.pow_le_pow_right (by decide : 2 > 0) (by have := HM20.out; omega : k + 1 ≤ 20)) (by decide : 2 ^ 20 ≤ 1048576)))
        obtain ⟨S, hS⟩ : ∃ q, q = deedsS s0 (l.take k) := ⟨_, rfl⟩
        obtain ⟨S', hS'⟩ : ∃ q, q = deedsS s0 (l.take (k + 1)) := ⟨_, rfl⟩
        have HS' := Lib.hid hS'
        rw [← hS] at I HT OK1
        rw [← hS'] at HT
        clear hx hc hgl hS hS'
        go_wp2_with (first | (with_reducible refine wpList_load_rec Deed.isRec rfl _ rfl gl (off + k * 5) (by with_unfolding_all exact rfl) y.enc (Deed.len _) HC.out ?_) | (refine wpList_alloc_row rfl 35 rfl Deed.zero.enc.toArray Deed.zero_is ?_))
        intro w3 b3 x3 z3
        have X3 := Lib.hid x3
        have B3 := Lib.hid b3
        obtain ⟨gD, hD⟩ : ∃ q, q = wr.heap.size := ⟨_, rfl⟩
        have HDD := Lib.hid hD
        rw [← hD] at X3 ⊢
        clear b3 x3 z3 hD HC
        go_wp2_with (with_reducible refine wpList_store_whole rfl 35 _ _ rfl gD y.enc.toArray (by with_unfolding_all exact rfl) (by with_unfolding_all exact rfl) _ _ X3.out (Deed.size _) rfl (Deed.one _) ?_)
        intro w4 q4 x4 z4
        have D4 : Hid (Deed.At w4 gD y) := Lib.hid x4
        have B4 := Lib.hid (B3.out.grown q4 B3.out.size (fun k hk => by injection hk with hk; have := HDD.out; omega))
        have I4 := Lib.hid (I.out.below B4.out)
        have FD : Hid (¬ Foot g v u gD) := Lib.hid (fun q => by have := I.out.off.lt _ q; have := HDD.out; omega)
        have AW : Hid (Away (Foot g v u)) := Lib.hid (fun q => by have := I.out.feet _ q; have := T0.out.pos; omega)
        have T4 := Lib.hid (T0.out.below I4.out.low T0.out.pos)
        clear q4 x4 z4 X3 B3 B4 I HDD
        obtain ⟨c0, c1, c2, c3, c4⟩ := Deed.At.cells D4.out
        by_cases h0 : y.kind = 0
        · have e0 : (y.kind == 0) = true := by simpa using h0
          have CI := Lib.hid (issue_any g v u S 1048576 OK1.out (by decide) y.name y.id y.since y.till HX.out.1 HX.out.2 w4 T4.out AW.out I4.out.off)
          have HV : Hid (S' = issS S y.name y.id y.since y.till) := Lib.hid (by rw [HT.out, deedS, if_pos h0])
          clear h0
          go_wp2_with fail
          refine CI.out.mono ?_
          rintro e w5 ⟨rfl, v', o5, m5⟩
          have I5 : Hid (HoAt w w5 g v' u u7 S'.gone S') := Lib.hid (by rw [HV.out, iss_gone]; exact I4.out.move o5 m5)
          clear o5 m5 CI I4 D4 c0 c1 c2 c3 c4
          go_wp2
          exact ⟨⟨k + 1, by omega, by go_num, v', u, by rw [← HS'.out]; exact I5.out⟩, by simp [intOf]; omega⟩
        have e0 : (y.kind == 0) = false := by simpa using h0
        by_cases h1 : y.kind = 1
        · have e1 : (y.kind == 1) = true := by simpa using h1
          have CI := Lib.hid (advance_any g v u S 1048576 OK1.out (by decide) w4 T4.out AW.out I4.out.off)
          have HV : Hid (S' = advS S) := Lib.hid (by rw [HT.out, deedS, if_neg h0, if_pos h1])
          clear h0 h1
          go_wp2_with fail
          refine CI.out.mono ?_
          rintro e w5 ⟨z, v', rfl, z5, o5, m5⟩
          have I5 : Hid (HoAt w w5 g v' u u7 S'.gone S') := Lib.hid (by rw [HV.out, adv_gone]; exact I4.out.move o5 m5)
          clear z5 o5 m5 CI I4 D4 c0 c1 c2 c3 c4
          go_wp2
          exact ⟨⟨k + 1, by omega, by go_num, v', u, by rw [← HS'.out]; exact I5.out⟩, by simp [intOf]; omega⟩
        have e1 : (y.kind == 1) = false := by simpa using h1
        by_cases h2 : y.kind = 2
        · have e2 : (y.kind == 2) = true := by simpa using h2
          have CI := Lib.hid (revoke_any g v u S y.name 1048576 OK1.out (by decide) w4 T4.out AW.out I4.out.off)
          have HV : Hid (S' = revS S y.name) := Lib.hid (by rw [HT.out, deedS, if_neg h0, if_neg h1, if_pos h2])
          have HLN : Hid ((nmC S.gone).length + (nmC [y.name]).length ≤ 10000000) := Lib.hid (by rw [nmC_length]; have := OK1.out.gone; simp [nmC]; omega)
          clear h0 h1 h2
          obtain ⟨C, hC⟩ : ∃ q, q = revC S y.name := ⟨_, rfl⟩
          have HCC := Lib.hid hC
          rw [← hC] at CI
          clear hC
          go_wp2_with fail
          refine CI.out.mono ?_
          rintro e w5 ⟨z, v', u', rfl, z5, o5, m5⟩
          have I5 : Hid (HoAt w w5 g v' u' u7 S.gone S') := Lib.hid (by rw [HV.out]; exact I4.out.move o5 m5)
          have D5 : Hid (Deed.At w5 gD y) := Lib.hid (Whole.keeps D4.out m5.keeps FD.out)
          clear z5 o5 m5 CI I4 D4 c0 c1 c2 c3 c4
          obtain ⟨-, c1, -⟩ := Deed.At.cells D5.out
          by_cases hz : C = 0
          · have r : (C == 0) = true := by simpa using hz
            have HG : Hid (S'.gone = S.gone ++ [y.name]) := Lib.hid (by rw [HV.out, rev_gone, ← HCC.out, if_pos hz])
            clear hz
            go_wp2_with (with_reducible refine wpList_one_str rfl _ rfl y.name (by with_unfolding_all exact rfl) ?_)
            intro w6 b6 y6 z6
            have I6 := Lib.hid (I5.out.below b6)
            have Y6 := Lib.hid y6
            clear b6 y6 z6 I5 D5 c1
            go_wp2_with (with_reducible refine wpList_append_rows_at strZ rfl _ _ rfl u7 (by with_unfolding_all exact rfl) I6.out.names _ (nmC [y.name]) (by with_unfolding_all exact rfl) Y6.out (nmC_one _) HLN.out I6.out.low.size ?_)
            intro x' w7 o7 q7 h7
            have I7 : Hid (HoAt w w7 g v' u' x' S'.gone S') := Lib.hid (by rw [HG.out]; exact I6.out.append q7 o7 h7)
            clear o7 q7 h7 I6 Y6
            go_wp2
            exact ⟨⟨k + 1, by omega, by go_num, v', u', by rw [← HS'.out]; exact I7.out⟩, by simp [intOf]; omega⟩
          · have r : (C == 0) = false := by simpa using hz
            have HG : Hid (S'.gone = S.gone) := Lib.hid (by rw [HV.out, rev_gone, ← HCC.out, if_neg hz])
            have I6 : Hid (HoAt w w5 g v' u' u7 S'.gone S') := Lib.hid (by rw [HG.out]; exact I5.out)
            clear hz I5 D5 c1
            go_wp2
            exact ⟨⟨k + 1, by omega, by go_num, v', u', by rw [← HS'.out]; exact I6.out⟩, by simp [intOf]; omega⟩
        · have e2 : (y.kind == 2) = false := by simpa using h2
          have HV : Hid (S' = S) := Lib.hid (by rw [HT.out, deedS, if_neg h0, if_neg h1, if_neg h2])
          have I5 : Hid (HoAt w w4 g v u u7 S'.gone S') := Lib.hid (by rw [HV.out]; exact I4.out)
          clear h0 h1 h2 I4
          go_wp2
          exact ⟨⟨k + 1, by omega, by go_num, v, u, by rw [← HS'.out]; exact I5.out⟩, by simp [intOf]; omega⟩
      · have dk : decide ((k : Int) < (m : Int)) = false := by simp; omega
        have OK2 : Hid ((deedsS s0 (l.take k)).Ok 2097152) := Lib.hid ((OKK.out k (by have := HM20.out; omega)).mono (Nat.le_trans (Nat.pow_le_pow_right (by decide : 2 > 0) (by have := HM20.out; omega : k + 1 ≤ 21)) (by decide : 2 ^ 21 ≤ 2097152)))
        have HHS := Lib.hid (HH.out (l.take k))
        obtain ⟨S, hS⟩ : ∃ q, q = deedsS s0 (l.take k) := ⟨_, rfl⟩
        rw [← hS] at I OK2 HHS
        clear hS HH OKK OK0 HG0
        obtain ⟨A2, cap2, hu⟩ := I.out.names.form
        rw [nmC_length] at hu
        subst hu
        go_wp2_with fail
        refine (offGate_any g v u S 2097152 OK2.out wr (T0.out.below I.out.low T0.out.pos) I.out.off).mono ?_
        rintro e w3 ⟨rfl, b3⟩
        have I3 := Lib.hid (I.out.below b3)
        clear b3 I
        go_wp2_with (refine wpList_alloc_row rfl 37 rfl (gateC 0 []) gate_zero ?_)
        intro w4 b4 x4 z4
        have X4 := Lib.hid x4
        have B4 := Lib.hid b4
        obtain ⟨gG, hG⟩ : ∃ q, q = w3.heap.size := ⟨_, rfl⟩
        have HGG := Lib.hid hG
        rw [← hG] at X4 ⊢
        clear b4 x4 z4 hG
        go_wp2_with (with_reducible refine wpList_store_whole rfl 37 _ _ rfl gG (gateC S.idx S.key) (by with_unfolding_all exact rfl) (by with_unfolding_all exact rfl) _ _ X4.out (gate_size _ _) rfl (gate_one _ _) ?_)
        intro w5 q5 x5 z5
        have G5 : Hid (Gate.At w5 gG ⟨S.idx, S.key⟩) := Lib.hid x5
        have I5 := Lib.hid (I3.out.below (B4.out.grown q5 B4.out.size (fun k hk => by injection hk with hk; have := HGG.out; omega)))
        clear q5 x5 z5 X4 B4 I3 HGG
        go_wp2_with fail
        refine (issued_any g v u S 2097152 OK2.out (by decide) w5 I5.out.off).mono ?_
        rintro e w6 ⟨al, rfl, o6, b6⟩
        obtain ⟨A5, cap5, hal⟩ := o6.form
        rw [List.length_map] at hal
        subst hal
        have R6 := Lib.hid o6.rows
        have N6 := Lib.hid (I5.out.names.rows.below b6)
        have G6 : Hid (Gate.At w6 gG ⟨S.idx, S.key⟩) := Lib.hid (Whole.below G5.out b6 G5.out.lt)
        have L6 := Lib.hid (I5.out.low.trans (b6.mono I5.out.low.size))
        have T6 := Lib.hid (T0.out.below L6.out T0.out.pos)
        have HNL : Hid (S.issued.length ≤ 2097152 ∧ S.gone.length ≤ 2097152) := Lib.hid ⟨OK2.out.many, OK2.out.gone⟩
        have HKY : Hid (S.key.length ≤ 4000) := Lib.hid (by rw [OK2.out.key]; decide)
        clear o6 b6 I5 G5
        obtain ⟨n, hn⟩ : ∃ q, q = S.issued.length := ⟨_, rfl⟩
        have HNN := Lib.hid hn
        rw [← hn] at R6 HNL ⊢
        clear hn
        go_wp2_with fail
        go_loopw [84] (fun i wr => ∃ j : Nat, j ≤ n ∧ i = .int .i64 (j : Int) ∧ Below w6.heap.size w6 wr) (fun i _ => n - (intOf i).toNat)
        case atStart => exact ⟨0, Nat.zero_le _, rfl, Below.refl _ _⟩
        case round =>
          obtain ⟨j, hj, rfl, hb⟩ := hrel
          have B0 := Lib.hid hb
          clear hb
          by_cases hlt2 : j < n
          · have dj : decide ((j : Int) < (n : Int)) = true := by simp; omega
            have jj : (j : Int) < (n : Int) := by omega
            have r5 : IntKind.i64.wrap ((j : Int) + 1) = ((j + 1 : Nat) : Int) := by have := HNL.out.1; rw [IntWalk.i64_in _ (by omega)]; omega
            obtain ⟨y, hx⟩ : ∃ x, S.issued[j]? = some x := ⟨_, List.getElem?_eq_getElem (by rw [← HNN.out]; exact hlt2)⟩
            have R0 := R6
            obtain ⟨bl, off2, rfl, hbl, hc⟩ := R6.out.row (fun c hc => (entC_one S.issued c hc).1) (by decide) (by rw [List.getElem?_map, hx]; rfl : (S.issued.map Ent.enc)[j]? = some y.enc)
            have HC := Lib.hid (fun i u (hi : y.enc[i]? = some u) => (B0.out.cell (p := ⟨bl, off2 + j * 6 + i, none⟩) hbl).trans (hc i u hi))
            have HYM := Lib.hid (List.mem_of_getElem? hx)
            have HYI := Lib.hid (HHS.out.one y HYM.out)
            have HYV := Lib.hid (HHS.out.want HYM.out)
            have HYL := Lib.hid (HHS.out.last hx)
            have HYN : Hid (y.name.length ≤ 1000 ∧ y.tag.length ≤ 1000) := Lib.hid ⟨(OK2.out.ents y HYM.out).1, by
              have q := HYI.out.1
              simp only [entR, Bool.and_eq_true, decide_eq_true_eq] at q
              have := q.1.1.1.1.1.2
              omega⟩
            clear hx hc hbl R0
            go_wp2_with (first | (with_reducible refine wpList_load_rec Ent.isRec rfl _ rfl bl (off2 + j * 6) (by with_unfolding_all exact rfl) y.enc (Ent.len _) HC.out ?_) | (refine wpList_alloc_row rfl 48 rfl ent0.cells ent_zero ?_))
            intro w7 b7 x7 z7
            have X7 := Lib.hid x7
            have B7 := Lib.hid b7
            obtain ⟨gE, hE⟩ : ∃ q, q = wr.heap.size := ⟨_, rfl⟩
            have HEE := Lib.hid hE
            rw [← hE] at X7 ⊢
            clear b7 x7 z7 hE HC
            go_wp2_with (with_reducible refine wpList_store_whole rfl 48 _ _ rfl gE y.cells (by with_unfolding_all exact rfl) (by with_unfolding_all exact rfl) _ _ X7.out (ent_size' _) rfl (Ent.cells_one _) ?_)
            intro w8 q8 x8 z8
            have E8 : Hid (Ent.At w8 gE y) := Lib.hid x8
            have B8 := Lib.hid (B0.out.trans ((B7.out.grown q8 B7.out.size (fun k hk => by injection hk with hk; have := HEE.out; omega)).mono B0.out.size))
            have G8 : Hid (Gate.At w8 gG ⟨S.idx, S.key⟩) := Lib.hid (Whole.below G6.out B8.out G6.out.lt)
            clear q8 x8 z8 X7 B7 B0 HEE
            have CV1 := fun w t => Lib.hid (tkValid_any S.idx S.key y y.since HKY.out HYN.out.1 HYN.out.2 w t)
            have CV2 := fun w t => Lib.hid (tkValid_any S.idx S.key y y.till HKY.out HYN.out.1 HYN.out.2 w t)
            rw [HYV.out.1] at CV1
            rw [HYV.out.2] at CV2
            by_cases hi : y.index = S.idx
            · rw [wantC, if_neg (by omega)] at CV1 CV2
              have t1 : (y.index != S.idx) = false := by simp [hi]
              have t2 : decide (y.index < S.idx) = false := by simp; omega
              have t3 : decide (y.index > S.idx) = false := by simp; omega
              have t4 : decide (S.idx < y.index) = false := by simp; omega
              clear hi
              go_wp2_with (first | (with_reducible refine wpList_load_whole Ent.isRec rfl _ rfl gE (by with_unfolding_all exact rfl) _ _ (Ent.len _) E8.out ?_) | (with_reducible refine wpList_load_whole Gate.isRec rfl _ rfl gG (by with_unfolding_all exact rfl) _ _ (Gate.len _) G8.out ?_))
              refine reg_begin (by kernel_rfl) fun w1 b1 z1 => ?_
              have E1 : Hid (Ent.At w1 gE y) := Lib.hid (Whole.below E8.out b1 E8.out.lt)
              have G1 : Hid (Gate.At w1 gG ⟨S.idx, S.key⟩) := Lib.hid (Whole.below G8.out b1 G8.out.lt)
              have B1 := Lib.hid (B8.out.trans (b1.mono B8.out.size))
              clear b1 z1 E8 G8 B8
              refine reg_take (i := 0) (v := ?_) rfl (by kernel_rfl) (by kernel_rfl) (by kernel_rfl) (fun _ _ _ h => h) (by rfl) ?hy0 ?_
              case hy0 => intro w' hw'; go_simp; (try with_reducible rfl)
              simp only [Act.put, List.setIfInBounds_toArray, List.set_cons_zero, List.set_cons_succ]
              refine reg_take (i := 1) (v := (.int .i64 (y).index)) rfl (by kernel_rfl) (by kernel_rfl) (by kernel_rfl) (fun _ _ _ h => h) (by rfl) ?hy1 ?_
              case hy1 => intro w' hw'; have c := Ent.At.at_index (Whole.below E1.out hw' E1.out.lt); go_simp; (try with_reducible rfl)
              simp only [Act.put, List.setIfInBounds_toArray, List.set_cons_zero, List.set_cons_succ]
              refine reg_take (i := 2) (v := ?_) rfl (by kernel_rfl) (by kernel_rfl) (by kernel_rfl) (fun _ _ _ h => h) (by rfl) ?hy2 ?_
              case hy2 => intro w' hw'; go_simp; (try with_reducible rfl)
              simp only [Act.put, List.setIfInBounds_toArray, List.set_cons_zero, List.set_cons_succ]
              refine reg_take (i := 3) (v := .int .i64 S.idx) rfl (by kernel_rfl) (by kernel_rfl) (by kernel_rfl) (fun _ _ _ h => h) (by rfl) ?hy3 ?_
              case hy3 => intro w' hw'; have c := Gate.At.at_index (Whole.below G1.out hw' G1.out.lt); go_simp; (try with_reducible rfl)
              simp only [Act.put, List.setIfInBounds_toArray, List.set_cons_zero, List.set_cons_succ]
              refine reg_take (i := 4) (v := ?_) rfl (by kernel_rfl) (by kernel_rfl) (by kernel_rfl) (fun _ _ _ h => h) (by rfl) ?hy4 ?_
              case hy4 => intro w' hw'; go_simp; (try with_reducible rfl)
              simp only [Act.put, List.setIfInBounds_toArray, List.set_cons_zero, List.set_cons_succ]
              refine reg_take (i := 5) (v := ?_) rfl (by kernel_rfl) (by kernel_rfl) (by kernel_rfl) (fun _ _ _ h => h) (by rfl) ?hy5 ?_
              case hy5 => intro w' hw'; go_simp; (try with_reducible rfl)
              simp only [Act.put, List.setIfInBounds_toArray, List.set_cons_zero, List.set_cons_succ]
              refine reg_skip (i := 6) rfl (by kernel_rfl) (by kernel_rfl) (by kernel_rfl) (fun _ _ _ h => h) (by rfl) ?_
              simp only [Act.put, List.setIfInBounds_toArray, List.set_cons_zero, List.set_cons_succ]
              refine reg_skip (i := 7) rfl (by kernel_rfl) (by kernel_rfl) (by kernel_rfl) (fun _ _ _ h => h) (by rfl) ?_
              simp only [Act.put, List.setIfInBounds_toArray, List.set_cons_zero, List.set_cons_succ]
              refine reg_skip (i := 8) rfl (by kernel_rfl) (by kernel_rfl) (by kernel_rfl) (fun _ _ _ h => h) (by rfl) ?_
              simp only [Act.put, List.setIfInBounds_toArray, List.set_cons_zero, List.set_cons_succ]
              refine reg_skip (i := 9) rfl (by kernel_rfl) (by kernel_rfl) (by kernel_rfl) (fun _ _ _ h => h) (by rfl) ?_
              simp only [Act.put, List.setIfInBounds_toArray, List.set_cons_zero, List.set_cons_succ]
              refine reg_skip (i := 10) rfl (by kernel_rfl) (by kernel_rfl) (by kernel_rfl) (fun _ _ _ h => h) (by rfl) ?_
              simp only [Act.put, List.setIfInBounds_toArray, List.set_cons_zero, List.set_cons_succ]
              refine reg_skip (i := 11) rfl (by kernel_rfl) (by kernel_rfl) (by kernel_rfl) (fun _ _ _ h => h) (by rfl) ?_
              simp only [Act.put, List.setIfInBounds_toArray, List.set_cons_zero, List.set_cons_succ]
              refine reg_skip (i := 12) rfl (by kernel_rfl) (by kernel_rfl) (by kernel_rfl) (fun _ _ _ h => h) (by rfl) ?_
              simp only [Act.put, List.setIfInBounds_toArray, List.set_cons_zero, List.set_cons_succ]
              refine reg_skip (i := 13) rfl (by kernel_rfl) (by kernel_rfl) (by kernel_rfl) (fun _ _ _ h => h) (by rfl) ?_
              simp only [Act.put, List.setIfInBounds_toArray, List.set_cons_zero, List.set_cons_succ]
              refine reg_take (i := 14) (v := ?_) rfl (by kernel_rfl) (by kernel_rfl) (by kernel_rfl) (fun _ _ _ h => h) (by rfl) ?hy14 ?_
              case hy14 => intro w' hw'; go_simp; (try with_reducible rfl)
              simp only [Act.put, List.setIfInBounds_toArray, List.set_cons_zero, List.set_cons_succ]
              refine reg_end (by kernel_rfl) ?_
              obtain ⟨-, -, ec2, ec3, ec4, -⟩ := Ent.At.cells E1.out
              obtain ⟨gc0, -⟩ := Gate.At.cells G1.out
              go_wp2_with (first | (with_reducible refine wpList_load_whole Ent.isRec rfl _ rfl gE (by with_unfolding_all exact rfl) _ _ (Ent.len _) E1.out ?_) | (with_reducible refine wpList_load_whole Gate.isRec rfl _ rfl gG (by with_unfolding_all exact rfl) _ _ (Gate.len _) G1.out ?_) | (first | (with_reducible refine wpList_load_whole_w Gate.isRec (by kernel_rfl) _ rfl gG (by with_unfolding_all exact rfl) _ _ (Gate.len _) G1.out ?_) | (with_reducible refine wpList_load_whole_w Ent.isRec (by kernel_rfl) _ rfl gE (by with_unfolding_all exact rfl) _ _ (Ent.len _) E1.out ?_)))
              refine ((CV1 w1 (T6.out.below B1.out T6.out.pos)).out).mono ?_
              rintro e2 w2 ⟨rfl, b2⟩
              have E2 : Hid (Ent.At w2 gE y) := Lib.hid (Whole.below E1.out b2 E1.out.lt)
              have G2 : Hid (Gate.At w2 gG ⟨S.idx, S.key⟩) := Lib.hid (Whole.below G1.out b2 G1.out.lt)
              have B2 := Lib.hid (B1.out.trans (b2.mono B1.out.size))
              clear b2 E1 G1 B1
              clear ec2 ec3 ec4 gc0
              obtain ⟨-, -, ec2, ec3, ec4, -⟩ := Ent.At.cells E2.out
              obtain ⟨gc0, -⟩ := Gate.At.cells G2.out
              go_wp2_with (first | (with_reducible refine wpList_load_whole Ent.isRec rfl _ rfl gE (by with_unfolding_all exact rfl) _ _ (Ent.len _) E2.out ?_) | (with_reducible refine wpList_load_whole Gate.isRec rfl _ rfl gG (by with_unfolding_all exact rfl) _ _ (Gate.len _) G2.out ?_) | (first | (with_reducible refine wpList_load_whole_w Gate.isRec (by kernel_rfl) _ rfl gG (by with_unfolding_all exact rfl) _ _ (Gate.len _) G2.out ?_) | (with_reducible refine wpList_load_whole_w Ent.isRec (by kernel_rfl) _ rfl gE (by with_unfolding_all exact rfl) _ _ (Ent.len _) E2.out ?_)))
              refine ((CV2 w2 (T6.out.below B2.out T6.out.pos)).out).mono ?_
              rintro e3 w3 ⟨rfl, b3⟩
              have E3 : Hid (Ent.At w3 gE y) := Lib.hid (Whole.below E2.out b3 E2.out.lt)
              have G3 : Hid (Gate.At w3 gG ⟨S.idx, S.key⟩) := Lib.hid (Whole.below G2.out b3 G2.out.lt)
              have B3 := Lib.hid (B2.out.trans (b3.mono B2.out.size))
              clear b3 E2 G2 B2
              clear ec2 ec3 ec4 gc0
              go_wp2
              exact ⟨⟨j + 1, by omega, by go_num, B3.out⟩, by simp [intOf]; omega⟩
            · rw [wantC, if_pos (by have := HYI.out.2.1; omega)] at CV1 CV2
              have t1 : (y.index != S.idx) = true := by simp [hi]
              have HLT : Hid (decide (y.index < S.idx) = true) := Lib.hid (by have := HYI.out.2.1; simp; omega)
              have t3 : decide (y.index > S.idx) = false := by have := HYI.out.2.1; simp; omega
              have t4 : decide (S.idx < y.index) = false := by have := HYI.out.2.1; simp; omega
              have HLB := Lib.hid (HYL.out hi)
              have R0 : Hid (RowsAt w8 (.slice (some ⟨bl, off2, none⟩) n cap5) 6 (S.issued.map Ent.enc)) := Lib.hid (R6.out.below B8.out)
              have M0 : Hid (RowsAt w8 (.slice A2 S.gone.length cap2) 1 (nmC S.gone)) := Lib.hid (N6.out.below B8.out)
              obtain ⟨AR, hAR⟩ : ∃ q, q = (if cap5 = j + 1 then some (⟨bl, off2, none⟩ : Addr) else (some (⟨bl, off2, none⟩ : Addr)).map (·.add ((j + 1) * 6))) := ⟨_, rfl⟩
              have HSL : Hid (sliced (some ⟨bl, off2, none⟩) (j + 1) n cap5 6 = .slice AR (n - (j + 1)) (cap5 - (j + 1))) := Lib.hid (by rw [hAR, sliced])
              have CL := fun w (r : RowsAt w (.slice AR (n - (j + 1)) (cap5 - (j + 1))) 6 ((S.issued.drop (j + 1)).map Ent.enc)) p => Lib.hid (last_any AR (n - (j + 1)) (cap5 - (j + 1)) (S.issued.drop (j + 1)) A2 S.gone.length cap2 S.gone y.name (by have := HNL.out.1; omega) (by have := HNL.out.2; omega) w r p)
              rw [HLB.out] at CL
              have RR := fun w (r : RowsAt w (.slice (some ⟨bl, off2, none⟩) n cap5) 6 (S.issued.map Ent.enc)) => Lib.hid (show RowsAt w (.slice AR (n - (j + 1)) (cap5 - (j + 1))) 6 ((S.issued.drop (j + 1)).map Ent.enc) from by
                have q := rows_rest r (j + 1) (by omega)
                rwa [HSL.out, ← List.map_drop] at q)
              have jl : j + 1 ≤ n := hlt2
              clear hi hAR
              go_wp2_with (first | (with_reducible refine wpList_load_whole Ent.isRec rfl _ rfl gE (by with_unfolding_all exact rfl) _ _ (Ent.len _) E8.out ?_) | (with_reducible refine wpList_load_whole Gate.isRec rfl _ rfl gG (by with_unfolding_all exact rfl) _ _ (Gate.len _) G8.out ?_))
              refine reg_begin (by kernel_rfl) fun w1 b1 z1 => ?_
              have E1 : Hid (Ent.At w1 gE y) := Lib.hid (Whole.below E8.out b1 E8.out.lt)
              have G1 : Hid (Gate.At w1 gG ⟨S.idx, S.key⟩) := Lib.hid (Whole.below G8.out b1 G8.out.lt)
              have R1 : Hid (RowsAt w1 (.slice (some ⟨bl, off2, none⟩) n cap5) 6 (S.issued.map Ent.enc)) := Lib.hid (R0.out.below b1)
              have M1 : Hid (RowsAt w1 (.slice A2 S.gone.length cap2) 1 (nmC S.gone)) := Lib.hid (M0.out.below b1)
              have B1 := Lib.hid (B8.out.trans (b1.mono B8.out.size))
              clear b1 z1 E8 G8 R0 M0 B8
              refine reg_take (i := 0) (v := ?_) rfl (by kernel_rfl) (by kernel_rfl) (by kernel_rfl) (fun _ _ _ h => h) (by rfl) ?hy0 ?_
              case hy0 => intro w' hw'; go_simp; (try with_reducible rfl)
              simp only [Act.put, List.setIfInBounds_toArray, List.set_cons_zero, List.set_cons_succ]
              refine reg_take (i := 1) (v := (.int .i64 (y).index)) rfl (by kernel_rfl) (by kernel_rfl) (by kernel_rfl) (fun _ _ _ h => h) (by rfl) ?hy1 ?_
              case hy1 => intro w' hw'; have c := Ent.At.at_index (Whole.below E1.out hw' E1.out.lt); go_simp; (try with_reducible rfl)
              simp only [Act.put, List.setIfInBounds_toArray, List.set_cons_zero, List.set_cons_succ]
              refine reg_take (i := 2) (v := ?_) rfl (by kernel_rfl) (by kernel_rfl) (by kernel_rfl) (fun _ _ _ h => h) (by rfl) ?hy2 ?_
              case hy2 => intro w' hw'; go_simp; (try with_reducible rfl)
              simp only [Act.put, List.setIfInBounds_toArray, List.set_cons_zero, List.set_cons_succ]
              refine reg_take (i := 3) (v := .int .i64 S.idx) rfl (by kernel_rfl) (by kernel_rfl) (by kernel_rfl) (fun _ _ _ h => h) (by rfl) ?hy3 ?_
              case hy3 => intro w' hw'; have c := Gate.At.at_index (Whole.below G1.out hw' G1.out.lt); go_simp; (try with_reducible rfl)
              simp only [Act.put, List.setIfInBounds_toArray, List.set_cons_zero, List.set_cons_succ]
              refine reg_take (i := 4) (v := .bool true) rfl (by kernel_rfl) (by kernel_rfl) (by kernel_rfl) (fun _ _ _ h => h) (by rfl) ?hy4 ?_
              case hy4 => intro w' hw'; exact exec_neq_int _ _ _ rfl y.index S.idx rfl rfl true t1 w'
              simp only [Act.put, List.setIfInBounds_toArray, List.set_cons_zero, List.set_cons_succ]
              refine reg_take (i := 5) (v := ?_) rfl (by kernel_rfl) (by kernel_rfl) (by kernel_rfl) (fun _ _ _ h => h) (by rfl) ?hy5 ?_
              case hy5 => intro w' hw'; go_simp; (try with_reducible rfl)
              simp only [Act.put, List.setIfInBounds_toArray, List.set_cons_zero, List.set_cons_succ]
              refine reg_take (i := 6) (v := ?_) rfl (by kernel_rfl) (by kernel_rfl) (by kernel_rfl) (fun _ _ _ h => h) (by rfl) ?hy6 ?_
              case hy6 => intro w' hw'; go_simp; (try with_reducible rfl)
              simp only [Act.put, List.setIfInBounds_toArray, List.set_cons_zero, List.set_cons_succ]
              refine reg_take (i := 7) (v := ?_) rfl (by kernel_rfl) (by kernel_rfl) (by kernel_rfl) (fun _ _ _ h => h) (by rfl) ?hy7 ?_
              case hy7 => intro w' hw'; go_simp; (try with_reducible rfl)
              simp only [Act.put, List.setIfInBounds_toArray, List.set_cons_zero, List.set_cons_succ]
              refine reg_take (i := 8) (v := ?_) rfl (by kernel_rfl) (by kernel_rfl) (by kernel_rfl) (fun _ _ _ h => h) (by rfl) ?hy8 ?_
              case hy8 => intro w' hw'; go_simp; (try with_reducible rfl)
              simp only [Act.put, List.setIfInBounds_toArray, List.set_cons_zero, List.set_cons_succ]
              refine reg_take (i := 9) (v := .slice AR (n - (j + 1)) (cap5 - (j + 1))) rfl (by kernel_rfl) (by kernel_rfl) (by kernel_rfl) (fun _ _ _ h => h) (by rfl) ?hy9 ?_
              case hy9 => intro w' hw'; exact (HSL.out ▸ exec_rest _ _ rfl (some ⟨bl, off2, none⟩) n cap5 (j + 1) rfl rfl jl w')
              simp only [Act.put, List.setIfInBounds_toArray, List.set_cons_zero, List.set_cons_succ]
              refine reg_take (i := 10) (v := ?_) rfl (by kernel_rfl) (by kernel_rfl) (by kernel_rfl) (fun _ _ _ h => h) (by rfl) ?hy10 ?_
              case hy10 => intro w' hw'; go_simp; (try with_reducible rfl)
              simp only [Act.put, List.setIfInBounds_toArray, List.set_cons_zero, List.set_cons_succ]
              refine reg_take (i := 11) (v := ?_) rfl (by kernel_rfl) (by kernel_rfl) (by kernel_rfl) (fun _ _ _ h => h) (by rfl) ?hy11 ?_
              case hy11 => intro w' hw'; go_simp; (try with_reducible rfl)
              simp only [Act.put, List.setIfInBounds_toArray, List.set_cons_zero, List.set_cons_succ]
              refine reg_take (i := 12) (v := (.string ⟨(y).name.toArray⟩)) rfl (by kernel_rfl) (by kernel_rfl) (by kernel_rfl) (fun _ _ _ h => h) (by rfl) ?hy12 ?_
              case hy12 => intro w' hw'; have c := Ent.At.at_name (Whole.below E1.out hw' E1.out.lt); go_simp; (try with_reducible rfl)
              simp only [Act.put, List.setIfInBounds_toArray, List.set_cons_zero, List.set_cons_succ]
              refine reg_call (i := 13) rfl (by kernel_rfl) (fun K' hK => ?_)
              go_simp
              refine ((CL w1 (RR w1 R1.out).out M1.out).out).mono ?_
              rintro e2 w2 ⟨rfl, b2⟩
              have E2 : Hid (Ent.At w2 gE y) := Lib.hid (Whole.below E1.out b2 E1.out.lt)
              have G2 : Hid (Gate.At w2 gG ⟨S.idx, S.key⟩) := Lib.hid (Whole.below G1.out b2 G1.out.lt)
              have R2 : Hid (RowsAt w2 (.slice (some ⟨bl, off2, none⟩) n cap5) 6 (S.issued.map Ent.enc)) := Lib.hid (R1.out.below b2)
              have M2 : Hid (RowsAt w2 (.slice A2 S.gone.length cap2) 1 (nmC S.gone)) := Lib.hid (M1.out.below b2)
              have B2 := Lib.hid (B1.out.trans (b2.mono B1.out.size))
              refine hK.out _ _ b2 ?_
              clear hK K' b2 E1 G1 R1 M1 B1
              refine reg_take (i := 14) (v := ?_) rfl (by kernel_rfl) (by kernel_rfl) (by kernel_rfl) (fun _ _ _ h => h) (by rfl) ?hy14 ?_
              case hy14 => intro w' hw'; go_simp; (try with_reducible rfl)
              simp only [Act.put, List.setIfInBounds_toArray, List.set_cons_zero, List.set_cons_succ]
              refine reg_end (by kernel_rfl) ?_
              clear t1
              obtain ⟨-, -, ec2, ec3, ec4, -⟩ := Ent.At.cells E2.out
              obtain ⟨gc0, -⟩ := Gate.At.cells G2.out
              go_wp2_with (first | (with_reducible refine wpList_load_whole Ent.isRec rfl _ rfl gE (by with_unfolding_all exact rfl) _ _ (Ent.len _) E2.out ?_) | (with_reducible refine wpList_load_whole Gate.isRec rfl _ rfl gG (by with_unfolding_all exact rfl) _ _ (Gate.len _) G2.out ?_) | (first | (with_reducible refine wpList_lss_int rfl _ _ rfl y.index S.idx (by with_unfolding_all exact rfl) (by with_unfolding_all exact rfl) true HLT.out ?_) | (with_reducible refine wpList_load_whole_w Gate.isRec (by kernel_rfl) _ rfl gG (by with_unfolding_all exact rfl) _ _ (Gate.len _) G2.out ?_) | (with_reducible refine wpList_load_whole_w Ent.isRec (by kernel_rfl) _ rfl gE (by with_unfolding_all exact rfl) _ _ (Ent.len _) E2.out ?_)))
              refine ((CV1 w2 (T6.out.below B2.out T6.out.pos)).out).mono ?_
              rintro e3 w3 ⟨rfl, b3⟩
              have E3 : Hid (Ent.At w3 gE y) := Lib.hid (Whole.below E2.out b3 E2.out.lt)
              have G3 : Hid (Gate.At w3 gG ⟨S.idx, S.key⟩) := Lib.hid (Whole.below G2.out b3 G2.out.lt)
              have R3 : Hid (RowsAt w3 (.slice (some ⟨bl, off2, none⟩) n cap5) 6 (S.issued.map Ent.enc)) := Lib.hid (R2.out.below b3)
              have M3 : Hid (RowsAt w3 (.slice A2 S.gone.length cap2) 1 (nmC S.gone)) := Lib.hid (M2.out.below b3)
              have B3 := Lib.hid (B2.out.trans (b3.mono B2.out.size))
              clear b3 E2 G2 R2 M2 B2
              clear ec2 ec3 ec4 gc0
              obtain ⟨-, -, ec2, ec3, ec4, -⟩ := Ent.At.cells E3.out
              obtain ⟨gc0, -⟩ := Gate.At.cells G3.out
              go_wp2_with (first | (with_reducible refine wpList_load_whole Ent.isRec rfl _ rfl gE (by with_unfolding_all exact rfl) _ _ (Ent.len _) E3.out ?_) | (with_reducible refine wpList_load_whole Gate.isRec rfl _ rfl gG (by with_unfolding_all exact rfl) _ _ (Gate.len _) G3.out ?_) | (first | (with_reducible refine wpList_load_whole_w Gate.isRec (by kernel_rfl) _ rfl gG (by with_unfolding_all exact rfl) _ _ (Gate.len _) G3.out ?_) | (with_reducible refine wpList_load_whole_w Ent.isRec (by kernel_rfl) _ rfl gE (by with_unfolding_all exact rfl) _ _ (Ent.len _) E3.out ?_)))
              refine ((CV2 w3 (T6.out.below B3.out T6.out.pos)).out).mono ?_
              rintro e4 w4 ⟨rfl, b4⟩
              have E4 : Hid (Ent.At w4 gE y) := Lib.hid (Whole.below E3.out b4 E3.out.lt)
              have G4 : Hid (Gate.At w4 gG ⟨S.idx, S.key⟩) := Lib.hid (Whole.below G3.out b4 G3.out.lt)
              have R4 : Hid (RowsAt w4 (.slice (some ⟨bl, off2, none⟩) n cap5) 6 (S.issued.map Ent.enc)) := Lib.hid (R3.out.below b4)
              have M4 : Hid (RowsAt w4 (.slice A2 S.gone.length cap2) 1 (nmC S.gone)) := Lib.hid (M3.out.below b4)
              have B4 := Lib.hid (B3.out.trans (b4.mono B3.out.size))
              clear b4 E3 G3 R3 M3 B3
              clear ec2 ec3 ec4 gc0
              go_wp2
              exact ⟨⟨j + 1, by omega, by go_num, B4.out⟩, by simp [intOf]; omega⟩
          · have dj : decide ((j : Int) < (n : Int)) = false := by simp; omega
            go_wp2
            go_ret
            exact ⟨rfl, L6.out.trans (B0.out.mono L6.out.size)⟩
end Go.Proofs.YtfcjemedheccgaaDoor
