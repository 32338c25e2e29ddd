/- Layer 23 as landed: has, behind, Put, Drop: slices made of parts. -/
import Derived.Test.YtjohlnpalcmhbaaTbB
namespace Go.Proofs.Ytjohlnpalcmhbaa
set_option maxRecDepth 100000
open Go.RowKit

theorem parts_info : ∃ i, Try.prog.info? 22 = some i ∧ i.zero = some (.slice none 0 0) ∧ i.size = 1 := by
  have h : (Try.prog.info? 22).map (fun i => (i.zero, i.size)) = some (some (.slice none 0 0), 1) := by kernel_rfl
  cases hi : Try.prog.info? 22 with
  | none => rw [hi] at h; cases h
  | some i =>
    rw [hi] at h
    simp only [Option.map_some, Option.some.injEq, Prod.mk.injEq] at h
    exact ⟨i, rfl, h.1, h.2⟩
section
variable {ops : Array Oper} {rest : List Oper} {o : Oper} {a : Act} {w : World} {K : Act → World → Prop} {Q : Exit → Act → World → Prop}
theorem wp_build_1 (y : Operand) (ho : o.op = .buildSlice 59 1 #[(0, y)]) (A : Option Addr) (m cap : Nat) (l : List Ses) (hy : a.eval y = .slice A m cap) (hr : RowsAt w (.slice A m cap) 20 (l.map Ses.enc))
    (h : ∀ w', Below w.heap.size w w' → PartsS w' w.heap.size [l] → K (a.put o.dst (.slice (some ⟨w.heap.size, 0, none⟩) 1 1)) w') : o.wp Try.prog a w K Q := by
  obtain ⟨i, h1, h2, h3⟩ := parts_info
  have hf : filled 1 1 (Value.slice none 0 0).cells [(0, .slice A m cap)] = some #[.slice A m cap] := by kernel_rfl
  have hu := run_buildSlice (P := Try.prog) (w := w) Try.underlying59 h1 h2 1 (by rw [h3]; decide) (by rw [h3]; decide) #[(0, .slice A m cap)] #[.slice A m cap] (by rw [h3]; exact hf)
  have b : Below w.heap.size w (w.alloc (.cells #[.slice A m cap] 22)) := (Below.refl _ _).alloc (Nat.le_refl _) _
  have q := h _ b (PartsS.one (Whole.new w 22 #[.slice A m cap]) (hr.below b))
  unfold Oper.wp execOp
  simp only [ho, List.map_toArray, List.map_cons, List.map_nil, hy, hu, Sem.run_bind, Sem.run_pure, Result.andThen_ok, Oper.upon]
  exact q
theorem wp_build_2 (y z : Operand) (ho : o.op = .buildSlice 59 2 #[(0, y), (1, z)]) (A : Option Addr) (m cap : Nat) (l : List Ses) (A' : Option Addr) (m' cap' : Nat) (l' : List Ses) (hy : a.eval y = .slice A m cap) (hz : a.eval z = .slice A' m' cap') (hr : RowsAt w (.slice A m cap) 20 (l.map Ses.enc)) (hr' : RowsAt w (.slice A' m' cap') 20 (l'.map Ses.enc))
    (h : ∀ w', Below w.heap.size w w' → PartsS w' w.heap.size [l, l'] → K (a.put o.dst (.slice (some ⟨w.heap.size, 0, none⟩) 2 2)) w') : o.wp Try.prog a w K Q := by
  obtain ⟨i, h1, h2, h3⟩ := parts_info
  have hf : filled 1 2 (Value.slice none 0 0).cells [(0, .slice A m cap), (1, .slice A' m' cap')] = some #[.slice A m cap, .slice A' m' cap'] := by kernel_rfl
  have hu := run_buildSlice (P := Try.prog) (w := w) Try.underlying59 h1 h2 2 (by rw [h3]; decide) (by rw [h3]; decide) #[(0, .slice A m cap), (1, .slice A' m' cap')] #[.slice A m cap, .slice A' m' cap'] (by rw [h3]; exact hf)
  have b : Below w.heap.size w (w.alloc (.cells #[.slice A m cap, .slice A' m' cap'] 22)) := (Below.refl _ _).alloc (Nat.le_refl _) _
  have q := h _ b (PartsS.two (Whole.new w 22 #[.slice A m cap, .slice A' m' cap']) (hr.below b) (hr'.below b))
  unfold Oper.wp execOp
  simp only [ho, List.map_toArray, List.map_cons, List.map_nil, hy, hz, hu, Sem.run_bind, Sem.run_pure, Result.andThen_ok, Oper.upon]
  exact q
theorem wpList_build_1 (hgd : o.guard = none) (y : Operand) (ho : o.op = .buildSlice 59 1 #[(0, y)]) (A : Option Addr) (m cap : Nat) (l : List Ses) (hy : a.eval y = .slice A m cap) (hr : RowsAt w (.slice A m cap) 20 (l.map Ses.enc))
    (h : ∀ w', Below w.heap.size w w' → PartsS w' w.heap.size [l] → wpList Try.prog ops Q rest (a.put o.dst (.slice (some ⟨w.heap.size, 0, none⟩) 1 1)) w') : wpList Try.prog ops Q (o :: rest) a w :=
  wpList_plain hgd fun _ hK => wp_build_1 y ho A m cap l hy hr fun w' h1 h2 => hK _ _ (h w' h1 h2)
theorem wpList_build_2 (hgd : o.guard = none) (y z : Operand) (ho : o.op = .buildSlice 59 2 #[(0, y), (1, z)]) (A : Option Addr) (m cap : Nat) (l : List Ses) (A' : Option Addr) (m' cap' : Nat) (l' : List Ses) (hy : a.eval y = .slice A m cap) (hz : a.eval z = .slice A' m' cap') (hr : RowsAt w (.slice A m cap) 20 (l.map Ses.enc)) (hr' : RowsAt w (.slice A' m' cap') 20 (l'.map Ses.enc))
    (h : ∀ w', Below w.heap.size w w' → PartsS w' w.heap.size [l, l'] → wpList Try.prog ops Q rest (a.put o.dst (.slice (some ⟨w.heap.size, 0, none⟩) 2 2)) w') : wpList Try.prog ops Q (o :: rest) a w :=
  wpList_plain hgd fun _ hK => wp_build_2 y z ho A m cap l A' m' cap' l' hy hz hr hr' fun w' h1 h2 => hK _ _ (h w' h1 h2)
end
/-- Where what is behind the first of a slice lies. -/
def sufA (b off cap i : Nat) : Addr := if cap = i then ⟨b, off, none⟩ else (⟨b, off, none⟩ : Addr).add (i * 20)
theorem sufA_is {b off cap i n : Nat} (h : i < n) (hn : n ≤ cap) : sufA b off cap i = ⟨b, off + i * 20, none⟩ := by
  rw [sufA, if_neg (by omega)]
  unfold Addr.add
  by_cases z : i * 20 = 0
  · rw [if_pos z, z, Nat.add_zero]
  · rw [if_neg z]
theorem ses_size : ∃ i, Try.prog.info? 36 = some i ∧ i.size = 20 := by
  obtain ⟨i, h1, -, h3⟩ := Ses.info
  exact ⟨i, h1, h3⟩
theorem exec_slice_hi {ev : Operand → Value} {o : Oper} (x y : Operand) (ho : o.op = .slice 22 x none (some y) none) (A : Option Addr) (n cap i : Nat) (hx : ev x = .slice A n cap) (hy : ev y = .int .i64 (i : Int)) (hi : i ≤ cap) (w : World) :
    (execOp ev o).run Try.prog w = .ok (.value (.slice A i cap)) w := by
  obtain ⟨q, h1, h2⟩ := ses_size
  have hA : A.map (fun a => a.add 0) = A := by cases A <;> simp [Addr.add]
  unfold execOp
  simp [ho, hx, hy, Instr.sliceAt, Instr.slice, run_underlying Try.underlying22, Instr.sliceBounds, Instr.sliceBound, asIntOf, sizeOf, typeInfo, h1, hA]
  intro h; omega
theorem exec_slice_lo {ev : Operand → Value} {o : Oper} (x y : Operand) (ho : o.op = .slice 22 x (some y) none none) (b off n cap i : Nat) (hx : ev x = .slice (some ⟨b, off, none⟩) n cap) (hy : ev y = .int .i64 (i : Int)) (hi : i ≤ n) (w : World) :
    (execOp ev o).run Try.prog w = .ok (.value (.slice (some (sufA b off cap i)) (n - i) (cap - i))) w := by
  obtain ⟨q, h1, h2⟩ := ses_size
  unfold execOp
  simp [ho, hx, hy, Instr.sliceAt, Instr.slice, run_underlying Try.underlying22, Instr.sliceBounds, Instr.sliceBound, asIntOf, sizeOf, typeInfo, h1, h2, hi, sufA]
  by_cases q : cap = i
  · rw [if_pos q, if_pos q]
  · rw [if_neg q, if_neg q]

set_option maxHeartbeats 1000000 in
theorem has_any (A : Option Addr) (m cap : Nat) (i : Int) (w : World) :
    Calls Try.prog 44 #[.slice A m cap, .int .i64 i] w fun e w' => e = .returned (.bool (decide (0 ≤ i) && decide (i < m))) ∧ w' = w := by
  by_cases h : 0 ≤ i
  · obtain ⟨q, hq⟩ : ∃ q, q = decide (i < (m : Int)) := ⟨_, rfl⟩
    have d1 : decide (0 ≤ i) = true := by simpa using h
    have d2 := hq.symm
    rw [d1, ← hq, Bool.true_and]
    clear hq
    go_enter Try.func44, Try.ntmps44
    go_wp2
    go_ret
    exact ⟨rfl, rfl⟩
  · have d1 : decide (0 ≤ i) = false := by simpa using h
    rw [d1, Bool.false_and]
    go_enter Try.func44, Try.ntmps44
    go_wp2
    go_ret
    exact ⟨rfl, rfl⟩

set_option maxRecDepth 100000 in
set_option maxHeartbeats 1000000 in
theorem behind_any (A : Option Addr) (m cap : Nat) (l : List Ses) (s : Ses) (base : Nat) (w : World) (hb : base ≤ w.heap.size) (hl : l.length ≤ 100000) (h : RowsAt w (.slice A m cap) 20 (l.map Ses.enc)) :
    Calls Try.prog 39 #[.slice A m cap, s.val] w fun e w' => ∃ v, e = .returned v ∧ OwnRows w' base 36 20 v ((l ++ [s]).map Ses.enc) ∧ Below w.heap.size w w' := by
  have HB := Lib.hid hb
  have HL := Lib.hid hl
  clear hb hl
  go_enter Try.func39, Try.ntmps39
  have L0 : Hid (RowsAt w (.slice A m cap) 20 (l.map Ses.enc)) := Lib.hid (h)
  clear h
  go_wp2_with (refine wpList_box_row rfl 36 _ rfl s.enc.toArray (by with_unfolding_all exact rfl) ?_)
  intro w1 b1 x1 z1
  obtain ⟨gS, hgS⟩ : ∃ g, g = w.heap.size := ⟨_, rfl⟩
  have M_S := Lib.hid (show w.heap.size ≤ gS from by rw [hgS]; exact Nat.le_refl _)
  have L1 : Hid (RowsAt w1 (.slice A m cap) 20 (l.map Ses.enc)) := Lib.hid (L0.out.below b1)
  have B1 := Lib.hid b1
  rw [← hgS] at x1 ⊢
  have S1 : Hid (Ses.At w1 gS s) := Lib.hid x1
  clear b1 x1 z1 hgS L0
  go_wp2_with (first | (with_reducible refine wpList_load_whole Ses.isRec rfl _ rfl gS (by with_unfolding_all exact rfl) _ _ (Ses.len _) S1.out ?_) | (with_reducible refine wpList_load_rec Ent.isRec rfl _ rfl gS 2 (by with_unfolding_all exact rfl) _ (Ent.len _) (Ses.At.part_peer S1.out) ?_) | (with_reducible refine wpList_load_rec Win.isRec rfl _ rfl gS 16 (by with_unfolding_all exact rfl) _ (Win.len _) (Ses.At.part_seen S1.out) ?_) | (with_reducible refine Ses.wpList_one rfl _ rfl (s) (by with_unfolding_all exact rfl) ?_))
  intro w2 b2 x2 z2
  obtain ⟨gX, hgX⟩ : ∃ g, g = w1.heap.size := ⟨_, rfl⟩
  have L2 : Hid (RowsAt w2 (.slice A m cap) 20 (l.map Ses.enc)) := Lib.hid (L1.out.below b2)
  have S2 : Hid (Ses.At w2 gS s) := Lib.hid (Whole.below S1.out b2 S1.out.lt)
  have B2 := Lib.hid (B1.out.trans (b2.mono B1.out.size))
  rw [← hgX] at x2 ⊢
  have X2 : Hid (RowsAt w2 (.slice (some ⟨gX, 0, none⟩) 1 1) 20 [Ses.enc (s)]) := Lib.hid x2
  clear b2 x2 z2 hgX L1 S1 B1
  go_wp2_with (with_reducible refine wpList_build_2 rfl _ _ rfl A m cap l (some ⟨gX, 0, none⟩) 1 1 [s] (by with_unfolding_all exact rfl) (by with_unfolding_all exact rfl) L2.out (by with_unfolding_all exact X2.out) ?_)
  intro wp bp xp
  have BP := Lib.hid (B2.out.trans (bp.mono B2.out.size))
  have XP := Lib.hid xp
  clear bp xp B2 L2 X2
  go_wp2_with fail
  refine (concatS_any _ 2 [l, [s]] rfl base wp (Nat.le_trans HB.out BP.out.size) XP.out (by decide) (by have := HL.out; simp; omega)).mono ?_
  rintro e wq ⟨v, rfl, oq, bq⟩
  have OQ := Lib.hid oq
  have BQ := Lib.hid (BP.out.trans (bq.mono BP.out.size))
  clear oq bq BP XP
  go_wp2
  go_ret
  exact ⟨v, rfl, OQ.out.eqL (by simp), BQ.out⟩

set_option maxRecDepth 100000 in
set_option maxHeartbeats 1000000 in
theorem tbPut_any (A : Option Addr) (m cap : Nat) (l : List Ses) (i : Int) (s : Ses) (base : Nat) (w : World) (hb : base ≤ w.heap.size) (hl : l.length ≤ 100000) (h : RowsAt w (.slice A m cap) 20 (l.map Ses.enc)) :
    Calls Try.prog 22 #[.slice A m cap, .int .i64 i, s.val] w fun e w' => ∃ v, e = .returned v ∧ OwnRows w' base 36 20 v ((putS l i s).map Ses.enc) ∧ Below w.heap.size w w' := by
  have HB := Lib.hid hb
  have HL := Lib.hid hl
  clear hb hl
  go_enter Try.func22, Try.ntmps22
  have L0 : Hid (RowsAt w (.slice A m cap) 20 (l.map Ses.enc)) := Lib.hid (h)
  clear h
  go_wp2_with (refine wpList_box_row rfl 36 _ rfl s.enc.toArray (by with_unfolding_all exact rfl) ?_)
  intro w1 b1 x1 z1
  obtain ⟨gS, hgS⟩ : ∃ g, g = w.heap.size := ⟨_, rfl⟩
  have M_S := Lib.hid (show w.heap.size ≤ gS from by rw [hgS]; exact Nat.le_refl _)
  have L1 : Hid (RowsAt w1 (.slice A m cap) 20 (l.map Ses.enc)) := Lib.hid (L0.out.below b1)
  have B1 := Lib.hid b1
  rw [← hgS] at x1 ⊢
  have S1 : Hid (Ses.At w1 gS s) := Lib.hid x1
  clear b1 x1 z1 hgS L0
  go_wp2_with (with_reducible refine wpList_build_1 rfl _ rfl A m cap l (by with_unfolding_all exact rfl) L1.out ?_)
  intro wp bp xp
  have BP := Lib.hid (B1.out.trans (bp.mono B1.out.size))
  have XP := Lib.hid xp
  have SP : Hid (Ses.At wp gS s) := Lib.hid (Whole.below S1.out bp S1.out.lt)
  clear bp xp B1 L1 S1
  go_wp2_with fail
  refine (concatS_any _ 1 [l] rfl w.heap.size wp BP.out.size XP.out (by decide) (by have := HL.out; simp; omega)).mono ?_
  rintro e wq ⟨v, rfl, oq, bq⟩
  have OQ : Hid (OwnRows wq w.heap.size 36 20 v (l.map Ses.enc)) := Lib.hid (oq.eqL (by simp))
  have BQ := Lib.hid (BP.out.trans (bq.mono BP.out.size))
  have SQ : Hid (Ses.At wq gS s) := Lib.hid (Whole.below SP.out bq SP.out.lt)
  obtain ⟨A', cap', hv⟩ := OQ.out.form
  rw [List.length_map] at hv
  subst hv
  clear oq bq BP XP SP
  go_wp2_with fail
  refine (has_any A' l.length cap' i wq).mono ?_
  rintro e w3 ⟨rfl, rfl⟩
  by_cases hi : 0 ≤ i ∧ i < (l.length : Int)
  · obtain ⟨n, rfl⟩ := Int.eq_ofNat_of_zero_le hi.1
    have d1 : decide (0 ≤ (n : Int)) = true := by simp
    have d2 : decide ((n : Int) < (l.length : Int)) = true := by simpa using hi.2
    have hn : n < l.length := by omega
    have jn : (n : Int) < (l.length : Int) := hi.2
    have hne : l.map Ses.enc ≠ [] := by intro e; rw [List.map_eq_nil_iff] at e; rw [e] at hn; simp at hn
    obtain ⟨g, rfl⟩ := OQ.out.spot hne
    have HN := Lib.hid hn
    have hg := (OQ.out.lt g rfl).1
    have HG := Lib.hid hg
    clear hi hn hne hg
    go_wp2_with (first | (with_reducible refine wpList_load_whole Ses.isRec rfl _ rfl gS (by with_unfolding_all exact rfl) _ _ (Ses.len _) SQ.out ?_) | (with_reducible refine wpList_put_row (k := 20) rfl _ _ rfl (by with_unfolding_all exact Ses.size s) _ _ _ n g OQ.out (by rw [List.length_map]; exact HN.out) rfl (by with_unfolding_all exact rfl) s.enc (by with_unfolding_all exact rfl) (Ses.len s) (fun u hu => (Ses.fits s).one u hu) ?_))
    intro w4 o4 q4 z4
    have O4 := Lib.hid o4
    have B4 := Lib.hid (BQ.out.grown q4 BQ.out.size (fun k hk => by injection hk with hk; have := HG.out; omega))
    clear o4 q4 z4 OQ BQ SQ
    go_wp2
    go_ret
    exact ⟨_, rfl, (O4.out.less HB.out).eqL (by rw [putS, if_pos (by omega), Int.toNat_natCast, List.map_set]), B4.out⟩
  · have hF : putS l i s = l := by
      rw [putS]
      split
      · exact List.set_eq_of_length_le (by omega)
      · rfl
    have d : (decide (0 ≤ i) && decide (i < (l.length : Int))) = false := by rw [Bool.and_eq_false_iff, decide_eq_false_iff_not, decide_eq_false_iff_not]; omega
    rw [d]
    clear d
    go_wp2
    go_ret
    exact ⟨_, rfl, (OQ.out.less HB.out).eqL (by rw [hF]), BQ.out⟩

set_option maxRecDepth 100000 in
set_option maxHeartbeats 1000000 in
theorem tbDrop_any (A : Option Addr) (m cap : Nat) (l : List Ses) (i : Int) (base : Nat) (w : World) (hb : base ≤ w.heap.size) (hl : l.length ≤ 100000) (h : RowsAt w (.slice A m cap) 20 (l.map Ses.enc)) :
    Calls Try.prog 24 #[.slice A m cap, .int .i64 i] w fun e w' => ∃ v, e = .returned v ∧ OwnRows w' base 36 20 v ((dropS l i).map Ses.enc) ∧ Below w.heap.size w w' := by
  have HB := Lib.hid hb
  have HL := Lib.hid hl
  have hsz := h.size
  rw [List.length_map] at hsz
  have HS := Lib.hid hsz
  have HR := Lib.hid h
  clear hb hl hsz h
  by_cases hi : 0 ≤ i ∧ i < (m : Int)
  · obtain ⟨n, rfl⟩ := Int.eq_ofNat_of_zero_le hi.1
    have d1 : (decide (0 ≤ (n : Int)) && decide ((n : Int) < (m : Int))) = true := by rw [Bool.and_eq_true, decide_eq_true_eq, decide_eq_true_eq]; exact hi
    have CH := Lib.hid (fun w => has_any A m cap n w)
    simp only [d1] at CH
    have hnm : n < m := by omega
    obtain ⟨x, hx⟩ : ∃ x, l[n]? = some x := ⟨_, List.getElem?_eq_getElem (by rw [← HS.out.1]; exact hnm)⟩
    obtain ⟨b, off, rfl, -⟩ := ses_row HR.out hx
    have r4 : IntKind.i64.wrap ((n : Int) + 1) = ((n + 1 : Nat) : Int) := by have := HL.out; have := HS.out.1; rw [IntWalk.i64_in _ (by omega)]; omega
    have HN := Lib.hid hnm
    clear hi d1 hx hnm
    go_enter Try.func24, Try.ntmps24
    go_wp2_with fail
    refine (CH.out w).mono ?_
    rintro e wa ⟨rfl, rfl⟩
    clear CH
    have BZ := Lib.hid (Below.refl wa.heap.size wa)
    have L0 : Hid (RowsAt wa (.slice (some ⟨b, off, none⟩) m cap) 20 (l.map Ses.enc)) := Lib.hid (HR.out)
    go_wp2_with fail
    refine regS_begin (From wa) (by kernel_rfl) (Below.refl _ _).drew ?_
    have b1 : Below wa.heap.size wa wa.drew := (Below.refl _ _).drew
    generalize wa.drew = w1 at b1 ⊢
    have L1 : Hid (RowsAt w1 (.slice (some ⟨b, off, none⟩) m cap) 20 (l.map Ses.enc)) := Lib.hid (L0.out.below b1)
    have B1 := Lib.hid (BZ.out.trans (b1.mono BZ.out.size))
    have HS1 : Hid (From wa w1) := Lib.hid b1
    clear b1
    refine regS_take (i := 0) (v := ?_) rfl (by kernel_rfl) (by kernel_rfl) (by kernel_rfl) (fun _ _ _ h => h) (by rfl) HS1.out ?hy0 ?_
    case hy0 => intro w' hw'; go_simp; (try with_reducible rfl)
    simp only [Act.put, List.setIfInBounds_toArray, List.set_cons_zero, List.set_cons_succ]
    refine regS_take (i := 1) (v := ?_) rfl (by kernel_rfl) (by kernel_rfl) (by kernel_rfl) (fun _ _ _ h => h) (by rfl) HS1.out ?hy1 ?_
    case hy1 => intro w' hw'; go_simp; (try with_reducible rfl)
    simp only [Act.put, List.setIfInBounds_toArray, List.set_cons_zero, List.set_cons_succ]
    refine regS_take (i := 2) (v := (.slice (some ⟨b, off, none⟩) n cap)) rfl (by kernel_rfl) (by kernel_rfl) (by kernel_rfl) (fun _ _ _ h => h) (by rfl) HS1.out ?hy2 ?_
    case hy2 => intro w' hw'; exact exec_slice_hi _ _ rfl (some ⟨b, off, none⟩) m cap n rfl rfl (by have := HN.out; have := HS.out.2; omega) w'
    simp only [Act.put, List.setIfInBounds_toArray, List.set_cons_zero, List.set_cons_succ]
    refine regS_take (i := 3) (v := ?_) rfl (by kernel_rfl) (by kernel_rfl) (by kernel_rfl) (fun _ _ _ h => h) (by rfl) HS1.out ?hy3 ?_
    case hy3 => intro w' hw'; go_simp; (try with_reducible rfl)
    simp only [Act.put, List.setIfInBounds_toArray, List.set_cons_zero, List.set_cons_succ]
    refine regS_take (i := 4) (v := ?_) rfl (by kernel_rfl) (by kernel_rfl) (by kernel_rfl) (fun _ _ _ h => h) (by rfl) HS1.out ?hy4 ?_
    case hy4 => intro w' hw'; go_simp; (try with_reducible rfl)
    simp only [Act.put, List.setIfInBounds_toArray, List.set_cons_zero, List.set_cons_succ]
    refine regS_take (i := 5) (v := ?_) rfl (by kernel_rfl) (by kernel_rfl) (by kernel_rfl) (fun _ _ _ h => h) (by rfl) HS1.out ?hy5 ?_
    case hy5 => intro w' hw'; go_simp; (try with_reducible rfl)
    simp only [Act.put, List.setIfInBounds_toArray, List.set_cons_zero, List.set_cons_succ]
    refine regS_take (i := 6) (v := (.slice (some (sufA b off cap (n + 1))) (m - (n + 1)) (cap - (n + 1)))) rfl (by kernel_rfl) (by kernel_rfl) (by kernel_rfl) (fun _ _ _ h => h) (by rfl) HS1.out ?hy6 ?_
    case hy6 => intro w' hw'; exact exec_slice_lo _ _ rfl b off m cap (n + 1) rfl rfl (by have := HN.out; omega) w'
    simp only [Act.put, List.setIfInBounds_toArray, List.set_cons_zero, List.set_cons_succ]
    refine regS_do (i := 7) rfl (by kernel_rfl) (fun K' hK => ?_)
    refine wp_build_2 _ _ rfl (some ⟨b, off, none⟩) n cap (l.take n) (some (sufA b off cap (n + 1))) (m - (n + 1)) (cap - (n + 1)) (l.drop (n + 1)) (by with_unfolding_all exact rfl) (by with_unfolding_all exact rfl) (by rw [List.map_take]; exact L1.out.firsts (Nat.le_of_lt HN.out)) (by rw [List.map_drop]; exact L1.out.suffix HN.out _ (fun q => sufA_is q HS.out.2)) ?_
    intro w2 b2 x2
    obtain ⟨gP, hgP⟩ : ∃ g, g = w1.heap.size := ⟨_, rfl⟩
    have L2 : Hid (RowsAt w2 (.slice (some ⟨b, off, none⟩) m cap) 20 (l.map Ses.enc)) := Lib.hid (L1.out.below b2)
    have B2 := Lib.hid (B1.out.trans (b2.mono B1.out.size))
    have HS2 : Hid (From wa w2) := Lib.hid (HS1.out.trans (b2.mono HS1.out.size))
    clear b2
    rw [← hgP] at x2 ⊢
    have P2 : Hid (PartsS w2 gP [l.take n, l.drop (n + 1)]) := Lib.hid x2
    clear x2 hgP
    refine hK.out _ _ HS2.out ?_
    clear hK K' L1 B1 HS1
    refine regS_do (i := 8) rfl (by kernel_rfl) (fun K' hK => ?_)
    go_simp
    refine ((concatS_any _ 2 [l.take n, l.drop (n + 1)] rfl base w2 (Nat.le_trans HB.out B2.out.size) P2.out (by decide) (by have := HL.out; simp; omega))).mono ?_
    rintro e3 w3 ⟨v20, rfl, o20, b3⟩
    have L3 : Hid (RowsAt w3 (.slice (some ⟨b, off, none⟩) m cap) 20 (l.map Ses.enc)) := Lib.hid (L2.out.below b3)
    have P3 : Hid (PartsS w3 gP [l.take n, l.drop (n + 1)]) := Lib.hid (P2.out.below b3)
    have B3 := Lib.hid (B2.out.trans (b3.mono B2.out.size))
    have HS3 : Hid (From wa w3) := Lib.hid (HS2.out.trans (b3.mono HS2.out.size))
    clear b3
    have O3 : Hid (OwnRows w3 base 36 20 v20 ([l.take n, l.drop (n + 1)].flatten.map Ses.enc)) := Lib.hid o20
    refine hK.out _ _ HS3.out ?_
    clear hK K' L2 P2 B2 HS2 o20
    refine regS_take (i := 9) (v := ?_) rfl (by kernel_rfl) (by kernel_rfl) (by kernel_rfl) (fun _ _ _ h => h) (by rfl) HS3.out ?hy9 ?_
    case hy9 => intro w' hw'; go_simp; (try with_reducible rfl)
    simp only [Act.put, List.setIfInBounds_toArray, List.set_cons_zero, List.set_cons_succ]
    refine regS_end (by kernel_rfl) ?_
    clear HS3 L0
    go_wp2
    go_ret
    exact ⟨_, rfl, O3.out.eqL (by rw [dropS, if_pos (by omega), Int.toNat_natCast, List.eraseIdx_eq_take_drop_succ]; simp), B3.out⟩
  · have hF : dropS l i = l := by
      rw [dropS]
      split
      · exact List.eraseIdx_of_length_le (by have := HS.out.1; omega)
      · rfl
    have d : (decide (0 ≤ i) && decide (i < (m : Int))) = false := by rw [Bool.and_eq_false_iff, decide_eq_false_iff_not, decide_eq_false_iff_not]; omega
    have CH := Lib.hid (fun w => has_any A m cap i w)
    simp only [d] at CH
    clear d
    go_enter Try.func24, Try.ntmps24
    go_wp2_with fail
    refine (CH.out w).mono ?_
    rintro e w1 ⟨rfl, rfl⟩
    go_wp2_with (with_reducible refine wpList_build_1 rfl _ rfl A m cap l (by with_unfolding_all exact rfl) HR.out ?_)
    intro wp bp xp
    have BP := Lib.hid bp
    have XP := Lib.hid xp
    clear bp xp
    go_wp2_with fail
    refine (concatS_any _ 1 [l] rfl base wp (Nat.le_trans HB.out BP.out.size) XP.out (by decide) (by have := HL.out; simp; omega)).mono ?_
    rintro e wq ⟨v, rfl, oq, bq⟩
    have OQ := Lib.hid oq
    have BQ := Lib.hid (BP.out.trans (bq.mono BP.out.size))
    clear oq bq BP XP
    go_wp2
    go_ret
    exact ⟨_, rfl, OQ.out.eqL (by rw [hF]; simp), BQ.out⟩
end Go.Proofs.Ytjohlnpalcmhbaa
