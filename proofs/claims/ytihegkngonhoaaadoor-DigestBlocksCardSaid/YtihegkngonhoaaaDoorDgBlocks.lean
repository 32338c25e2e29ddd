/- The statement DigestBlocks: which state any block makes of any one, and with which one all begins. -/
import Derived.Test.YtihegkngonhoaaaDoorDgH
namespace Go.Proofs.YtihegkngonhoaaaDoor
open Go.RowKit Go.ChangeShapes Go.WideShapes Go.ChangeAt

theorem open_array {H : Type} {enc : TypeId × Value → H} {W : World} {b base n : Nat} {sp : Nat → Bool} {hd : Bool} {t e : TypeId} {k : IntKind} {v : Value} {d : DataW H} {p : List MemPlace}
    (ht : Tryd.prog.underlying t = some (.array n e)) (he : Tryd.prog.underlying e = some (.int k)) (hce : Tryd.prog.cellsOf e = 1) (hct : Tryd.prog.cellsOf t = n)
    (hv : Value.okWide Tryd.prog W .any base t v) (h : DataW.Trod enc Tryd.prog W b sp hd t v d p) : ∃ zs : List Int, zs.length = n ∧ v = .agg (zs.map (Value.int k)).toArray ∧ ∀ z ∈ zs, (Lit.int k z).wf = true := by
  simp only [Value.okWide, ht] at hv
  obtain ⟨cs, rfl, hsz, _⟩ := hv
  obtain ⟨fuel, hf⟩ := h
  obtain ⟨xs, m, rfl, hx, hlen, hxn, hel⟩ := DataW.trod_array ht hf
  have hat : ∀ i, i < n → ∃ z, cs[i]? = some (.int k z) ∧ (Lit.int k z).wf = true := fun i hi => by
    have q := hel i hi
    have hxi : xs[i]? = some xs[i] := List.getElem?_eq_getElem (by rw [hxn]; exact hi)
    rw [hxi, hce] at q
    obtain ⟨z, hc, _, hwf⟩ := DataW.trod_int he q
    refine ⟨z, ?_, hwf⟩
    have := congrArg (·[0]?) hc
    simpa [List.getElem?_take, List.getElem?_drop, Value.cells] using this
  have hcn : cs.size = n := by rw [hsz, hct]
  refine ⟨cs.toList.map intOf, by simp [hcn], ?_, ?_⟩
  · congr 1
    apply Array.ext_getElem?
    intro i
    by_cases hi : i < n
    · obtain ⟨z, hz, _⟩ := hat i hi
      simp [hz, intOf]
    · rw [Array.getElem?_eq_none (by omega), Array.getElem?_eq_none (by simp [hcn]; omega)]
  · intro z hz
    simp only [List.mem_map] at hz
    obtain ⟨u, hu, rfl⟩ := hz
    obtain ⟨i, hi, hiu⟩ := List.getElem_of_mem hu
    have hin : i < n := by simpa [hcn] using hi
    obtain ⟨z, hz, hwf⟩ := hat i hin
    have e : cs.toList[i]? = some (.int k z) := by simpa using hz
    rw [List.getElem?_eq_getElem hi, hiu] at e
    injection e with e
    subst e
    exact hwf
theorem word_back (z : Int) (h : (Lit.int .u32 z).wf = true) : wd (UInt32.ofNat z.toNat) = .int .u32 z := by
  have := bounds_u32 h
  simp only [wd, UInt32.toNat_ofNat']
  congr 1
  omega
theorem open_state {H : Type} {enc : TypeId × Value → H} {W : World} {b base : Nat} {sp : Nat → Bool} {hd : Bool} {v : Value} {d : DataW H} {p : List MemPlace}
    (hv : Value.okWide Tryd.prog W .any base 23 v) (h : DataW.Trod enc Tryd.prog W b sp hd 23 v d p) : ∃ s : List UInt32, s.length = 8 ∧ v = .agg (wv s) := by
  obtain ⟨zs, hl, rfl, hw⟩ := open_array Tryd.underlying23 Tryd.underlying22 (by kernel_rfl) (by kernel_rfl) hv h
  refine ⟨zs.map fun z => UInt32.ofNat z.toNat, by simp [hl], ?_⟩
  congr 2
  rw [List.map_map]
  apply List.map_congr_left
  intro z hz
  exact (word_back z (hw z hz)).symm
theorem open_block {H : Type} {enc : TypeId × Value → H} {W : World} {b base : Nat} {sp : Nat → Bool} {hd : Bool} {v : Value} {d : DataW H} {p : List MemPlace}
    (hv : Value.okWide Tryd.prog W .any base 24 v) (h : DataW.Trod enc Tryd.prog W b sp hd 24 v d p) : ∃ l : List UInt8, l.length = 64 ∧ v = .agg (bv l).toArray := by
  obtain ⟨zs, hl, rfl, hw⟩ := open_array Tryd.underlying24 Tryd.underlying5 (by kernel_rfl) (by kernel_rfl) hv h
  refine ⟨zs.map fun z => UInt8.ofNat z.toNat, by simp [hl], ?_⟩
  congr 2
  rw [bv, List.map_map]
  apply List.map_congr_left
  intro z hz
  simp only [Function.comp]
  rw [byte_back z (hw z hz)]

theorem exec_load {P : Program} {ρ : Operand → Value} {o : Oper} {ty : TypeId} {x : Operand} {ad : Addr} {v : Value} {w : World} (ho : o.op = .load ty x) (hx : ρ x = .pointer (some ad)) (hr : (loadVar ty ad).run P w = .ok v w) : (execOp ρ o).run P w = .ok (.value v) w := by
  unfold execOp
  simp only [ho, hx, Instr.loadAt, Instr.sureAddr, Sem.run_bind, Sem.run_pure, Result.andThen_ok, hr]
theorem Whole.bytes {w : World} {g : Nat} {t : TypeId} {l : List UInt8} (h : Whole w g t (bv l).toArray) : BytesAt w (.slice (some ⟨g, 0, none⟩) l.length l.length) l := by
  refine ⟨_, _, rfl, Nat.le_refl _, fun _ => ⟨_, rfl, fun j c hj => ?_⟩⟩
  have ha : (⟨g, 0, none⟩ : Addr).add j = ⟨g, j, none⟩ := by unfold Addr.add; split <;> simp_all
  rw [ha, h.at_ j]
  simp [bv, hj]

set_option maxRecDepth 100000 in
set_option maxHeartbeats 1000000 in
theorem words_any (s : List UInt32) (hs : s.length = 8) (v : Value) (w : World) (h : WordsAt w v s) :
    Calls Tryd.prog 7 #[.agg (wv s), v] w fun e w' => e = .returned (.bool true) ∧ Below w.heap.size w w' := by
  have HA := Lib.hid h
  obtain ⟨b, off, cap, rfl, -, -, -⟩ := h
  rw [hs] at HA ⊢
  have HS := Lib.hid hs
  clear hs
  go_enter Tryd.func7, Tryd.ntmps7
  go_wp2_with (refine wpList_box_row rfl 23 _ rfl _ rfl ?_)
  intro w1 b1 x1 z1
  have X1 := Lib.hid x1
  have B1 := Lib.hid b1
  have HA1 := Lib.hid (HA.out.below b1)
  obtain ⟨b', off', cap', hv', -, -, hcell⟩ := HA1.out
  injection hv' with e1 e2 e3
  injection e1 with e1
  injection e1 with e4 e5
  subst e4 e5
  have HC := Lib.hid hcell
  clear b1 x1 z1 hcell e2 e3 HA HA1
  go_wp2_with fail
  go_loopw [5] (fun i wr => ∃ k : Nat, k ≤ 8 ∧ i = .int .i64 k ∧ wr.heap = w1.heap ∧ Below w.heap.size w wr) (fun i _ => 8 - (intOf i).toNat)
  case atStart => exact ⟨0, Nat.zero_le _, rfl, rfl, B1.out⟩
  case round =>
    obtain ⟨k, hk, rfl, hh, hb⟩ := hrel
    have HH := Lib.hid hh
    have HB := Lib.hid hb
    clear hh hb
    by_cases hlt : k < 8
    · obtain ⟨x, hx⟩ : ∃ x, s[k]? = some x := ⟨_, List.getElem?_eq_getElem (show k < s.length by rw [HS.out]; exact hlt)⟩
      have d1 : decide ((k : Int) < 8) = true := by simp; omega
      have jt : (k : Int) < 8 := by omega
      have K1 := Lib.hid ((X1.out.at_ k).trans (wv_at _ _ _ hx))
      have K2 := Lib.hid (HC.out k x hx)
      clear hx
      go_wp2_with fail
      refine still_all (by kernel_rfl) (by kernel_rfl) fun w2 h2 b2 => ?_
      have k1 : w2.cell? ⟨w.heap.size, k, none⟩ = some (.int .u32 (x.toNat : Int)) := (World.cell?_of_block (by rw [h2, HH.out])).trans K1.out
      have k2 : w2.cell? ⟨b, off + k, none⟩ = some (.int .u32 (x.toNat : Int)) := (World.cell?_of_block (by rw [h2, HH.out])).trans K2.out
      repeat still_step
      refine wpStill_nil ?_
      have H2 := Lib.hid (h2.trans HH.out)
      have HB2 := Lib.hid (HB.out.trans (b2.mono HB.out.size))
      clear h2 b2 k1 k2
      go_wp2_with fail
      refine ⟨⟨k + 1, by omega, by go_num, H2.out, HB2.out⟩, by simp [intOf]; omega⟩
    · have d1 : decide ((k : Int) < 8) = false := by simp; omega
      go_wp2
      go_ret
      exact ⟨rfl, HB.out⟩

set_option maxRecDepth 100000 in
set_option maxHeartbeats 2000000 in
theorem blocks_core (s : List UInt32) (hs : s.length = 8) (l : List UInt8) (hl : l.length = 64) (w : World) (T : Tab w) :
    Calls Tryd.prog 3 #[.agg (wv s), .agg (bv l).toArray] w fun e w' => e = .returned (.bool true) ∧ Below w.heap.size w w' := by
  have T0 := Lib.hid T
  have HS := Lib.hid hs
  have HL := Lib.hid hl
  have CB := Lib.hid (block_any s hs l hl)
  have CR : Hid (∀ vs vb W, WordsAt W vs s → BytesAt W vb l → Calls Tryd.prog 9 #[vs, vb] W fun e w' => ∃ v', e = .returned v' ∧ WordsAt w' v' (blockS s l) ∧ Below W.heap.size W w') := fun vs vb W h h' => refBlock_any vs vb s hs l hl W h h'
  have HR := Lib.hid (blockS_length s l hs)
  generalize blockS s l = R at *
  clear T hs hl
  go_enter Tryd.func3, Tryd.ntmps3
  go_wp2_with (refine wpList_box_row rfl 23 _ rfl _ rfl ?_)
  intro w1 b1 x1 z1
  go_wp2_with (refine wpList_box_row rfl 24 _ rfl _ rfl ?_)
  intro w2 b2 x2 z2
  have X1 := Lib.hid (x1.below b2 (by omega))
  have X2 := Lib.hid x2
  have B2 : Hid (Below w.heap.size w w2) := b1.trans (b2.mono (by omega))
  clear b1 b2 x1 x2 z1 z2
  go_wp2_with fail
  refine reg_begin (by kernel_rfl) fun w4 hb4 hz4 => ?_
  have B4 : Hid (Below w.heap.size w w4) := B2.out.trans (hb4.mono B2.out.size)
  have Y1 := Lib.hid (X1.out.below hb4 X1.out.lt)
  have Y2 := Lib.hid (X2.out.below hb4 X2.out.lt)
  have T4 := Lib.hid (T0.out.below B4.out T0.out.pos)
  have WA : Hid (WordsAt w4 (.slice (some ⟨w.heap.size, 0, none⟩) 8 8) s) := by
    have q := WordsAt.whole Y1.out
    rw [HS.out] at q
    exact q
  have BA : Hid (BytesAt w4 (.slice (some ⟨w.heap.size + 1, 0, none⟩) 64 64) l) := by
    have q := Whole.bytes Y2.out
    rw [HL.out] at q
    exact q
  have l1 : ∀ w', Below w4.heap.size w4 w' → (loadVar 23 ⟨w.heap.size, 0, none⟩).run Tryd.prog w' = .ok (.agg (wv s)) w' := fun w' h => load_state (Y1.out.below h Y1.out.lt) HS.out
  have l2 : ∀ w', Below w4.heap.size w4 w' → (loadVar 24 ⟨w.heap.size + 1, 0, none⟩).run Tryd.prog w' = .ok (.agg (bv l).toArray) w' := fun w' h => run_loadVar_row w' _ _ _ _ _ _ (Y2.out.below h Y2.out.lt) Tryd.underlying24 rfl (by rw [bva_size, HL.out]; exact size24)
  have L1 := Lib.hid l1
  have L2 := Lib.hid l2
  clear hb4 hz4 B2 X1 X2 l1 l2
  refine reg_take (i := 0) (v := .agg (wv s)) rfl (by kernel_rfl) (by kernel_rfl) (by kernel_rfl) (fun _ _ _ h => h) (by rfl) (fun w' h => exec_load rfl rfl (L1.out w' h)) ?_
  simp only [Act.put, List.setIfInBounds_toArray, List.set_cons_zero, List.set_cons_succ]
  refine reg_take (i := 1) (v := .agg (bv l).toArray) rfl (by kernel_rfl) (by kernel_rfl) (by kernel_rfl) (fun _ _ _ h => h) (by rfl) (fun w' h => exec_load rfl rfl (L2.out w' h)) ?_
  simp only [Act.put, List.setIfInBounds_toArray, List.set_cons_zero, List.set_cons_succ]
  clear L1 L2
  refine reg_take (i := 3) (v := ?_) rfl (by kernel_rfl) (by kernel_rfl) (by kernel_rfl) (fun _ _ _ h => h) (by rfl) ?hy3 ?_
  case hy3 => intro w' hw'; go_simp; (try with_reducible rfl)
  simp only [Act.put, List.setIfInBounds_toArray, List.set_cons_zero, List.set_cons_succ]
  refine reg_take (i := 4) (v := ?_) rfl (by kernel_rfl) (by kernel_rfl) (by kernel_rfl) (fun _ _ _ h => h) (by rfl) ?hy4 ?_
  case hy4 => intro w' hw'; go_simp; (try with_reducible rfl)
  simp only [Act.put, List.setIfInBounds_toArray, List.set_cons_zero, List.set_cons_succ]
  refine reg_call (i := 2) rfl (by kernel_rfl) (fun K' hK => ?_)
  go_simp
  refine (CB.out w4 T4.out).mono ?_
  rintro e w5 ⟨rfl, b5⟩
  have B5 : Hid (Below w.heap.size w w5) := B4.out.trans (b5.mono B4.out.size)
  have WA5 := Lib.hid (WA.out.below b5)
  have BA5 := Lib.hid (BA.out.below b5)
  have T5 := Lib.hid (T4.out.below b5 T4.out.pos)
  refine hK.out _ _ b5 ?_
  clear hK K' b5 B4 WA BA T4
  refine reg_call (i := 5) rfl (by kernel_rfl) (fun K' hK => ?_)
  go_simp
  refine (CR.out _ _ w5 WA5.out BA5.out).mono ?_
  rintro e w6 ⟨v6, rfl, y6, b6⟩
  have B6 : Hid (Below w.heap.size w w6) := B5.out.trans (b6.mono B5.out.size)
  have Y6 := Lib.hid y6
  have T6 := Lib.hid (T5.out.below b6 T5.out.pos)
  refine hK.out _ _ b6 ?_
  clear hK K' b6 B5 WA5 BA5 T5 y6
  refine reg_call (i := 6) rfl (by kernel_rfl) (fun K' hK => ?_)
  go_simp
  refine (words_any R HR.out v6 w6 Y6.out).mono ?_
  rintro e w7 ⟨rfl, b7⟩
  have B7 : Hid (Below w.heap.size w w7) := B6.out.trans (b7.mono B6.out.size)
  have T7 := Lib.hid (T6.out.below b7 T6.out.pos)
  refine hK.out _ _ b7 ?_
  clear hK K' b7 B6 T6 Y6
  refine reg_take (i := 7) (v := ?_) rfl (by kernel_rfl) (by kernel_rfl) (by kernel_rfl) (fun _ _ _ h => h) (by rfl) ?hy7 ?_
  case hy7 => intro w' hw'; go_simp; (try with_reducible rfl)
  simp only [Act.put, List.setIfInBounds_toArray, List.set_cons_zero, List.set_cons_succ]
  refine reg_call (i := 8) rfl (by kernel_rfl) (fun K' hK => ?_)
  go_simp
  refine (start_any w7).mono ?_
  rintro e w8 ⟨rfl, b8⟩
  have B8 : Hid (Below w.heap.size w w8) := B7.out.trans (b8.mono B7.out.size)
  have T8 := Lib.hid (T7.out.below b8 T7.out.pos)
  refine hK.out _ _ b8 ?_
  clear hK K' b8 B7 T7
  refine reg_call (i := 9) rfl (by kernel_rfl) (fun K' hK => ?_)
  go_simp
  refine (refStart_any w8).mono ?_
  rintro e w9 ⟨v9, rfl, y9, b9⟩
  have B9 : Hid (Below w.heap.size w w9) := B8.out.trans (b9.mono B8.out.size)
  have T9 := Lib.hid (T8.out.below b9 T8.out.pos)
  have Y9 := Lib.hid y9
  refine hK.out _ _ b9 ?_
  clear hK K' b9 B8 T8 y9
  refine reg_call (i := 10) rfl (by kernel_rfl) (fun K' hK => ?_)
  go_simp
  refine (words_any start rfl v9 w9 Y9.out).mono ?_
  rintro e wa ⟨rfl, ba⟩
  have BA : Hid (Below w.heap.size w wa) := B9.out.trans (ba.mono B9.out.size)
  have TA := Lib.hid (T9.out.below ba T9.out.pos)
  refine hK.out _ _ ba ?_
  clear hK K' ba B9 T9 Y9
  refine reg_take (i := 11) (v := ?_) rfl (by kernel_rfl) (by kernel_rfl) (by kernel_rfl) (fun _ _ _ h => h) (by rfl) ?hy11 ?_
  case hy11 => intro w' hw'; go_simp; (try with_reducible rfl)
  simp only [Act.put, List.setIfInBounds_toArray, List.set_cons_zero, List.set_cons_succ]
  refine reg_take (i := 12) (v := ?_) rfl (by kernel_rfl) (by kernel_rfl) (by kernel_rfl) (fun _ _ _ h => h) (by rfl) ?hy12 ?_
  case hy12 => intro w' hw'; go_simp; (try with_reducible rfl)
  simp only [Act.put, List.setIfInBounds_toArray, List.set_cons_zero, List.set_cons_succ]
  refine reg_call (i := 13) rfl (by kernel_rfl) (fun K' hK => ?_)
  go_simp
  refine (works3 wa TA.out).mono ?_
  rintro e wb ⟨rfl, bb⟩
  have BB : Hid (Below w.heap.size w wb) := BA.out.trans (bb.mono BA.out.size)
  refine hK.out _ _ bb ?_
  clear hK K' bb BA TA
  refine reg_take (i := 14) (v := ?_) rfl (by kernel_rfl) (by kernel_rfl) (by kernel_rfl) (fun _ _ _ h => h) (by rfl) ?hy14 ?_
  case hy14 => intro w' hw'; go_simp; (try with_reducible rfl)
  simp only [Act.put, List.setIfInBounds_toArray, List.set_cons_zero, List.set_cons_succ]
  refine reg_take (i := 15) (v := ?_) rfl (by kernel_rfl) (by kernel_rfl) (by kernel_rfl) (fun _ _ _ h => h) (by rfl) ?hy15 ?_
  case hy15 => intro w' hw'; go_simp; (try with_reducible rfl)
  simp only [Act.put, List.setIfInBounds_toArray, List.set_cons_zero, List.set_cons_succ]
  refine reg_end (by kernel_rfl) ?_
  go_wp2
  go_ret
  exact ⟨rfl, BB.out⟩

set_option maxRecDepth 100000 in
theorem blocks_core_lifted (os : Os) (started : os.Started) (H : Type) (enc : TypeId × Value → H) :
    ReturnsInHanded {} Tryd.checked os 3 .any (fun w args => (Rows.digestBlocksSpec.pre enc Tryd.prog Tryd.f3 [] false w args ∧ laidMetH Tryd.prog laidC w) ∧ sizedMet enc Tryd.prog Tryd.f3 (OpenSpec.ofChange Rows.digestBlocksSpec) false w args)
      (Rows.digestBlocksSpec.post enc Tryd.prog Tryd.f3 false true false false) := by
  refine returnsInHanded_of_change_and (C := Tryd.checked) (X := fun w _ => laidMetH Tryd.prog laidC w) (fun _ _ _ hh h => h.of_heap hh) own started (by kernel_rfl) Tryd.func3
    (ChangeSpec.witness_shaped (enc := enc) (C := Tryd.checked) (os := os) (X := fun w _ => laidMetH Tryd.prog laidC w) false (World.doorLaid Tryd.prog 400 os) #[.agg (wv (zw 8)), .agg (bv (List.replicate 64 0)).toArray] 8 rfl (World.shaped_of_RefB (by kernel_rfl) (by kernel_rfl)) (by kernel_rfl) (by kernel_rfl) (by kernel_rfl) (door_met os _)) ?_
  intro W base args ds gs before hval0 hW _ _ hL _
  have hval : ∀ (j : Nat) t v, Tryd.f3.params[j]? = some t → args[j]? = some v → Value.okWide Tryd.prog W .any base t v := hval0
  have hW' := hW
  obtain ⟨p, q, hA0, hV, rfl, hfz, hnd⟩ := hW
  have hA : DataW.TrodAll enc Tryd.prog W 0 (fun _ => true) true Tryd.f3.params.toList args.toList ds p := hA0
  rw [Tryd.params3] at hA hval
  obtain ⟨v0, vs0, d0, ds0, p0, q0, hargs, rfl, rfl, h0, r0⟩ := trodAll_cons hA
  obtain ⟨v1, vs1, d1, ds1, p1, q1, rfl, rfl, rfl, h1, r1⟩ := trodAll_cons r0
  obtain ⟨rfl, rfl, rfl⟩ := trodAll_nil r1
  obtain rfl : args = #[v0, v1] := by cases args; simp_all
  obtain ⟨rfl, rfl⟩ := trodVars_none hV
  have k0 := h0
  have lt0 : ∀ x ∈ p0, x.block < W.heap.size := by obtain ⟨m, hm⟩ := k0; exact DataW.trod_lt m _ _ _ hm
  obtain ⟨l0, n0, rfl⟩ := open_state (hval 0 23 v0 rfl rfl) h0
  have k1 := h1
  have lt1 : ∀ x ∈ p1, x.block < W.heap.size := by obtain ⟨m, hm⟩ := k1; exact DataW.trod_lt m _ _ _ hm
  obtain ⟨l1, n1, rfl⟩ := open_block (hval 1 24 v1 rfl rfl) h1
  clear hA0 hval0
  refine (blocks_core l0 n0 l1 n1 W (tab_of_laid hL)).mono fun e W' ⟨he, bel⟩ => ?_
  subst he
  exact ⟨_, rfl, _, _, _, [], _, [], hW', trodAll_mk1 (shut_bool Tryd.underlying4 _), (trodAll_cons_mk (Below.trod laidOut (by kernel_rfl) (of_decide_eq_true (by kernel_rfl)) k0 bel lt0) (trodAll_cons_mk (Below.trod laidOut (by kernel_rfl) (of_decide_eq_true (by kernel_rfl)) k1 bel lt1) trodAll_mk0)), rfl, bel.frame _, fun h => by cases h⟩

theorem digestBlocks_row : Rows.DigestBlocksSaid :=
  OpenClaim.holds_of_wide 3 Tryd.f3 rfl rfl rfl rfl rfl rfl rfl ⟨rfl, rfl, rfl, rfl, rfl⟩ rfl rfl rfl rfl rfl (by kernel_rfl) Tryd.func3 (by kernel_rfl)
    (of_decide_eq_true (by kernel_rfl)) (by unfold Func.isWrapper; first | (rw [if_pos (by decide +kernel)]; kernel_rfl) | (rw [if_neg (by decide +kernel)]; exact ⟨rfl, rfl⟩))
    (fun os started H enc _ => blocks_core_lifted os started H enc)

/-- The statement. -/
theorem digestBlocks_holds : Rows.DigestBlocksCardSaid :=
  Claim7.holds_tied_plain_at .later [] [.data] true (true, "5f10133e9aaf8b882eef537391fe638dacc67f2794c812549e6e0364a255879d") false
    digestBlocks_row (fun _ h => by cases h) (by kernel_rfl) (fun _ h => by cases h) digestBlocks_row_tie rfl ⟨rfl, rfl⟩ (by kernel_rfl) rfl
    (fun f fn hf hfn => by
      obtain rfl : f = 3 := Option.some.inj ((show Tryd.prog.funcNamed "carcanet/carcanetlaw03.DigestBlocks" = some 3 by kernel_rfl).symm.trans hf) |>.symm
      obtain rfl : fn = Tryd.f3 := (Option.some.inj (Tryd.func3.symm.trans hfn)).symm
      exact ⟨by kernel_rfl, fun j t ht => by
        rw [Tryd.params3] at ht
        have hm : t ∈ [23, 24] := by simpa using Array.mem_of_getElem? ht
        have hall : ([23, 24].all fun u => !Tryd.prog.wantsStandIn u) = true := by kernel_rfl
        exact (show Tryd.prog.wantsStandIn t = false by simpa using List.all_eq_true.1 hall t hm)⟩)
    (by kernel_rfl)
#print axioms digestBlocks_holds
end Go.Proofs.YtihegkngonhoaaaDoor
