/- The statement DigestParts: a sum has 32 bytes, and is that of all blocks of a text and what stands behind it, one by one. -/
import Derived.Test.YtihegkngonhoaaaDoorDgL
namespace Go.Proofs.YtihegkngonhoaaaDoor
open Go.RowKit Go.ChangeShapes Go.WideShapes Go.ChangeAt

theorem stBytes_at (s : List UInt32) : ∀ (k : Nat) (x : UInt32), s[k]? = some x → (stBytes s)[4 * k]? = some (x >>> 24).toUInt8 ∧ (stBytes s)[4 * k + 3]? = some x.toUInt8 := by
  induction s with
  | nil => intro k x h; simp at h
  | cons y s ih =>
    intro k x h
    have e : stBytes (y :: s) = bytes4 y ++ stBytes s := rfl
    have hl : (bytes4 y).length = 4 := rfl
    cases k with
    | zero =>
      simp at h
      subst h
      exact ⟨rfl, rfl⟩
    | succ k =>
      have := ih k x (by simpa using h)
      rw [e]
      constructor
      · rw [List.getElem?_append_right (by rw [hl]; omega), hl, show 4 * (k + 1) - 4 = 4 * k by omega]
        exact this.1
      · rw [List.getElem?_append_right (by rw [hl]; omega), hl, show 4 * (k + 1) + 3 - 4 = 4 * k + 3 by omega]
        exact this.2

set_option maxHeartbeats 1000000 in
theorem parts_great (A : Option Addr) (l : List UInt8) (cap : Nat) (hl : 2000 < l.length) (w : World) (T : Tab w) :
    Calls Tryd.prog 6 #[.slice A l.length cap] w fun e w' => e = .returned (.bool true) ∧ Below w.heap.size w w' := by
  have d : decide ((2000 : Int) < (l.length : Int)) = true := by simp; omega
  go_enter Tryd.func6, Tryd.ntmps6
  go_wp2_with fail
  refine (works3 w T).mono ?_
  rintro e w1 ⟨rfl, b1⟩
  have B1 := Lib.hid b1
  clear b1
  go_wp2
  go_ret
  exact ⟨rfl, B1.out⟩

set_option maxRecDepth 100000 in
set_option maxHeartbeats 2000000 in
theorem parts_small (A : Option Addr) (l : List UInt8) (cap : Nat) (hl : l.length ≤ 2000) (w : World) (h : BytesAt w (.slice A l.length cap) l) (T : Tab w) :
    Calls Tryd.prog 6 #[.slice A l.length cap] w fun e w' => e = .returned (.bool true) ∧ Below w.heap.size w w' := by
  have d0 : decide ((2000 : Int) < (l.length : Int)) = false := by simp; omega
  have T0 := Lib.hid T
  have H0 := Lib.hid h
  clear T h
  go_enter Tryd.func6, Tryd.ntmps6
  go_wp2_with fail
  refine (works3 w T0.out).mono ?_
  rintro e w1 ⟨rfl, b1⟩
  have B1 := Lib.hid b1
  have H1 := Lib.hid (H0.out.below b1)
  have T1 := Lib.hid (T0.out.below b1 T0.out.pos)
  clear b1
  go_wp2_with (with_reducible refine wpList_append_bytes rfl _ _ rfl w1.heap.size _ _ _ ?hv (own_empty w1) _ _ ?hx (H1.out.below ((Below.refl _ _).alloc (Nat.le_refl _) _)) ?hlen ?hbase ?_)
  case hv => exact rfl
  case hx => exact rfl
  case hlen => omega
  case hbase => simp
  intro v2 w2 ho2 hg2
  have B2 := Lib.hid (((Below.refl w1.heap.size w1).alloc (Nat.le_refl _) (.cells #[] 5)).grown hg2 (by simp) (fun k hk => ((own_empty w1).lt k hk).1))
  have HO2 := Lib.hid ho2
  clear ho2 hg2
  go_wp2_with fail
  refine (pad_any l.length (by omega) w2).mono ?_
  rintro e w3 ⟨vp, rfl, yp, b3⟩
  have hg3 : w2.grownBy w3 none := ⟨b3.os, b3.tape, b3.output, b3.size, fun k hk _ => b3.block k hk⟩
  have HO3 := Lib.hid (HO2.out.kept hg3 (by cases v2.ownBlock <;> simp))
  have YP := Lib.hid yp
  have B3 := Lib.hid (B2.out.trans (b3.mono B2.out.size))
  have PM := padL_most l.length
  have PW := padL_whole l.length
  have HAL : Hid (bv l ++ bv (padL l.length) = bv (allOf l)) := (bv_append _ _).symm
  have HAN : Hid (l.length + (padL l.length).length = (allOf l).length) := (allOf_length l).symm
  have hpl : (padL l.length).length ≤ 72 := PM.2
  clear b3 yp hg3 HO2 B2
  go_wp2_with (with_reducible refine wpList_append_bytes rfl _ _ rfl w1.heap.size _ _ _ ?hv HO3.out _ _ ?hx YP.out ?hlen ?hbase ?_)
  case hv => exact rfl
  case hx => exact rfl
  case hlen => omega
  case hbase => exact B3.out.size
  intro v4 w4 ho4 hg4
  rw [HAL.out, HAN.out] at ho4
  have hlt4 := HO3.out.lt
  have B4 := Lib.hid (B3.out.grown hg4 B3.out.size (fun k hk => (hlt4 k hk).1))
  rw [HAN.out] at PW
  have hn9 : l.length + 9 ≤ (allOf l).length := by rw [← HAN.out]; omega
  have hn72 : (allOf l).length ≤ l.length + 72 := by rw [← HAN.out]; omega
  obtain ⟨ga, cap4, hv4, -⟩ := ho4.form (by omega)
  subst hv4
  have hga := (ho4.lt ga rfl).2
  have Y4 := Lib.hid (BytesAt.of_own ho4)
  have hcap4 := Y4.out.size.2
  have HSS : Hid (sumS l = blocks start (allOf l) ((allOf l).length / 64)) := Lib.hid rfl
  clear hlt4 ho4 hg4 HO3 YP B3 HAL HAN PM hpl
  generalize allOf l = all at *
  obtain ⟨n, hn⟩ : ∃ n, n = all.length := ⟨_, rfl⟩
  rw [← hn] at Y4 hcap4 hn9 hn72 PW HSS ⊢
  have HN := Lib.hid hn
  have dA : (((n : Int) % 64) != 0) = false := by rw [bne_eq_false_iff_eq]; omega
  have dB : decide ((n : Int) < (l.length : Int) + 9) = false := by simp; omega
  have dC : decide ((l.length : Int) + 72 < (n : Int)) = false := by simp; omega
  have T4 := Lib.hid (T1.out.below B4.out T1.out.pos)
  have BW4 := Lib.hid (B1.out.trans (B4.out.mono B1.out.size))
  have HWN := Lib.hid PW
  clear hn PW B4 T1
  go_wp2_with fail
  refine (start_any w4).mono ?_
  rintro e w5 ⟨rfl, b5⟩
  have B5 := Lib.hid b5
  clear b5
  go_wp2_with (with_reducible refine wpList_alloc_row rfl 23 rfl _ zero23 ?_)
  intro w6 b6 x6 z6
  have X6 := Lib.hid x6
  have g6 := B5.out.size
  have B6 := Lib.hid (B5.out.trans (b6.mono B5.out.size))
  clear x6 b6 z6
  go_wp2_with (with_reducible refine wpList_store_whole rfl 23 _ _ rfl w5.heap.size (wv start) ?hx ?hy _ _ X6.out ?hs ?ho (wv_one _) ?_)
  case hx => exact rfl
  case hy => exact rfl
  case hs => exact size23
  case ho => exact rfl
  intro w7 g7 x7 z7
  have X7 := Lib.hid x7
  have B7 := Lib.hid (B6.out.grown g7 B6.out.size (fun k hk => by injection hk; omega))
  clear x7 g7 z7 X6 B6 B5 dA dB dC d0
  go_wp2_with fail
  go_loopw [5] (fun i wr => ∃ k t : Nat, t = 64 * k ∧ t ≤ n ∧ i = .int .i64 (t : Int) ∧ Whole wr w5.heap.size 23 (wv (blocks start all k)) ∧ Below w4.heap.size w4 wr) (fun i _ => n - (intOf i).toNat)
  case atStart => exact ⟨0, 0, rfl, Nat.zero_le _, rfl, X7.out, B7.out⟩
  case round =>
    obtain ⟨k, t, ht, htn, rfl, x, hb⟩ := hrel
    clear X7 B7
    have HB := Lib.hid hb
    have X1 := Lib.hid x
    have H8 := Lib.hid (blocks_length start all k rfl)
    have HT := Lib.hid ht
    clear hb x
    by_cases hlt : t < n
    · have h64 : t + 64 ≤ n := by have := HWN.out; omega
      have dt : decide ((t : Int) + 64 ≤ (n : Int)) = true := by simp; omega
      have hct : cap4 ≠ t := by omega
      obtain ⟨u, hu⟩ : ∃ u, u = t + 64 := ⟨_, rfl⟩
      have tw : IntKind.i64.wrap ((t : Int) + 64) = (u : Int) := by rw [IntWalk.i64_in _ (by omega)]; omega
      have hu1 : u ≤ cap4 := by omega
      have hu2 : t ≤ u := by omega
      have hut : u - t = 64 := by omega
      have dt' : decide ((u : Int) ≤ (n : Int)) = true := by simp; omega
      have HU := Lib.hid hu
      clear hu
      clear ht
      go_wp2_with fail
      refine still_tail 8 (by kernel_rfl) (by kernel_rfl) fun w8 h8 b8 => ?_
      simp only [List.take_succ_cons, List.take_zero, List.drop_succ_cons, List.drop_zero]
      have Y1 := Lib.hid (X1.out.of_heap h8)
      have HB8 := Lib.hid (HB.out.trans (b8.mono HB.out.size))
      have V8 := Lib.hid ((Y4.out.below HB8.out).from t htn)
      rw [if_neg hct] at V8
      refine still_load rfl 23 _ rfl _ rfl _ (load_state Y1.out H8.out) ?_
      have h64l : 64 ≤ (all.drop t).length := by rw [List.length_drop, ← HN.out]; omega
      have V64 := Lib.hid (V8.out.first 64 (by omega))
      have h64t : 64 ≤ ((all.drop t).take 64).length := by rw [List.length_take]; omega
      have ha : (⟨ga, 0, none⟩ : Addr).add t = ⟨ga, t, none⟩ := by unfold Addr.add; split <;> simp_all
      rw [Option.map_some, ha] at V64
      have sa := arr_ptr (some ⟨ga, t, none⟩) 64 (cap4 - t) (Nat.le_refl _)
      still_step
      still_step
      still_step
      still_step
      still_step
      still_step
      refine still_load rfl 24 _ rfl _ rfl _ (load_block V64.out h64t) ?_
      refine wpStill_nil ?_
      have T8 := Lib.hid (T4.out.below HB8.out T4.out.pos)
      have CB := Lib.hid (block_any (blocks start all k) H8.out (((all.drop t).take 64).take 64) (by simp only [List.length_take]; omega) w8 T8.out)
      have eB : blockS (blocks start all k) (((all.drop t).take 64).take 64) = blocks start all (k + 1) := by
        rw [List.take_take, Nat.min_self, HT.out]
        exact rfl
      rw [eB] at CB
      have H8' := Lib.hid (blocks_length start all (k + 1) rfl)
      have S8' : Hid ((Tryd.prog.info? 23).map (·.size) = some (wv (blocks start all (k + 1))).size) := by rw [wv_size, H8'.out]; exact size23
      have Z8' : Hid ((wv (blocks start all k)).size = (wv (blocks start all (k + 1))).size) := by rw [wv_size, wv_size, H8'.out, H8.out]; exact rfl
      clear X1 HB h8 b8 V8 V64 h64l h64t ha sa eB dt dt' hct
      generalize hB : blocks start all (k + 1) = R1 at *
      have HBB := Lib.hid hB
      clear hB
      go_wp2_with fail
      refine CB.out.mono ?_
      rintro e w9 ⟨rfl, b9⟩
      have Y9 := Lib.hid (Y1.out.below b9 Y1.out.lt)
      have HB9 := Lib.hid (HB8.out.trans (b9.mono HB8.out.size))
      clear b9 CB Y1 HB8 T8
      go_wp2_with (with_reducible refine wpList_store_whole rfl 23 _ _ rfl w5.heap.size (wv R1) ?hx ?hy _ _ Y9.out S8'.out Z8'.out (wv_one _) ?_)
      case hx => exact rfl
      case hy => exact rfl
      intro wa ga' xa za
      refine wpList_nil ?_
      have XA := Lib.hid xa
      have HBA := Lib.hid (HB9.out.grown ga' HB9.out.size (fun k hk => by injection hk; omega))
      clear xa ga' za Y9 HB9 S8' Z8'
      go_wp2_with fail
      have hu := HU.out
      have htk := HT.out
      rw [← HBB.out] at XA
      refine ⟨⟨k + 1, u, by omega, by omega, ?_, XA.out, HBA.out⟩, by simp [intOf]; omega⟩
      go_num
    · have htn' : t = n := by omega
      have dt : decide ((t : Int) + 64 ≤ (n : Int)) = false := by simp; omega
      have eS : blocks start all k = sumS l := by
        have h1 : n / 64 = k := by have := HT.out; omega
        rw [HSS.out, h1]
      rw [eS] at X1
      have BW := Lib.hid (BW4.out.trans (HB.out.mono BW4.out.size))
      have TW := Lib.hid (T0.out.below BW.out T0.out.pos)
      have CS := Lib.hid (sum_any (.slice A l.length cap) l (by omega) wr (H0.out.below BW.out) TW.out)
      have LS := Lib.hid (sumS_length l)
      have LR := Lib.hid (sumL_length l)
      have HAT := Lib.hid (stBytes_at (sumS l))
      have HSL : Hid (sumL l = stBytes (sumS l)) := Lib.hid rfl
      rw [← HSL.out] at HAT
      generalize sumL l = R at *
      generalize hS : sumS l = S at *
      have htb : t ≤ 3000 := by omega
      clear eS hS HSS ht htn htn' hlt H8 HT HSL
      go_wp2_with fail
      refine CS.out.mono ?_
      rintro e wb ⟨vs, rfl, ys, bs⟩
      have YS := Lib.hid ys
      have XB := Lib.hid (X1.out.below bs X1.out.lt)
      have BWB := Lib.hid (BW.out.trans (bs.mono BW.out.size))
      obtain ⟨As, caps, rfl, -, -⟩ := ys
      rw [LR.out] at YS ⊢
      obtain ⟨bb, off, rfl, hbb, hcell⟩ := YS.out.spots (by intro e; have := LR.out; rw [e] at this; simp at this)
      have HC := Lib.hid hcell
      have S8 : Hid ((Tryd.prog.info? 23).map (·.size) = some (wv S).size) := by rw [wv_size, LS.out]; exact size23
      clear bs X1 BW hcell TW CS dt
      go_upto_region 16 with fail
      refine wp_region_lit (wpList_load_row rfl 23 _ rfl _ rfl _ _ _ _ XB.out Tryd.underlying23 rfl S8.out ?_)
      go_wp2_with fail
      go_loop [64] (fun i => ∃ k : Nat, k ≤ 8 ∧ i = .int .i64 k) (fun i => 8 - (intOf i).toNat)
      case atStart => exact ⟨0, Nat.zero_le _, rfl⟩
      case round =>
        obtain ⟨j, hj, rfl⟩ := hrel
        by_cases hj8 : j < 8
        · obtain ⟨x, hx⟩ : ∃ x, S[j]? = some x := ⟨_, List.getElem?_eq_getElem (show j < S.length by rw [LS.out]; exact hj8)⟩
          have ix := index_words S LS.out j _ hx
          obtain ⟨h1, h2⟩ := HAT.out j x hx
          have k1 := HC.out _ _ h1
          have k2 := HC.out _ _ h2
          have d1 : decide ((j : Int) < 8) = true := by simp; omega
          have s24 := run_shr 24 (by decide) 24 rfl
          have c24 := wd_byte (x >>> 24)
          have c0 := wd_byte x
          clear h1 h2 hx
          generalize (x >>> 24).toUInt8 = y3 at *
          generalize x.toUInt8 = y0 at *
          go_wp2
          exact ⟨⟨j + 1, by omega, by go_num⟩, by simp [intOf]; omega⟩
        · have d1 : decide ((j : Int) < 8) = false := by simp; omega
          go_wp2
          go_ret
          exact ⟨rfl, BWB.out⟩

theorem parts_core (A : Option Addr) (l : List UInt8) (n cap : Nat) (w : World) (h : BytesAt w (.slice A n cap) l) (T : Tab w) :
    Calls Tryd.prog 6 #[.slice A n cap] w fun e w' => e = .returned (.bool true) ∧ Below w.heap.size w w' := by
  obtain ⟨hn, -⟩ := h.size
  subst hn
  by_cases hg : 2000 < l.length
  · exact parts_great A l cap hg w T
  · exact parts_small A l cap (by omega) w h T

set_option maxRecDepth 100000 in
theorem parts_core_lifted (os : Os) (started : os.Started) (H : Type) (enc : TypeId × Value → H) :
    ReturnsInHanded {} Tryd.checked os 6 .any (fun w args => (Rows.digestPartsSpec.pre enc Tryd.prog Tryd.f6 [] false w args ∧ laidMetH Tryd.prog laidC w) ∧ sizedMet enc Tryd.prog Tryd.f6 (OpenSpec.ofChange Rows.digestPartsSpec) false w args)
      (Rows.digestPartsSpec.post enc Tryd.prog Tryd.f6 false true false false) := by
  refine returnsInHanded_of_change_and (C := Tryd.checked) (X := fun w _ => laidMetH Tryd.prog laidC w) (fun _ _ _ hh h => h.of_heap hh) own started (by kernel_rfl) Tryd.func6
    (ChangeSpec.witness_shaped (enc := enc) (C := Tryd.checked) (os := os) (X := fun w _ => laidMetH Tryd.prog laidC w) false (World.doorLaid Tryd.prog 400 os) #[.slice none 0 0] 8 rfl (World.shaped_of_RefB (by kernel_rfl) (by kernel_rfl)) (by kernel_rfl) (by kernel_rfl) (by kernel_rfl) (door_met os _)) ?_
  intro W base args ds gs before hval0 hW _ _ hL _
  have hval : ∀ (j : Nat) t v, Tryd.f6.params[j]? = some t → args[j]? = some v → Value.okWide Tryd.prog W .any base t v := hval0
  have hW' := hW
  obtain ⟨p, q, hA0, hV, rfl, hfz, hnd⟩ := hW
  have hA : DataW.TrodAll enc Tryd.prog W 0 (fun _ => true) true Tryd.f6.params.toList args.toList ds p := hA0
  rw [Tryd.params6] at hA hval
  obtain ⟨v0, vs0, d0, ds0, p0, q0, hargs, rfl, rfl, h0, r0⟩ := trodAll_cons hA
  obtain ⟨rfl, rfl, rfl⟩ := trodAll_nil r0
  obtain rfl : args = #[v0] := by cases args; simp_all
  obtain ⟨rfl, rfl⟩ := trodVars_none hV
  obtain ⟨a0, len0, cap0, rfl⟩ := okWide_slice Tryd.underlying29 (hval 0 29 v0 rfl rfl)
  have k0 := h0
  have lt0 : ∀ x ∈ p0, x.block < W.heap.size := by obtain ⟨m, hm⟩ := k0; exact DataW.trod_lt m _ _ _ hm
  obtain ⟨l0, w0⟩ := open_bytes h0
  clear hA0 hval0
  refine (parts_core a0 l0 len0 cap0 W w0 (tab_of_laid hL)).mono fun e W' ⟨he, bel⟩ => ?_
  subst he
  exact ⟨_, rfl, _, _, _, [], _, [], hW', trodAll_mk1 (shut_bool Tryd.underlying4 _), (trodAll_cons_mk (Below.trod laidOut (by kernel_rfl) (of_decide_eq_true (by kernel_rfl)) k0 bel lt0) trodAll_mk0), rfl, bel.frame _, fun h => by cases h⟩

theorem digestParts_row : Rows.DigestPartsSaid :=
  OpenClaim.holds_of_wide 6 Tryd.f6 rfl rfl rfl rfl rfl rfl rfl ⟨rfl, rfl, rfl, rfl, rfl⟩ rfl rfl rfl rfl rfl (by kernel_rfl) Tryd.func6 (by kernel_rfl)
    (of_decide_eq_true (by kernel_rfl)) (by unfold Func.isWrapper; first | (rw [if_pos (by decide +kernel)]; kernel_rfl) | (rw [if_neg (by decide +kernel)]; exact ⟨rfl, rfl⟩))
    (fun os started H enc _ => parts_core_lifted os started H enc)

/-- The statement. -/
theorem digestParts_holds : Rows.DigestPartsCardSaid :=
  Claim7.holds_tied_plain_at .later [] [.data] true (true, "5f10133e9aaf8b882eef537391fe638dacc67f2794c812549e6e0364a255879d") false
    digestParts_row (fun _ h => by cases h) (by kernel_rfl) (fun _ h => by cases h) digestParts_row_tie rfl ⟨rfl, rfl⟩ (by kernel_rfl) rfl
    (fun f fn hf hfn => by
      obtain rfl : f = 6 := Option.some.inj ((show Tryd.prog.funcNamed "carcanet/carcanetlaw03.DigestParts" = some 6 by kernel_rfl).symm.trans hf) |>.symm
      obtain rfl : fn = Tryd.f6 := (Option.some.inj (Tryd.func6.symm.trans hfn)).symm
      exact ⟨by kernel_rfl, fun j t ht => by
        rw [Tryd.params6] at ht
        have hm : t ∈ [29] := by simpa using Array.mem_of_getElem? ht
        have hall : ([29].all fun u => !Tryd.prog.wantsStandIn u) = true := by kernel_rfl
        exact (show Tryd.prog.wantsStandIn t = false by simpa using List.all_eq_true.1 hall t hm)⟩)
    (by kernel_rfl)
#print axioms digestParts_holds
end Go.Proofs.YtihegkngonhoaaaDoor

