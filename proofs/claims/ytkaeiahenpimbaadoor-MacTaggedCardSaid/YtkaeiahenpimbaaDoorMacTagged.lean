/- The statement MacTagged: a tag has 32 bytes, and is a text's; with one byte changed, or one less, it is not. For every input. -/
import Derived.Test.YtkaeiahenpimbaaDoorMacC
import Derived.Test.YtkaeiahenpimbaaDoorDgL
namespace Go.Proofs.YtkaeiahenpimbaaDoor
open Go.RowKit Go.ChangeShapes Go.WideShapes Go.ChangeAt

set_option maxHeartbeats 1000000 in
theorem tagged_great (A0 A1 : Option Addr) (n0 n1 cap0 cap1 : Nat) (x : Int) (y : Int) (hg : 2000 < n0 ∨ 2000 < n1) (w : World) (T : Tab w) :
    Calls Tryd.prog 4 #[.slice A0 n0 cap0, .slice A1 n1 cap1, .int .u8 x, .int .u8 y] w fun e w' => e = .returned (.bool true) ∧ Below w.heap.size w w' := by
  have W := Lib.hid (works4 w T)
  clear T
  by_cases h0 : 2000 < n0
  · have d0 : decide ((2000 : Int) < (n0 : Int)) = true := by simp; omega
    go_enter Tryd.func4, Tryd.ntmps4
    go_wp2_with fail
    refine W.out.mono ?_
    rintro e w1 ⟨rfl, b1⟩
    have B1 := Lib.hid b1
    clear b1
    go_wp2
    go_ret
    exact ⟨rfl, B1.out⟩
  · have d0 : decide ((2000 : Int) < (n0 : Int)) = false := by simp; omega
    have d1 : decide ((2000 : Int) < (n1 : Int)) = true := by simp; omega
    go_enter Tryd.func4, Tryd.ntmps4
    go_wp2_with fail
    refine W.out.mono ?_
    rintro e w1 ⟨rfl, b1⟩
    have B1 := Lib.hid b1
    clear b1
    go_wp2
    go_ret
    exact ⟨rfl, B1.out⟩

theorem set_same (l : List UInt8) (j : Nat) (c y : UInt8) (hj : l[j]? = some c) : decide (l = l.set j (c ^^^ y)) = ((y.toNat : Int) == 0) := by
  obtain ⟨hlt, hc⟩ := List.getElem?_eq_some_iff.1 hj
  rw [Bool.eq_iff_iff]
  simp only [decide_eq_true_eq, beq_iff_eq]
  constructor
  · intro h
    have h1 : (l.set j (c ^^^ y))[j]? = some c := by rw [← h]; exact hj
    rw [List.getElem?_set_self hlt] at h1
    injection h1 with h1
    have h2 : y = 0 := by
      have h3 : c ^^^ (c ^^^ y) = c ^^^ c := by rw [h1]
      rw [xor_self_left] at h3
      simpa using h3
    rw [h2]
    rfl
  · intro h
    have h2 : y = 0 := UInt8.toNat_inj.1 (by simpa using h)
    subst h2
    rw [UInt8.xor_zero, ← hc, List.set_getElem_self]

set_option maxHeartbeats 2000000 in
theorem tagged_small (A0 A1 : Option Addr) (l0 l1 : List UInt8) (cap0 cap1 : Nat) (x : Nat) (y : UInt8) (hx : x < 256) (hl0 : l0.length ≤ 2000) (hl1 : l1.length ≤ 2000) (w : World) (h0 : BytesAt w (.slice A0 l0.length cap0) l0) (h1 : BytesAt w (.slice A1 l1.length cap1) l1) (T : Tab w) :
    Calls Tryd.prog 4 #[.slice A0 l0.length cap0, .slice A1 l1.length cap1, .int .u8 (x : Int), .int .u8 (y.toNat : Int)] w fun e w' => e = .returned (.bool true) ∧ Below w.heap.size w w' := by
  have d0 : decide ((2000 : Int) < (l0.length : Int)) = false := by simp; omega
  have d1 : decide ((2000 : Int) < (l1.length : Int)) = false := by simp; omega
  have T0 := Lib.hid T
  have H0 := Lib.hid h0
  have H1 := Lib.hid h1
  have ML := Lib.hid (macL_length l0 l1)
  clear T h0 h1
  obtain ⟨j, hj⟩ : ∃ j, j = x % 32 := ⟨_, rfl⟩
  have hjl : j < 32 := by omega
  have hmod : (x : Int).tmod 32 = (j : Int) := by
    rw [hj, Int.tmod_eq_emod_of_nonneg (by omega)]
    simp
  clear hj
  go_enter Tryd.func4, Tryd.ntmps4
  go_wp2_with fail
  refine (works4 w T0.out).mono ?_
  rintro e w1 ⟨rfl, b1⟩
  have B1 := Lib.hid b1
  clear b1
  go_wp2_with fail
  refine (mac_own _ _ l0 l1 w1 (H0.out.below B1.out) (H1.out.below B1.out) (by omega) (by omega) (T0.out.below B1.out T0.out.pos)).mono ?_
  rintro e w2 ⟨v2, rfl, o2, b2⟩
  have B2 := Lib.hid (B1.out.trans (b2.mono B1.out.size))
  have CH : Hid (∀ W u t, BytesAt W (.slice A0 l0.length cap0) l0 → BytesAt W (.slice A1 l1.length cap1) l1 → BytesAt W u t → t.length ≤ 1000000 → Tab W → Calls Tryd.prog 12 #[.slice A0 l0.length cap0, .slice A1 l1.length cap1, u] W fun e w' => e = .returned (.bool (decide (macL l0 l1 = t))) ∧ Below W.heap.size W w') :=
    Lib.hid fun W u t p q r s z => check_any _ _ u l0 l1 t W p q r (by omega) (by omega) s z
  generalize macL l0 l1 = M at *
  rw [ML.out] at o2
  obtain ⟨g, capg, rfl, hgb, hgl⟩ := o2.form (by omega)
  have Y2 : Hid (BytesAt w2 (.slice (some ⟨g, 0, none⟩) 32 capg) M) := Lib.hid (BytesAt.of_own (base := w1.heap.size) (by rw [ML.out]; exact o2))
  have O2 := Lib.hid o2
  have hcap := Y2.out.size.2
  clear o2 b2 hgl
  go_wp2_with fail
  refine (CH.out w2 _ M (H0.out.below B2.out) (H1.out.below B2.out) Y2.out (by rw [ML.out]; decide) (T0.out.below B2.out T0.out.pos)).mono ?_
  rintro e w3 ⟨rfl, b3⟩
  rw [decide_eq_true (rfl : M = M)]
  have B3 := Lib.hid (B2.out.trans (b3.mono B2.out.size))
  have O3 := Lib.hid (kept_below O2.out b3 rfl)
  have Y3 := Lib.hid ((Y2.out.below b3).first 31 (by decide))
  have N31 : Hid (M ≠ M.take 31) := Lib.hid (fun e => by have := congrArg List.length e; rw [List.length_take, ML.out] at this; omega)
  clear b3 Y2 O2
  go_wp2_with fail
  refine (CH.out w3 _ (M.take 31) (H0.out.below B3.out) (H1.out.below B3.out) Y3.out (by rw [List.length_take]; omega) (T0.out.below B3.out T0.out.pos)).mono ?_
  rintro e w4 ⟨rfl, b4⟩
  rw [decide_eq_false N31.out]
  have B4 := Lib.hid (B3.out.trans (b4.mono B3.out.size))
  have O4 := Lib.hid (kept_below O3.out b4 rfl)
  obtain ⟨c, hc⟩ : ∃ c, M[j]? = some c := ⟨_, List.getElem?_eq_getElem (by rw [ML.out]; exact hjl)⟩
  have c0 : w4.cell? ⟨g, j, none⟩ = some (.int .u8 (c.toNat : Int)) := by
    rw [O4.out.cellAt j (by omega)]
    simp [bv, hc]
  have f0 := O4.out.frozenAt j
  have HX := Lib.hid (xor_cell c y)
  have HS := Lib.hid (set_same M j c y hc)
  have HQ := Lib.hid (O4.out.stored j (.int .u8 ((c ^^^ y).toNat : Int)))
  clear hc b4 O3 Y3 N31
  go_wp2_with fail
  rw [HX.out]
  have hB5 : Below w.heap.size w (w4.setCell ⟨g, j, none⟩ (.int .u8 ((c ^^^ y).toNat : Int))) := B4.out.setCell (Nat.le_trans B1.out.size hgb) _
  have hy5 : BytesAt (w4.setCell ⟨g, j, none⟩ (.int .u8 ((c ^^^ y).toNat : Int))) (.slice (some ⟨g, 0, none⟩) 32 capg) (M.set j (c ^^^ y)) := by
    have q := HQ.out.1
    have e : (bv M).set j (Value.int IntKind.u8 ((c ^^^ y).toNat : Int)) = bv (M.set j (c ^^^ y)) := by simp [bv, List.map_set]
    rw [e] at q
    have r := BytesAt.of_own (base := w1.heap.size) (l := M.set j (c ^^^ y)) (by rw [List.length_set, ML.out]; exact q)
    exact r
  have HY5 := Lib.hid hy5
  have B5 := Lib.hid hB5
  clear hB5 hy5 HQ
  generalize w4.setCell ⟨g, j, none⟩ (.int .u8 ((c ^^^ y).toNat : Int)) = w5 at *
  refine (CH.out w5 _ (M.set j (c ^^^ y)) (H0.out.below B5.out) (H1.out.below B5.out) HY5.out (by rw [List.length_set, ML.out]; decide) (T0.out.below B5.out T0.out.pos)).mono ?_
  rintro e w6 ⟨rfl, b6⟩
  rw [HS.out]
  have B6 := Lib.hid (B5.out.trans (b6.mono B5.out.size))
  clear b6
  cases ht : ((y.toNat : Int) == 0)
  all_goals
    go_wp2
    go_ret
    exact ⟨rfl, B6.out⟩

theorem tagged_core (A0 A1 : Option Addr) (l0 l1 : List UInt8) (n0 n1 cap0 cap1 : Nat) (x : Nat) (y : UInt8) (hx : x < 256) (w : World) (h0 : BytesAt w (.slice A0 n0 cap0) l0) (h1 : BytesAt w (.slice A1 n1 cap1) l1) (T : Tab w) :
    Calls Tryd.prog 4 #[.slice A0 n0 cap0, .slice A1 n1 cap1, .int .u8 (x : Int), .int .u8 (y.toNat : Int)] w fun e w' => e = .returned (.bool true) ∧ Below w.heap.size w w' := by
  obtain ⟨hn0, _⟩ := h0.size
  obtain ⟨hn1, _⟩ := h1.size
  subst hn0 hn1
  by_cases hg : 2000 < l0.length ∨ 2000 < l1.length
  · exact tagged_great A0 A1 _ _ cap0 cap1 x y.toNat hg w T
  · exact tagged_small A0 A1 l0 l1 cap0 cap1 x y hx (by omega) (by omega) w h0 h1 T

set_option maxRecDepth 100000 in
theorem tagged_core_lifted (os : Os) (started : os.Started) (H : Type) (enc : TypeId × Value → H) :
    ReturnsInHanded {} Tryd.checked os 4 .any (fun w args => (Rows.macTaggedSpec.pre enc Tryd.prog Tryd.f4 [] false w args ∧ laidMetH Tryd.prog laidC w) ∧ sizedMet enc Tryd.prog Tryd.f4 (OpenSpec.ofChange Rows.macTaggedSpec) false w args)
      (Rows.macTaggedSpec.post enc Tryd.prog Tryd.f4 false true false false) := by
  refine returnsInHanded_of_change_and (C := Tryd.checked) (X := fun w _ => laidMetH Tryd.prog laidC w) (fun _ _ _ hh h => h.of_heap hh) own started (by kernel_rfl) Tryd.func4
    (ChangeSpec.witness_shaped (enc := enc) (C := Tryd.checked) (os := os) (X := fun w _ => laidMetH Tryd.prog laidC w) false (World.doorLaid Tryd.prog 400 os) #[.slice none 0 0, .slice none 0 0, .int .u8 0, .int .u8 0] 8 rfl (World.shaped_of_RefB (by kernel_rfl) (by kernel_rfl)) (by kernel_rfl) (by kernel_rfl) (by kernel_rfl) (door_met os _)) ?_
  intro W base args ds gs before hval0 hW _ _ hL _
  have hval : ∀ (j : Nat) t v, Tryd.f4.params[j]? = some t → args[j]? = some v → Value.okWide Tryd.prog W .any base t v := hval0
  have hW' := hW
  obtain ⟨p, q, hA0, hV, rfl, hfz, hnd⟩ := hW
  have hA : DataW.TrodAll enc Tryd.prog W 0 (fun _ => true) true Tryd.f4.params.toList args.toList ds p := hA0
  rw [Tryd.params4] at hA hval
  obtain ⟨v0, vs0, d0, ds0, p0, q0, hargs, rfl, rfl, h0, r0⟩ := trodAll_cons hA
  obtain ⟨v1, vs1, d1, ds1, p1, q1, rfl, rfl, rfl, h1, r1⟩ := trodAll_cons r0
  obtain ⟨v2, vs2, d2, ds2, p2, q2, rfl, rfl, rfl, h2, r2⟩ := trodAll_cons r1
  obtain ⟨v3, vs3, d3, ds3, p3, q3, rfl, rfl, rfl, h3, r3⟩ := trodAll_cons r2
  obtain ⟨rfl, rfl, rfl⟩ := trodAll_nil r3
  obtain rfl : args = #[v0, v1, v2, v3] := by cases args; simp_all
  obtain ⟨rfl, rfl⟩ := trodVars_none hV
  obtain ⟨a0, len0, cap0, rfl⟩ := okWide_slice Tryd.underlying22 (hval 0 22 v0 rfl rfl)
  have k0 := h0
  have lt0 : ∀ x ∈ p0, x.block < W.heap.size := by obtain ⟨m, hm⟩ := k0; exact DataW.trod_lt m _ _ _ hm
  obtain ⟨l0, w0⟩ := open_bytes h0
  obtain ⟨a1, len1, cap1, rfl⟩ := okWide_slice Tryd.underlying22 (hval 1 22 v1 rfl rfl)
  have k1 := h1
  have lt1 : ∀ x ∈ p1, x.block < W.heap.size := by obtain ⟨m, hm⟩ := k1; exact DataW.trod_lt m _ _ _ hm
  obtain ⟨l1, w1⟩ := open_bytes h1
  obtain ⟨a2, rfl, rfl, rfl, w2⟩ := open_int Tryd.underlying5 (hval 2 5 v2 rfl rfl) h2
  have hb2 := bounds_u8 w2
  obtain ⟨x2, rfl⟩ := Int.eq_ofNat_of_zero_le hb2.1
  obtain ⟨a3, rfl, rfl, rfl, w3⟩ := open_int Tryd.underlying5 (hval 3 5 v3 rfl rfl) h3
  obtain ⟨y3, rfl⟩ : ∃ y : UInt8, a3 = (y.toNat : Int) := ⟨_, (byte_back a3 w3).symm⟩
  clear hA0 hval0
  refine (tagged_core a0 a1 l0 l1 len0 len1 cap0 cap1 x2 y3 (by omega) W w0 w1 (tab_of_laid hL)).mono fun e W' ⟨he, bel⟩ => ?_
  subst he
  exact ⟨_, rfl, _, _, _, [], _, [], hW', trodAll_mk1 (shut_bool Tryd.underlying4 _), (trodAll_cons_mk (Below.trod laidOut (by kernel_rfl) (of_decide_eq_true (by kernel_rfl)) k0 bel lt0) (trodAll_cons_mk (Below.trod laidOut (by kernel_rfl) (of_decide_eq_true (by kernel_rfl)) k1 bel lt1) (trodAll_cons_mk (shut_int Tryd.underlying5 w2) (trodAll_cons_mk (shut_int Tryd.underlying5 w3) trodAll_mk0)))), rfl, bel.frame _, fun h => by cases h⟩

theorem macTagged_row : Rows.MacTaggedSaid :=
  OpenClaim.holds_of_wide 4 Tryd.f4 rfl rfl rfl rfl rfl rfl rfl ⟨rfl, rfl, rfl, rfl, rfl⟩ rfl rfl rfl rfl rfl (by kernel_rfl) Tryd.func4 (by kernel_rfl)
    (of_decide_eq_true (by kernel_rfl)) (by unfold Func.isWrapper; first | (rw [if_pos (by decide +kernel)]; kernel_rfl) | (rw [if_neg (by decide +kernel)]; exact ⟨rfl, rfl⟩))
    (fun os started H enc _ => tagged_core_lifted os started H enc)

/-- The statement. -/
theorem macTagged_holds : Rows.MacTaggedCardSaid :=
  Claim7.holds_tied_plain_at .later [] [.data] true (true, "c2792173907cb4263b58ea06a600f4b1a288a632bb4782c3dbf3a395fe556097") false
    macTagged_row (fun _ h => by cases h) (by kernel_rfl) (fun _ h => by cases h) macTagged_row_tie rfl ⟨rfl, rfl⟩ (by kernel_rfl) rfl
    (fun f fn hf hfn => by
      obtain rfl : f = 4 := Option.some.inj ((show Tryd.prog.funcNamed "carcanet/carcanetlaw04.MacTagged" = some 4 by kernel_rfl).symm.trans hf) |>.symm
      obtain rfl : fn = Tryd.f4 := (Option.some.inj (Tryd.func4.symm.trans hfn)).symm
      exact ⟨by kernel_rfl, fun j t ht => by
        rw [Tryd.params4] at ht
        have hm : t ∈ [22, 22, 5, 5] := by simpa using Array.mem_of_getElem? ht
        have hall : ([22, 22, 5, 5].all fun u => !Tryd.prog.wantsStandIn u) = true := by kernel_rfl
        exact (show Tryd.prog.wantsStandIn t = false by simpa using List.all_eq_true.1 hall t hm)⟩)
    (by kernel_rfl)
#print axioms macTagged_holds
end Go.Proofs.YtkaeiahenpimbaaDoor
