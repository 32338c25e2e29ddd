/- The statement DeriveBegins: fewer bytes of a key are the beginning of more of it, as many as are asked for. For every input. -/
import Derived.Test.YtjkbbcnbdjhdbaaDoorDrC
import Derived.Test.YtjkbbcnbdjhdbaaDoorDgL
namespace Go.Proofs.YtjkbbcnbdjhdbaaDoor
open Go.RowKit Go.ChangeShapes Go.WideShapes Go.ChangeAt

set_option maxHeartbeats 1000000 in
theorem begins_great (A0 A1 : Option Addr) (n0 n1 cap0 cap1 : Nat) (x y : Nat) (hg : 1000 < n0 ∨ 1000 < n1 ∨ 200 < x ∨ 200 < y) (w : World) (T : Tab w) :
    Calls Tryd.prog 4 #[.slice A0 n0 cap0, .slice A1 n1 cap1, .int .u16 (x : Int), .int .u16 (y : Int)] w fun e w' => e = .returned (.bool true) ∧ Below w.heap.size w w' := by
  have W := Lib.hid (works5 w T)
  clear T
  have hd : (decide ((1000 : Int) < (n0 : Int)) = true) ∨ (decide ((1000 : Int) < (n0 : Int)) = false ∧ decide ((1000 : Int) < (n1 : Int)) = true) ∨
      (decide ((1000 : Int) < (n0 : Int)) = false ∧ decide ((1000 : Int) < (n1 : Int)) = false ∧ decide ((200 : Int) < (x : Int)) = true) ∨
      (decide ((1000 : Int) < (n0 : Int)) = false ∧ decide ((1000 : Int) < (n1 : Int)) = false ∧ decide ((200 : Int) < (x : Int)) = false ∧ decide ((200 : Int) < (y : Int)) = true) := by
    simp only [decide_eq_true_eq, decide_eq_false_iff_not]
    omega
  clear hg
  go_enter Tryd.func4, Tryd.ntmps4
  go_wp2_with fail
  refine W.out.mono ?_
  rintro e w1 ⟨rfl, b1⟩
  have B1 := Lib.hid b1
  clear b1
  rcases hd with d0 | ⟨d0, d1⟩ | ⟨d0, d1, d2⟩ | ⟨d0, d1, d2, d3⟩
  all_goals
    go_wp2
    go_ret
    exact ⟨rfl, B1.out⟩

set_option maxHeartbeats 4000000 in
theorem begins_small (A0 A1 : Option Addr) (l0 l1 : List UInt8) (cap0 cap1 : Nat) (x y : Nat) (hl0 : l0.length ≤ 1000) (hl1 : l1.length ≤ 1000) (hx : x ≤ 200) (hy : y ≤ 200) (w : World) (h0 : BytesAt w (.slice A0 l0.length cap0) l0) (h1 : BytesAt w (.slice A1 l1.length cap1) l1) (T : Tab w) :
    Calls Tryd.prog 4 #[.slice A0 l0.length cap0, .slice A1 l1.length cap1, .int .u16 (x : Int), .int .u16 (y : Int)] w fun e w' => e = .returned (.bool true) ∧ Below w.heap.size w w' := by
  have d0 : decide ((1000 : Int) < (l0.length : Int)) = false := by simp; omega
  have d1 : decide ((1000 : Int) < (l1.length : Int)) = false := by simp; omega
  have d2 : decide ((200 : Int) < (x : Int)) = false := by simp; omega
  have d3 : decide ((200 : Int) < (y : Int)) = false := by simp; omega
  obtain ⟨z, hz⟩ : ∃ z, z = x + y := ⟨_, rfl⟩
  have s1 : IntKind.i64.wrap (x : Int) = (x : Int) := IntWalk.i64_in _ (by omega)
  have s2 : IntKind.i64.wrap (y : Int) = (y : Int) := IntWalk.i64_in _ (by omega)
  have s3 : IntKind.i64.wrap ((x : Int) + (y : Int)) = (z : Int) := by rw [IntWalk.i64_in _ (by omega), hz]; omega
  have T0 := Lib.hid T
  have H0 := Lib.hid h0
  have H1 := Lib.hid h1
  have ET := Lib.hid (expandL_take l0 l1 x z (by omega))
  have hz4 : z ≤ 8160 := by omega
  have hxz : x ≤ z := by omega
  have EX := Lib.hid (expandL_length l0 l1 x)
  have EZ := Lib.hid (expandL_length l0 l1 z)
  have HZ := Lib.hid hz
  clear T h0 h1 hz
  go_enter Tryd.func4, Tryd.ntmps4
  go_wp2_with fail
  refine (works5 w T0.out).mono ?_
  rintro e w1 ⟨rfl, b1⟩
  have B1 := Lib.hid b1
  clear b1
  go_wp2_with fail
  refine (expand_any _ _ l0 l1 x w1 (H0.out.below B1.out) (H1.out.below B1.out) (by omega) (by omega) (by omega) (T0.out.below B1.out T0.out.pos)).mono ?_
  rintro e w2 ⟨v2, rfl, y2, b2⟩
  have B2 := Lib.hid (B1.out.trans (b2.mono B1.out.size))
  have Y2 := Lib.hid y2
  clear y2 b2
  go_wp2_with fail
  refine (expand_any _ _ l0 l1 z w2 (H0.out.below B2.out) (H1.out.below B2.out) (by omega) (by omega) hz4 (T0.out.below B2.out T0.out.pos)).mono ?_
  rintro e w3 ⟨v3, rfl, y3, b3⟩
  have B3 := Lib.hid (B2.out.trans (b3.mono B2.out.size))
  have Y3 := Lib.hid y3
  have X3 := Lib.hid (Y2.out.below b3)
  clear y3 b3 Y2 B2 B1
  obtain ⟨A2, cap2, rfl, -, -⟩ := id X3.out
  obtain ⟨A3, cap3, rfl, hcap3, -⟩ := id Y3.out
  rw [EX.out] at X3 ⊢
  rw [EZ.out] at Y3 hcap3 ⊢
  have F3 := Lib.hid (Y3.out.first x hxz)
  rw [ET.out] at F3
  have hxc : x ≤ cap3 := by omega
  generalize expandL l0 l1 x = E at *
  go_wp2_with fail
  refine still_all (by kernel_rfl) (by kernel_rfl) fun w4 h4 b4 => ?_
  have B4 := Lib.hid (B3.out.trans (b4.mono B3.out.size))
  have r1 := conv_bytes (X3.out.below b4)
  have r2 := conv_bytes (F3.out.below b4)
  clear b4 h4 B3 X3 Y3 F3
  repeat still_step
  refine wpStill_nil ?_
  go_wp2
  go_ret
  exact ⟨rfl, B4.out⟩

theorem begins_core (A0 A1 : Option Addr) (l0 l1 : List UInt8) (n0 n1 cap0 cap1 : Nat) (x y : Nat) (w : World) (h0 : BytesAt w (.slice A0 n0 cap0) l0) (h1 : BytesAt w (.slice A1 n1 cap1) l1) (T : Tab w) :
    Calls Tryd.prog 4 #[.slice A0 n0 cap0, .slice A1 n1 cap1, .int .u16 (x : Int), .int .u16 (y : Int)] w fun e w' => e = .returned (.bool true) ∧ Below w.heap.size w w' := by
  obtain ⟨hn0, _⟩ := h0.size
  obtain ⟨hn1, _⟩ := h1.size
  subst hn0 hn1
  by_cases hg : 1000 < l0.length ∨ 1000 < l1.length ∨ 200 < x ∨ 200 < y
  · exact begins_great A0 A1 _ _ cap0 cap1 x y hg w T
  · exact begins_small A0 A1 l0 l1 cap0 cap1 x y (by omega) (by omega) (by omega) (by omega) w h0 h1 T

set_option maxRecDepth 100000 in
theorem begins_core_lifted (os : Os) (started : os.Started) (H : Type) (enc : TypeId × Value → H) :
    ReturnsInHanded {} Tryd.checked os 4 .any (fun w args => (Rows.deriveBeginsSpec.pre enc Tryd.prog Tryd.f4 [] false w args ∧ laidMetH Tryd.prog laidC w) ∧ sizedMet enc Tryd.prog Tryd.f4 (OpenSpec.ofChange Rows.deriveBeginsSpec) false w args)
      (Rows.deriveBeginsSpec.post enc Tryd.prog Tryd.f4 false true false false) := by
  refine returnsInHanded_of_change_and (C := Tryd.checked) (X := fun w _ => laidMetH Tryd.prog laidC w) (fun _ _ _ hh h => h.of_heap hh) own started (by kernel_rfl) Tryd.func4
    (ChangeSpec.witness_shaped (enc := enc) (C := Tryd.checked) (os := os) (X := fun w _ => laidMetH Tryd.prog laidC w) false (World.doorLaid Tryd.prog 400 os) #[.slice none 0 0, .slice none 0 0, .int .u16 0, .int .u16 0] 8 rfl (World.shaped_of_RefB (by kernel_rfl) (by kernel_rfl)) (by kernel_rfl) (by kernel_rfl) (by kernel_rfl) (door_met os _)) ?_
  intro W base args ds gs before hval0 hW _ _ hL _
  have hval : ∀ (j : Nat) t v, Tryd.f4.params[j]? = some t → args[j]? = some v → Value.okWide Tryd.prog W .any base t v := hval0
  have hW' := hW
  obtain ⟨p, q, hA0, hV, rfl, hfz, hnd⟩ := hW
  have hA : DataW.TrodAll enc Tryd.prog W 0 (fun _ => true) true Tryd.f4.params.toList args.toList ds p := hA0
  rw [Tryd.params4] at hA hval
  obtain ⟨v0, vs0, d0, ds0, p0, q0, hargs, rfl, rfl, h0, r0⟩ := trodAll_cons hA
  obtain ⟨v1, vs1, d1, ds1, p1, q1, rfl, rfl, rfl, h1, r1⟩ := trodAll_cons r0
  obtain ⟨v2, vs2, d2, ds2, p2, q2, rfl, rfl, rfl, h2, r2⟩ := trodAll_cons r1
  obtain ⟨v3, vs3, d3, ds3, p3, q3, rfl, rfl, rfl, h3, r3⟩ := trodAll_cons r2
  obtain ⟨rfl, rfl, rfl⟩ := trodAll_nil r3
  obtain rfl : args = #[v0, v1, v2, v3] := by cases args; simp_all
  obtain ⟨rfl, rfl⟩ := trodVars_none hV
  obtain ⟨a0, len0, cap0, rfl⟩ := okWide_slice Tryd.underlying22 (hval 0 22 v0 rfl rfl)
  have k0 := h0
  have lt0 : ∀ x ∈ p0, x.block < W.heap.size := by obtain ⟨m, hm⟩ := k0; exact DataW.trod_lt m _ _ _ hm
  obtain ⟨l0, w0⟩ := open_bytes h0
  obtain ⟨a1, len1, cap1, rfl⟩ := okWide_slice Tryd.underlying22 (hval 1 22 v1 rfl rfl)
  have k1 := h1
  have lt1 : ∀ x ∈ p1, x.block < W.heap.size := by obtain ⟨m, hm⟩ := k1; exact DataW.trod_lt m _ _ _ hm
  obtain ⟨l1, w1⟩ := open_bytes h1
  obtain ⟨a2, rfl, rfl, rfl, w2⟩ := open_int Tryd.underlying33 (hval 2 33 v2 rfl rfl) h2
  have hb2 := bounds_u16 w2
  obtain ⟨x2, rfl⟩ := Int.eq_ofNat_of_zero_le hb2.1
  obtain ⟨a3, rfl, rfl, rfl, w3⟩ := open_int Tryd.underlying33 (hval 3 33 v3 rfl rfl) h3
  have hb3 := bounds_u16 w3
  obtain ⟨x3, rfl⟩ := Int.eq_ofNat_of_zero_le hb3.1
  clear hA0 hval0
  refine (begins_core a0 a1 l0 l1 len0 len1 cap0 cap1 x2 x3 W w0 w1 (tab_of_laid hL)).mono fun e W' ⟨he, bel⟩ => ?_
  subst he
  exact ⟨_, rfl, _, _, _, [], _, [], hW', trodAll_mk1 (shut_bool Tryd.underlying4 _), (trodAll_cons_mk (Below.trod laidOut (by kernel_rfl) (of_decide_eq_true (by kernel_rfl)) k0 bel lt0) (trodAll_cons_mk (Below.trod laidOut (by kernel_rfl) (of_decide_eq_true (by kernel_rfl)) k1 bel lt1) (trodAll_cons_mk (shut_int Tryd.underlying33 w2) (trodAll_cons_mk (shut_int Tryd.underlying33 w3) trodAll_mk0)))), rfl, bel.frame _, fun h => by cases h⟩

theorem deriveBegins_row : Rows.DeriveBeginsSaid :=
  OpenClaim.holds_of_wide 4 Tryd.f4 rfl rfl rfl rfl rfl rfl rfl ⟨rfl, rfl, rfl, rfl, rfl⟩ rfl rfl rfl rfl rfl (by kernel_rfl) Tryd.func4 (by kernel_rfl)
    (of_decide_eq_true (by kernel_rfl)) (by unfold Func.isWrapper; first | (rw [if_pos (by decide +kernel)]; kernel_rfl) | (rw [if_neg (by decide +kernel)]; exact ⟨rfl, rfl⟩))
    (fun os started H enc _ => begins_core_lifted os started H enc)

/-- The statement. -/
theorem deriveBegins_holds : Rows.DeriveBeginsCardSaid :=
  Claim7.holds_tied_plain_at .later [] [.data] true (true, "7fcdd2a17387f4ad8b2856c593f87a87c2ce029b604717810657ade3e2abf322") false
    deriveBegins_row (fun _ h => by cases h) (by kernel_rfl) (fun _ h => by cases h) deriveBegins_row_tie rfl ⟨rfl, rfl⟩ (by kernel_rfl) rfl
    (fun f fn hf hfn => by
      obtain rfl : f = 4 := Option.some.inj ((show Tryd.prog.funcNamed "carcanet/carcanetlaw05.DeriveBegins" = some 4 by kernel_rfl).symm.trans hf) |>.symm
      obtain rfl : fn = Tryd.f4 := (Option.some.inj (Tryd.func4.symm.trans hfn)).symm
      exact ⟨by kernel_rfl, fun j t ht => by
        rw [Tryd.params4] at ht
        have hm : t ∈ [22, 22, 33, 33] := by simpa using Array.mem_of_getElem? ht
        have hall : ([22, 22, 33, 33].all fun u => !Tryd.prog.wantsStandIn u) = true := by kernel_rfl
        exact (show Tryd.prog.wantsStandIn t = false by simpa using List.all_eq_true.1 hall t hm)⟩)
    (by kernel_rfl)
#print axioms deriveBegins_holds
end Go.Proofs.YtjkbbcnbdjhdbaaDoor
