/- The statement MacKeys: a key, and what it is made long to, have the same tags; so have a key of at most 64 bytes, and it with a byte 0 behind. For every input. -/
import Derived.Test.YtkaeiahenpimbaaDoorMacC
import Derived.Test.YtkaeiahenpimbaaDoorDgL
namespace Go.Proofs.YtkaeiahenpimbaaDoor
open Go.RowKit Go.ChangeShapes Go.WideShapes Go.ChangeAt

theorem wpList_append_bytes_w {w : World} {ops : Array Oper} {rest : List Oper} {o : Oper} {a : Act} {Q : Exit → Act → World → Prop} (hw : Region.wanted o (yielded ops a.tmps) = true) (s x : Operand)
    (ho : o.op = .call { callee := .builtin .append, args := #[s, x], argTypes := #[22, 22] })
    (base : Nat) (v : Value) (n : Nat) (xs : List Value) (hv : a.eval s = v) (hown : w.ownsRow base 5 1 v n xs) (src : Value) (l : List UInt8) (hx : a.eval x = src) (hs : BytesAt w src l)
    (hlen : n + l.length ≤ 10000000) (hbase : base ≤ w.heap.size)
    (h : ∀ v' w', w'.ownsRow base 5 1 v' (n + l.length) (xs ++ bv l) → w.grownBy w' v.ownBlock → wpList Tryd.prog ops Q rest (a.put o.dst v') w') : wpList Tryd.prog ops Q (o :: rest) a w :=
  wpList_step fun _ hK => by
    rw [if_pos hw]
    exact wp_append_bytes s x ho base v n xs hv hown src l hx hs hlen hbase fun v' w' h2 h3 => hK _ _ (h v' w' h2 h3)

set_option maxHeartbeats 1000000 in
theorem keys_great (A0 A1 : Option Addr) (n0 n1 cap0 cap1 : Nat) (hg : 2000 < n0 ∨ 2000 < n1) (w : World) (T : Tab w) :
    Calls Tryd.prog 5 #[.slice A0 n0 cap0, .slice A1 n1 cap1] w fun e w' => e = .returned (.bool true) ∧ Below w.heap.size w w' := by
  have W := Lib.hid (works4 w T)
  clear T
  by_cases h0 : 2000 < n0
  · have d0 : decide ((2000 : Int) < (n0 : Int)) = true := by simp; omega
    go_enter Tryd.func5, Tryd.ntmps5
    go_wp2_with fail
    refine W.out.mono ?_
    rintro e w1 ⟨rfl, b1⟩
    have B1 := Lib.hid b1
    clear b1
    go_wp2
    go_ret
    exact ⟨rfl, B1.out⟩
  · have d0 : decide ((2000 : Int) < (n0 : Int)) = false := by simp; omega
    have d1 : decide ((2000 : Int) < (n1 : Int)) = true := by simp; omega
    go_enter Tryd.func5, Tryd.ntmps5
    go_wp2_with fail
    refine W.out.mono ?_
    rintro e w1 ⟨rfl, b1⟩
    have B1 := Lib.hid b1
    clear b1
    go_wp2
    go_ret
    exact ⟨rfl, B1.out⟩

set_option maxHeartbeats 2000000 in
theorem keys_small (A0 A1 : Option Addr) (l0 l1 : List UInt8) (cap0 cap1 : Nat) (hl0 : l0.length ≤ 2000) (hl1 : l1.length ≤ 2000) (w : World) (h0 : BytesAt w (.slice A0 l0.length cap0) l0) (h1 : BytesAt w (.slice A1 l1.length cap1) l1) (T : Tab w) :
    Calls Tryd.prog 5 #[.slice A0 l0.length cap0, .slice A1 l1.length cap1] w fun e w' => e = .returned (.bool true) ∧ Below w.heap.size w w' := by
  have d0 : decide ((2000 : Int) < (l0.length : Int)) = false := by simp; omega
  have d1 : decide ((2000 : Int) < (l1.length : Int)) = false := by simp; omega
  have T0 := Lib.hid T
  have H0 := Lib.hid h0
  have H1 := Lib.hid h1
  have E1 := Lib.hid (macL_key (keyL l0) l0 l1 (keyL_keyL l0))
  have E2 : Hid (l0.length ≤ 63 → macL (l0 ++ [0]) l1 = macL l0 l1) := Lib.hid (fun h => macL_key (l0 ++ [0]) l0 l1 (keyL_zero l0 h))
  have KL := Lib.hid (keyL_length l0)
  have MA : Hid (∀ W u k, BytesAt W u k → k.length ≤ 5000 → BytesAt W (.slice A1 l1.length cap1) l1 → Tab W → Calls Tryd.prog 10 #[u, .slice A1 l1.length cap1] W fun e w' => ∃ v', e = .returned v' ∧ BytesAt w' v' (macL k l1) ∧ Below W.heap.size W w') :=
    Lib.hid fun W u k p q r s => mac_any u _ k l1 W p r q (by omega) s
  clear T h0 h1
  go_enter Tryd.func5, Tryd.ntmps5
  go_wp2_with fail
  refine (works4 w T0.out).mono ?_
  rintro e w1 ⟨rfl, b1⟩
  have B1 := Lib.hid b1
  clear b1
  go_wp2_with fail
  refine (MA.out w1 _ l0 (H0.out.below B1.out) (by omega) (H1.out.below B1.out) (T0.out.below B1.out T0.out.pos)).mono ?_
  rintro e w2 ⟨v2, rfl, y2, b2⟩
  have B2 := Lib.hid (B1.out.trans (b2.mono B1.out.size))
  have r2 := conv_bytes y2
  generalize macL l0 l1 = M at *
  clear b2 y2
  go_wp2_with fail
  clear r2
  refine (key_any _ l0 w2 (H0.out.below B2.out) (by omega) (T0.out.below B2.out T0.out.pos)).mono ?_
  rintro e w3 ⟨v3, rfl, y3, b3⟩
  have B3 := Lib.hid (B2.out.trans (b3.mono B2.out.size))
  have Y3 := Lib.hid y3
  obtain ⟨A3, cap3, rfl, -, -⟩ := y3
  rw [KL.out] at Y3 ⊢
  clear b3
  go_wp2_with fail
  refine (MA.out w3 _ (keyL l0) Y3.out (by rw [KL.out]; decide) (H1.out.below B3.out) (T0.out.below B3.out T0.out.pos)).mono ?_
  rintro e w4 ⟨v4, rfl, y4, b4⟩
  rw [E1.out] at y4
  have B4 := Lib.hid (B3.out.trans (b4.mono B3.out.size))
  have r4 := conv_bytes y4
  clear b4 y4 E1 Y3
  by_cases h63 : l0.length ≤ 63
  · have d : decide ((63 : Int) < (l0.length : Int)) = false := by simp; omega
    have E := E2.out h63
    have hL : (l0 ++ [0]).length = l0.length + 1 := by simp
    have H4 := H0.out.below B4.out
    have X4 := own_empty w4
    have HL := Lib.hid hL
    have HE := Lib.hid E
    clear E hL E2
    go_wp2_with (with_reducible refine wpList_append_bytes_w (by kernel_rfl) _ _ rfl w4.heap.size _ _ _ ?hv X4 _ _ ?hx (H4.below ((Below.refl _ _).alloc (Nat.le_refl _) _)) ?hlen ?hbase ?_)
    case hv => exact rfl
    case hx => exact rfl
    case hlen => omega
    case hbase => simp
    intro v5 w5 ho5 hg5
    have b5 : Below w4.heap.size w4 w5 := ((Below.refl w4.heap.size w4).alloc (Nat.le_refl _) (.cells #[] 5)).grown hg5 (by simp) (fun k hk => ((own_empty w4).lt k hk).1)
    have O5 : Hid (w5.ownsRow w4.heap.size 5 1 v5 l0.length (bv l0)) := Lib.hid (by simpa using ho5)
    have B5 := Lib.hid b5
    clear ho5 hg5 b5 X4 H4 r4
    have hz : BytesAt (w5.alloc (.cells #[.int .u8 0] 5)) (.slice (some ⟨w5.heap.size, 0, none⟩) 1 1) [0] := BytesAt.lit w5 [0] _ rfl
    have hO := O5.out.alloc (.cells #[.int .u8 0] 5)
    have hB := B5.out.alloc B5.out.size (.cells #[.int .u8 0] 5)
    go_wp2_with (with_reducible refine wpList_append_bytes_w (by kernel_rfl) _ _ rfl w4.heap.size _ _ _ ?hv hO _ _ ?hx hz ?hlen ?hbase ?_)
    case hv => exact rfl
    case hx => exact rfl
    case hlen => simp; omega
    case hbase => exact hB.size
    intro v6 w6 ho6 hg6
    have lt6 := hO.lt
    have B6 := Lib.hid (B4.out.trans ((hB.grown hg6 hB.size (fun k hk => (lt6 k hk).1)).mono B4.out.size))
    have Y6 : Hid (BytesAt w6 v6 (l0 ++ [0])) := Lib.hid (BytesAt.of_own (base := w4.heap.size) (by rw [HL.out, bv_append]; exact ho6))
    clear ho6 hg6 lt6 hO hB hz B5 O5
    go_wp2_with fail
    refine (MA.out w6 v6 (l0 ++ [0]) Y6.out (by rw [HL.out]; omega) (H1.out.below B6.out) (T0.out.below B6.out T0.out.pos)).mono ?_
    rintro e w7 ⟨v7, rfl, y7, b7⟩
    rw [HE.out] at y7
    have r7 := conv_bytes y7
    have B7 := Lib.hid (B6.out.trans (b7.mono B6.out.size))
    clear y7 b7
    go_wp2
    go_ret
    exact ⟨rfl, B7.out⟩
  · have d : decide ((63 : Int) < (l0.length : Int)) = true := by simp; omega
    go_wp2
    go_ret
    exact ⟨rfl, B4.out⟩

theorem keys_core (A0 A1 : Option Addr) (l0 l1 : List UInt8) (n0 n1 cap0 cap1 : Nat) (w : World) (h0 : BytesAt w (.slice A0 n0 cap0) l0) (h1 : BytesAt w (.slice A1 n1 cap1) l1) (T : Tab w) :
    Calls Tryd.prog 5 #[.slice A0 n0 cap0, .slice A1 n1 cap1] w fun e w' => e = .returned (.bool true) ∧ Below w.heap.size w w' := by
  obtain ⟨hn0, _⟩ := h0.size
  obtain ⟨hn1, _⟩ := h1.size
  subst hn0 hn1
  by_cases hg : 2000 < l0.length ∨ 2000 < l1.length
  · exact keys_great A0 A1 _ _ cap0 cap1 hg w T
  · exact keys_small A0 A1 l0 l1 cap0 cap1 (by omega) (by omega) w h0 h1 T

set_option maxRecDepth 100000 in
theorem keys_core_lifted (os : Os) (started : os.Started) (H : Type) (enc : TypeId × Value → H) :
    ReturnsInHanded {} Tryd.checked os 5 .any (fun w args => (Rows.macKeysSpec.pre enc Tryd.prog Tryd.f5 [] false w args ∧ laidMetH Tryd.prog laidC w) ∧ sizedMet enc Tryd.prog Tryd.f5 (OpenSpec.ofChange Rows.macKeysSpec) false w args)
      (Rows.macKeysSpec.post enc Tryd.prog Tryd.f5 false true false false) := by
  refine returnsInHanded_of_change_and (C := Tryd.checked) (X := fun w _ => laidMetH Tryd.prog laidC w) (fun _ _ _ hh h => h.of_heap hh) own started (by kernel_rfl) Tryd.func5
    (ChangeSpec.witness_shaped (enc := enc) (C := Tryd.checked) (os := os) (X := fun w _ => laidMetH Tryd.prog laidC w) false (World.doorLaid Tryd.prog 400 os) #[.slice none 0 0, .slice none 0 0] 8 rfl (World.shaped_of_RefB (by kernel_rfl) (by kernel_rfl)) (by kernel_rfl) (by kernel_rfl) (by kernel_rfl) (door_met os _)) ?_
  intro W base args ds gs before hval0 hW _ _ hL _
  have hval : ∀ (j : Nat) t v, Tryd.f5.params[j]? = some t → args[j]? = some v → Value.okWide Tryd.prog W .any base t v := hval0
  have hW' := hW
  obtain ⟨p, q, hA0, hV, rfl, hfz, hnd⟩ := hW
  have hA : DataW.TrodAll enc Tryd.prog W 0 (fun _ => true) true Tryd.f5.params.toList args.toList ds p := hA0
  rw [Tryd.params5] at hA hval
  obtain ⟨v0, vs0, d0, ds0, p0, q0, hargs, rfl, rfl, h0, r0⟩ := trodAll_cons hA
  obtain ⟨v1, vs1, d1, ds1, p1, q1, rfl, rfl, rfl, h1, r1⟩ := trodAll_cons r0
  obtain ⟨rfl, rfl, rfl⟩ := trodAll_nil r1
  obtain rfl : args = #[v0, v1] := by cases args; simp_all
  obtain ⟨rfl, rfl⟩ := trodVars_none hV
  obtain ⟨a0, len0, cap0, rfl⟩ := okWide_slice Tryd.underlying22 (hval 0 22 v0 rfl rfl)
  have k0 := h0
  have lt0 : ∀ x ∈ p0, x.block < W.heap.size := by obtain ⟨m, hm⟩ := k0; exact DataW.trod_lt m _ _ _ hm
  obtain ⟨l0, w0⟩ := open_bytes h0
  obtain ⟨a1, len1, cap1, rfl⟩ := okWide_slice Tryd.underlying22 (hval 1 22 v1 rfl rfl)
  have k1 := h1
  have lt1 : ∀ x ∈ p1, x.block < W.heap.size := by obtain ⟨m, hm⟩ := k1; exact DataW.trod_lt m _ _ _ hm
  obtain ⟨l1, w1⟩ := open_bytes h1
  clear hA0 hval0
  refine (keys_core a0 a1 l0 l1 len0 len1 cap0 cap1 W w0 w1 (tab_of_laid hL)).mono fun e W' ⟨he, bel⟩ => ?_
  subst he
  exact ⟨_, rfl, _, _, _, [], _, [], hW', trodAll_mk1 (shut_bool Tryd.underlying4 _), (trodAll_cons_mk (Below.trod laidOut (by kernel_rfl) (of_decide_eq_true (by kernel_rfl)) k0 bel lt0) (trodAll_cons_mk (Below.trod laidOut (by kernel_rfl) (of_decide_eq_true (by kernel_rfl)) k1 bel lt1) trodAll_mk0)), rfl, bel.frame _, fun h => by cases h⟩

theorem macKeys_row : Rows.MacKeysSaid :=
  OpenClaim.holds_of_wide 5 Tryd.f5 rfl rfl rfl rfl rfl rfl rfl ⟨rfl, rfl, rfl, rfl, rfl⟩ rfl rfl rfl rfl rfl (by kernel_rfl) Tryd.func5 (by kernel_rfl)
    (of_decide_eq_true (by kernel_rfl)) (by unfold Func.isWrapper; first | (rw [if_pos (by decide +kernel)]; kernel_rfl) | (rw [if_neg (by decide +kernel)]; exact ⟨rfl, rfl⟩))
    (fun os started H enc _ => keys_core_lifted os started H enc)

/-- The statement. -/
theorem macKeys_holds : Rows.MacKeysCardSaid :=
  Claim7.holds_tied_plain_at .later [] [.data] true (true, "c2792173907cb4263b58ea06a600f4b1a288a632bb4782c3dbf3a395fe556097") false
    macKeys_row (fun _ h => by cases h) (by kernel_rfl) (fun _ h => by cases h) macKeys_row_tie rfl ⟨rfl, rfl⟩ (by kernel_rfl) rfl
    (fun f fn hf hfn => by
      obtain rfl : f = 5 := Option.some.inj ((show Tryd.prog.funcNamed "carcanet/carcanetlaw04.MacKeys" = some 5 by kernel_rfl).symm.trans hf) |>.symm
      obtain rfl : fn = Tryd.f5 := (Option.some.inj (Tryd.func5.symm.trans hfn)).symm
      exact ⟨by kernel_rfl, fun j t ht => by
        rw [Tryd.params5] at ht
        have hm : t ∈ [22, 22] := by simpa using Array.mem_of_getElem? ht
        have hall : ([22, 22].all fun u => !Tryd.prog.wantsStandIn u) = true := by kernel_rfl
        exact (show Tryd.prog.wantsStandIn t = false by simpa using List.all_eq_true.1 hall t hm)⟩)
    (by kernel_rfl)
#print axioms macKeys_holds
end Go.Proofs.YtkaeiahenpimbaaDoor
