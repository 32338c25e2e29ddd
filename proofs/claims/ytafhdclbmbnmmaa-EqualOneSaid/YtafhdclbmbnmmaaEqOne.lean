/- EqualOne: one changed byte makes unlike what was alike. For every input. -/
import Derived.Test.YtafhdclbmbnmmaaEqC
namespace Go.Proofs.Ytafhdclbmbnmmaa
open Go.RowKit Go.ChangeShapes Go.WideShapes Go.ChangeAt

theorem one_great (A : Option Addr) (len cap : Nat) (x y : Int) (w : World) (hg : 3000 < len ∨ len = 0) :
    Calls Try.prog 5 #[.slice A len cap, .int .u16 x, .int .u8 y] w fun e w' => e = .returned (.bool true) ∧ Below w.heap.size w w' := by
  rcases hg with h | h
  · have h3 : decide ((3000 : Int) < (len : Int)) = true := by simp; omega
    go_enter Try.func5, Try.ntmps5
    go_wp2_with fail
    refine (works2 w).mono ?_
    rintro e w1 ⟨rfl, hb1⟩
    go_wp2
    go_ret
    exact ⟨rfl, hb1⟩
  · subst h
    go_enter Try.func5, Try.ntmps5
    go_wp2_with fail
    refine (works2 w).mono ?_
    rintro e w1 ⟨rfl, hb1⟩
    go_wp2
    go_ret
    exact ⟨rfl, hb1⟩

theorem set_same (l : List UInt8) (j : Nat) (c y : UInt8) (hj : l[j]? = some c) : decide (l = l.set j (c ^^^ y)) = ((y.toNat : Int) == 0) := by
  obtain ⟨hlt, hc⟩ := List.getElem?_eq_some_iff.1 hj
  rw [Bool.eq_iff_iff]
  simp only [decide_eq_true_eq, beq_iff_eq]
  constructor
  · intro h
    have h1 : (l.set j (c ^^^ y))[j]? = some c := by rw [← h]; exact hj
    rw [List.getElem?_set_self hlt] at h1
    injection h1 with h1
    have h2 : y = 0 := by
      have h3 : c ^^^ (c ^^^ y) = c ^^^ c := by rw [h1]
      rw [xor_self_left] at h3
      simpa using h3
    rw [h2]
    rfl
  · intro h
    have h2 : y = 0 := UInt8.toNat_inj.1 (by simpa using h)
    subst h2
    rw [UInt8.xor_zero, ← hc, List.set_getElem_self]

set_option maxHeartbeats 1000000 in
theorem one_small (A : Option Addr) (l : List UInt8) (cap x : Nat) (y : UInt8) (w : World) (h0 : BytesAt w (.slice A l.length cap) l) (h3 : l.length ≤ 3000) (hpos : 0 < l.length) (hx : x < 65536) :
    Calls Try.prog 5 #[.slice A l.length cap, .int .u16 x, .int .u8 (y.toNat : Int)] w fun e w' => e = .returned (.bool true) ∧ Below w.heap.size w w' := by
  have H0 := Lib.hid h0
  clear h0
  have d3 : decide ((3000 : Int) < (l.length : Int)) = false := by simp; omega
  have d0 : ((l.length : Int) == 0) = false := by rw [beq_eq_false_iff_ne]; omega
  go_enter Try.func5, Try.ntmps5
  go_wp2_with fail
  refine (works2 w).mono ?_
  rintro e w1 ⟨rfl, hb1⟩
  have HB1 := Lib.hid hb1
  have H1 := Lib.hid (H0.out.below hb1)
  clear hb1
  go_wp2_with (at_builtin; refine wpList_append_bytes rfl (.tmp 18) (.tmp 19) rfl w1.heap.size _ 0 [] rfl (own_empty w1) _ l rfl ?c1 ?c2 ?c3 ?_)
  case c1 => exact H1.out.below ((Below.refl _ _).alloc (Nat.le_refl _) _)
  case c2 => omega
  case c3 => simp
  intro v2 w2 ho2 hg2
  have hb2 : Below w1.heap.size w1 w2 := ((Below.refl _ _).alloc (Nat.le_refl _) _).grown hg2 (by simp) (fun k hk => by simp [Value.ownBlock] at hk; omega)
  have HB2 := Lib.hid hb2
  have HO2 : Hid (w2.ownsRow w1.heap.size 5 1 v2 l.length (bv l)) := ho2
  have H2 := Lib.hid (H1.out.below hb2)
  clear ho2 hg2 hb2
  obtain ⟨g, capg, hv, hgb, hgl⟩ := HO2.out.form hpos
  obtain rfl := hv
  obtain ⟨j, hj⟩ : ∃ j, j = x % l.length := ⟨_, rfl⟩
  have hjl : j < l.length := by rw [hj]; exact Nat.mod_lt _ hpos
  have hmod : (x : Int).tmod (l.length : Int) = (j : Int) := by
    rw [hj, Int.tmod_eq_emod_of_nonneg (by omega)]
    simp
  have hx0 : l[j]? = some l[j] := List.getElem?_eq_getElem hjl
  have c0 : w2.cell? ⟨g, j, none⟩ = some (.int .u8 (l[j].toNat : Int)) := by
    rw [HO2.out.cellAt j (by omega)]
    simp [bv, hx0]
  have f0 := HO2.out.frozenAt j
  generalize l[j] = c at *
  have HX := Lib.hid (xor_cell c y)
  have HS := Lib.hid (set_same l j c y hx0)
  have HQ := Lib.hid (HO2.out.stored j (.int .u8 ((c ^^^ y).toNat : Int)))
  clear hx0 hj
  go_wp2_with fail
  rw [HX.out]
  have hB3 : Below w1.heap.size w1 (w2.setCell ⟨g, j, none⟩ (.int .u8 ((c ^^^ y).toNat : Int))) := HB2.out.setCell hgb _
  have hy3 : BytesAt (w2.setCell ⟨g, j, none⟩ (.int .u8 ((c ^^^ y).toNat : Int))) (.slice (some ⟨g, 0, none⟩) l.length capg) (l.set j (c ^^^ y)) := by
    apply BytesAt.of_own (base := w1.heap.size)
    have q := HQ.out.1
    rw [List.length_set]
    have e : (bv l).set j (Value.int IntKind.u8 ((c ^^^ y).toNat : Int)) = bv (l.set j (c ^^^ y)) := by simp [bv, List.map_set]
    rwa [e] at q
  have h3' := H1.out.below hB3
  have H3 := Lib.hid h3'
  have HY3 := Lib.hid hy3
  have HB3 := Lib.hid (HB1.out.trans (hB3.mono HB1.out.size))
  clear hB3 hy3 h3' HQ
  generalize w2.setCell ⟨g, j, none⟩ (.int .u8 ((c ^^^ y).toNat : Int)) = w3 at *
  refine (bytes_any _ _ _ _ w3 H3.out HY3.out (by omega) (by rw [List.length_set]; omega)).mono ?_
  rintro e w4 ⟨rfl, hb4⟩
  rw [HS.out]
  have HB4 := Lib.hid (HB3.out.trans (hb4.mono HB3.out.size))
  clear hb4
  cases ht : ((y.toNat : Int) == 0)
  all_goals
    go_wp2
    go_ret
    exact ⟨rfl, HB4.out⟩

theorem one (A : Option Addr) (l : List UInt8) (len cap x : Nat) (y : UInt8) (w : World) (h0 : BytesAt w (.slice A len cap) l) (hx : x < 65536) :
    Calls Try.prog 5 #[.slice A len cap, .int .u16 x, .int .u8 (y.toNat : Int)] w fun e w' => e = .returned (.bool true) ∧ Below w.heap.size w w' := by
  obtain ⟨hn, _⟩ := h0.size
  subst hn
  by_cases hg : 3000 < l.length ∨ l.length = 0
  · exact one_great A _ cap x _ w hg
  · exact one_small A l cap x y w h0 (by omega) (by omega) hx

set_option maxRecDepth 100000 in
theorem one_lifted (os : Os) (started : os.Started) (H : Type) (enc : TypeId × Value → H) :
    ReturnsInHanded {} Try.checked os 5 .any (Rows.equalOneSpec.pre6 enc Try.prog Try.f5 Rows.equalOneRow.domain false) (Rows.equalOneSpec.post enc Try.prog Try.f5 false true false false) := by
  refine returnsInHanded_of_change (C := Try.checked) own started (by kernel_rfl) Try.func5
    (ChangeSpec.witness6 (enc := enc) (C := Try.checked) false ⟨#[], #[.slice none 0 0, .int .u16 0, .int .u8 0], []⟩ 8 (by kernel_rfl) (by kernel_rfl) (by kernel_rfl) (by kernel_rfl)) ?_
  intro W base args ds gs before hval0 hW hcnd _
  have hval : ∀ (j : Nat) t v, Try.f5.params[j]? = some t → args[j]? = some v → Value.okWide Try.prog W .any base t v := hval0
  have hW' := hW
  obtain ⟨p, q, hA0, hV, rfl, hfz, hnd⟩ := hW
  have hA : DataW.TrodAll enc Try.prog W 0 (fun _ => true) true Try.f5.params.toList args.toList ds p := hA0
  rw [Try.params5] at hA hval
  obtain ⟨v0, vs0, d0, ds0, p0, q0, hargs, rfl, rfl, h0, r0⟩ := trodAll_cons hA
  obtain ⟨v1, vs1, d1, ds1, p1, q1, rfl, rfl, rfl, h1, r1⟩ := trodAll_cons r0
  obtain ⟨v2, vs2, d2, ds2, p2, q2, rfl, rfl, rfl, h2, r2⟩ := trodAll_cons r1
  obtain ⟨rfl, rfl, rfl⟩ := trodAll_nil r2
  obtain rfl : args = #[v0, v1, v2] := by cases args; simp_all
  obtain ⟨rfl, rfl⟩ := trodVars_none hV
  obtain ⟨a0, len0, cap0, rfl⟩ := okWide_slice Try.underlying22 (hval 0 22 v0 rfl rfl)
  have k0 := h0
  have lt0 : ∀ x ∈ p0, x.block < W.heap.size := by obtain ⟨m, hm⟩ := k0; exact DataW.trod_lt m _ _ _ hm
  obtain ⟨l0, w0⟩ := open_bytes h0
  obtain ⟨a1, rfl, rfl, rfl, w1⟩ := open_int Try.underlying29 (hval 1 29 v1 rfl rfl) h1
  obtain ⟨a2, rfl, rfl, rfl, w2⟩ := open_int Try.underlying5 (hval 2 5 v2 rfl rfl) h2
  have hb := bounds_u16 w1
  obtain ⟨x, rfl⟩ := Int.eq_ofNat_of_zero_le hb.1
  obtain ⟨y, rfl⟩ : ∃ y : UInt8, a2 = (y.toNat : Int) := ⟨_, (byte_back a2 w2).symm⟩
  clear hA0 hval0
  refine (one a0 l0 len0 cap0 x y W w0 (by omega)).mono fun e W' ⟨he, bel⟩ => ?_
  subst he
  exact ⟨_, rfl, _, _, _, [], _, [], hW', trodAll_mk1 (shut_bool Try.underlying4 _), (trodAll_cons_mk (Below.trod laidOut (by kernel_rfl) (of_decide_eq_true (by kernel_rfl)) k0 bel lt0) (trodAll_cons_mk (shut_int Try.underlying29 w1) (trodAll_cons_mk (shut_int Try.underlying5 w2) trodAll_mk0))), rfl, bel.frame _, fun h => by cases h⟩

/-- The statement. -/
theorem equalOne_holds : Rows.EqualOneSaid :=
  OpenClaim.holds_of_wide 5 Try.f5 rfl rfl rfl rfl rfl rfl rfl ⟨rfl, rfl, rfl, rfl, rfl⟩ rfl rfl rfl rfl rfl (by kernel_rfl) Try.func5 (by kernel_rfl)
    (of_decide_eq_true (by kernel_rfl)) (by unfold Func.isWrapper; first | (rw [if_pos (by decide +kernel)]; kernel_rfl) | (rw [if_neg (by decide +kernel)]; exact ⟨rfl, rfl⟩))
    (fun os started H enc _ => one_lifted os started H enc)
#print axioms equalOne_holds
end Go.Proofs.Ytafhdclbmbnmmaa
