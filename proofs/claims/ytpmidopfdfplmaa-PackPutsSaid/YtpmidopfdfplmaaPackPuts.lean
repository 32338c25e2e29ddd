/- PackPuts: how any number, and any text, is put behind any bytes is as the document has it. For every input. -/
import Derived.Test.YtpmidopfdfplmaaPackO
import Derived.Test.YtpmidopfdfplmaaPackP
import Derived.Deep.RegionLaw
namespace Go.Proofs.Ytpmidopfdfplmaa
open Go.RowKit Go.ChangeShapes Go.WideShapes Go.ChangeAt
open Go.ChangeMaps (open_string shut_string)

/-- The bytes, and behind them the number, if so many bytes may be. -/
def numP (l : List UInt8) (x : Nat) (n : Int) : List UInt8 := if n < 1 ∨ 8 < n then l else l ++ be n.toNat x

theorem numP_le (l : List UInt8) (x : Nat) (n : Int) : (numP l x n).length ≤ l.length + 8 := by
  unfold numP
  split
  · omega
  · simp [be_length]; omega

theorem pk_putnum (base : Nat) (v : Value) (l : List UInt8) (x : Nat) (n : Int) (w : World) (hown : w.ownsRow base 5 1 v l.length (bv l)) (hb : base ≤ w.heap.size) (hl : l.length ≤ 3000) :
    Calls Try.prog 8 #[v, .int .u64 x, .int .i64 n] w fun e w' => ∃ v', e = .returned v' ∧ BytesAt w' v' (numP l x n) ∧ Below base w w' := by
  by_cases hn : n < 1 ∨ 8 < n
  · refine (put_num_not v x n w hn).mono ?_
    rintro e w' ⟨rfl, rfl⟩
    exact ⟨v, rfl, by rw [numP, if_pos hn]; exact BytesAt.of_own hown, Below.refl _ _⟩
  · obtain ⟨m, rfl⟩ := Int.eq_ofNat_of_zero_le (show 0 ≤ n by omega)
    refine (put_num base v l x m w (by omega) (by omega) hown hb (by omega)).mono ?_
    rintro e w' ⟨v', rfl, ho, hbe⟩
    refine ⟨v', rfl, ?_, hbe⟩
    rw [numP, if_neg hn]
    apply BytesAt.of_own (base := base)
    rw [List.length_append, be_length]
    exact ho

theorem rf_putnum (A : Option Addr) (cap : Nat) (l : List UInt8) (x : Nat) (n : Int) (w : World) (hb : BytesAt w (.slice A l.length cap) l) (hl : l.length ≤ 3000) (hx : x < 18446744073709551616) :
    Calls Try.prog 9 #[.slice A l.length cap, .int .u64 x, .int .i64 n] w fun e w' => ∃ v', e = .returned v' ∧ BytesAt w' v' (numP l x n) ∧ Below w.heap.size w w' := by
  by_cases hn : n < 1 ∨ 8 < n
  · refine (ref_num_put_not _ x n w hn).mono ?_
    rintro e w' ⟨rfl, rfl⟩
    exact ⟨_, rfl, by rw [numP, if_pos hn]; exact hb, Below.refl _ _⟩
  · obtain ⟨m, rfl⟩ := Int.eq_ofNat_of_zero_le (show 0 ≤ n by omega)
    refine (ref_num_put A l cap x m w hb (by omega) (by omega) hl hx).mono ?_
    rintro e w' ⟨v', rfl, ho, hbe⟩
    exact ⟨v', rfl, by rw [numP, if_neg hn]; exact BytesAt.of_own ho, hbe⟩

theorem pk_puttext (base : Nat) (v : Value) (l : List UInt8) (s : ByteArray) (w : World) (hown : w.ownsRow base 5 1 v l.length (bv l)) (hb : base ≤ w.heap.size) (hl : l.length ≤ 3000) (hs : s.size ≤ 70000) :
    Calls Try.prog 10 #[v, .string s] w fun e w' => ∃ v', e = .returned v' ∧ BytesAt w' v' (l ++ encS (cutText s)) ∧ Below base w w' := by
  refine (put_text base v l s w (by omega) hown hb (by omega)).mono ?_
  rintro e w' ⟨v', rfl, ho, hbe⟩
  refine ⟨v', rfl, ?_, hbe⟩
  apply BytesAt.of_own (base := base)
  rw [List.length_append, encS_length, encS, ← List.append_assoc, ← Nat.add_assoc]
  exact ho

theorem rf_puttext (A : Option Addr) (cap : Nat) (l : List UInt8) (s : ByteArray) (w : World) (hb : BytesAt w (.slice A l.length cap) l) (hl : l.length ≤ 3000) (hs : s.size ≤ 70000) :
    Calls Try.prog 11 #[.slice A l.length cap, .string s] w fun e w' => ∃ v', e = .returned v' ∧ BytesAt w' v' (l ++ encS (cutText s)) ∧ Below w.heap.size w w' := by
  refine (ref_text_put A l cap s w hb hl hs).mono ?_
  rintro e w' ⟨v', rfl, ho, hbe⟩
  exact ⟨v', rfl, BytesAt.of_own ho, hbe⟩

theorem step_append_bytes {w : World} {ops : Array Oper} {o : Oper} {a : Act} {K : Act → World → Prop} {Q : Exit → Act → World → Prop} {E : Prop} (hw : Region.wanted o (yielded ops a.tmps) = true) (s x : Operand)
    (ho : o.op = .call { callee := .builtin .append, args := #[s, x], argTypes := #[22, 22] })
    (base : Nat) (v : Value) (n : Nat) (xs : List Value) (hv : a.eval s = v) (hown : w.ownsRow base 5 1 v n xs) (src : Value) (l : List UInt8) (hx : a.eval x = src) (hs : BytesAt w src l)
    (hlen : n + l.length ≤ 10000000) (hbase : base ≤ w.heap.size)
    (h : ∀ v' w', w'.ownsRow base 5 1 v' (n + l.length) (xs ++ bv l) → w.grownBy w' v.ownBlock → K (a.put o.dst v') w') :
    if Region.wanted o (yielded ops a.tmps) = true then Oper.wp Try.prog o a w K Q else E := by
  rw [if_pos hw]
  exact wp_append_bytes s x ho base v n xs hv hown src l hx hs hlen hbase h

theorem own_after {w w6 w7 : World} {v7 : Value} {l : List UInt8} (hB6 : Below w.heap.size w w6) (ho7 : w7.ownsRow w6.heap.size 5 1 v7 (0 + l.length) ([] ++ bv l))
    (hg7 : (w6.alloc (.cells #[] 5)).grownBy w7 (Value.slice (some ⟨w6.heap.size, 0, none⟩) 0 0).ownBlock) :
    Below w.heap.size w w7 ∧ w7.ownsRow w6.heap.size 5 1 v7 l.length (bv l) ∧ w6.heap.size ≤ w7.heap.size := by
  have z := hB6.size
  have z7 := hg7.size
  simp at z7
  refine ⟨(hB6.alloc z _).grown hg7 (by simp; omega) (fun k hk => ?_), ?_, by omega⟩
  · simp [Value.ownBlock] at hk
    omega
  · rw [Nat.zero_add, List.nil_append] at ho7
    exact ho7

set_option maxHeartbeats 2000000 in
set_option maxRecDepth 100000 in
theorem puts_small (A : Option Addr) (l : List UInt8) (cap x : Nat) (n : Int) (s : ByteArray) (w : World) (h0 : BytesAt w (.slice A l.length cap) l) (hl : l.length ≤ 3000) (hs : s.size ≤ 70000) (hx : x < 18446744073709551616) :
    Calls Try.prog 3 #[.slice A l.length cap, .int .u64 x, .int .i64 n, .string s] w fun e w' => e = .returned (.bool true) ∧ Below w.heap.size w w' := by
  have H0 := Lib.hid h0
  have HX := Lib.hid hx
  clear h0 hx
  have h3 : decide ((3000 : Int) < (l.length : Int)) = false := by simp; omega
  have h4 : decide ((70000 : Int) < (s.size : Int)) = false := by simp; omega
  go_enter Try.func3, Try.ntmps3
  go_wp2_with (at_builtin; refine wpList_append_bytes rfl (.tmp 19) (.tmp 20) rfl w.heap.size _ 0 [] rfl (own_empty w) _ l rfl ?c1 ?c2 ?c3 ?_)
  case c1 => exact H0.out.below ((Below.refl _ _).alloc (Nat.le_refl _) _)
  case c2 => omega
  case c3 => simp
  intro v1 w1 ho1 hg1
  have hb1 : Below w.heap.size w w1 := ((Below.refl _ _).alloc (Nat.le_refl _) _).grown hg1 (by simp) (fun k hk => by simp [Value.ownBlock] at hk; omega)
  have z1 := hb1.size
  have HO1 := Lib.hid ho1
  have HB1 := Lib.hid hb1
  clear ho1 hg1 hb1
  go_wp2_with fail
  go_region_law (first
      | (refine step_append_bytes (by rfl) (.tmp 34) (.tmp 35) (by rfl) w6.heap.size _ 0 [] (by rfl) (own_empty w6) _ l (by rfl) (H0.out.below (hB6.alloc hB6.size _)) (by omega) (by simp) ?_; intro v7 w7 ho7 hg7; obtain ⟨hB7, ho7', z7⟩ := own_after hB6 ho7 hg7; have HO7 := Lib.hid ho7'; clear ho7' ho7 hg7)
      | (go_simp; go_at_call 8; refine (pk_putnum w.heap.size v1 l x n _ ?_ ?_ hl).mono ?_; exact HO1.out; exact z1; rintro e w5 ⟨v5, rfl, hy5, hb5⟩; have hcv5 := conv_bytes hy5; have hB5 : Below w.heap.size w w5 := HB1.out.drew.trans hb5; have HY5 := Lib.hid hy5; clear hy5)
      | (go_simp; go_at_call 9; refine (rf_putnum A cap l x n _ ?_ hl HX.out).mono ?_; exact H0.out.below hB5; rintro e w6 ⟨v6, rfl, hy6, hb6⟩; have hcv6 := conv_bytes hy6; have hcv56 := conv_bytes (HY5.out.below hb6); have hB6 : Below w.heap.size w w6 := hB5.trans (hb6.mono hB5.size); clear hy6 hb6)
      | (go_simp; go_at_call 10; refine (pk_puttext w6.heap.size v7 l s _ HO7.out z7 hl hs).mono ?_; rintro e w8 ⟨v8, rfl, hy8, hb8⟩; have hcv8 := conv_bytes hy8; have hB8 : Below w.heap.size w w8 := hB7.trans (hb8.mono hB6.size); have HY8 := Lib.hid hy8; clear hy8 hb8)
      | (go_simp; go_at_call 11; refine (rf_puttext A cap l s _ ?_ hl hs).mono ?_; exact H0.out.below hB8; rintro e w9 ⟨v9, rfl, hy9, hb9⟩; have hcv9 := conv_bytes hy9; have hcv89 := conv_bytes (HY8.out.below hb9); have hB9 : Below w.heap.size w w9 := hB8.trans (hb9.mono hB8.size); clear hy9 hb9)
      | (go_simp; go_at_call 7; refine (works_any _).mono ?_; rintro e w10 ⟨rfl, hb10⟩; have hB10 : Below w.heap.size w w10 := hB9.trans (hb10.mono hB9.size); clear hb10))
  all_goals
    go_wp2
    go_ret
    exact ⟨rfl, hB10⟩

theorem puts_great (A : Option Addr) (len cap x : Nat) (n : Int) (s : ByteArray) (w : World) (hg : 3000 < len ∨ 70000 < s.size) :
    Calls Try.prog 3 #[.slice A len cap, .int .u64 x, .int .i64 n, .string s] w fun e w' => e = .returned (.bool true) ∧ Below w.heap.size w w' := by
  by_cases h : 3000 < len
  · go_enter Try.func3, Try.ntmps3
    go_wp2_with fail
    refine (works_any w).mono ?_
    rintro e w1 ⟨rfl, hb1⟩
    go_wp2
    go_ret
    exact ⟨rfl, hb1⟩
  · have h3 : decide ((3000 : Int) < (len : Int)) = false := by simp; omega
    have h4 : decide ((70000 : Int) < (s.size : Int)) = true := by simp; omega
    clear hg h
    go_enter Try.func3, Try.ntmps3
    go_wp2_with fail
    refine (works_any w).mono ?_
    rintro e w1 ⟨rfl, hb1⟩
    go_wp2
    go_ret
    exact ⟨rfl, hb1⟩

theorem puts (A : Option Addr) (l : List UInt8) (len cap x : Nat) (n : Int) (s : ByteArray) (w : World) (h0 : BytesAt w (.slice A len cap) l) (hx : x < 18446744073709551616) :
    Calls Try.prog 3 #[.slice A len cap, .int .u64 x, .int .i64 n, .string s] w fun e w' => e = .returned (.bool true) ∧ Below w.heap.size w w' := by
  have hn : len = l.length := by
    obtain ⟨A', cap', e, _⟩ := h0
    injection e
  subst hn
  by_cases hg : 3000 < l.length ∨ 70000 < s.size
  · exact puts_great A _ cap x n s w hg
  · exact puts_small A l cap x n s w h0 (by omega) (by omega) hx

set_option maxRecDepth 100000 in
theorem puts_lifted (os : Os) (started : os.Started) (H : Type) (enc : TypeId × Value → H) :
    ReturnsInHanded {} Try.checked os 3 .any (Rows.packPutsSpec.pre6 enc Try.prog Try.f3 Rows.packPutsRow.domain false) (Rows.packPutsSpec.post enc Try.prog Try.f3 false true false false) := by
  refine returnsInHanded_of_change (C := Try.checked) own started (by kernel_rfl) Try.func3
    (ChangeSpec.witness6 (enc := enc) (C := Try.checked) false ⟨#[], #[.slice none 0 0, .int .u64 0, .int .i64 0, .string ByteArray.empty], []⟩ 8 (by kernel_rfl) (by kernel_rfl) (by kernel_rfl) (by kernel_rfl)) ?_
  intro W base args ds gs before hval0 hW hcnd _
  have hval : ∀ (j : Nat) t v, Try.f3.params[j]? = some t → args[j]? = some v → Value.okWide Try.prog W .any base t v := hval0
  have hW' := hW
  obtain ⟨p, q, hA0, hV, rfl, hfz, hnd⟩ := hW
  have hA : DataW.TrodAll enc Try.prog W 0 (fun _ => true) true Try.f3.params.toList args.toList ds p := hA0
  rw [Try.params3] at hA hval
  obtain ⟨v0, vs0, d0, ds0, p0, q0, hargs, rfl, rfl, h0, r0⟩ := trodAll_cons hA
  obtain ⟨v1, vs1, d1, ds1, p1, q1, rfl, rfl, rfl, h1, r1⟩ := trodAll_cons r0
  obtain ⟨v2, vs2, d2, ds2, p2, q2, rfl, rfl, rfl, h2, r2⟩ := trodAll_cons r1
  obtain ⟨v3, vs3, d3, ds3, p3, q3, rfl, rfl, rfl, h3, r3⟩ := trodAll_cons r2
  obtain ⟨rfl, rfl, rfl⟩ := trodAll_nil r3
  obtain rfl : args = #[v0, v1, v2, v3] := by cases args; simp_all
  obtain ⟨rfl, rfl⟩ := trodVars_none hV
  obtain ⟨a0, len0, cap0, rfl⟩ := okWide_slice Try.underlying22 (hval 0 22 v0 rfl rfl)
  have k0 := h0
  have lt0 : ∀ x ∈ p0, x.block < W.heap.size := by obtain ⟨m, hm⟩ := k0; exact DataW.trod_lt m _ _ _ hm
  obtain ⟨l0, w0⟩ := open_bytes h0
  obtain ⟨a1, rfl, rfl, rfl, w1⟩ := open_int Try.underlying23 (hval 1 23 v1 rfl rfl) h1
  obtain ⟨a2, rfl, rfl, rfl, w2⟩ := open_int Try.underlying3 (hval 2 3 v2 rfl rfl) h2
  obtain ⟨s3, rfl, rfl, rfl, w3⟩ := open_string Try.underlying9 (hval 3 9 v3 rfl rfl) h3
  have hb := bounds_u64 w1
  obtain ⟨x, rfl⟩ := Int.eq_ofNat_of_zero_le hb.1
  clear hA0 hval0
  refine (puts a0 l0 len0 cap0 x a2 s3 W w0 (by omega)).mono fun e W' ⟨he, bel⟩ => ?_
  subst he
  exact ⟨_, rfl, _, _, _, [], _, [], hW', trodAll_mk1 (shut_bool Try.underlying4 _), (trodAll_cons_mk (Below.trod laidOut (by kernel_rfl) (of_decide_eq_true (by kernel_rfl)) k0 bel lt0) (trodAll_cons_mk (shut_int Try.underlying23 w1) (trodAll_cons_mk (shut_int Try.underlying3 w2) (trodAll_cons_mk (shut_string Try.underlying9 w3) trodAll_mk0)))), rfl, bel.frame _, fun h => by cases h⟩

/-- The statement. -/
theorem packPuts_holds : Rows.PackPutsSaid :=
  OpenClaim.holds_of_wide 3 Try.f3 rfl rfl rfl rfl rfl rfl rfl ⟨rfl, rfl, rfl, rfl, rfl⟩ rfl rfl rfl rfl rfl (by kernel_rfl) Try.func3 (by kernel_rfl)
    (of_decide_eq_true (by kernel_rfl)) (by unfold Func.isWrapper; first | (rw [if_pos (by decide +kernel)]; kernel_rfl) | (rw [if_neg (by decide +kernel)]; exact ⟨rfl, rfl⟩))
    (fun os started H enc _ => puts_lifted os started H enc)
#print axioms packPuts_holds
end Go.Proofs.Ytpmidopfdfplmaa
