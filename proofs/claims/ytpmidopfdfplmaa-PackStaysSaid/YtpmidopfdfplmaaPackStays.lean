/- PackStays: a reader that met an error tells nothing from then on, and ends with that error. For every input. -/
import Derived.Test.YtpmidopfdfplmaaPackO
namespace Go.Proofs.Ytpmidopfdfplmaa
open Go.RowKit Go.ChangeShapes Go.WideShapes Go.ChangeAt

theorem stays_great (v0 : Value) (A1 : Option Addr) (l0 : List UInt8) (len1 cap1 : Nat) (w : World) (h0 : BytesAt w v0 l0) (hg : 3000 < l0.length ∨ 100 < len1) :
    Calls Try.prog 6 #[v0, .slice A1 len1 cap1] w fun e w' => e = .returned (.bool true) ∧ Below w.heap.size w w' := by
  obtain ⟨A, cap, rfl, -, -⟩ := h0
  by_cases h : 3000 < l0.length
  · go_enter Try.func6, Try.ntmps6
    go_wp2_with fail
    refine (works_any w).mono ?_
    rintro e w1 ⟨rfl, hb1⟩
    go_wp2
    go_ret
    exact ⟨rfl, hb1⟩
  · have h2 : 100 < len1 := by omega
    have h3 : decide ((3000 : Int) < (l0.length : Int)) = false := by simp; omega
    have h4 : decide ((100 : Int) < (len1 : Int)) = true := by simp; omega
    clear hg h
    go_enter Try.func6, Try.ntmps6
    go_wp2_with fail
    refine (works_any w).mono ?_
    rintro e w1 ⟨rfl, hb1⟩
    go_wp2
    go_ret
    exact ⟨rfl, hb1⟩

set_option maxHeartbeats 1000000 in
theorem stays_small (v0 : Value) (A1 : Option Addr) (l0 : List UInt8) (len1 cap1 : Nat) (K N : Nat → Int) (w : World) (h0 : BytesAt w v0 l0)
    (h1 : CallsAt w A1 len1 K N) (hl : l0.length ≤ 3000) (hl1 : len1 ≤ 100) :
    Calls Try.prog 6 #[v0, .slice A1 len1 cap1] w fun e w' => e = .returned (.bool true) ∧ Below w.heap.size w w' := by
  have H0 := Lib.hid h0
  have H1 := Lib.hid h1
  clear h1
  have h3 : decide ((3000 : Int) < (l0.length : Int)) = false := by simp; omega
  have h4 : decide ((100 : Int) < (len1 : Int)) = false := by simp; omega
  obtain ⟨A, cap, rfl, -, -⟩ := h0
  go_enter Try.func6, Try.ntmps6
  go_wp2_with fail
  refine (works_any w).mono ?_
  rintro e w1 ⟨rfl, hb1⟩
  have h01 : BytesAt w1 (.slice A l0.length cap) l0 := H0.out.below hb1
  have H01 := Lib.hid h01
  clear h01
  go_wp2_with fail
  refine (open_any _ l0 w1 H01.out).mono ?_
  rintro e w2 ⟨rfl, hr2, hb2⟩
  have HR2 := Lib.hid hr2
  clear hr2
  go_wp2_with fail
  refine (raw_some _ _ 0 l0.length w2 HR2.out (by simp [ByteArray.size])).mono ?_
  rintro e w3 ⟨rfl, hr3, hg3⟩
  have hr3' : Rd w3 w1.heap.size ByteArray.empty 0 := by
    have e : (⟨l0.toArray⟩ : ByteArray).extract l0.length (⟨l0.toArray⟩ : ByteArray).size = ByteArray.empty := by
      apply ByteArray.ext
      simp [ByteArray.size]
    rwa [e] at hr3
  have HR3 := Lib.hid hr3'
  clear hr3 hr3'
  go_wp2_with fail
  refine (read_num_not _ _ 0 9 w3 HR3.out (fun h => absurd rfl h) (by omega)).mono ?_
  rintro e w4 ⟨rfl, hr4, hg4⟩
  have HR4 : Hid (Rd w4 w1.heap.size ByteArray.empty 2) := hr4
  have z1 := hb1.size
  have hbw : Below w.heap.size w w4 := by
    have z2 := hb2.size
    have z3 := hg3.size
    exact ((hb1.trans (hb2.mono z1)).grown hg3 (by omega) (fun k hk => by injection hk; omega)).grown hg4 (by omega) (fun k hk => by injection hk; omega)
  have HBW := Lib.hid hbw
  have hz4 : w1.heap.size < w4.heap.size := HR4.out.lt
  clear hr4 hb1 hb2 hg3 hg4 hbw
  go_wp2_with fail
  go_loopw [28] (fun i wr => ∃ k : Nat, k ≤ len1 ∧ i = .int .i64 k ∧ Rd wr w1.heap.size ByteArray.empty 2 ∧ Below w.heap.size w wr) (fun i _ => len1 - (intOf i).toNat)
  case atStart => exact ⟨0, Nat.zero_le _, rfl, HR4.out, HBW.out⟩
  case round =>
    obtain ⟨k, hk, rfl, hr, hbel⟩ := hrel
    have HR := Lib.hid hr
    have HB := Lib.hid hbel
    have zr := hbel.size
    have zg := hr.lt
    clear hr hbel
    by_cases hlt : k < len1
    · obtain ⟨b, off, rfl, hbw, hcell⟩ := H1.out (by omega)
      obtain ⟨c0, c1⟩ := hcell k hlt
      have d0 : wr.cell? ⟨b, off + k * 2, none⟩ = some (.int .i64 (K k)) := (HB.out.cell (p := ⟨b, off + k * 2, none⟩) hbw).trans c0
      have d1 : wr.cell? ⟨b, off + k * 2 + 1, none⟩ = some (.int .i64 (N k)) := (HB.out.cell (p := ⟨b, off + k * 2 + 1, none⟩) hbw).trans c1
      clear hcell c0 c1
      have hN := Whole.new wr 34 #[.int .i64 (K k), .int .i64 (N k)]
      have hR0 : Rd (wr.alloc (.cells #[.int .i64 (K k), .int .i64 (N k)] 34)) w1.heap.size ByteArray.empty 2 := HR.out.alloc _
      have HN0 := Lib.hid hN
      have HR0 := Lib.hid hR0
      have hB0 := HB.out.alloc zr (.cells #[.int .i64 (K k), .int .i64 (N k)] 34)
      have HB0 := Lib.hid hB0
      clear hN hR0 hB0
      go_wp2_with fail
      refine (met_num _ 2 (N k) _ HR0.out (by decide)).mono ?_
      rintro e w5 ⟨rfl, hr5, hg5⟩
      have hN5 := HN0.out.grown hg5 (by simp; omega)
      have hc5 := hN5.at_ 1
      simp at hc5
      have HN5 := Lib.hid hN5
      have HR5 := Lib.hid hr5
      have zz5 := hg5.size
      have hB5 := HB0.out.grown hg5 (by simp; omega) (fun k hk => by injection hk; omega)
      have HB5 := Lib.hid hB5
      simp at zz5
      clear hN5 hr5 hB5 hg5
      go_wp2_with fail
      refine (met_text _ 2 (N k) _ HR5.out (by decide)).mono ?_
      rintro e w6 ⟨rfl, hr6, hg6⟩
      have hN6 := HN5.out.grown hg6 (by simp; omega)
      have hc6 := hN6.at_ 1
      simp at hc6
      have HN6 := Lib.hid hN6
      have HR6 := Lib.hid hr6
      have zz6 := hg6.size
      have hB6 := HB5.out.grown hg6 (by omega) (fun k hk => by injection hk; omega)
      have HB6 := Lib.hid hB6
      clear hN6 hr6 hB6 hg6 hc5
      go_wp2_with fail
      refine (met_raw _ 2 (N k) _ HR6.out (by decide)).mono ?_
      rintro e w7 ⟨rfl, hr7, hg7⟩
      have HR7 := Lib.hid hr7
      have hB7 := HB6.out.grown hg7 (by omega) (fun k hk => by injection hk; omega)
      have HB7 := Lib.hid hB7
      clear hr7 hB7 hg7 hc6
      go_wp2_with fail
      refine (met_left _ 2 _ HR7.out).mono ?_
      rintro e w8 ⟨rfl, rfl⟩
      go_wp2
      go_roundw
      case rel => exact ⟨k + 1, by omega, by go_num, HR7.out, HB7.out⟩
      case measure => simp [intOf]; omega
    · go_wp2_with fail
      refine (end_any _ _ 2 _ HR.out).mono ?_
      rintro e w5 ⟨rfl, rfl⟩
      have he : ended ByteArray.empty 2 = 2 := by decide
      go_wp2
      go_ret
      exact ⟨rfl, HB.out⟩

theorem stays (v0 : Value) (A1 : Option Addr) (l0 : List UInt8) (len1 cap1 : Nat) (K N : Nat → Int) (w : World) (h0 : BytesAt w v0 l0) (h1 : CallsAt w A1 len1 K N) :
    Calls Try.prog 6 #[v0, .slice A1 len1 cap1] w fun e w' => e = .returned (.bool true) ∧ Below w.heap.size w w' := by
  by_cases hg : 3000 < l0.length ∨ 100 < len1
  · exact stays_great v0 A1 l0 len1 cap1 w h0 hg
  · exact stays_small v0 A1 l0 len1 cap1 K N w h0 h1 (by omega) (by omega)

set_option maxRecDepth 100000 in
theorem stays_lifted (os : Os) (started : os.Started) (H : Type) (enc : TypeId × Value → H) :
    ReturnsInHanded {} Try.checked os 6 .any (Rows.packStaysSpec.pre6 enc Try.prog Try.f6 Rows.packStaysRow.domain false) (Rows.packStaysSpec.post enc Try.prog Try.f6 false true false false) := by
  refine returnsInHanded_of_change (C := Try.checked) own started (by kernel_rfl) Try.func6
    (ChangeSpec.witness6 (enc := enc) (C := Try.checked) false ⟨#[], #[.slice none 0 0, .slice none 0 0], []⟩ 8 (by kernel_rfl) (by kernel_rfl) (by kernel_rfl) (by kernel_rfl)) ?_
  intro W base args ds gs before hval0 hW hcnd _
  have hval : ∀ (j : Nat) t v, Try.f6.params[j]? = some t → args[j]? = some v → Value.okWide Try.prog W .any base t v := hval0
  have hW' := hW
  obtain ⟨p, q, hA0, hV, rfl, hfz, hnd⟩ := hW
  have hA : DataW.TrodAll enc Try.prog W 0 (fun _ => true) true Try.f6.params.toList args.toList ds p := hA0
  rw [Try.params6] at hA hval
  obtain ⟨v0, vs0, d0, ds0, p0, q0, hargs, rfl, rfl, h0, r0⟩ := trodAll_cons hA
  obtain ⟨v1, vs1, d1, ds1, p1, q1, rfl, rfl, rfl, h1, r1⟩ := trodAll_cons r0
  obtain ⟨rfl, rfl, rfl⟩ := trodAll_nil r1
  obtain rfl : args = #[v0, v1] := by cases args; simp_all
  obtain ⟨rfl, rfl⟩ := trodVars_none hV
  obtain ⟨a0, len0, cap0, rfl⟩ := okWide_slice Try.underlying22 (hval 0 22 v0 rfl rfl)
  obtain ⟨a1, len1, cap1, rfl⟩ := okWide_slice Try.underlying28 (hval 1 28 v1 rfl rfl)
  have k0 := h0
  have k1 := h1
  have lt0 : ∀ x ∈ p0, x.block < W.heap.size := by obtain ⟨m, hm⟩ := k0; exact DataW.trod_lt m _ _ _ hm
  have lt1 : ∀ x ∈ p1, x.block < W.heap.size := by obtain ⟨m, hm⟩ := k1; exact DataW.trod_lt m _ _ _ hm
  obtain ⟨l0, w0⟩ := open_bytes h0
  obtain ⟨K, N, w1⟩ := open_calls h1
  clear hA0 hval0
  refine (stays _ _ l0 len1 cap1 K N W w0 w1).mono fun e W' ⟨he, bel⟩ => ?_
  subst he
  exact ⟨_, rfl, _, _, _, [], _, [], hW', trodAll_mk1 (shut_bool Try.underlying4 _), (trodAll_cons_mk (Below.trod laidOut (by kernel_rfl) (of_decide_eq_true (by kernel_rfl)) k0 bel lt0) (trodAll_cons_mk (Below.trod laidOut (by kernel_rfl) (of_decide_eq_true (by kernel_rfl)) k1 bel lt1) trodAll_mk0)), rfl, bel.frame _, fun h => by cases h⟩

/-- The statement. -/
theorem packStays_holds : Rows.PackStaysSaid :=
  OpenClaim.holds_of_wide 6 Try.f6 rfl rfl rfl rfl rfl rfl rfl ⟨rfl, rfl, rfl, rfl, rfl⟩ rfl rfl rfl rfl rfl (by kernel_rfl) Try.func6 (by kernel_rfl)
    (of_decide_eq_true (by kernel_rfl)) (by unfold Func.isWrapper; first | (rw [if_pos (by decide +kernel)]; kernel_rfl) | (rw [if_neg (by decide +kernel)]; exact ⟨rfl, rfl⟩))
    (fun os started H enc _ => stays_lifted os started H enc)
#print axioms packStays_holds
end Go.Proofs.Ytpmidopfdfplmaa
