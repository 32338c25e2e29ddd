/- PackReads: what a reader of any bytes tells to any calls, one behind the other, and how it ends, is as the document has it. For every input. -/
import Derived.Test.YtpmidopfdfplmaaPackO
import Derived.Test.YtpmidopfdfplmaaPackS
import Derived.Deep.RegionHeld3
namespace Go.Proofs.Ytpmidopfdfplmaa
open Go.RowKit Go.ChangeShapes Go.WideShapes Go.ChangeAt

set_option maxHeartbeats 1000000 in
theorem reads_small (A : Option Addr) (A1 : Option Addr) (l : List UInt8) (cap len1 cap1 : Nat) (K N : Nat → Int) (w : World) (h0 : BytesAt w (.slice A l.length cap) l)
    (h1 : CallsAt w A1 len1 K N) (hl : l.length ≤ 3000) (hl1 : len1 ≤ 100) :
    Calls Try.prog 4 #[.slice A l.length cap, .slice A1 len1 cap1] w fun e w' => e = .returned (.bool true) ∧ Below w.heap.size w w' := by
  have H0 := Lib.hid h0
  have H1 := Lib.hid h1
  clear h1 h0
  have h3 : decide ((3000 : Int) < (l.length : Int)) = false := by simp; omega
  have h4 : decide ((100 : Int) < (len1 : Int)) = false := by simp; omega
  go_enter Try.func4, Try.ntmps4
  go_wp2_with fail
  refine (open_any _ l w H0.out).mono ?_
  rintro e w1 ⟨rfl, hr1, hb1⟩
  have HR1 := Lib.hid hr1
  have HB1 := Lib.hid hb1
  have z1 := hr1.lt
  clear hr1 hb1
  go_wp2_with fail
  refine (ref_open A l.length cap w1).mono ?_
  rintro e w2 ⟨rfl, hf2, hb2⟩
  have HF2 := Lib.hid hf2
  have HR2 : Hid (Rd w2 w.heap.size (restT l ⟨0, 0⟩) 0) := HR1.out.below hb2 HR1.out.lt
  have HB2 := Lib.hid (HB1.out.trans (hb2.mono (by omega)))
  clear hf2 hb2
  go_wp2_with fail
  go_loopw [25] (fun i wr => ∃ (k : Nat) (s : St), k ≤ len1 ∧ i = .int .i64 k ∧ s.p ≤ l.length ∧ Rd wr w.heap.size (restT l s) s.e ∧ Rf wr w1.heap.size (.slice A l.length cap) s.p s.e ∧ Below w.heap.size w wr) (fun i _ => len1 - (intOf i).toNat)
  case atStart => exact ⟨0, ⟨0, 0⟩, Nat.zero_le _, rfl, Nat.zero_le _, HR2.out, HF2.out, HB2.out⟩
  case round =>
    obtain ⟨k, s, hk, rfl, hp, hr, hf, hbel⟩ := hrel
    have HR := Lib.hid hr
    have HF := Lib.hid hf
    have HB := Lib.hid hbel
    have zr := hbel.size
    have zg := hf.lt
    clear hr hf hbel
    by_cases hlt : k < len1
    · obtain ⟨b, off, rfl, hbw, hcell⟩ := H1.out (by omega)
      obtain ⟨c0, c1⟩ := hcell k hlt
      have d0 : wr.cell? ⟨b, off + k * 2, none⟩ = some (.int .i64 (K k)) := (HB.out.cell (p := ⟨b, off + k * 2, none⟩) hbw).trans c0
      have d1 : wr.cell? ⟨b, off + k * 2 + 1, none⟩ = some (.int .i64 (N k)) := (HB.out.cell (p := ⟨b, off + k * 2 + 1, none⟩) hbw).trans c1
      clear hcell c0 c1
      have HN0 := Lib.hid (Whole.new wr 34 #[.int .i64 (K k), .int .i64 (N k)])
      have HR0 : Hid (Rd (wr.alloc (.cells #[.int .i64 (K k), .int .i64 (N k)] 34)) w.heap.size (restT l s) s.e) := HR.out.alloc _
      have HF0 : Hid (Rf (wr.alloc (.cells #[.int .i64 (K k), .int .i64 (N k)] 34)) w1.heap.size (.slice A l.length cap) s.p s.e) := HF.out.alloc _
      have HB0 := Lib.hid (HB.out.alloc zr (.cells #[.int .i64 (K k), .int .i64 (N k)] 34))
      have HG : Hid (l ≠ [] → A.map (·.block) ≠ some w1.heap.size) := fun hne => by
        obtain ⟨ad, rfl, hlt⟩ := H0.out.lt hne
        simp
        omega
      by_cases k0 : K k = 0
      · have b0 : (K k == 0) = true := by simpa using k0
        clear k0
        go_wp2_with fail
        go_region_held3 (fun w' => w'.cell? ⟨wr.heap.size, 1, none⟩ = some (.int .i64 (N k))) (first | go_keep | (have q := hN6.at_ 1; simpa using q) | (have q := hN5.at_ 1; simpa using q))
          (first
            | (go_at_call 14; refine (pk_num w.heap.size l s _ (N k) hp ?_).mono ?_; exact HR0.out; rintro e w5 ⟨rfl, hr5, hg5⟩; have hN5 := HN0.out.drew.grown hg5 (by simp; omega); have hF5 : Rf w5 w1.heap.size (.slice A l.length cap) s.p s.e := Whole.grown HF0.out.drew hg5 (by simp; omega); have hB5 : Below w.heap.size w w5 := HB0.out.drew.grown hg5 (by simp; omega) (fun k hk => by injection hk; omega))
            | (go_at_call 15; refine (rf_num w1.heap.size A cap l s _ (N k) hp hl ?_ ?_).mono ?_; exact H0.out.below hB5; exact hF5; rintro e w6 ⟨rfl, hf6, hg6⟩; have hN6 := hN5.grown hg6 (by simp; omega)))
        have hr6 : Rd w6 w.heap.size (restT l (numT l s (N k)).2) (numT l s (N k)).2.e := Whole.grown hr5 hg6 (by simp; omega)
        have z5 := hB5.size
        have hlt5 : w1.heap.size < w5.heap.size := hF5.lt
        have hB6 : Below w.heap.size w w6 := hB5.grown hg6 (by omega) (fun k hk => by injection hk; omega)
        have HR6 := Lib.hid hr6
        have HF6 := Lib.hid hf6
        have HB6 := Lib.hid hB6
        have HP6 := Lib.hid (numT_le (l := l) (s := s) (N k) hp)
        clear hr6 hf6 hB6 hr5 hg5 hg6 hN5 hN6 hF5 hB5
        go_wp2
        go_roundw
        case rel => exact ⟨k + 1, (numT l s (N k)).2, by omega, by go_num, HP6.out, HR6.out, HF6.out, HB6.out⟩
        case measure => simp [intOf]; omega
      · have b0 : (K k == 0) = false := by simpa using k0
        by_cases k1 : K k = 1
        · have b1 : (K k == 1) = true := by simpa using k1
          clear k0 k1
          go_wp2_with fail
          go_region_held3 (fun w' => w'.cell? ⟨wr.heap.size, 1, none⟩ = some (.int .i64 (N k))) (first | go_keep | (have q := hN6.at_ 1; simpa using q) | (have q := hN5.at_ 1; simpa using q))
            (first
              | (go_at_call 16; refine (pk_text w.heap.size l s _ (N k) hp ?_).mono ?_; exact HR0.out; rintro e w5 ⟨rfl, hr5, hg5⟩; have hN5 := HN0.out.drew.grown hg5 (by simp; omega); have hF5 : Rf w5 w1.heap.size (.slice A l.length cap) s.p s.e := Whole.grown HF0.out.drew hg5 (by simp; omega); have hB5 : Below w.heap.size w w5 := HB0.out.drew.grown hg5 (by simp; omega) (fun k hk => by injection hk; omega))
              | (go_at_call 17; refine (rf_text w1.heap.size A cap l s _ (N k) hp hl ?_ HG.out ?_).mono ?_; exact H0.out.below hB5; exact hF5; rintro e w6 ⟨rfl, hf6, hg6⟩; have hN6 := hN5.grown hg6 (by simp; omega)))
          have hr6 : Rd w6 w.heap.size (restT l (textT l s (N k)).2) (textT l s (N k)).2.e := Whole.grown hr5 hg6 (by simp; omega)
          have z5 := hB5.size
          have hlt5 : w1.heap.size < w5.heap.size := hF5.lt
          have hB6 : Below w.heap.size w w6 := hB5.grown hg6 (by omega) (fun k hk => by injection hk; omega)
          have HR6 := Lib.hid hr6
          have HF6 := Lib.hid hf6
          have HB6 := Lib.hid hB6
          have HP6 := Lib.hid (textT_le (l := l) (s := s) (N k) hp)
          clear hr6 hf6 hB6 hr5 hg5 hg6 hN5 hN6 hF5 hB5
          go_wp2
          go_roundw
          case rel => exact ⟨k + 1, (textT l s (N k)).2, by omega, by go_num, HP6.out, HR6.out, HF6.out, HB6.out⟩
          case measure => simp [intOf]; omega
        · have b1 : (K k == 1) = false := by simpa using k1
          by_cases k2 : K k = 2
          · have b2 : (K k == 2) = true := by simpa using k2
            clear k0 k1 k2
            go_wp2_with fail
            go_region_held3 (fun w' => w'.cell? ⟨wr.heap.size, 1, none⟩ = some (.int .i64 (N k))) (first | go_keep | (have q := hN6.at_ 1; simpa using q) | (have q := hN5.at_ 1; simpa using q))
              (first
                | (go_at_call 18; refine (pk_raw w.heap.size l s _ (N k) hp ?_).mono ?_; exact HR0.out; rintro e w5 ⟨rfl, hr5, hg5⟩; have hN5 := HN0.out.drew.grown hg5 (by simp; omega); have hF5 : Rf w5 w1.heap.size (.slice A l.length cap) s.p s.e := Whole.grown HF0.out.drew hg5 (by simp; omega); have hB5 : Below w.heap.size w w5 := HB0.out.drew.grown hg5 (by simp; omega) (fun k hk => by injection hk; omega))
                | (go_at_call 19; refine (rf_raw w1.heap.size A cap l s _ (N k) hp hl ?_ ?_).mono ?_; exact H0.out.below hB5; exact hF5; rintro e w6 ⟨rfl, hf6, hg6⟩; have hN6 := hN5.grown hg6 (by simp; omega)))
            have hr6 : Rd w6 w.heap.size (restT l (rawT l s (N k)).2) (rawT l s (N k)).2.e := Whole.grown hr5 hg6 (by simp; omega)
            have z5 := hB5.size
            have hlt5 : w1.heap.size < w5.heap.size := hF5.lt
            have hB6 : Below w.heap.size w w6 := hB5.grown hg6 (by omega) (fun k hk => by injection hk; omega)
            have HR6 := Lib.hid hr6
            have HF6 := Lib.hid hf6
            have HB6 := Lib.hid hB6
            have HP6 := Lib.hid (rawT_le (l := l) (s := s) (N k) hp)
            clear hr6 hf6 hB6 hr5 hg5 hg6 hN5 hN6 hF5 hB5
            go_wp2
            go_roundw
            case rel => exact ⟨k + 1, (rawT l s (N k)).2, by omega, by go_num, HP6.out, HR6.out, HF6.out, HB6.out⟩
            case measure => simp [intOf]; omega
          · have b2 : (K k == 2) = false := by simpa using k2
            clear k0 k1 k2
            go_wp2_with fail
            refine (pk_left w.heap.size l s _ hp HR0.out).mono ?_
            rintro e w5 ⟨rfl, rfl⟩
            go_wp2_with fail
            refine (rf_left w1.heap.size A cap l s _ hp hl HF0.out).mono ?_
            rintro e w6 ⟨rfl, hf6, hg6⟩
            have hr6 : Rd w6 w.heap.size (restT l s) s.e := Whole.grown HR0.out hg6 (by simp; omega)
            have hB6 : Below w.heap.size w w6 := HB0.out.grown hg6 (by simp; omega) (fun k hk => by injection hk; omega)
            have HR6 := Lib.hid hr6
            have HF6 := Lib.hid hf6
            have HB6 := Lib.hid hB6
            clear hr6 hf6 hB6 hg6
            go_wp2
            go_roundw
            case rel => exact ⟨k + 1, s, by omega, by go_num, hp, HR6.out, HF6.out, HB6.out⟩
            case measure => simp [intOf]; omega
    · go_wp2_with fail
      refine (pk_end w.heap.size l s _ hp HR.out).mono ?_
      rintro e w5 ⟨rfl, rfl⟩
      go_wp2_with fail
      refine (rf_end w1.heap.size A cap l s _ HF.out).mono ?_
      rintro e w6 ⟨rfl, hf6, hg6⟩
      have HB6 := Lib.hid (HB.out.grown hg6 (by omega) (fun k hk => by injection hk; omega))
      clear hf6 hg6
      go_wp2_with fail
      refine (works_any w6).mono ?_
      rintro e w7 ⟨rfl, hb7⟩
      go_wp2
      go_ret
      exact ⟨rfl, HB6.out.trans (hb7.mono HB6.out.size)⟩

theorem reads_great (A A1 : Option Addr) (len0 cap len1 cap1 : Nat) (w : World) (hg : 3000 < len0 ∨ 100 < len1) :
    Calls Try.prog 4 #[.slice A len0 cap, .slice A1 len1 cap1] w fun e w' => e = .returned (.bool true) ∧ Below w.heap.size w w' := by
  by_cases h : 3000 < len0
  · go_enter Try.func4, Try.ntmps4
    go_wp2_with fail
    refine (works_any w).mono ?_
    rintro e w1 ⟨rfl, hb1⟩
    go_wp2
    go_ret
    exact ⟨rfl, hb1⟩
  · have h3 : decide ((3000 : Int) < (len0 : Int)) = false := by simp; omega
    have h4 : decide ((100 : Int) < (len1 : Int)) = true := by simp; omega
    clear hg h
    go_enter Try.func4, Try.ntmps4
    go_wp2_with fail
    refine (works_any w).mono ?_
    rintro e w1 ⟨rfl, hb1⟩
    go_wp2
    go_ret
    exact ⟨rfl, hb1⟩

theorem reads (A A1 : Option Addr) (l : List UInt8) (n cap len1 cap1 : Nat) (K N : Nat → Int) (w : World) (h0 : BytesAt w (.slice A n cap) l) (h1 : CallsAt w A1 len1 K N) :
    Calls Try.prog 4 #[.slice A n cap, .slice A1 len1 cap1] w fun e w' => e = .returned (.bool true) ∧ Below w.heap.size w w' := by
  have hn : n = l.length := by
    obtain ⟨A', cap', e, _⟩ := h0
    injection e
  subst hn
  by_cases hg : 3000 < l.length ∨ 100 < len1
  · exact reads_great A A1 _ cap len1 cap1 w hg
  · exact reads_small A A1 l cap len1 cap1 K N w h0 h1 (by omega) (by omega)

set_option maxRecDepth 100000 in
theorem reads_lifted (os : Os) (started : os.Started) (H : Type) (enc : TypeId × Value → H) :
    ReturnsInHanded {} Try.checked os 4 .any (Rows.packReadsSpec.pre6 enc Try.prog Try.f4 Rows.packReadsRow.domain false) (Rows.packReadsSpec.post enc Try.prog Try.f4 false true false false) := by
  refine returnsInHanded_of_change (C := Try.checked) own started (by kernel_rfl) Try.func4
    (ChangeSpec.witness6 (enc := enc) (C := Try.checked) false ⟨#[], #[.slice none 0 0, .slice none 0 0], []⟩ 8 (by kernel_rfl) (by kernel_rfl) (by kernel_rfl) (by kernel_rfl)) ?_
  intro W base args ds gs before hval0 hW hcnd _
  have hval : ∀ (j : Nat) t v, Try.f4.params[j]? = some t → args[j]? = some v → Value.okWide Try.prog W .any base t v := hval0
  have hW' := hW
  obtain ⟨p, q, hA0, hV, rfl, hfz, hnd⟩ := hW
  have hA : DataW.TrodAll enc Try.prog W 0 (fun _ => true) true Try.f4.params.toList args.toList ds p := hA0
  rw [Try.params4] at hA hval
  obtain ⟨v0, vs0, d0, ds0, p0, q0, hargs, rfl, rfl, h0, r0⟩ := trodAll_cons hA
  obtain ⟨v1, vs1, d1, ds1, p1, q1, rfl, rfl, rfl, h1, r1⟩ := trodAll_cons r0
  obtain ⟨rfl, rfl, rfl⟩ := trodAll_nil r1
  obtain rfl : args = #[v0, v1] := by cases args; simp_all
  obtain ⟨rfl, rfl⟩ := trodVars_none hV
  obtain ⟨a0, len0, cap0, rfl⟩ := okWide_slice Try.underlying22 (hval 0 22 v0 rfl rfl)
  obtain ⟨a1, len1, cap1, rfl⟩ := okWide_slice Try.underlying28 (hval 1 28 v1 rfl rfl)
  have k0 := h0
  have k1 := h1
  have lt0 : ∀ x ∈ p0, x.block < W.heap.size := by obtain ⟨m, hm⟩ := k0; exact DataW.trod_lt m _ _ _ hm
  have lt1 : ∀ x ∈ p1, x.block < W.heap.size := by obtain ⟨m, hm⟩ := k1; exact DataW.trod_lt m _ _ _ hm
  obtain ⟨l0, w0⟩ := open_bytes h0
  obtain ⟨K, N, w1⟩ := open_calls h1
  clear hA0 hval0
  refine (reads _ _ l0 len0 cap0 len1 cap1 K N W w0 w1).mono fun e W' ⟨he, bel⟩ => ?_
  subst he
  exact ⟨_, rfl, _, _, _, [], _, [], hW', trodAll_mk1 (shut_bool Try.underlying4 _), (trodAll_cons_mk (Below.trod laidOut (by kernel_rfl) (of_decide_eq_true (by kernel_rfl)) k0 bel lt0) (trodAll_cons_mk (Below.trod laidOut (by kernel_rfl) (of_decide_eq_true (by kernel_rfl)) k1 bel lt1) trodAll_mk0)), rfl, bel.frame _, fun h => by cases h⟩

/-- The statement. -/
theorem packReads_holds : Rows.PackReadsSaid :=
  OpenClaim.holds_of_wide 4 Try.f4 rfl rfl rfl rfl rfl rfl rfl ⟨rfl, rfl, rfl, rfl, rfl⟩ rfl rfl rfl rfl rfl (by kernel_rfl) Try.func4 (by kernel_rfl)
    (of_decide_eq_true (by kernel_rfl)) (by unfold Func.isWrapper; first | (rw [if_pos (by decide +kernel)]; kernel_rfl) | (rw [if_neg (by decide +kernel)]; exact ⟨rfl, rfl⟩))
    (fun os started H enc _ => reads_lifted os started H enc)
#print axioms packReads_holds
end Go.Proofs.Ytpmidopfdfplmaa
