/- What package poly's Tag answers. -/
import Derived.Test.YtmnhpkdldeifgaaGreatDoorGbk
namespace Go.Proofs.YtmnhpkdldeifgaaGreatDoor
set_option maxRecDepth 100000
open Go.RowKit

theorem tag_bad (A0 A1 : Option Addr) (n0 n1 cap0 cap1 : Nat) (w : World) (hn : n0 ≠ 32) :
    Calls Tryz.prog 32 #[.slice A0 n0 cap0, .slice A1 n1 cap1] w fun e w' => ∃ v', e = .returned (.tuple #[v', .int .i64 2]) ∧ BytesAt w' v' [] ∧ Below w.heap.size w w' := by
  have d1 : ((n0 : Int) != 32) = true := by simp; omega
  have d2 : ¬ (n0 = 32) := hn
  go_enter Tryz.func32, Tryz.ntmps32
  go_wp2
  go_ret2
  exact ⟨_, rfl, BytesAt.nil w, Below.refl _ _⟩

theorem read0 (A : Option Addr) (n cap : Nat) (b : List UInt8) (w : World) (h : BytesAt w (.slice A n cap) b) (hn : n ≤ 16) :
    Calls Tryz.prog 53 #[.slice A n cap, .int .u8 0] w fun e w' => e = .returned (.agg (uv (readL b 0))) ∧ Below w.heap.size w w' := read_any A n cap b 0 w h hn
theorem read1 (A : Option Addr) (n cap : Nat) (b : List UInt8) (w : World) (h : BytesAt w (.slice A n cap) b) (hn : n ≤ 16) :
    Calls Tryz.prog 53 #[.slice A n cap, .int .u8 1] w fun e w' => e = .returned (.agg (uv (readL b 1))) ∧ Below w.heap.size w w' := read_any A n cap b 1 w h hn
theorem wpList_build_q5 {ops : Array Oper} {rest : List Oper} {o : Oper} {a : Act} {w : World} {Q : Exit → Act → World → Prop} (hgd : o.guard = none) (ho : o.op = .build 81 #[])
    (h : wpList Tryz.prog ops Q rest (a.put o.dst (.agg (uv [0, 0, 0, 0, 0]))) w) : wpList Tryz.prog ops Q (o :: rest) a w := by
  refine wpList_plain hgd fun K hK => ?_
  have q := hK _ _ h
  unfold Oper.wp execOp
  simp only [ho, List.map_toArray, List.map_nil, build_q5, Sem.run_bind, Sem.run_pure, Result.andThen_ok, Oper.upon]
  exact q

set_option maxRecDepth 100000 in
set_option maxHeartbeats 4000000 in
theorem tag_any (A0 A1 : Option Addr) (n cap0 cap1 : Nat) (key msg : List UInt8) (w : World) (hn : n ≤ 1000000) (h0 : BytesAt w (.slice A0 32 cap0) key) (h1 : BytesAt w (.slice A1 n cap1) msg) :
    Calls Tryz.prog 32 #[.slice A0 32 cap0, .slice A1 n cap1] w fun e w' => ∃ v', e = .returned (.tuple #[v', .int .i64 0]) ∧ Fresh w' w.heap.size v' (tagL key msg) ∧ Below w.heap.size w w' := by
  have K0 := h0.size
  have M0 := Lib.hid h1.size
  have kc : (16 : Int) ≤ cap0 := by omega
  have H1 := Lib.hid h1
  have CC := Lib.hid (clamp_any A0 16 cap0 (key.take 16) w (h0.first 16 (by decide)))
  have KR := h0.rest 16 (by decide)
  rw [if_neg (show ¬ cap0 = 16 by omega)] at KR
  have kt : (key.drop 16).take 16 = key.drop 16 := List.take_of_length_le (by rw [List.length_drop]; omega)
  rw [clampL_take key (by omega)] at CC
  have CL := Lib.hid (clampL_length key (by omega))
  have KR2 := Lib.hid KR
  have LB := fun (t : Nat) (S : List Nat) (h : SumIs (leNat (clampL key)) msg t S) (ht : t = (msg.length + 15) / 16) => Lib.hid (last_bytes (b := key.drop 16) h rfl ht kt.symm)
  obtain ⟨TL, hTL⟩ : ∃ TL, TL = tagL key msg := ⟨_, rfl⟩
  simp only [← hTL] at LB
  have HT := Lib.hid hTL
  obtain ⟨KB, hKB⟩ : ∃ KB, KB = key.drop 16 := ⟨_, rfl⟩
  simp only [← hKB] at LB KR2
  obtain ⟨C, hC⟩ : ∃ C, C = clampL key := ⟨_, rfl⟩
  simp only [← hC] at LB CC CL
  have HN := Lib.hid hn
  have AK : ∃ ad, A0 = some ad := by
    obtain ⟨ad, rfl, -⟩ := h0.lt (by intro e; have := h0.size.1; rw [e] at this; simp at this)
    exact ⟨ad, rfl⟩
  obtain ⟨ad, rfl⟩ := AK
  have c16 : cap0 ≠ 16 := by omega
  have R0 := Lib.hid (readL_under C 0)
  have RL := Lib.hid (readL_length C 0)
  have RV := Lib.hid (readL_zero C (by rw [CL.out]; decide))
  clear h0 h1 KR kt hTL hKB hC hn K0
  go_enter Tryz.func32, Tryz.ntmps32
  go_wp2_with fail
  refine CC.out.mono ?_
  rintro e w2 ⟨v2, rfl, y2, b2⟩
  obtain ⟨A2, cp2, rfl, hcp2, -⟩ := id y2
  have B2 := Lib.hid b2
  have DD := Lib.hid (read0 A2 C.length cp2 C w2 y2 (by rw [CL.out]; decide))
  obtain ⟨F, hF⟩ : ∃ F, F = readL C 0 := ⟨_, rfl⟩
  rw [← hF] at DD R0 RL RV
  clear y2 b2 CC hcp2 hF
  go_wp2_with fail
  refine DD.out.mono ?_
  rintro e w3 ⟨rfl, b3⟩
  have B3 := Lib.hid (B2.out.trans (b3.mono B2.out.size))
  clear b3 DD B2
  go_wp2_with (refine wpList_alloc_row rfl 81 rfl _ zero_q5 ?_)
  intro w4 b4 x4 z4
  have X4 := Lib.hid x4
  have B4 := Lib.hid (B3.out.trans (b4.mono B3.out.size))
  have GF := Lib.hid B3.out.size
  clear b4 x4 z4 B3
  obtain ⟨gF, hgF⟩ : ∃ g, g = w3.heap.size := ⟨_, rfl⟩
  rw [← hgF] at X4 GF ⊢
  clear hgF
  go_wp2_with (refine wpList_store_whole rfl 81 _ _ rfl _ _ rfl rfl _ _ X4.out (size_of5 F RL.out) (same5 _ F rfl RL.out) (uv_one _) ?_)
  intro w5 g5 x5 z5
  have X5 := Lib.hid x5
  have B5 := Lib.hid (B4.out.grown g5 B4.out.size (fun k hk => by have := GF.out; injection hk; omega))
  clear g5 x5 z5 X4 B4
  go_wp2_with (first | refine wpList_build_q5 rfl rfl ?_ | refine wpList_alloc_row rfl 81 rfl _ zero_q5 ?_)
  intro w6 b6 x6 z6
  have X6 := Lib.hid x6
  have V6 := Lib.hid (X5.out.below b6 X5.out.lt)
  have GS : Hid (gF < w5.heap.size) := Lib.hid X5.out.lt
  have B6 := Lib.hid (B5.out.trans (b6.mono B5.out.size))
  clear b6 x6 z6 X5 B5
  obtain ⟨gS, hgS⟩ : ∃ g, g = w5.heap.size := ⟨_, rfl⟩
  rw [← hgS] at X6 GS ⊢
  clear hgS
  go_wp2_with (refine wpList_store_whole rfl 81 _ _ rfl _ _ rfl rfl _ _ X6.out (size_of5 _ rfl) rfl (uv_one _) ?_)
  intro w7 g7 x7 z7
  have X7 := Lib.hid x7
  have V7 := Lib.hid (V6.out.grown g7 (by have := GS.out; simp; omega))
  have B7 := Lib.hid (B6.out.grown g7 B6.out.size (fun k hk => by have := GF.out; have := GS.out; injection hk; omega))
  clear g7 x7 z7 X6 V6 B6
  obtain ⟨R, hR⟩ : ∃ R, R = leNat C := ⟨_, rfl⟩
  rw [← hR] at RV
  simp only [← hR] at LB
  have S0 := Lib.hid (SumIs.zero R msg)
  have H17 : Hid (BytesAt w (.slice A1 n cap1) (msg.drop (16 * 0))) := Lib.hid H1.out
  clear hR
  go_wp2_with fail
  go_loopw [1] (fun v wr => ∃ (t : Nat) (A' : Option Addr) (n' cp' : Nat) (S : List Nat), n' = n - 16 * t ∧ t ≤ (n + 15) / 16 ∧ v = .slice A' n' cp' ∧ SumIs R msg t S ∧ Whole wr gF 81 (uv F) ∧ Whole wr gS 81 (uv S) ∧ BytesAt w (.slice A' n' cp') (msg.drop (16 * t)) ∧ Below w.heap.size w wr) (fun v _ => sliceLen v)
  case atStart => exact ⟨0, A1, n, cap1, _, rfl, Nat.zero_le _, rfl, S0.out, V7.out, X7.out, H17.out, B7.out⟩
  case round =>
    obtain ⟨t, A', n', cp', S, hn', ht, rfl, hs, x1, x2, hm, hb⟩ := hrel
    have Y1 := Lib.hid x1
    have Y2 := Lib.hid x2
    have HM := Lib.hid hm
    have HB := Lib.hid hb
    have HS := Lib.hid hs
    have HT2 := Lib.hid (And.intro hn' ht)
    clear x1 x2 hm hb hs hn' ht V7 X7 H17 B7 S0
    by_cases hlt : 0 < n'
    · have dn : decide ((0 : Int) < (n' : Int)) = true := by simp; omega
      have CF := fun M hM => Lib.hid (chunk_facts msg n t n' M M0.out.1 HT2.out.1 hM)
      by_cases h16 : n' ≤ 16
      · have d16 : (n' : Int) ≤ 16 := by omega
        obtain ⟨q1, q2, q3⟩ := (CF n' (by omega)).out
        have HQ := Lib.hid (And.intro q2 q3)
        have HC : Hid (BytesAt w (.slice A' n' cp') ((msg.drop (16 * t)).take 16)) := Lib.hid (by rw [← q1]; exact HM.out.first n' (by omega))
        have HR : Hid (BytesAt w (.slice (if cp' = n' then A' else A'.map (·.add n')) (n' - n') (cp' - n')) (msg.drop (16 * (t + 1)))) := Lib.hid (by rw [← q2]; exact HM.out.rest n' (by omega))
        have JM : Hid (n' ≤ 16) := Lib.hid (by omega)
        obtain ⟨c, hc⟩ : ∃ c, c = (msg.drop (16 * t)).take 16 := ⟨_, rfl⟩
        rw [← hc] at HC
        have NX := Lib.hid (HS.out.next c hc R0.out RV.out)
        have UP := Lib.hid (plus_under (b := readL c 1) HS.out.1 HS.out.2.1 (readL_under c 1))
        have zc := (HM.out.size).2
        have j1 : (n' : Int) ≤ (cp' : Int) := by omega
        have j2 : (n' : Int) ≤ (n' : Int) := by omega
        have j3 : (n' : Int) ≤ (cp' : Int) := by omega
        have CFh := Lib.hid CF
        clear q1 q2 q3 hc CF
        go_wp2_with fail
        refine regG_begin [8] (fun w' => Whole w' gS 81 (uv S)) (fun w' => Whole w' gF 81 (uv F) ∧ Below w.heap.size w w') (by kernel_rfl) ?_
        have hS0 : Whole wr.drew gS 81 (uv S) := Y2.out
        have hS1 : Whole wr.drew gF 81 (uv F) ∧ Below w.heap.size w wr.drew := ⟨Y1.out, HB.out.drew⟩
        obtain ⟨wd, hwd⟩ : ∃ wd, wd = wr.drew := ⟨_, rfl⟩
        rw [← hwd] at hS0 hS1 ⊢
        clear hwd Y1 Y2 HB
        refine regG_read (i := 0) (v := .agg (uv S)) rfl (by kernel_rfl) (by kernel_rfl) (by kernel_rfl) (by kernel_rfl) (by kernel_rfl) (by kernel_rfl) (fun _ _ _ h => h) (by rfl) ⟨hS1, .inl hS0⟩ ?hy0 ?_
        case hy0 => intro w' hw'; exact exec_load_q5 _ rfl gS rfl _ S w' hw' HS.out.1
        simp only [Act.put, List.setIfInBounds_toArray, List.set_cons_zero, List.set_cons_succ]
        refine regG_take (i := 1) (v := ?_) rfl (by kernel_rfl) (by kernel_rfl) (by kernel_rfl) (by kernel_rfl) (by kernel_rfl) (fun _ _ _ h => h) (by rfl) ⟨hS1, .inl hS0⟩ ?hy1 ?_
        case hy1 => intro w' hw'; go_simp; (try with_reducible rfl)
        simp only [Act.put, List.setIfInBounds_toArray, List.set_cons_zero, List.set_cons_succ]
        refine regG_take (i := 2) (v := ?_) rfl (by kernel_rfl) (by kernel_rfl) (by kernel_rfl) (by kernel_rfl) (by kernel_rfl) (fun _ _ _ h => h) (by rfl) ⟨hS1, .inl hS0⟩ ?hy2 ?_
        case hy2 => intro w' hw'; go_simp; (try with_reducible rfl)
        simp only [Act.put, List.setIfInBounds_toArray, List.set_cons_zero, List.set_cons_succ]
        refine regG_take (i := 3) (v := ?_) rfl (by kernel_rfl) (by kernel_rfl) (by kernel_rfl) (by kernel_rfl) (by kernel_rfl) (fun _ _ _ h => h) (by rfl) ⟨hS1, .inl hS0⟩ ?hy3 ?_
        case hy3 => intro w' hw'; go_simp; (try with_reducible rfl)
        simp only [Act.put, List.setIfInBounds_toArray, List.set_cons_zero, List.set_cons_succ]
        refine regG_take (i := 6) (v := .agg (uv F)) rfl (by kernel_rfl) (by kernel_rfl) (by kernel_rfl) (by kernel_rfl) (by kernel_rfl) (fun _ _ _ h => h) (by rfl) ⟨hS1, .inl hS0⟩ ?hy6 ?_
        case hy6 => intro w' hw'; exact exec_load_q5 _ rfl gF rfl _ F w' hw'.1 RL.out
        simp only [Act.put, List.setIfInBounds_toArray, List.set_cons_zero, List.set_cons_succ]
        refine regG_do (i := 4) rfl (by kernel_rfl) (fun K' hK => ?_)
        go_simp
        refine (read1 A' n' cp' c wd (HC.out.below hS1.2) JM.out).mono ?_
        rintro e w8 ⟨rfl, b8⟩
        have s80 := hS0.below b8 hS0.lt
        have s81 : Whole w8 gF 81 (uv F) ∧ Below w.heap.size w w8 := ⟨hS1.1.below b8 hS1.1.lt, hS1.2.trans (b8.mono hS1.2.size)⟩
        refine hK.out _ _ s81 (.inl s80) ?_
        clear hK K' b8 hS0 hS1
        refine regG_do (i := 5) rfl (by kernel_rfl) (fun K' hK => ?_)
        go_simp
        refine (plus_any S (readL c 1) HS.out.1 (readL_length c 1) (HS.out.2.1.mono (by decide)) ((readL_under c 1).mono (by decide)) w8).mono ?_
        rintro e w9 ⟨rfl, b9⟩
        have s90 := s80.below b9 s80.lt
        have s91 : Whole w9 gF 81 (uv F) ∧ Below w.heap.size w w9 := ⟨s81.1.below b9 s81.1.lt, s81.2.trans (b9.mono s81.2.size)⟩
        refine hK.out _ _ s91 (.inl s90) ?_
        clear hK K' b9 s80 s81
        refine regG_do (i := 7) rfl (by kernel_rfl) (fun K' hK => ?_)
        go_simp
        refine (mul_any (plusL S (readL c 1)) F ((plusL_length _ _).trans HS.out.1) RL.out UP.out R0.out w9).mono ?_
        rintro e w10 ⟨rfl, b10⟩
        have s100 := s90.below b10 s90.lt
        have s101 : Whole w10 gF 81 (uv F) ∧ Below w.heap.size w w10 := ⟨s91.1.below b10 s91.1.lt, s91.2.trans (b10.mono s91.2.size)⟩
        have EL := HS.out.1
        refine hK.out _ _ s101 (.inl s100) ?_
        clear hK K' b10 s90 s91
        obtain ⟨S', hS'⟩ : ∃ S', S' = timesL (plusL S (readL c 1)) F := ⟨_, rfl⟩
        rw [← hS'] at NX ⊢
        clear hS' UP HS
        refine regG_do (i := 8) rfl (by kernel_rfl) (fun K' hK => ?_)
        rw [if_pos (by rfl)]
        refine wp_store_whole 81 _ _ rfl gS (uv S') rfl rfl _ _ s100 (size_of5 _ NX.out.1) (same5 _ _ EL NX.out.1) (uv_one _) ?_
        intro w11 g11 x11 z11
        have V2 := Lib.hid x11
        have V1 := Lib.hid (s101.1.grown g11 (by have := GS.out; simp; omega))
        have B11 := Lib.hid (s101.2.grown g11 s101.2.size (fun k hk => by have := GF.out; have := GS.out; injection hk; omega))
        refine hK.out _ _ ⟨V1.out, B11.out⟩ (.inr ⟨8, by simp, by kernel_rfl⟩) ?_
        clear hK K' g11 x11 z11 s100 s101
        simp only [Act.put]
        refine regG_end (by kernel_rfl) ?_
        go_wp2_with fail
        have Q3 := HQ.out.2
        have QR := HR.out
        simp only [Nat.sub_self] at Q3 QR
        exact ⟨⟨t + 1, _, _, _, S', Q3, by have := HT2.out; omega, rfl, NX.out, V1.out, V2.out, QR, B11.out⟩, by simp [sliceLen]; omega⟩
      · have d16 : ¬ (n' : Int) ≤ 16 := by omega
        obtain ⟨q1, q2, q3⟩ := (CF 16 (by omega)).out
        have HQ := Lib.hid (And.intro q2 q3)
        have HC : Hid (BytesAt w (.slice A' 16 cp') ((msg.drop (16 * t)).take 16)) := Lib.hid (by rw [← q1]; exact HM.out.first 16 (by omega))
        have HR : Hid (BytesAt w (.slice (if cp' = 16 then A' else A'.map (·.add 16)) (n' - 16) (cp' - 16)) (msg.drop (16 * (t + 1)))) := Lib.hid (by rw [← q2]; exact HM.out.rest 16 (by omega))
        have JM : Hid (16 ≤ 16) := Lib.hid (by omega)
        obtain ⟨c, hc⟩ : ∃ c, c = (msg.drop (16 * t)).take 16 := ⟨_, rfl⟩
        rw [← hc] at HC
        have NX := Lib.hid (HS.out.next c hc R0.out RV.out)
        have UP := Lib.hid (plus_under (b := readL c 1) HS.out.1 HS.out.2.1 (readL_under c 1))
        have zc := (HM.out.size).2
        have j1 : 16 ≤ (cp' : Int) := by omega
        have j2 : 16 ≤ (n' : Int) := by omega
        have j3 : (n' : Int) ≤ (cp' : Int) := by omega
        have CFh := Lib.hid CF
        clear q1 q2 q3 hc CF
        go_wp2_with fail
        refine regG_begin [8] (fun w' => Whole w' gS 81 (uv S)) (fun w' => Whole w' gF 81 (uv F) ∧ Below w.heap.size w w') (by kernel_rfl) ?_
        have hS0 : Whole wr.drew gS 81 (uv S) := Y2.out
        have hS1 : Whole wr.drew gF 81 (uv F) ∧ Below w.heap.size w wr.drew := ⟨Y1.out, HB.out.drew⟩
        obtain ⟨wd, hwd⟩ : ∃ wd, wd = wr.drew := ⟨_, rfl⟩
        rw [← hwd] at hS0 hS1 ⊢
        clear hwd Y1 Y2 HB
        refine regG_read (i := 0) (v := .agg (uv S)) rfl (by kernel_rfl) (by kernel_rfl) (by kernel_rfl) (by kernel_rfl) (by kernel_rfl) (by kernel_rfl) (fun _ _ _ h => h) (by rfl) ⟨hS1, .inl hS0⟩ ?hy0 ?_
        case hy0 => intro w' hw'; exact exec_load_q5 _ rfl gS rfl _ S w' hw' HS.out.1
        simp only [Act.put, List.setIfInBounds_toArray, List.set_cons_zero, List.set_cons_succ]
        refine regG_take (i := 1) (v := ?_) rfl (by kernel_rfl) (by kernel_rfl) (by kernel_rfl) (by kernel_rfl) (by kernel_rfl) (fun _ _ _ h => h) (by rfl) ⟨hS1, .inl hS0⟩ ?hy1 ?_
        case hy1 => intro w' hw'; go_simp; (try with_reducible rfl)
        simp only [Act.put, List.setIfInBounds_toArray, List.set_cons_zero, List.set_cons_succ]
        refine regG_take (i := 2) (v := ?_) rfl (by kernel_rfl) (by kernel_rfl) (by kernel_rfl) (by kernel_rfl) (by kernel_rfl) (fun _ _ _ h => h) (by rfl) ⟨hS1, .inl hS0⟩ ?hy2 ?_
        case hy2 => intro w' hw'; go_simp; (try with_reducible rfl)
        simp only [Act.put, List.setIfInBounds_toArray, List.set_cons_zero, List.set_cons_succ]
        refine regG_take (i := 3) (v := ?_) rfl (by kernel_rfl) (by kernel_rfl) (by kernel_rfl) (by kernel_rfl) (by kernel_rfl) (fun _ _ _ h => h) (by rfl) ⟨hS1, .inl hS0⟩ ?hy3 ?_
        case hy3 => intro w' hw'; go_simp; (try with_reducible rfl)
        simp only [Act.put, List.setIfInBounds_toArray, List.set_cons_zero, List.set_cons_succ]
        refine regG_take (i := 6) (v := .agg (uv F)) rfl (by kernel_rfl) (by kernel_rfl) (by kernel_rfl) (by kernel_rfl) (by kernel_rfl) (fun _ _ _ h => h) (by rfl) ⟨hS1, .inl hS0⟩ ?hy6 ?_
        case hy6 => intro w' hw'; exact exec_load_q5 _ rfl gF rfl _ F w' hw'.1 RL.out
        simp only [Act.put, List.setIfInBounds_toArray, List.set_cons_zero, List.set_cons_succ]
        refine regG_do (i := 4) rfl (by kernel_rfl) (fun K' hK => ?_)
        go_simp
        refine (read1 A' 16 cp' c wd (HC.out.below hS1.2) JM.out).mono ?_
        rintro e w8 ⟨rfl, b8⟩
        have s80 := hS0.below b8 hS0.lt
        have s81 : Whole w8 gF 81 (uv F) ∧ Below w.heap.size w w8 := ⟨hS1.1.below b8 hS1.1.lt, hS1.2.trans (b8.mono hS1.2.size)⟩
        refine hK.out _ _ s81 (.inl s80) ?_
        clear hK K' b8 hS0 hS1
        refine regG_do (i := 5) rfl (by kernel_rfl) (fun K' hK => ?_)
        go_simp
        refine (plus_any S (readL c 1) HS.out.1 (readL_length c 1) (HS.out.2.1.mono (by decide)) ((readL_under c 1).mono (by decide)) w8).mono ?_
        rintro e w9 ⟨rfl, b9⟩
        have s90 := s80.below b9 s80.lt
        have s91 : Whole w9 gF 81 (uv F) ∧ Below w.heap.size w w9 := ⟨s81.1.below b9 s81.1.lt, s81.2.trans (b9.mono s81.2.size)⟩
        refine hK.out _ _ s91 (.inl s90) ?_
        clear hK K' b9 s80 s81
        refine regG_do (i := 7) rfl (by kernel_rfl) (fun K' hK => ?_)
        go_simp
        refine (mul_any (plusL S (readL c 1)) F ((plusL_length _ _).trans HS.out.1) RL.out UP.out R0.out w9).mono ?_
        rintro e w10 ⟨rfl, b10⟩
        have s100 := s90.below b10 s90.lt
        have s101 : Whole w10 gF 81 (uv F) ∧ Below w.heap.size w w10 := ⟨s91.1.below b10 s91.1.lt, s91.2.trans (b10.mono s91.2.size)⟩
        have EL := HS.out.1
        refine hK.out _ _ s101 (.inl s100) ?_
        clear hK K' b10 s90 s91
        obtain ⟨S', hS'⟩ : ∃ S', S' = timesL (plusL S (readL c 1)) F := ⟨_, rfl⟩
        rw [← hS'] at NX ⊢
        clear hS' UP HS
        refine regG_do (i := 8) rfl (by kernel_rfl) (fun K' hK => ?_)
        rw [if_pos (by rfl)]
        refine wp_store_whole 81 _ _ rfl gS (uv S') rfl rfl _ _ s100 (size_of5 _ NX.out.1) (same5 _ _ EL NX.out.1) (uv_one _) ?_
        intro w11 g11 x11 z11
        have V2 := Lib.hid x11
        have V1 := Lib.hid (s101.1.grown g11 (by have := GS.out; simp; omega))
        have B11 := Lib.hid (s101.2.grown g11 s101.2.size (fun k hk => by have := GF.out; have := GS.out; injection hk; omega))
        refine hK.out _ _ ⟨V1.out, B11.out⟩ (.inr ⟨8, by simp, by kernel_rfl⟩) ?_
        clear hK K' g11 x11 z11 s100 s101
        simp only [Act.put]
        refine regG_end (by kernel_rfl) ?_
        go_wp2_with fail
        have Q3 := HQ.out.2
        have QR := HR.out
        rw [if_neg (by omega)] at QR
        simp [Addr.add] at QR
        exact ⟨⟨t + 1, _, _, _, S', Q3, by have := HT2.out; omega, rfl, NX.out, V1.out, V2.out, QR, B11.out⟩, by simp [sliceLen]; omega⟩
    · have dn : decide ((0 : Int) < (n' : Int)) = false := by simp; omega
      have ET : t = (msg.length + 15) / 16 := by have := HT2.out; have := M0.out.1; omega
      have HW := LB t S HS.out ET
      have LS := HS.out.1
      have US : Under S (2 ^ 62) := HS.out.2.1.mono (by decide)
      have CR := fun w => Lib.hid (rest_any S LS US w)
      have LR := (restL_length S).trans LS
      have UR : Under (restL S) (2 ^ 26) := carryL_under _ (by rw [List.length_set]; exact LS)
      have CP := fun w => Lib.hid (plus_any (restL S) (readL KB 0) LR (readL_length KB 0) (UR.mono (by decide)) ((readL_under KB 0).mono (by decide)) w)
      have LP := (plusL_length (restL S) (readL KB 0)).trans LR
      have UP : Under (plusL (restL S) (readL KB 0)) (2 ^ 63) := (plusTo_under _ _ 5 _ _ (by omega) UR (readL_under KB 0)).mono (by decide)
      have CY := fun w => Lib.hid (carry_any _ LP UP w)
      have ULt : Under (lastL S (readL KB 0)) (2 ^ 26) := carryL_under _ LP
      have LLt := last_length (readL KB 0) LS
      have CW := fun w => Lib.hid (write_any _ LLt ULt w)
      have EL : carryL (plusL (restL S) (readL KB 0)) = lastL S (readL KB 0) := rfl
      rw [EL] at CY
      have SL := Lib.hid (size_of5 _ LLt)
      have ZL := Lib.hid (same5 [0, 0, 0, 0, 0] _ rfl LLt)
      have HLS := Lib.hid LS
      have KRL := Lib.hid (KR2.out.size)
      obtain ⟨Z, hZ⟩ : ∃ Z, Z = lastL S (readL KB 0) := ⟨_, rfl⟩
      rw [← hZ] at HW SL ZL
      simp only [← hZ] at CY CW
      simp only [HW.out] at CW
      generalize plusL (restL S) (readL KB 0) = PL at CP CY
      generalize restL S = RS at CR CP
      generalize overN PL = o at CY
      clear LS US LR UR LP UP ULt LLt EL hZ ET LB HS HM Y1
      go_wp2_with fail
      refine regS_begin (fun w' => Whole w' gS 81 (uv S) ∧ Below w.heap.size w w') (by kernel_rfl) ⟨Y2.out, HB.out.drew⟩ ?_
      have hS : Whole wr.drew gS 81 (uv S) ∧ Below w.heap.size w wr.drew := ⟨Y2.out, HB.out.drew⟩
      obtain ⟨wd, hwd⟩ : ∃ wd, wd = wr.drew := ⟨_, rfl⟩
      rw [← hwd] at hS ⊢
      clear hwd Y2 HB
      refine regS_take (i := 0) (v := .agg (uv S)) rfl (by kernel_rfl) (by kernel_rfl) (by kernel_rfl) (fun _ _ _ h => h) (by rfl) hS ?hy0 ?_
      case hy0 => intro w' hw'; exact exec_load_q5 _ rfl gS rfl _ S w' hw'.1 HLS.out
      simp only [Act.put, List.setIfInBounds_toArray, List.set_cons_zero, List.set_cons_succ]
      refine regS_take (i := 2) (v := ?_) rfl (by kernel_rfl) (by kernel_rfl) (by kernel_rfl) (fun _ _ _ h => h) (by rfl) hS ?hy2 ?_
      case hy2 => intro w' hw'; go_simp; (try with_reducible rfl)
      simp only [Act.put, List.setIfInBounds_toArray, List.set_cons_zero, List.set_cons_succ]
      refine regS_take (i := 3) (v := ?_) rfl (by kernel_rfl) (by kernel_rfl) (by kernel_rfl) (fun _ _ _ h => h) (by rfl) hS ?hy3 ?_
      case hy3 => intro w' hw'; go_simp; (try with_reducible rfl)
      simp only [Act.put, List.setIfInBounds_toArray, List.set_cons_zero, List.set_cons_succ]
      refine regS_two (i := 1) (j := 10) rfl rfl (by kernel_rfl) (fun K' hK => ?_) (fun K' hK => ?_)
      · skip
        go_simp
        refine (CR wd).out.mono ?_
        rintro e wa1 ⟨rfl, b⟩
        have s2 : Whole wa1 gS 81 (uv S) ∧ Below w.heap.size w wa1 := ⟨hS.1.below b hS.1.lt, hS.2.trans (b.mono hS.2.size)⟩
        refine hK.out _ _ s2 ?_
        clear hK K' b hS
        have hS := s2
        clear s2
        refine regS_two (i := 4) (j := 10) rfl rfl (by kernel_rfl) (fun K' hK => ?_) (fun K' hK => ?_)
        · skip
          go_simp
          refine (read0 _ 16 _ KB wa1 (KR2.out.below hS.2) (by decide)).mono ?_
          rintro e wa2 ⟨rfl, b⟩
          have s2 : Whole wa2 gS 81 (uv S) ∧ Below w.heap.size w wa2 := ⟨hS.1.below b hS.1.lt, hS.2.trans (b.mono hS.2.size)⟩
          refine hK.out _ _ s2 ?_
          clear hK K' b hS
          have hS := s2
          clear s2
          refine regS_two (i := 5) (j := 10) rfl rfl (by kernel_rfl) (fun K' hK => ?_) (fun K' hK => ?_)
          · skip
            go_simp
            refine (CP wa2).out.mono ?_
            rintro e wa3 ⟨rfl, b⟩
            have s2 : Whole wa3 gS 81 (uv S) ∧ Below w.heap.size w wa3 := ⟨hS.1.below b hS.1.lt, hS.2.trans (b.mono hS.2.size)⟩
            refine hK.out _ _ s2 ?_
            clear hK K' b hS
            have hS := s2
            clear s2
            refine regS_two (i := 6) (j := 10) rfl rfl (by kernel_rfl) (fun K' hK => ?_) (fun K' hK => ?_)
            · skip
              go_simp
              refine (CY wa3).out.mono ?_
              rintro e wa4 ⟨rfl, b⟩
              have s2 : Whole wa4 gS 81 (uv S) ∧ Below w.heap.size w wa4 := ⟨hS.1.below b hS.1.lt, hS.2.trans (b.mono hS.2.size)⟩
              refine hK.out _ _ s2 ?_
              clear hK K' b hS
              have hS := s2
              clear s2
              refine regS_take (i := 7) (v := ?_) rfl (by kernel_rfl) (by kernel_rfl) (by kernel_rfl) (fun _ _ _ h => h) (by rfl) hS ?hy7 ?_
              case hy7 => intro w' hw'; go_simp; (try with_reducible rfl)
              simp only [Act.put, List.setIfInBounds_toArray, List.set_cons_zero, List.set_cons_succ]
              refine regS_take (i := 8) (v := ?_) rfl (by kernel_rfl) (by kernel_rfl) (by kernel_rfl) (fun _ _ _ h => h) (by rfl) hS ?hy8 ?_
              case hy8 => intro w' hw'; go_simp; (try with_reducible rfl)
              simp only [Act.put, List.setIfInBounds_toArray, List.set_cons_zero, List.set_cons_succ]
              refine regS_take (i := 9) (v := ?_) rfl (by kernel_rfl) (by kernel_rfl) (by kernel_rfl) (fun _ _ _ h => h) (by rfl) hS ?hy9 ?_
              case hy9 => intro w' hw'; go_simp; (try with_reducible rfl)
              simp only [Act.put, List.setIfInBounds_toArray, List.set_cons_zero, List.set_cons_succ]
              refine regS_do (i := 10) rfl (by kernel_rfl) (fun K' hK => ?_)
              rw [if_pos (by rfl)]
              refine wp_alloc_row 81 rfl _ zero_q5 ?_
              intro wa5 b XA z
              have s2 : Whole wa5 gS 81 (uv S) ∧ Below w.heap.size w wa5 := ⟨hS.1.below b hS.1.lt, hS.2.trans (b.mono hS.2.size)⟩
              have GA := hS.2.size
              have GSA := hS.1.lt
              refine hK.out _ _ s2 ?_
              obtain ⟨gA, hgA⟩ : ∃ g, g = wa4.heap.size := ⟨_, rfl⟩
              rw [← hgA] at XA GA GSA ⊢
              clear hK K' b hS z hgA
              have hS := s2
              clear s2
              simp only [Act.put, List.setIfInBounds_toArray, List.set_cons_zero, List.set_cons_succ]
              refine regS_do (i := 11) rfl (by kernel_rfl) (fun K' hK => ?_)
              rw [if_pos (by rfl)]
              refine wp_store_whole 81 _ _ rfl gA (uv Z) rfl rfl _ _ XA SL.out ZL.out (uv_one _) ?_
              intro wa6 g11 x11 z11
              have s2 : Whole wa6 gS 81 (uv S) ∧ Below w.heap.size w wa6 := ⟨hS.1.grown g11 (by simp; omega), hS.2.grown g11 hS.2.size (fun k hk => by injection hk; omega)⟩
              refine hK.out _ _ s2 ?_
              clear hK K' g11 z11 hS XA
              have hS := s2
              clear s2
              simp only [Act.put]
              refine regS_take (i := 12) (v := ?_) rfl (by kernel_rfl) (by kernel_rfl) (by kernel_rfl) (fun _ _ _ h => h) (by rfl) hS ?hy12 ?_
              case hy12 => intro w' hw'; go_simp; (try with_reducible rfl)
              simp only [Act.put, List.setIfInBounds_toArray, List.set_cons_zero, List.set_cons_succ]
              refine regS_end (by kernel_rfl) ?_
              have XZ := Lib.hid x11
              have BZ := Lib.hid hS.2
              clear x11 hS GA GSA
              go_wp2_with (refine wpList_load_row rfl 81 _ rfl _ rfl _ _ _ _ XZ.out Tryz.underlying81 rfl SL.out ?_)
              refine (CW wa6).out.mono ?_
              rintro e wz ⟨vz, rfl, yz, bz⟩
              have YZ := Lib.hid yz
              have B3 := Lib.hid (BZ.out.trans (bz.mono BZ.out.size))
              have GZ := Lib.hid BZ.out.size
              clear yz bz XZ BZ
              go_wp2_with fail
              go_ret2
              exact ⟨_, rfl, by rw [← HT.out]; exact YZ.out.less GZ.out, B3.out⟩
            · skip
              rw [if_pos (by rfl)]
              refine wp_alloc_row 81 rfl _ zero_q5 ?_
              intro wa7 b XA z
              have s2 : Whole wa7 gS 81 (uv S) ∧ Below w.heap.size w wa7 := ⟨hS.1.below b hS.1.lt, hS.2.trans (b.mono hS.2.size)⟩
              have GA := hS.2.size
              have GSA := hS.1.lt
              refine hK.out _ _ s2 ?_
              obtain ⟨gA, hgA⟩ : ∃ g, g = wa3.heap.size := ⟨_, rfl⟩
              rw [← hgA] at XA GA GSA ⊢
              clear hK K' b hS z hgA
              have hS := s2
              clear s2
              simp only [Act.put, List.setIfInBounds_toArray, List.set_cons_zero, List.set_cons_succ]
              refine regS_do (i := 6) rfl (by kernel_rfl) (fun K' hK => ?_)
              go_simp
              refine (CY wa7).out.mono ?_
              rintro e wa8 ⟨rfl, b⟩
              have s2 : Whole wa8 gS 81 (uv S) ∧ Below w.heap.size w wa8 := ⟨hS.1.below b hS.1.lt, hS.2.trans (b.mono hS.2.size)⟩
              have XA := XA.below b XA.lt
              refine hK.out _ _ s2 ?_
              clear hK K' b hS
              have hS := s2
              clear s2
              refine regS_take (i := 7) (v := ?_) rfl (by kernel_rfl) (by kernel_rfl) (by kernel_rfl) (fun _ _ _ h => h) (by rfl) hS ?hy7 ?_
              case hy7 => intro w' hw'; go_simp; (try with_reducible rfl)
              simp only [Act.put, List.setIfInBounds_toArray, List.set_cons_zero, List.set_cons_succ]
              refine regS_take (i := 8) (v := ?_) rfl (by kernel_rfl) (by kernel_rfl) (by kernel_rfl) (fun _ _ _ h => h) (by rfl) hS ?hy8 ?_
              case hy8 => intro w' hw'; go_simp; (try with_reducible rfl)
              simp only [Act.put, List.setIfInBounds_toArray, List.set_cons_zero, List.set_cons_succ]
              refine regS_take (i := 9) (v := ?_) rfl (by kernel_rfl) (by kernel_rfl) (by kernel_rfl) (fun _ _ _ h => h) (by rfl) hS ?hy9 ?_
              case hy9 => intro w' hw'; go_simp; (try with_reducible rfl)
              simp only [Act.put, List.setIfInBounds_toArray, List.set_cons_zero, List.set_cons_succ]
              refine regS_do (i := 11) rfl (by kernel_rfl) (fun K' hK => ?_)
              rw [if_pos (by rfl)]
              refine wp_store_whole 81 _ _ rfl gA (uv Z) rfl rfl _ _ XA SL.out ZL.out (uv_one _) ?_
              intro wa9 g11 x11 z11
              have s2 : Whole wa9 gS 81 (uv S) ∧ Below w.heap.size w wa9 := ⟨hS.1.grown g11 (by simp; omega), hS.2.grown g11 hS.2.size (fun k hk => by injection hk; omega)⟩
              refine hK.out _ _ s2 ?_
              clear hK K' g11 z11 hS XA
              have hS := s2
              clear s2
              simp only [Act.put]
              refine regS_take (i := 12) (v := ?_) rfl (by kernel_rfl) (by kernel_rfl) (by kernel_rfl) (fun _ _ _ h => h) (by rfl) hS ?hy12 ?_
              case hy12 => intro w' hw'; go_simp; (try with_reducible rfl)
              simp only [Act.put, List.setIfInBounds_toArray, List.set_cons_zero, List.set_cons_succ]
              refine regS_end (by kernel_rfl) ?_
              have XZ := Lib.hid x11
              have BZ := Lib.hid hS.2
              clear x11 hS GA GSA
              go_wp2_with (refine wpList_load_row rfl 81 _ rfl _ rfl _ _ _ _ XZ.out Tryz.underlying81 rfl SL.out ?_)
              refine (CW wa9).out.mono ?_
              rintro e wz ⟨vz, rfl, yz, bz⟩
              have YZ := Lib.hid yz
              have B3 := Lib.hid (BZ.out.trans (bz.mono BZ.out.size))
              have GZ := Lib.hid BZ.out.size
              clear yz bz XZ BZ
              go_wp2_with fail
              go_ret2
              exact ⟨_, rfl, by rw [← HT.out]; exact YZ.out.less GZ.out, B3.out⟩
          · skip
            rw [if_pos (by rfl)]
            refine wp_alloc_row 81 rfl _ zero_q5 ?_
            intro wa10 b XA z
            have s2 : Whole wa10 gS 81 (uv S) ∧ Below w.heap.size w wa10 := ⟨hS.1.below b hS.1.lt, hS.2.trans (b.mono hS.2.size)⟩
            have GA := hS.2.size
            have GSA := hS.1.lt
            refine hK.out _ _ s2 ?_
            obtain ⟨gA, hgA⟩ : ∃ g, g = wa2.heap.size := ⟨_, rfl⟩
            rw [← hgA] at XA GA GSA ⊢
            clear hK K' b hS z hgA
            have hS := s2
            clear s2
            simp only [Act.put, List.setIfInBounds_toArray, List.set_cons_zero, List.set_cons_succ]
            refine regS_do (i := 5) rfl (by kernel_rfl) (fun K' hK => ?_)
            go_simp
            refine (CP wa10).out.mono ?_
            rintro e wa11 ⟨rfl, b⟩
            have s2 : Whole wa11 gS 81 (uv S) ∧ Below w.heap.size w wa11 := ⟨hS.1.below b hS.1.lt, hS.2.trans (b.mono hS.2.size)⟩
            have XA := XA.below b XA.lt
            refine hK.out _ _ s2 ?_
            clear hK K' b hS
            have hS := s2
            clear s2
            refine regS_do (i := 6) rfl (by kernel_rfl) (fun K' hK => ?_)
            go_simp
            refine (CY wa11).out.mono ?_
            rintro e wa12 ⟨rfl, b⟩
            have s2 : Whole wa12 gS 81 (uv S) ∧ Below w.heap.size w wa12 := ⟨hS.1.below b hS.1.lt, hS.2.trans (b.mono hS.2.size)⟩
            have XA := XA.below b XA.lt
            refine hK.out _ _ s2 ?_
            clear hK K' b hS
            have hS := s2
            clear s2
            refine regS_take (i := 7) (v := ?_) rfl (by kernel_rfl) (by kernel_rfl) (by kernel_rfl) (fun _ _ _ h => h) (by rfl) hS ?hy7 ?_
            case hy7 => intro w' hw'; go_simp; (try with_reducible rfl)
            simp only [Act.put, List.setIfInBounds_toArray, List.set_cons_zero, List.set_cons_succ]
            refine regS_take (i := 8) (v := ?_) rfl (by kernel_rfl) (by kernel_rfl) (by kernel_rfl) (fun _ _ _ h => h) (by rfl) hS ?hy8 ?_
            case hy8 => intro w' hw'; go_simp; (try with_reducible rfl)
            simp only [Act.put, List.setIfInBounds_toArray, List.set_cons_zero, List.set_cons_succ]
            refine regS_take (i := 9) (v := ?_) rfl (by kernel_rfl) (by kernel_rfl) (by kernel_rfl) (fun _ _ _ h => h) (by rfl) hS ?hy9 ?_
            case hy9 => intro w' hw'; go_simp; (try with_reducible rfl)
            simp only [Act.put, List.setIfInBounds_toArray, List.set_cons_zero, List.set_cons_succ]
            refine regS_do (i := 11) rfl (by kernel_rfl) (fun K' hK => ?_)
            rw [if_pos (by rfl)]
            refine wp_store_whole 81 _ _ rfl gA (uv Z) rfl rfl _ _ XA SL.out ZL.out (uv_one _) ?_
            intro wa13 g11 x11 z11
            have s2 : Whole wa13 gS 81 (uv S) ∧ Below w.heap.size w wa13 := ⟨hS.1.grown g11 (by simp; omega), hS.2.grown g11 hS.2.size (fun k hk => by injection hk; omega)⟩
            refine hK.out _ _ s2 ?_
            clear hK K' g11 z11 hS XA
            have hS := s2
            clear s2
            simp only [Act.put]
            refine regS_take (i := 12) (v := ?_) rfl (by kernel_rfl) (by kernel_rfl) (by kernel_rfl) (fun _ _ _ h => h) (by rfl) hS ?hy12 ?_
            case hy12 => intro w' hw'; go_simp; (try with_reducible rfl)
            simp only [Act.put, List.setIfInBounds_toArray, List.set_cons_zero, List.set_cons_succ]
            refine regS_end (by kernel_rfl) ?_
            have XZ := Lib.hid x11
            have BZ := Lib.hid hS.2
            clear x11 hS GA GSA
            go_wp2_with (refine wpList_load_row rfl 81 _ rfl _ rfl _ _ _ _ XZ.out Tryz.underlying81 rfl SL.out ?_)
            refine (CW wa13).out.mono ?_
            rintro e wz ⟨vz, rfl, yz, bz⟩
            have YZ := Lib.hid yz
            have B3 := Lib.hid (BZ.out.trans (bz.mono BZ.out.size))
            have GZ := Lib.hid BZ.out.size
            clear yz bz XZ BZ
            go_wp2_with fail
            go_ret2
            exact ⟨_, rfl, by rw [← HT.out]; exact YZ.out.less GZ.out, B3.out⟩
        · skip
          rw [if_pos (by rfl)]
          refine wp_alloc_row 81 rfl _ zero_q5 ?_
          intro wa14 b XA z
          have s2 : Whole wa14 gS 81 (uv S) ∧ Below w.heap.size w wa14 := ⟨hS.1.below b hS.1.lt, hS.2.trans (b.mono hS.2.size)⟩
          have GA := hS.2.size
          have GSA := hS.1.lt
          refine hK.out _ _ s2 ?_
          obtain ⟨gA, hgA⟩ : ∃ g, g = wa1.heap.size := ⟨_, rfl⟩
          rw [← hgA] at XA GA GSA ⊢
          clear hK K' b hS z hgA
          have hS := s2
          clear s2
          simp only [Act.put, List.setIfInBounds_toArray, List.set_cons_zero, List.set_cons_succ]
          refine regS_do (i := 4) rfl (by kernel_rfl) (fun K' hK => ?_)
          go_simp
          refine (read0 _ 16 _ KB wa14 (KR2.out.below hS.2) (by decide)).mono ?_
          rintro e wa15 ⟨rfl, b⟩
          have s2 : Whole wa15 gS 81 (uv S) ∧ Below w.heap.size w wa15 := ⟨hS.1.below b hS.1.lt, hS.2.trans (b.mono hS.2.size)⟩
          have XA := XA.below b XA.lt
          refine hK.out _ _ s2 ?_
          clear hK K' b hS
          have hS := s2
          clear s2
          refine regS_do (i := 5) rfl (by kernel_rfl) (fun K' hK => ?_)
          go_simp
          refine (CP wa15).out.mono ?_
          rintro e wa16 ⟨rfl, b⟩
          have s2 : Whole wa16 gS 81 (uv S) ∧ Below w.heap.size w wa16 := ⟨hS.1.below b hS.1.lt, hS.2.trans (b.mono hS.2.size)⟩
          have XA := XA.below b XA.lt
          refine hK.out _ _ s2 ?_
          clear hK K' b hS
          have hS := s2
          clear s2
          refine regS_do (i := 6) rfl (by kernel_rfl) (fun K' hK => ?_)
          go_simp
          refine (CY wa16).out.mono ?_
          rintro e wa17 ⟨rfl, b⟩
          have s2 : Whole wa17 gS 81 (uv S) ∧ Below w.heap.size w wa17 := ⟨hS.1.below b hS.1.lt, hS.2.trans (b.mono hS.2.size)⟩
          have XA := XA.below b XA.lt
          refine hK.out _ _ s2 ?_
          clear hK K' b hS
          have hS := s2
          clear s2
          refine regS_take (i := 7) (v := ?_) rfl (by kernel_rfl) (by kernel_rfl) (by kernel_rfl) (fun _ _ _ h => h) (by rfl) hS ?hy7 ?_
          case hy7 => intro w' hw'; go_simp; (try with_reducible rfl)
          simp only [Act.put, List.setIfInBounds_toArray, List.set_cons_zero, List.set_cons_succ]
          refine regS_take (i := 8) (v := ?_) rfl (by kernel_rfl) (by kernel_rfl) (by kernel_rfl) (fun _ _ _ h => h) (by rfl) hS ?hy8 ?_
          case hy8 => intro w' hw'; go_simp; (try with_reducible rfl)
          simp only [Act.put, List.setIfInBounds_toArray, List.set_cons_zero, List.set_cons_succ]
          refine regS_take (i := 9) (v := ?_) rfl (by kernel_rfl) (by kernel_rfl) (by kernel_rfl) (fun _ _ _ h => h) (by rfl) hS ?hy9 ?_
          case hy9 => intro w' hw'; go_simp; (try with_reducible rfl)
          simp only [Act.put, List.setIfInBounds_toArray, List.set_cons_zero, List.set_cons_succ]
          refine regS_do (i := 11) rfl (by kernel_rfl) (fun K' hK => ?_)
          rw [if_pos (by rfl)]
          refine wp_store_whole 81 _ _ rfl gA (uv Z) rfl rfl _ _ XA SL.out ZL.out (uv_one _) ?_
          intro wa18 g11 x11 z11
          have s2 : Whole wa18 gS 81 (uv S) ∧ Below w.heap.size w wa18 := ⟨hS.1.grown g11 (by simp; omega), hS.2.grown g11 hS.2.size (fun k hk => by injection hk; omega)⟩
          refine hK.out _ _ s2 ?_
          clear hK K' g11 z11 hS XA
          have hS := s2
          clear s2
          simp only [Act.put]
          refine regS_take (i := 12) (v := ?_) rfl (by kernel_rfl) (by kernel_rfl) (by kernel_rfl) (fun _ _ _ h => h) (by rfl) hS ?hy12 ?_
          case hy12 => intro w' hw'; go_simp; (try with_reducible rfl)
          simp only [Act.put, List.setIfInBounds_toArray, List.set_cons_zero, List.set_cons_succ]
          refine regS_end (by kernel_rfl) ?_
          have XZ := Lib.hid x11
          have BZ := Lib.hid hS.2
          clear x11 hS GA GSA
          go_wp2_with (refine wpList_load_row rfl 81 _ rfl _ rfl _ _ _ _ XZ.out Tryz.underlying81 rfl SL.out ?_)
          refine (CW wa18).out.mono ?_
          rintro e wz ⟨vz, rfl, yz, bz⟩
          have YZ := Lib.hid yz
          have B3 := Lib.hid (BZ.out.trans (bz.mono BZ.out.size))
          have GZ := Lib.hid BZ.out.size
          clear yz bz XZ BZ
          go_wp2_with fail
          go_ret2
          exact ⟨_, rfl, by rw [← HT.out]; exact YZ.out.less GZ.out, B3.out⟩
      · skip
        rw [if_pos (by rfl)]
        refine wp_alloc_row 81 rfl _ zero_q5 ?_
        intro wa19 b XA z
        have s2 : Whole wa19 gS 81 (uv S) ∧ Below w.heap.size w wa19 := ⟨hS.1.below b hS.1.lt, hS.2.trans (b.mono hS.2.size)⟩
        have GA := hS.2.size
        have GSA := hS.1.lt
        refine hK.out _ _ s2 ?_
        obtain ⟨gA, hgA⟩ : ∃ g, g = wd.heap.size := ⟨_, rfl⟩
        rw [← hgA] at XA GA GSA ⊢
        clear hK K' b hS z hgA
        have hS := s2
        clear s2
        simp only [Act.put, List.setIfInBounds_toArray, List.set_cons_zero, List.set_cons_succ]
        refine regS_do (i := 1) rfl (by kernel_rfl) (fun K' hK => ?_)
        go_simp
        refine (CR wa19).out.mono ?_
        rintro e wa20 ⟨rfl, b⟩
        have s2 : Whole wa20 gS 81 (uv S) ∧ Below w.heap.size w wa20 := ⟨hS.1.below b hS.1.lt, hS.2.trans (b.mono hS.2.size)⟩
        have XA := XA.below b XA.lt
        refine hK.out _ _ s2 ?_
        clear hK K' b hS
        have hS := s2
        clear s2
        refine regS_do (i := 4) rfl (by kernel_rfl) (fun K' hK => ?_)
        go_simp
        refine (read0 _ 16 _ KB wa20 (KR2.out.below hS.2) (by decide)).mono ?_
        rintro e wa21 ⟨rfl, b⟩
        have s2 : Whole wa21 gS 81 (uv S) ∧ Below w.heap.size w wa21 := ⟨hS.1.below b hS.1.lt, hS.2.trans (b.mono hS.2.size)⟩
        have XA := XA.below b XA.lt
        refine hK.out _ _ s2 ?_
        clear hK K' b hS
        have hS := s2
        clear s2
        refine regS_do (i := 5) rfl (by kernel_rfl) (fun K' hK => ?_)
        go_simp
        refine (CP wa21).out.mono ?_
        rintro e wa22 ⟨rfl, b⟩
        have s2 : Whole wa22 gS 81 (uv S) ∧ Below w.heap.size w wa22 := ⟨hS.1.below b hS.1.lt, hS.2.trans (b.mono hS.2.size)⟩
        have XA := XA.below b XA.lt
        refine hK.out _ _ s2 ?_
        clear hK K' b hS
        have hS := s2
        clear s2
        refine regS_do (i := 6) rfl (by kernel_rfl) (fun K' hK => ?_)
        go_simp
        refine (CY wa22).out.mono ?_
        rintro e wa23 ⟨rfl, b⟩
        have s2 : Whole wa23 gS 81 (uv S) ∧ Below w.heap.size w wa23 := ⟨hS.1.below b hS.1.lt, hS.2.trans (b.mono hS.2.size)⟩
        have XA := XA.below b XA.lt
        refine hK.out _ _ s2 ?_
        clear hK K' b hS
        have hS := s2
        clear s2
        refine regS_take (i := 7) (v := ?_) rfl (by kernel_rfl) (by kernel_rfl) (by kernel_rfl) (fun _ _ _ h => h) (by rfl) hS ?hy7 ?_
        case hy7 => intro w' hw'; go_simp; (try with_reducible rfl)
        simp only [Act.put, List.setIfInBounds_toArray, List.set_cons_zero, List.set_cons_succ]
        refine regS_take (i := 8) (v := ?_) rfl (by kernel_rfl) (by kernel_rfl) (by kernel_rfl) (fun _ _ _ h => h) (by rfl) hS ?hy8 ?_
        case hy8 => intro w' hw'; go_simp; (try with_reducible rfl)
        simp only [Act.put, List.setIfInBounds_toArray, List.set_cons_zero, List.set_cons_succ]
        refine regS_take (i := 9) (v := ?_) rfl (by kernel_rfl) (by kernel_rfl) (by kernel_rfl) (fun _ _ _ h => h) (by rfl) hS ?hy9 ?_
        case hy9 => intro w' hw'; go_simp; (try with_reducible rfl)
        simp only [Act.put, List.setIfInBounds_toArray, List.set_cons_zero, List.set_cons_succ]
        refine regS_do (i := 11) rfl (by kernel_rfl) (fun K' hK => ?_)
        rw [if_pos (by rfl)]
        refine wp_store_whole 81 _ _ rfl gA (uv Z) rfl rfl _ _ XA SL.out ZL.out (uv_one _) ?_
        intro wa24 g11 x11 z11
        have s2 : Whole wa24 gS 81 (uv S) ∧ Below w.heap.size w wa24 := ⟨hS.1.grown g11 (by simp; omega), hS.2.grown g11 hS.2.size (fun k hk => by injection hk; omega)⟩
        refine hK.out _ _ s2 ?_
        clear hK K' g11 z11 hS XA
        have hS := s2
        clear s2
        simp only [Act.put]
        refine regS_take (i := 12) (v := ?_) rfl (by kernel_rfl) (by kernel_rfl) (by kernel_rfl) (fun _ _ _ h => h) (by rfl) hS ?hy12 ?_
        case hy12 => intro w' hw'; go_simp; (try with_reducible rfl)
        simp only [Act.put, List.setIfInBounds_toArray, List.set_cons_zero, List.set_cons_succ]
        refine regS_end (by kernel_rfl) ?_
        have XZ := Lib.hid x11
        have BZ := Lib.hid hS.2
        clear x11 hS GA GSA
        go_wp2_with (refine wpList_load_row rfl 81 _ rfl _ rfl _ _ _ _ XZ.out Tryz.underlying81 rfl SL.out ?_)
        refine (CW wa24).out.mono ?_
        rintro e wz ⟨vz, rfl, yz, bz⟩
        have YZ := Lib.hid yz
        have B3 := Lib.hid (BZ.out.trans (bz.mono BZ.out.size))
        have GZ := Lib.hid BZ.out.size
        clear yz bz XZ BZ
        go_wp2_with fail
        go_ret2
        exact ⟨_, rfl, by rw [← HT.out]; exact YZ.out.less GZ.out, B3.out⟩
end Go.Proofs.YtmnhpkdldeifgaaGreatDoor
