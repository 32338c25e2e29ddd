/- Layer 23 as landed: who may go (idle), who was used least (oldest), Add. -/
import Derived.Test.YtjohlnpalcmhbaaTbC
namespace Go.Proofs.Ytjohlnpalcmhbaa
set_option maxRecDepth 100000
open Go.RowKit

/-- The first place of a number. -/
def idxU (n : Nat) : List Nat → Nat → Int
  | [], _ => -1
  | c :: r, k => if c = n then (k : Int) else idxU n r (k + 1)
theorem idxU_any (n : Nat) (l : List Nat) (k : Nat) : decide (0 ≤ idxU n l k) = l.contains n := by
  induction l generalizing k with
  | nil => simp [idxU]
  | cons c r ih =>
    rw [idxU, List.contains_cons]
    by_cases h : c = n
    · rw [if_pos h, h, beq_self_eq_true, Bool.true_or, decide_eq_true_eq]; omega
    · rw [if_neg h, ih, show (n == c) = false by simpa using fun e => h e.symm, Bool.false_or]
set_option maxHeartbeats 1000000 in
theorem indexU_any (A : Option Addr) (m cap : Nat) (l : List Nat) (n : Nat) (w : World) (hm : m ≤ 1000000) (h : UsAt w (.slice A m cap) l) :
    Calls Try.prog 54 #[.slice A m cap, .int .u64 (n : Int)] w fun e w' => e = .returned (.int .i64 (idxU n l 0)) ∧ w' = w := by
  have hlen : m = l.length := by obtain ⟨A', cap', e, -⟩ := h; injection e
  have H := Lib.hid h
  have HL := Lib.hid hlen
  obtain ⟨R, hR⟩ : ∃ R, R = idxU n l 0 := ⟨_, rfl⟩
  have HR : Hid (idxU n (l.drop 0) 0 = R) := Lib.hid (by rw [hR]; rfl)
  rw [← hR]
  clear h hlen hR
  go_enter Try.func54, Try.ntmps54
  go_wp2_with fail
  go_loop [8] (fun i => ∃ k : Nat, k ≤ m ∧ i = .int .i64 (k : Int) ∧ idxU n (l.drop k) k = R) (fun i => m - (intOf i).toNat)
  case atStart => exact ⟨0, Nat.zero_le _, rfl, HR.out⟩
  case round =>
    obtain ⟨k, hk, rfl, hr⟩ := hrel
    have HK := Lib.hid hr
    clear hr HR
    by_cases hlt : k < m
    · have dk : decide ((k : Int) < (m : Int)) = true := by simp; omega
      obtain ⟨x, hx⟩ : ∃ x, l[k]? = some x := ⟨_, List.getElem?_eq_getElem (by rw [← HL.out]; exact hlt)⟩
      have hne : l ≠ [] := by rintro rfl; simp at hx
      obtain ⟨A', cap', e, hcap, hcell⟩ := H.out
      injection e with eA em ec
      subst eA
      obtain ⟨ad, rfl, hcs⟩ := hcell hne
      have c0 := hcs k x hx
      have HD := Lib.hid (drop_at hx)
      have jk : (k : Int) < (m : Int) := by omega
      have r4 : IntKind.i64.wrap ((k : Int) + 1) = ((k + 1 : Nat) : Int) := by rw [IntWalk.i64_in _ (by omega)]; omega
      clear hcs hcell hx hne em ec hcap
      by_cases h2 : x = n
      · have e2 : ((n : Int) == (x : Int)) = true := by rw [h2]; simp
        have HW : Hid ((k : Int) = R) := Lib.hid (by have t := HK.out; rw [HD.out, idxU, if_pos h2] at t; exact t)
        clear h2 HK HD
        go_wp2
        go_ret
        exact ⟨by rw [← HW.out]; rfl, rfl⟩
      · have e2 : ((n : Int) == (x : Int)) = false := by rw [beq_eq_false_iff_ne]; omega
        have HW : Hid (idxU n (l.drop (k + 1)) (k + 1) = R) := Lib.hid (by have t := HK.out; rw [HD.out, idxU, if_neg h2] at t; exact t)
        clear h2 HK HD
        go_wp2
        exact ⟨⟨k + 1, by omega, by go_num, HW.out⟩, by simp [intOf]; omega⟩
    · obtain rfl : k = m := by omega
      have dk : decide ((k : Int) < (k : Int)) = false := by simp
      have HV : Hid ((-1 : Int) = R) := Lib.hid (by have q := HK.out; rw [List.drop_eq_nil_of_le (by rw [← HL.out]; exact Nat.le_refl _)] at q; exact q)
      go_wp2
      go_ret
      exact ⟨by rw [← HV.out]; rfl, rfl⟩
set_option maxHeartbeats 1000000 in
theorem containsU_any (A : Option Addr) (m cap : Nat) (l : List Nat) (n : Nat) (w : World) (hm : m ≤ 1000000) (h : UsAt w (.slice A m cap) l) :
    Calls Try.prog 51 #[.slice A m cap, .int .u64 (n : Int)] w fun e w' => e = .returned (.bool (l.contains n)) ∧ w' = w := by
  have CI := Lib.hid (indexU_any A m cap l n w hm h)
  have e1 := idxU_any n l 0
  obtain ⟨q, hq⟩ : ∃ q, q = l.contains n := ⟨_, rfl⟩
  rw [← hq] at e1 ⊢
  obtain ⟨R, hR⟩ : ∃ R, R = idxU n l 0 := ⟨_, rfl⟩
  simp only [← hR] at CI e1
  have e2 : decide (R ≥ 0) = q := e1
  clear hq hR h
  go_enter Try.func51, Try.ntmps51
  go_wp2_with fail
  refine CI.out.mono ?_
  rintro e w2 ⟨rfl, rfl⟩
  go_wp2
  go_ret
  exact ⟨rfl, rfl⟩

theorem enter_idle1 : ∀ args w, (callFunc 50 args).run Try.prog w = .ok (.enter 50 args) w := by
  intro args w
  have hn : decide (Try.f50.name = "runtime.NumGoroutine") = false := by kernel_rfl
  have hb : Try.f50.body.isNone = false := by kernel_rfl
  exact enter_of Try.func50 hn hb args w
set_option maxRecDepth 100000 in
set_option maxHeartbeats 1000000 in
theorem idle1_any (A : Option Addr) (m cap : Nat) (busy : List Nat) (g : Nat) (hm : m ≤ 1000000) (s : Ses) (w : World) (h : CellAt w g (.slice A m cap)) (hu : UsAt w (.slice A m cap) busy) :
    Calls Try.prog 50 #[s.val, .pointer (some ⟨g, 0, none⟩)] w fun e w' => e = .returned (.bool (freeP busy s)) ∧ Below w.heap.size w w' := by
  obtain ⟨q, hq⟩ : ∃ q, q = decide (s.state = 1) := ⟨_, rfl⟩
  have CW := Lib.hid (fun w => isWaiting_any s w)
  have CC := Lib.hid (fun w h => containsU_any A m cap busy s.id w hm h)
  obtain ⟨r, hr⟩ : ∃ r, r = busy.contains s.id := ⟨_, rfl⟩
  simp only [← hq, ← hr] at CW CC
  have HF : Hid (freeP busy s = (!q && !r)) := Lib.hid (by rw [freeP, hq, hr]; congr 1; exact decide_not)
  rw [HF.out]
  clear hq hr HF
  go_enter Try.func50, Try.ntmps50
  have C0 : Hid (CellAt w g (.slice A m cap)) := Lib.hid (h)
  have U0 : Hid (UsAt w (.slice A m cap) busy) := Lib.hid (hu)
  clear h hu
  go_wp2_with (refine wpList_box_row rfl 36 _ rfl s.enc.toArray (by with_unfolding_all exact rfl) ?_)
  intro w1 b1 x1 z1
  obtain ⟨gS, hgS⟩ : ∃ g, g = w.heap.size := ⟨_, rfl⟩
  have M_S := Lib.hid (show w.heap.size ≤ gS from by rw [hgS]; exact Nat.le_refl _)
  have C1 : Hid (CellAt w1 g (.slice A m cap)) := Lib.hid (C0.out.below b1)
  have U1 : Hid (UsAt w1 (.slice A m cap) busy) := Lib.hid (U0.out.below b1)
  have B1 := Lib.hid b1
  rw [← hgS] at x1 ⊢
  have S1 : Hid (Ses.At w1 gS s) := Lib.hid x1
  clear b1 x1 z1 hgS C0 U0
  go_wp2_with (first | (with_reducible refine wpList_load_whole Ses.isRec rfl _ rfl gS (by with_unfolding_all exact rfl) _ _ (Ses.len _) S1.out ?_) | (with_reducible refine wpList_load_rec Ent.isRec rfl _ rfl gS 2 (by with_unfolding_all exact rfl) _ (Ent.len _) (Ses.At.part_peer S1.out) ?_) | (with_reducible refine wpList_load_rec Win.isRec rfl _ rfl gS 16 (by with_unfolding_all exact rfl) _ (Win.len _) (Ses.At.part_seen S1.out) ?_))
  refine (CW.out w1).mono ?_
  rintro e2 w2 ⟨rfl, b2⟩
  have C2 : Hid (CellAt w2 g (.slice A m cap)) := Lib.hid (C1.out.below b2)
  have U2 : Hid (UsAt w2 (.slice A m cap) busy) := Lib.hid (U1.out.below b2)
  have S2 : Hid (Ses.At w2 gS s) := Lib.hid (Whole.below S1.out b2 S1.out.lt)
  have B2 := Lib.hid (B1.out.trans (b2.mono B1.out.size))
  clear b2 C1 U1 S1 B1
  have c1 := Ses.At.at_id S2.out
  have c2 := C2.out.cell
  cases q with
  | true =>
    go_wp2
    go_ret
    exact ⟨rfl, B2.out⟩
  | false =>
    go_wp2_with fail
    refine (CC.out w2 U2.out).mono ?_
    rintro e w9 ⟨rfl, rfl⟩
    go_wp2
    go_ret
    exact ⟨rfl, B2.out⟩
set_option maxHeartbeats 1000000 in
theorem idle_any (A : Option Addr) (m cap : Nat) (w : World) :
    Calls Try.prog 41 #[.slice A m cap] w fun e w' => ∃ g, e = .returned (.func (.func 50) #[] #[.pointer (some ⟨g, 0, none⟩)]) ∧ CellAt w' g (.slice A m cap) ∧ Below w.heap.size w w' := by
  have hmf : ∀ (fn : Fn) (first cap : Array Value) (w : World), (Instr.makeFunc fn first cap).run Try.prog w = .ok (.func fn first cap) w := fun _ _ _ _ => rfl
  go_enter Try.func41, Try.ntmps41
  go_wp2_with (refine wpList_box_one rfl 32 _ rfl (.slice A m cap) (by with_unfolding_all exact rfl) (by with_unfolding_all exact rfl) ?_)
  intro wa b1 x1 z1
  have BA := Lib.hid b1
  have XA := Lib.hid x1
  clear b1 x1 z1
  go_wp2
  go_ret
  exact ⟨_, rfl, XA.out, BA.out⟩

set_option maxRecDepth 100000 in
set_option maxHeartbeats 2000000 in
theorem oldest_any (F : FuncId) (caps : Array Value) (p : Ses → Bool) (A : Option Addr) (m cap : Nat) (l : List Ses) (w : World) (hm : m ≤ 1000000) (h : RowsAt w (.slice A m cap) 20 (l.map Ses.enc)) (hT : Tells w F caps p) :
    Calls Try.prog 40 #[.slice A m cap, .func (.func F) #[] caps] w fun e w' => ∃ i, e = .returned (.int .i64 i) ∧ IsOld p l 0 l.length i ∧ Below w.heap.size w w' := by
  have hlen := h.size.1
  rw [List.length_map] at hlen
  have H := Lib.hid h
  have HL := Lib.hid hlen
  have eg := hT.1
  have HC := Lib.hid hT.2
  clear h hlen hT
  go_enter Try.func40, Try.ntmps40
  go_wp2_with fail
  go_loopw [5, 10] (fun f i wr => ∃ (k : Nat) (j : Int), k ≤ m ∧ i = .int .i64 (k : Int) ∧ f = .int .i64 j ∧ IsOld p l 0 k j ∧ Below w.heap.size w wr) (fun _ i _ => m - (intOf i).toNat)
  case atStart => exact ⟨0, -1, Nat.zero_le _, rfl, rfl, .inl ⟨rfl, fun j s _ h => by omega⟩, Below.refl _ _⟩
  case round =>
    obtain ⟨k, j, hk, rfl, rfl, hr, hb⟩ := hrel
    have HO := Lib.hid hr
    have B0 := Lib.hid hb
    clear hr hb
    by_cases hlt : k < m
    · have dk : decide ((k : Int) < (m : Int)) = true := by simp; omega
      obtain ⟨x, hx⟩ : ∃ x, l[k]? = some x := ⟨_, List.getElem?_eq_getElem (by rw [← HL.out]; exact hlt)⟩
      obtain ⟨b, off, rfl, hc⟩ := ses_row H.out hx
      have HX := Lib.hid (hc wr B0.out)
      have HXX := Lib.hid hx
      have jk : (k : Int) < (m : Int) := by omega
      have r4 : IntKind.i64.wrap ((k : Int) + 1) = ((k + 1 : Nat) : Int) := by rw [IntWalk.i64_in _ (by omega)]; omega
      have CP := Lib.hid (HC.out x)
      obtain ⟨q, hq⟩ : ∃ q, q = p x := ⟨_, rfl⟩
      simp only [← hq] at CP
      have HQ := Lib.hid hq
      clear hc hx hq HC
      go_wp2_with (first | (refine wpList_alloc_row rfl 36 rfl Ses.zero.enc.toArray Ses.zero_is ?_) | (with_reducible refine wpList_load_rec Ses.isRec rfl _ rfl b (off + k * 20) (by with_unfolding_all exact rfl) x.enc (Ses.len _) HX.out ?_))
      intro w1 b1 x1 z1
      obtain ⟨gX, hgX⟩ : ∃ g, g = wr.heap.size := ⟨_, rfl⟩
      have M_X := Lib.hid (show w.heap.size ≤ gX from by rw [hgX]; exact B0.out.size)
      have B1 := Lib.hid (B0.out.trans (b1.mono B0.out.size))
      rw [← hgX] at x1 ⊢
      have X1 : Hid (Ses.At w1 gX Ses.zero) := Lib.hid x1
      clear b1 x1 z1 hgX B0
      clear HX
      go_wp2_with (first | (with_reducible refine wpList_load_whole Ses.isRec rfl _ rfl gX (by with_unfolding_all exact rfl) _ _ (Ses.len _) X1.out ?_) | (with_reducible refine wpList_load_rec Ent.isRec rfl _ rfl gX 2 (by with_unfolding_all exact rfl) _ (Ent.len _) (Ses.At.part_peer X1.out) ?_) | (with_reducible refine wpList_load_rec Win.isRec rfl _ rfl gX 16 (by with_unfolding_all exact rfl) _ (Win.len _) (Ses.At.part_seen X1.out) ?_) | (with_reducible refine wpList_store_whole rfl 36 _ _ rfl gX x.enc.toArray (by with_unfolding_all exact rfl) (by with_unfolding_all exact rfl) _ _ X1.out (Ses.size _) rfl (Ses.one _) ?_))
      intro w2 q2 x2 z2
      have X2 : Hid (Ses.At w2 gX x) := Lib.hid x2
      have B2 := Lib.hid (B1.out.grown q2 B1.out.size (fun k hk => by injection hk with hk; have := M_X.out; omega))
      clear q2 x2 z2 X1 B1
      cases q with
      | false =>
        have HV := Lib.hid (HO.out.right HXX.out (.inr ⟨.inl HQ.out.symm, rfl⟩) : IsOld p l 0 (k + 1) j)
        go_wp2_with (first | (with_reducible refine wpList_load_whole Ses.isRec rfl _ rfl gX (by with_unfolding_all exact rfl) _ _ (Ses.len _) X2.out ?_) | (with_reducible refine wpList_load_rec Ent.isRec rfl _ rfl gX 2 (by with_unfolding_all exact rfl) _ (Ent.len _) (Ses.At.part_peer X2.out) ?_) | (with_reducible refine wpList_load_rec Win.isRec rfl _ rfl gX 16 (by with_unfolding_all exact rfl) _ (Win.len _) (Ses.At.part_seen X2.out) ?_))
        refine reg_begin (by kernel_rfl) fun w3 b3 z3 => ?_
        have X3 : Hid (Ses.At w3 gX x) := Lib.hid (Whole.below X2.out b3 X2.out.lt)
        have B3 := Lib.hid (B2.out.trans (b3.mono B2.out.size))
        clear b3 z3 X2 B2
        refine reg_take (i := 0) (v := ?_) rfl (by kernel_rfl) (by kernel_rfl) (by kernel_rfl) (fun _ _ _ h => h) (by rfl) ?hy0 ?_
        case hy0 => intro w' hw'; go_simp; (try with_reducible rfl)
        simp only [Act.put, List.setIfInBounds_toArray, List.set_cons_zero, List.set_cons_succ]
        refine reg_take (i := 1) (v := Ses.val (x)) rfl (by kernel_rfl) (by kernel_rfl) (by kernel_rfl) (fun _ _ _ h => h) (by rfl) ?hy1 ?_
        case hy1 => intro w' hw'; exact exec_load_whole Ses.isRec _ rfl gX rfl _ _ (Ses.len _) w' (Whole.below X3.out hw' X3.out.lt)
        simp only [Act.put, List.setIfInBounds_toArray, List.set_cons_zero, List.set_cons_succ]
        refine reg_call (i := 2) rfl (by kernel_rfl) (fun K' hK => ?_)
        go_simp
        refine (CP.out w3 B3.out).mono ?_
        rintro e4 w4 ⟨rfl, b4⟩
        have X4 : Hid (Ses.At w4 gX x) := Lib.hid (Whole.below X3.out b4 X3.out.lt)
        have B4 := Lib.hid (B3.out.trans (b4.mono B3.out.size))
        refine hK.out _ _ b4 ?_
        clear hK K' b4 X3 B3
        refine reg_take (i := 3) (v := ?_) rfl (by kernel_rfl) (by kernel_rfl) (by kernel_rfl) (fun _ _ _ h => h) (by rfl) ?hy3 ?_
        case hy3 => intro w' hw'; go_simp; (try with_reducible rfl)
        simp only [Act.put, List.setIfInBounds_toArray, List.set_cons_zero, List.set_cons_succ]
        refine reg_skip (i := 4) rfl (by kernel_rfl) (by kernel_rfl) (by kernel_rfl) (fun _ _ _ h => h) (by rfl) ?_
        simp only [Act.put, List.setIfInBounds_toArray, List.set_cons_zero, List.set_cons_succ]
        refine reg_skip (i := 5) rfl (by kernel_rfl) (by kernel_rfl) (by kernel_rfl) (fun _ _ _ h => h) (by rfl) ?_
        simp only [Act.put, List.setIfInBounds_toArray, List.set_cons_zero, List.set_cons_succ]
        refine reg_skip (i := 6) rfl (by kernel_rfl) (by kernel_rfl) (by kernel_rfl) (fun _ _ _ h => h) (by rfl) ?_
        simp only [Act.put, List.setIfInBounds_toArray, List.set_cons_zero, List.set_cons_succ]
        refine reg_skip (i := 7) rfl (by kernel_rfl) (by kernel_rfl) (by kernel_rfl) (fun _ _ _ h => h) (by rfl) ?_
        simp only [Act.put, List.setIfInBounds_toArray, List.set_cons_zero, List.set_cons_succ]
        refine reg_skip (i := 8) rfl (by kernel_rfl) (by kernel_rfl) (by kernel_rfl) (fun _ _ _ h => h) (by rfl) ?_
        simp only [Act.put, List.setIfInBounds_toArray, List.set_cons_zero, List.set_cons_succ]
        refine reg_skip (i := 9) rfl (by kernel_rfl) (by kernel_rfl) (by kernel_rfl) (fun _ _ _ h => h) (by rfl) ?_
        simp only [Act.put, List.setIfInBounds_toArray, List.set_cons_zero, List.set_cons_succ]
        refine reg_skip (i := 10) rfl (by kernel_rfl) (by kernel_rfl) (by kernel_rfl) (fun _ _ _ h => h) (by rfl) ?_
        simp only [Act.put, List.setIfInBounds_toArray, List.set_cons_zero, List.set_cons_succ]
        refine reg_skip (i := 11) rfl (by kernel_rfl) (by kernel_rfl) (by kernel_rfl) (fun _ _ _ h => h) (by rfl) ?_
        simp only [Act.put, List.setIfInBounds_toArray, List.set_cons_zero, List.set_cons_succ]
        refine reg_skip (i := 12) rfl (by kernel_rfl) (by kernel_rfl) (by kernel_rfl) (fun _ _ _ h => h) (by rfl) ?_
        simp only [Act.put, List.setIfInBounds_toArray, List.set_cons_zero, List.set_cons_succ]
        refine reg_skip (i := 13) rfl (by kernel_rfl) (by kernel_rfl) (by kernel_rfl) (fun _ _ _ h => h) (by rfl) ?_
        simp only [Act.put, List.setIfInBounds_toArray, List.set_cons_zero, List.set_cons_succ]
        refine reg_skip (i := 14) rfl (by kernel_rfl) (by kernel_rfl) (by kernel_rfl) (fun _ _ _ h => h) (by rfl) ?_
        simp only [Act.put, List.setIfInBounds_toArray, List.set_cons_zero, List.set_cons_succ]
        refine reg_skip (i := 15) rfl (by kernel_rfl) (by kernel_rfl) (by kernel_rfl) (fun _ _ _ h => h) (by rfl) ?_
        simp only [Act.put, List.setIfInBounds_toArray, List.set_cons_zero, List.set_cons_succ]
        refine reg_take (i := 16) (v := ?_) rfl (by kernel_rfl) (by kernel_rfl) (by kernel_rfl) (fun _ _ _ h => h) (by rfl) ?hy16 ?_
        case hy16 => intro w' hw'; go_simp; (try with_reducible rfl)
        simp only [Act.put, List.setIfInBounds_toArray, List.set_cons_zero, List.set_cons_succ]
        refine reg_end (by kernel_rfl) ?_
        go_wp2
        exact ⟨⟨k + 1, j, by omega, by go_num, rfl, HV.out, B4.out⟩, by simp [intOf]; omega⟩
      | true =>
        rcases HO.out with ⟨hj, hn⟩ | ⟨jn, y, hj, h1, h2, h3, h4, h5⟩
        · have HV := Lib.hid (HO.out.right HXX.out (.inl ⟨HQ.out.symm, .inl (by rw [hj]; decide), rfl⟩) : IsOld p l 0 (k + 1) k)
          subst hj
          clear hn
          go_wp2_with (first | (with_reducible refine wpList_load_whole Ses.isRec rfl _ rfl gX (by with_unfolding_all exact rfl) _ _ (Ses.len _) X2.out ?_) | (with_reducible refine wpList_load_rec Ent.isRec rfl _ rfl gX 2 (by with_unfolding_all exact rfl) _ (Ent.len _) (Ses.At.part_peer X2.out) ?_) | (with_reducible refine wpList_load_rec Win.isRec rfl _ rfl gX 16 (by with_unfolding_all exact rfl) _ (Win.len _) (Ses.At.part_seen X2.out) ?_))
          refine reg_begin (by kernel_rfl) fun w3 b3 z3 => ?_
          have X3 : Hid (Ses.At w3 gX x) := Lib.hid (Whole.below X2.out b3 X2.out.lt)
          have B3 := Lib.hid (B2.out.trans (b3.mono B2.out.size))
          clear b3 z3 X2 B2
          refine reg_take (i := 0) (v := ?_) rfl (by kernel_rfl) (by kernel_rfl) (by kernel_rfl) (fun _ _ _ h => h) (by rfl) ?hy0 ?_
          case hy0 => intro w' hw'; go_simp; (try with_reducible rfl)
          simp only [Act.put, List.setIfInBounds_toArray, List.set_cons_zero, List.set_cons_succ]
          refine reg_take (i := 1) (v := Ses.val (x)) rfl (by kernel_rfl) (by kernel_rfl) (by kernel_rfl) (fun _ _ _ h => h) (by rfl) ?hy1 ?_
          case hy1 => intro w' hw'; exact exec_load_whole Ses.isRec _ rfl gX rfl _ _ (Ses.len _) w' (Whole.below X3.out hw' X3.out.lt)
          simp only [Act.put, List.setIfInBounds_toArray, List.set_cons_zero, List.set_cons_succ]
          refine reg_call (i := 2) rfl (by kernel_rfl) (fun K' hK => ?_)
          go_simp
          refine (CP.out w3 B3.out).mono ?_
          rintro e4 w4 ⟨rfl, b4⟩
          have X4 : Hid (Ses.At w4 gX x) := Lib.hid (Whole.below X3.out b4 X3.out.lt)
          have B4 := Lib.hid (B3.out.trans (b4.mono B3.out.size))
          refine hK.out _ _ b4 ?_
          clear hK K' b4 X3 B3
          refine reg_take (i := 3) (v := ?_) rfl (by kernel_rfl) (by kernel_rfl) (by kernel_rfl) (fun _ _ _ h => h) (by rfl) ?hy3 ?_
          case hy3 => intro w' hw'; go_simp; (try with_reducible rfl)
          simp only [Act.put, List.setIfInBounds_toArray, List.set_cons_zero, List.set_cons_succ]
          refine reg_take (i := 4) (v := ?_) rfl (by kernel_rfl) (by kernel_rfl) (by kernel_rfl) (fun _ _ _ h => h) (by rfl) ?hy4 ?_
          case hy4 => intro w' hw'; go_simp; (try with_reducible rfl)
          simp only [Act.put, List.setIfInBounds_toArray, List.set_cons_zero, List.set_cons_succ]
          refine reg_take (i := 5) (v := ?_) rfl (by kernel_rfl) (by kernel_rfl) (by kernel_rfl) (fun _ _ _ h => h) (by rfl) ?hy5 ?_
          case hy5 => intro w' hw'; go_simp; (try with_reducible rfl)
          simp only [Act.put, List.setIfInBounds_toArray, List.set_cons_zero, List.set_cons_succ]
          refine reg_take (i := 6) (v := ?_) rfl (by kernel_rfl) (by kernel_rfl) (by kernel_rfl) (fun _ _ _ h => h) (by rfl) ?hy6 ?_
          case hy6 => intro w' hw'; go_simp; (try with_reducible rfl)
          simp only [Act.put, List.setIfInBounds_toArray, List.set_cons_zero, List.set_cons_succ]
          refine reg_skip (i := 7) rfl (by kernel_rfl) (by kernel_rfl) (by kernel_rfl) (fun _ _ _ h => h) (by rfl) ?_
          simp only [Act.put, List.setIfInBounds_toArray, List.set_cons_zero, List.set_cons_succ]
          refine reg_skip (i := 8) rfl (by kernel_rfl) (by kernel_rfl) (by kernel_rfl) (fun _ _ _ h => h) (by rfl) ?_
          simp only [Act.put, List.setIfInBounds_toArray, List.set_cons_zero, List.set_cons_succ]
          refine reg_skip (i := 9) rfl (by kernel_rfl) (by kernel_rfl) (by kernel_rfl) (fun _ _ _ h => h) (by rfl) ?_
          simp only [Act.put, List.setIfInBounds_toArray, List.set_cons_zero, List.set_cons_succ]
          refine reg_skip (i := 10) rfl (by kernel_rfl) (by kernel_rfl) (by kernel_rfl) (fun _ _ _ h => h) (by rfl) ?_
          simp only [Act.put, List.setIfInBounds_toArray, List.set_cons_zero, List.set_cons_succ]
          refine reg_skip (i := 11) rfl (by kernel_rfl) (by kernel_rfl) (by kernel_rfl) (fun _ _ _ h => h) (by rfl) ?_
          simp only [Act.put, List.setIfInBounds_toArray, List.set_cons_zero, List.set_cons_succ]
          refine reg_skip (i := 12) rfl (by kernel_rfl) (by kernel_rfl) (by kernel_rfl) (fun _ _ _ h => h) (by rfl) ?_
          simp only [Act.put, List.setIfInBounds_toArray, List.set_cons_zero, List.set_cons_succ]
          refine reg_skip (i := 13) rfl (by kernel_rfl) (by kernel_rfl) (by kernel_rfl) (fun _ _ _ h => h) (by rfl) ?_
          simp only [Act.put, List.setIfInBounds_toArray, List.set_cons_zero, List.set_cons_succ]
          refine reg_skip (i := 14) rfl (by kernel_rfl) (by kernel_rfl) (by kernel_rfl) (fun _ _ _ h => h) (by rfl) ?_
          simp only [Act.put, List.setIfInBounds_toArray, List.set_cons_zero, List.set_cons_succ]
          refine reg_take (i := 15) (v := ?_) rfl (by kernel_rfl) (by kernel_rfl) (by kernel_rfl) (fun _ _ _ h => h) (by rfl) ?hy15 ?_
          case hy15 => intro w' hw'; go_simp; (try with_reducible rfl)
          simp only [Act.put, List.setIfInBounds_toArray, List.set_cons_zero, List.set_cons_succ]
          refine reg_take (i := 16) (v := ?_) rfl (by kernel_rfl) (by kernel_rfl) (by kernel_rfl) (fun _ _ _ h => h) (by rfl) ?hy16 ?_
          case hy16 => intro w' hw'; go_simp; (try with_reducible rfl)
          simp only [Act.put, List.setIfInBounds_toArray, List.set_cons_zero, List.set_cons_succ]
          refine reg_end (by kernel_rfl) ?_
          go_wp2
          exact ⟨⟨k + 1, k, by omega, by go_num, rfl, HV.out, B4.out⟩, by simp [intOf]; omega⟩
        · have hjn : 0 ≤ j := by omega
          obtain ⟨u, hu⟩ : ∃ u, u = decide (x.used < y.used) := ⟨_, rfl⟩
          have HV : Hid (IsOld p l 0 (k + 1) (if u then (k : Int) else j)) := Lib.hid (by
            cases u with
            | true => exact HO.out.right HXX.out (.inl ⟨HQ.out.symm, .inr ⟨y, by rw [hj, Int.toNat_natCast]; exact h3, by simpa using hu.symm⟩, rfl⟩)
            | false => exact HO.out.right HXX.out (.inr ⟨.inr ⟨hjn, y, by rw [hj, Int.toNat_natCast]; exact h3, by simpa using hu.symm⟩, rfl⟩))
          subst hj
          obtain ⟨b', off', hbo, hc'⟩ := ses_row H.out h3
          injection hbo with hbo
          injection hbo with hb1 hb2
          subst hb1 hb2
          have HY := Lib.hid hc'
          have e0 : ((jn : Int) == -1) = false := by rw [beq_eq_false_iff_ne]; omega
          have e9 := hu.symm
          have jj : (jn : Int) < (m : Int) := by omega
          clear hc' h1 h2 h3 h4 h5 hjn hu
          go_wp2_with (first | (with_reducible refine wpList_load_whole Ses.isRec rfl _ rfl gX (by with_unfolding_all exact rfl) _ _ (Ses.len _) X2.out ?_) | (with_reducible refine wpList_load_rec Ent.isRec rfl _ rfl gX 2 (by with_unfolding_all exact rfl) _ (Ent.len _) (Ses.At.part_peer X2.out) ?_) | (with_reducible refine wpList_load_rec Win.isRec rfl _ rfl gX 16 (by with_unfolding_all exact rfl) _ (Win.len _) (Ses.At.part_seen X2.out) ?_))
          refine reg_begin (by kernel_rfl) fun w3 b3 z3 => ?_
          have X3 : Hid (Ses.At w3 gX x) := Lib.hid (Whole.below X2.out b3 X2.out.lt)
          have B3 := Lib.hid (B2.out.trans (b3.mono B2.out.size))
          clear b3 z3 X2 B2
          refine reg_take (i := 0) (v := ?_) rfl (by kernel_rfl) (by kernel_rfl) (by kernel_rfl) (fun _ _ _ h => h) (by rfl) ?hy0 ?_
          case hy0 => intro w' hw'; go_simp; (try with_reducible rfl)
          simp only [Act.put, List.setIfInBounds_toArray, List.set_cons_zero, List.set_cons_succ]
          refine reg_take (i := 1) (v := Ses.val (x)) rfl (by kernel_rfl) (by kernel_rfl) (by kernel_rfl) (fun _ _ _ h => h) (by rfl) ?hy1 ?_
          case hy1 => intro w' hw'; exact exec_load_whole Ses.isRec _ rfl gX rfl _ _ (Ses.len _) w' (Whole.below X3.out hw' X3.out.lt)
          simp only [Act.put, List.setIfInBounds_toArray, List.set_cons_zero, List.set_cons_succ]
          refine reg_call (i := 2) rfl (by kernel_rfl) (fun K' hK => ?_)
          go_simp
          refine (CP.out w3 B3.out).mono ?_
          rintro e4 w4 ⟨rfl, b4⟩
          have X4 : Hid (Ses.At w4 gX x) := Lib.hid (Whole.below X3.out b4 X3.out.lt)
          have B4 := Lib.hid (B3.out.trans (b4.mono B3.out.size))
          refine hK.out _ _ b4 ?_
          clear hK K' b4 X3 B3
          refine reg_take (i := 3) (v := ?_) rfl (by kernel_rfl) (by kernel_rfl) (by kernel_rfl) (fun _ _ _ h => h) (by rfl) ?hy3 ?_
          case hy3 => intro w' hw'; go_simp; (try with_reducible rfl)
          simp only [Act.put, List.setIfInBounds_toArray, List.set_cons_zero, List.set_cons_succ]
          refine reg_take (i := 4) (v := ?_) rfl (by kernel_rfl) (by kernel_rfl) (by kernel_rfl) (fun _ _ _ h => h) (by rfl) ?hy4 ?_
          case hy4 => intro w' hw'; go_simp; (try with_reducible rfl)
          simp only [Act.put, List.setIfInBounds_toArray, List.set_cons_zero, List.set_cons_succ]
          refine reg_take (i := 5) (v := ?_) rfl (by kernel_rfl) (by kernel_rfl) (by kernel_rfl) (fun _ _ _ h => h) (by rfl) ?hy5 ?_
          case hy5 => intro w' hw'; go_simp; (try with_reducible rfl)
          simp only [Act.put, List.setIfInBounds_toArray, List.set_cons_zero, List.set_cons_succ]
          refine reg_take (i := 6) (v := ?_) rfl (by kernel_rfl) (by kernel_rfl) (by kernel_rfl) (fun _ _ _ h => h) (by rfl) ?hy6 ?_
          case hy6 => intro w' hw'; go_simp; (try with_reducible rfl)
          simp only [Act.put, List.setIfInBounds_toArray, List.set_cons_zero, List.set_cons_succ]
          refine reg_take (i := 7) (v := ?_) rfl (by kernel_rfl) (by kernel_rfl) (by kernel_rfl) (fun _ _ _ h => h) (by rfl) ?hy7 ?_
          case hy7 => intro w' hw'; go_simp; (try with_reducible rfl)
          simp only [Act.put, List.setIfInBounds_toArray, List.set_cons_zero, List.set_cons_succ]
          refine reg_take (i := 8) (v := (.int .i64 (x).used)) rfl (by kernel_rfl) (by kernel_rfl) (by kernel_rfl) (fun _ _ _ h => h) (by rfl) ?hy8 ?_
          case hy8 => intro w' hw'; have c := Ses.At.at_used (Whole.below X4.out hw' X4.out.lt); go_simp; (try with_reducible rfl)
          simp only [Act.put, List.setIfInBounds_toArray, List.set_cons_zero, List.set_cons_succ]
          refine reg_take (i := 9) (v := ?_) rfl (by kernel_rfl) (by kernel_rfl) (by kernel_rfl) (fun _ _ _ h => h) (by rfl) ?hy9 ?_
          case hy9 => intro w' hw'; go_simp; (try with_reducible rfl)
          simp only [Act.put, List.setIfInBounds_toArray, List.set_cons_zero, List.set_cons_succ]
          refine reg_take (i := 10) (v := ?_) rfl (by kernel_rfl) (by kernel_rfl) (by kernel_rfl) (fun _ _ _ h => h) (by rfl) ?hy10 ?_
          case hy10 => intro w' hw'; go_simp; (try with_reducible rfl)
          simp only [Act.put, List.setIfInBounds_toArray, List.set_cons_zero, List.set_cons_succ]
          refine reg_take (i := 11) (v := ?_) rfl (by kernel_rfl) (by kernel_rfl) (by kernel_rfl) (fun _ _ _ h => h) (by rfl) ?hy11 ?_
          case hy11 => intro w' hw'; go_simp; (try with_reducible rfl)
          simp only [Act.put, List.setIfInBounds_toArray, List.set_cons_zero, List.set_cons_succ]
          refine reg_take (i := 12) (v := ?_) rfl (by kernel_rfl) (by kernel_rfl) (by kernel_rfl) (fun _ _ _ h => h) (by rfl) ?hy12 ?_
          case hy12 => intro w' hw'; go_simp; (try with_reducible rfl)
          simp only [Act.put, List.setIfInBounds_toArray, List.set_cons_zero, List.set_cons_succ]
          refine reg_take (i := 13) (v := .int .i64 y.used) rfl (by kernel_rfl) (by kernel_rfl) (by kernel_rfl) (fun _ _ _ h => h) (by rfl) ?hy13 ?_
          case hy13 => intro w' hw'; have c := HY.out w' (B4.out.trans (hw'.mono B4.out.size)) 19 _ rfl; go_simp; (try with_reducible rfl)
          simp only [Act.put, List.setIfInBounds_toArray, List.set_cons_zero, List.set_cons_succ]
          refine reg_take (i := 14) (v := ?_) rfl (by kernel_rfl) (by kernel_rfl) (by kernel_rfl) (fun _ _ _ h => h) (by rfl) ?hy14 ?_
          case hy14 => intro w' hw'; go_simp; (try with_reducible rfl)
          simp only [Act.put, List.setIfInBounds_toArray, List.set_cons_zero, List.set_cons_succ]
          refine reg_take (i := 15) (v := ?_) rfl (by kernel_rfl) (by kernel_rfl) (by kernel_rfl) (fun _ _ _ h => h) (by rfl) ?hy15 ?_
          case hy15 => intro w' hw'; go_simp; (try with_reducible rfl)
          simp only [Act.put, List.setIfInBounds_toArray, List.set_cons_zero, List.set_cons_succ]
          refine reg_take (i := 16) (v := ?_) rfl (by kernel_rfl) (by kernel_rfl) (by kernel_rfl) (fun _ _ _ h => h) (by rfl) ?hy16 ?_
          case hy16 => intro w' hw'; go_simp; (try with_reducible rfl)
          simp only [Act.put, List.setIfInBounds_toArray, List.set_cons_zero, List.set_cons_succ]
          refine reg_end (by kernel_rfl) ?_
          cases u with
          | true =>
            go_wp2
            exact ⟨⟨k + 1, k, by omega, by go_num, rfl, HV.out, B4.out⟩, by simp [intOf]; omega⟩
          | false =>
            go_wp2
            exact ⟨⟨k + 1, jn, by omega, by go_num, rfl, HV.out, B4.out⟩, by simp [intOf]; omega⟩
    · obtain rfl : k = m := by omega
      have dk : decide ((k : Int) < (k : Int)) = false := by simp
      go_wp2
      go_ret
      exact ⟨j, rfl, by rw [← HL.out]; exact HO.out, B0.out⟩
end Go.Proofs.Ytjohlnpalcmhbaa
