/- Layer 23 as landed: places in a node's sessions: the library's IndexFunc over whatever closure tells of a session, the closures, ById, Waits, Asks, what is accepted, again. -/
import Derived.Test.YtjohlnpalcmhbaaTbR
import Derived.Test.YtjohlnpalcmhbaaSlG
import Derived.Test.YtjohlnpalcmhbaaEnT
import Derived.Test.YtjohlnpalcmhbaaReI
namespace Go.Proofs.Ytjohlnpalcmhbaa
set_option maxRecDepth 100000
open Go.RowKit

/-- A closure that tells of each session what p tells. -/
def Tells (W : World) (F : FuncId) (caps : Array Value) (p : Ses → Bool) : Prop :=
  (∀ args w, (callFunc F args).run Try.prog w = .ok (.enter F args) w) ∧ ∀ (s : Ses) (w : World), Below W.heap.size W w → Calls Try.prog F (#[s.val] ++ caps) w fun e w' => e = .returned (.bool (p s)) ∧ Below w.heap.size w w'
theorem Tells.below {W w : World} {F : FuncId} {caps : Array Value} {p : Ses → Bool} (h : Tells W F caps p) (b : Below W.heap.size W w) : Tells w F caps p := ⟨h.1, fun s w' hb => h.2 s w' (b.trans (hb.mono b.size))⟩
theorem firstS_none {p : Ses → Bool} {l : List Ses} (k : Nat) (h : ∀ x ∈ l, p x = false) : firstS p l k = -1 := by
  induction l generalizing k with
  | nil => rfl
  | cons x r ih => rw [firstS, h x (List.mem_cons_self ..)]; exact ih _ fun y hy => h y (List.mem_cons_of_mem _ hy)

set_option maxRecDepth 100000
set_option maxHeartbeats 1000000 in
theorem isWaiting_any (s : Ses) (w : World) : Calls Try.prog 30 #[s.val] w fun e w' => e = .returned (.bool (decide (s.state = 1))) ∧ Below w.heap.size w w' := by
  obtain ⟨q, hq⟩ : ∃ q, q = decide (s.state = 1) := ⟨_, rfl⟩
  have e1 : (s.state == 1) = q := by rw [hq]; rfl
  rw [← hq]
  clear hq
  go_enter Try.func30, Try.ntmps30
  go_wp2_with (refine wpList_box_row rfl 36 _ rfl s.enc.toArray rfl ?_)
  intro w1 b1 x1 z1
  have B1 := Lib.hid b1
  have c1 := Ses.At.at_state x1
  clear b1 x1 z1
  go_wp2
  go_ret
  exact ⟨rfl, B1.out⟩

set_option maxHeartbeats 1000000 in
theorem indexFunc_any (F : FuncId) (caps : Array Value) (p : Ses → Bool) (A : Option Addr) (m cap : Nat) (l : List Ses) (w : World) (hm : m ≤ 1000000) (h : RowsAt w (.slice A m cap) 20 (l.map Ses.enc)) (hT : Tells w F caps p) :
    Calls Try.prog 28 #[.slice A m cap, .func (.func F) #[] caps] w fun e w' => e = .returned (.int .i64 (firstS p l 0)) ∧ Below w.heap.size w w' := by
  have hlen := h.size.1
  rw [List.length_map] at hlen
  have H := Lib.hid h
  have HL := Lib.hid hlen
  have eg := hT.1
  have HC := Lib.hid hT.2
  obtain ⟨R, hR⟩ : ∃ R, R = firstS p l 0 := ⟨_, rfl⟩
  have HR : Hid (firstS p (l.drop 0) 0 = R) := Lib.hid (by rw [hR]; rfl)
  rw [← hR]
  clear h hlen hR hT
  go_enter Try.func28, Try.ntmps28
  go_wp2_with fail
  go_loopw [8] (fun i wr => ∃ k : Nat, k ≤ m ∧ i = .int .i64 (k : Int) ∧ firstS p (l.drop k) k = R ∧ Below w.heap.size w wr) (fun i _ => m - (intOf i).toNat)
  case atStart => exact ⟨0, Nat.zero_le _, rfl, HR.out, Below.refl _ _⟩
  case round =>
    obtain ⟨k, hk, rfl, hr, hb⟩ := hrel
    have HK := Lib.hid hr
    have B0 := Lib.hid hb
    clear hr hb HR
    by_cases hlt : k < m
    · have dk : decide ((k : Int) < (m : Int)) = true := by simp; omega
      obtain ⟨x, hx⟩ : ∃ x, l[k]? = some x := ⟨_, List.getElem?_eq_getElem (by rw [← HL.out]; exact hlt)⟩
      obtain ⟨b, off, rfl, hc⟩ := ses_row H.out hx
      have HX := Lib.hid (hc wr B0.out)
      have HD := Lib.hid (drop_at hx)
      have CP := Lib.hid (HC.out x wr B0.out)
      have jk : (k : Int) < (m : Int) := by omega
      have r4 : IntKind.i64.wrap ((k : Int) + 1) = ((k + 1 : Nat) : Int) := by rw [IntWalk.i64_in _ (by omega)]; omega
      obtain ⟨q, hq⟩ : ∃ q, q = p x := ⟨_, rfl⟩
      simp only [← hq] at CP
      have HV : Hid ((if q = true then (k : Int) else firstS p (l.drop (k + 1)) (k + 1)) = R) := Lib.hid (by have t := HK.out; rw [HD.out, firstS, ← hq] at t; exact t)
      clear hc hx hq HK HD
      go_wp2_with (with_reducible refine wpList_load_rec Ses.isRec rfl _ rfl b (off + k * 20) (by with_unfolding_all exact rfl) x.enc (Ses.len _) HX.out ?_)
      refine CP.out.mono ?_
      rintro e w1 ⟨rfl, b1⟩
      have B1 := Lib.hid (B0.out.trans (b1.mono B0.out.size))
      clear b1 HX CP
      cases q with
      | true =>
        have HW : Hid ((k : Int) = R) := Lib.hid (by have t := HV.out; exact t)
        clear HV
        go_wp2
        go_ret
        exact ⟨by rw [← HW.out]; rfl, B1.out⟩
      | false =>
        go_wp2
        exact ⟨⟨k + 1, by omega, by go_num, by have t := HV.out; exact t, B1.out⟩, by simp [intOf]; omega⟩
    · obtain rfl : k = m := by omega
      have dk : decide ((k : Int) < (k : Int)) = false := by simp
      have HV : Hid ((-1 : Int) = R) := Lib.hid (by have q := HK.out; rw [List.drop_eq_nil_of_le (by rw [← HL.out]; exact Nat.le_refl _)] at q; exact q)
      go_wp2
      go_ret
      exact ⟨by rw [← HV.out]; rfl, B0.out⟩

theorem enter_byId1 : ∀ args w, (callFunc 29 args).run Try.prog w = .ok (.enter 29 args) w := by
  intro args w
  have hn : decide (Try.f29.name = "runtime.NumGoroutine") = false := by kernel_rfl
  have hb : Try.f29.body.isNone = false := by kernel_rfl
  exact enter_of Try.func29 hn hb args w
set_option maxHeartbeats 1000000 in
theorem byId1_any (n g : Nat) (h0 : 0 < n) (s : Ses) (w : World) (h : CellAt w g (.int .u64 (n : Int))) :
    Calls Try.prog 29 #[s.val, .pointer (some ⟨g, 0, none⟩)] w fun e w' => e = .returned (.bool (byIdP n s)) ∧ Below w.heap.size w w' := by
  obtain ⟨q, hq⟩ : ∃ q, q = decide (s.state = 1) := ⟨_, rfl⟩
  obtain ⟨r, hr⟩ : ∃ r, r = decide (s.id = n) := ⟨_, rfl⟩
  have CW := Lib.hid (fun w => isWaiting_any s w)
  simp only [← hq] at CW
  have HF : Hid (byIdP n s = (!q && r)) := Lib.hid (by rw [byIdP, hq, hr, decide_eq_true h0, Bool.and_true]; congr 1; exact decide_not)
  have e1 : ((s.id : Int) == (n : Int)) = r := by rw [hr, Bool.eq_iff_iff, beq_iff_eq, decide_eq_true_eq]; omega
  rw [HF.out]
  clear hq hr HF h0
  go_enter Try.func29, Try.ntmps29
  have C0 : Hid (CellAt w g (.int .u64 (n : Int))) := Lib.hid (h)
  clear h
  go_wp2_with (refine wpList_box_row rfl 36 _ rfl s.enc.toArray (by with_unfolding_all exact rfl) ?_)
  intro w1 b1 x1 z1
  obtain ⟨gS, hgS⟩ : ∃ g, g = w.heap.size := ⟨_, rfl⟩
  have M_S := Lib.hid (show w.heap.size ≤ gS from by rw [hgS]; exact Nat.le_refl _)
  have C1 : Hid (CellAt w1 g (.int .u64 (n : Int))) := Lib.hid (C0.out.below b1)
  have B1 := Lib.hid b1
  rw [← hgS] at x1 ⊢
  have S1 : Hid (Ses.At w1 gS s) := Lib.hid x1
  clear b1 x1 z1 hgS C0
  go_wp2_with (first | (with_reducible refine wpList_load_whole Ses.isRec rfl _ rfl gS (by with_unfolding_all exact rfl) _ _ (Ses.len _) S1.out ?_) | (with_reducible refine wpList_load_rec Ent.isRec rfl _ rfl gS 2 (by with_unfolding_all exact rfl) _ (Ent.len _) (Ses.At.part_peer S1.out) ?_) | (with_reducible refine wpList_load_rec Win.isRec rfl _ rfl gS 16 (by with_unfolding_all exact rfl) _ (Win.len _) (Ses.At.part_seen S1.out) ?_))
  refine (CW.out w1).mono ?_
  rintro e2 w2 ⟨rfl, b2⟩
  have C2 : Hid (CellAt w2 g (.int .u64 (n : Int))) := Lib.hid (C1.out.below b2)
  have S2 : Hid (Ses.At w2 gS s) := Lib.hid (Whole.below S1.out b2 S1.out.lt)
  have B2 := Lib.hid (B1.out.trans (b2.mono B1.out.size))
  clear b2 C1 S1 B1
  have c1 := Ses.At.at_id S2.out
  have c2 := C2.out.cell
  cases q with
  | true =>
    go_wp2
    go_ret
    exact ⟨rfl, B2.out⟩
  | false =>
    go_wp2
    go_ret
    exact ⟨rfl, B2.out⟩
set_option maxHeartbeats 1000000 in
theorem tbById_any (A : Option Addr) (m cap : Nat) (l : List Ses) (n : Nat) (w : World) (hm : m ≤ 1000000) (h : RowsAt w (.slice A m cap) 20 (l.map Ses.enc)) :
    Calls Try.prog 10 #[.slice A m cap, .int .u64 (n : Int)] w fun e w' => e = .returned (.int .i64 (firstS (byIdP n) l 0)) ∧ Below w.heap.size w w' := by
  have b1 : Below w.heap.size w (w.alloc (.cells #[.int .u64 (n : Int)] 23)) := (Below.refl _ _).alloc (Nat.le_refl _) _
  have hC := CellAt.new w 23 (.int .u64 (n : Int))
  have c0 := hC.cell
  by_cases h0 : n = 0
  · subst h0
    have HF : Hid (firstS (byIdP 0) l 0 = -1) := Lib.hid (firstS_none _ fun x _ => by simp [byIdP])
    rw [HF.out]
    have B1 := Lib.hid b1
    clear HF b1 h hC
    go_enter Try.func10, Try.ntmps10
    go_wp2
    go_ret
    exact ⟨rfl, B1.out⟩
  · have e0 : ((n : Int) == 0) = false := by rw [beq_eq_false_iff_ne]; omega
    have CI := Lib.hid (indexFunc_any 29 #[.pointer (some ⟨w.heap.size, 0, none⟩)] (byIdP n) A m cap l _ hm (h.below b1) ⟨enter_byId1, fun s w' hb => byId1_any n _ (by omega) s w' (hC.below hb)⟩)
    have B1 := Lib.hid b1
    have hmf : ∀ (fn : Fn) (first cap : Array Value) (w : World), (Instr.makeFunc fn first cap).run Try.prog w = .ok (.func fn first cap) w := fun _ _ _ _ => rfl
    clear b1 h hC h0
    go_enter Try.func10, Try.ntmps10
    go_wp2_with fail
    refine CI.out.mono ?_
    rintro e w2 ⟨rfl, b2⟩
    have B2 := Lib.hid (B1.out.trans (b2.mono B1.out.size))
    clear b2 CI hmf c0
    go_wp2
    go_ret
    exact ⟨rfl, B2.out⟩

theorem enter_waits1 : ∀ args w, (callFunc 31 args).run Try.prog w = .ok (.enter 31 args) w := by
  intro args w
  have hn : decide (Try.f31.name = "runtime.NumGoroutine") = false := by kernel_rfl
  have hb : Try.f31.body.isNone = false := by kernel_rfl
  exact enter_of Try.func31 hn hb args w
set_option maxHeartbeats 1000000 in
theorem waits1_any (n g : Nat) (s : Ses) (w : World) (h : CellAt w g (.int .u64 (n : Int))) :
    Calls Try.prog 31 #[s.val, .pointer (some ⟨g, 0, none⟩)] w fun e w' => e = .returned (.bool (waitsP n s)) ∧ Below w.heap.size w w' := by
  obtain ⟨q, hq⟩ : ∃ q, q = decide (s.state = 1) := ⟨_, rfl⟩
  obtain ⟨r, hr⟩ : ∃ r, r = decide (s.nonce = n) := ⟨_, rfl⟩
  have CW := Lib.hid (fun w => isWaiting_any s w)
  simp only [← hq] at CW
  have HF : Hid (waitsP n s = (q && r)) := Lib.hid (by rw [waitsP, hq, hr])
  have e1 : ((s.nonce : Int) == (n : Int)) = r := by rw [hr, Bool.eq_iff_iff, beq_iff_eq, decide_eq_true_eq]; omega
  rw [HF.out]
  clear hq hr HF
  go_enter Try.func31, Try.ntmps31
  have C0 : Hid (CellAt w g (.int .u64 (n : Int))) := Lib.hid (h)
  clear h
  go_wp2_with (refine wpList_box_row rfl 36 _ rfl s.enc.toArray (by with_unfolding_all exact rfl) ?_)
  intro w1 b1 x1 z1
  obtain ⟨gS, hgS⟩ : ∃ g, g = w.heap.size := ⟨_, rfl⟩
  have M_S := Lib.hid (show w.heap.size ≤ gS from by rw [hgS]; exact Nat.le_refl _)
  have C1 : Hid (CellAt w1 g (.int .u64 (n : Int))) := Lib.hid (C0.out.below b1)
  have B1 := Lib.hid b1
  rw [← hgS] at x1 ⊢
  have S1 : Hid (Ses.At w1 gS s) := Lib.hid x1
  clear b1 x1 z1 hgS C0
  go_wp2_with (first | (with_reducible refine wpList_load_whole Ses.isRec rfl _ rfl gS (by with_unfolding_all exact rfl) _ _ (Ses.len _) S1.out ?_) | (with_reducible refine wpList_load_rec Ent.isRec rfl _ rfl gS 2 (by with_unfolding_all exact rfl) _ (Ent.len _) (Ses.At.part_peer S1.out) ?_) | (with_reducible refine wpList_load_rec Win.isRec rfl _ rfl gS 16 (by with_unfolding_all exact rfl) _ (Win.len _) (Ses.At.part_seen S1.out) ?_))
  refine (CW.out w1).mono ?_
  rintro e2 w2 ⟨rfl, b2⟩
  have C2 : Hid (CellAt w2 g (.int .u64 (n : Int))) := Lib.hid (C1.out.below b2)
  have S2 : Hid (Ses.At w2 gS s) := Lib.hid (Whole.below S1.out b2 S1.out.lt)
  have B2 := Lib.hid (B1.out.trans (b2.mono B1.out.size))
  clear b2 C1 S1 B1
  have c1 := Ses.At.at_nonce S2.out
  have c2 := C2.out.cell
  cases q with
  | true =>
    go_wp2
    go_ret
    exact ⟨rfl, B2.out⟩
  | false =>
    go_wp2
    go_ret
    exact ⟨rfl, B2.out⟩
set_option maxHeartbeats 1000000 in
theorem tbWaits_any (A : Option Addr) (m cap : Nat) (l : List Ses) (n : Nat) (w : World) (hm : m ≤ 1000000) (h : RowsAt w (.slice A m cap) 20 (l.map Ses.enc)) :
    Calls Try.prog 12 #[.slice A m cap, .int .u64 (n : Int)] w fun e w' => e = .returned (.int .i64 (firstS (waitsP n) l 0)) ∧ Below w.heap.size w w' := by
  have b1 : Below w.heap.size w (w.alloc (.cells #[.int .u64 (n : Int)] 23)) := (Below.refl _ _).alloc (Nat.le_refl _) _
  have hC := CellAt.new w 23 (.int .u64 (n : Int))
  have CI := Lib.hid (indexFunc_any 31 #[.pointer (some ⟨w.heap.size, 0, none⟩)] (waitsP n) A m cap l _ hm (h.below b1) ⟨enter_waits1, fun s w' hb => waits1_any n _ s w' (hC.below hb)⟩)
  have B1 := Lib.hid b1
  have hmf : ∀ (fn : Fn) (first cap : Array Value) (w : World), (Instr.makeFunc fn first cap).run Try.prog w = .ok (.func fn first cap) w := fun _ _ _ _ => rfl
  clear b1 h hC
  go_enter Try.func12, Try.ntmps12
  go_wp2_with fail
  refine CI.out.mono ?_
  rintro e w2 ⟨rfl, b2⟩
  have B2 := Lib.hid (B1.out.trans (b2.mono B1.out.size))
  clear b2 CI hmf
  go_wp2
  go_ret
  exact ⟨rfl, B2.out⟩

theorem enter_asks1 : ∀ args w, (callFunc 32 args).run Try.prog w = .ok (.enter 32 args) w := by
  intro args w
  have hn : decide (Try.f32.name = "runtime.NumGoroutine") = false := by kernel_rfl
  have hb : Try.f32.body.isNone = false := by kernel_rfl
  exact enter_of Try.func32 hn hb args w
set_option maxHeartbeats 1000000 in
theorem asks1_any (e : Ent) (g : Nat) (s : Ses) (w : World) (h : Ent.At w g e) :
    Calls Try.prog 32 #[s.val, .pointer (some ⟨g, 0, none⟩)] w fun x w' => x = .returned (.bool (asksP e s)) ∧ Below w.heap.size w w' := by
  obtain ⟨q, hq⟩ : ∃ q, q = decide (s.state = 1) := ⟨_, rfl⟩
  have CW := Lib.hid (fun w => isWaiting_any s w)
  simp only [← hq] at CW
  have CH := Lib.hid (fun w => who_any s.peer e w)
  obtain ⟨r, hr⟩ : ∃ r, r = entW s.peer e := ⟨_, rfl⟩
  simp only [← hr] at CH
  have HF : Hid (asksP e s = (q && r)) := Lib.hid (by rw [asksP, hq, hr])
  rw [HF.out]
  clear hq hr HF
  go_enter Try.func32, Try.ntmps32
  have E0 : Hid (Ent.At w g e) := Lib.hid (h)
  clear h
  go_wp2_with (first | (with_reducible refine wpList_load_whole Ent.isRec rfl _ rfl None (by with_unfolding_all exact rfl) _ _ (Ent.len _) E0.out ?_) | (refine wpList_box_row rfl 36 _ rfl s.enc.toArray (by with_unfolding_all exact rfl) ?_))
  intro w1 b1 x1 z1
  obtain ⟨gS, hgS⟩ : ∃ g, g = w.heap.size := ⟨_, rfl⟩
  have M_S := Lib.hid (show w.heap.size ≤ gS from by rw [hgS]; exact Nat.le_refl _)
  have E1 : Hid (Ent.At w1 g e) := Lib.hid (Whole.below E0.out b1 E0.out.lt)
  have B1 := Lib.hid b1
  rw [← hgS] at x1 ⊢
  have S1 : Hid (Ses.At w1 gS s) := Lib.hid x1
  clear b1 x1 z1 hgS E0
  go_wp2_with (first | (with_reducible refine wpList_load_whole Ent.isRec rfl _ rfl None (by with_unfolding_all exact rfl) _ _ (Ent.len _) E1.out ?_) | (with_reducible refine wpList_load_whole Ses.isRec rfl _ rfl gS (by with_unfolding_all exact rfl) _ _ (Ses.len _) S1.out ?_) | (with_reducible refine wpList_load_rec Ent.isRec rfl _ rfl gS 2 (by with_unfolding_all exact rfl) _ (Ent.len _) (Ses.At.part_peer S1.out) ?_) | (with_reducible refine wpList_load_rec Win.isRec rfl _ rfl gS 16 (by with_unfolding_all exact rfl) _ (Win.len _) (Ses.At.part_seen S1.out) ?_))
  refine (CW.out w1).mono ?_
  rintro e2 w2 ⟨rfl, b2⟩
  have E2 : Hid (Ent.At w2 g e) := Lib.hid (Whole.below E1.out b2 E1.out.lt)
  have S2 : Hid (Ses.At w2 gS s) := Lib.hid (Whole.below S1.out b2 S1.out.lt)
  have B2 := Lib.hid (B1.out.trans (b2.mono B1.out.size))
  clear b2 E1 S1 B1
  cases q with
  | true =>
    go_wp2_with (first | (with_reducible refine wpList_load_whole Ent.isRec rfl _ rfl None (by with_unfolding_all exact rfl) _ _ (Ent.len _) E2.out ?_) | (with_reducible refine wpList_load_whole Ses.isRec rfl _ rfl gS (by with_unfolding_all exact rfl) _ _ (Ses.len _) S2.out ?_) | (with_reducible refine wpList_load_rec Ent.isRec rfl _ rfl gS 2 (by with_unfolding_all exact rfl) _ (Ent.len _) (Ses.At.part_peer S2.out) ?_) | (with_reducible refine wpList_load_rec Win.isRec rfl _ rfl gS 16 (by with_unfolding_all exact rfl) _ (Win.len _) (Ses.At.part_seen S2.out) ?_) | (first | (with_reducible refine wpList_load_rec_w Ent.isRec (by kernel_rfl) _ rfl gS 2 (by with_unfolding_all exact rfl) _ (Ent.len _) (Ses.At.part_peer S2.out) ?_) | (with_reducible refine wpList_load_whole_w Ent.isRec (by kernel_rfl) _ rfl g (by with_unfolding_all exact rfl) _ _ (Ent.len _) E2.out ?_)))
    refine (CH.out w2).mono ?_
    rintro e3 w3 ⟨rfl, b3⟩
    have E3 : Hid (Ent.At w3 g e) := Lib.hid (Whole.below E2.out b3 E2.out.lt)
    have S3 : Hid (Ses.At w3 gS s) := Lib.hid (Whole.below S2.out b3 S2.out.lt)
    have B3 := Lib.hid (B2.out.trans (b3.mono B2.out.size))
    clear b3 E2 S2 B2
    go_wp2
    go_ret
    exact ⟨rfl, B3.out⟩
  | false =>
    go_wp2
    go_ret
    exact ⟨rfl, B2.out⟩
set_option maxHeartbeats 1000000 in
theorem tbAsks_any (A : Option Addr) (m cap : Nat) (l : List Ses) (a : Ent) (w : World) (hm : m ≤ 1000000) (h : RowsAt w (.slice A m cap) 20 (l.map Ses.enc)) :
    Calls Try.prog 14 #[.slice A m cap, a.val] w fun e w' => e = .returned (.int .i64 (firstS (asksP a) l 0)) ∧ Below w.heap.size w w' := by
  have HH := Lib.hid h
  clear h
  have hmf : ∀ (fn : Fn) (first cap : Array Value) (w : World), (Instr.makeFunc fn first cap).run Try.prog w = .ok (.func fn first cap) w := fun _ _ _ _ => rfl
  go_enter Try.func14, Try.ntmps14
  go_wp2_with (refine wpList_box_row rfl 25 _ rfl a.enc.toArray (by with_unfolding_all exact rfl) ?_)
  intro w1 b1 x1 z1
  obtain ⟨gE, hgE⟩ : ∃ g, g = w.heap.size := ⟨_, rfl⟩
  have M_E := Lib.hid (show w.heap.size ≤ gE from by rw [hgE]; exact Nat.le_refl _)
  have B1 := Lib.hid b1
  rw [← hgE] at x1 ⊢
  have E1 : Hid (Ent.At w1 gE a) := Lib.hid x1
  clear b1 x1 z1 hgE 
  have CI := Lib.hid (indexFunc_any 32 #[.pointer (some ⟨gE, 0, none⟩)] (asksP a) A m cap l w1 hm (HH.out.below B1.out) ⟨enter_asks1, fun s w' hb => asks1_any a _ s w' (Whole.below E1.out hb E1.out.lt)⟩)
  go_wp2_with (with_reducible refine wpList_load_whole Ent.isRec rfl _ rfl gE (by with_unfolding_all exact rfl) _ _ (Ent.len _) E1.out ?_)
  refine (CI.out).mono ?_
  rintro e2 w2 ⟨rfl, b2⟩
  have E2 : Hid (Ent.At w2 gE a) := Lib.hid (Whole.below E1.out b2 E1.out.lt)
  have B2 := Lib.hid (B1.out.trans (b2.mono B1.out.size))
  clear b2 E1 B1
  clear CI hmf
  go_wp2
  go_ret
  exact ⟨rfl, B2.out⟩

set_option maxHeartbeats 1000000 in
theorem containsFunc_any (F : FuncId) (caps : Array Value) (p : Ses → Bool) (A : Option Addr) (m cap : Nat) (l : List Ses) (w : World) (hm : m ≤ 1000000) (h : RowsAt w (.slice A m cap) 20 (l.map Ses.enc)) (hT : Tells w F caps p) :
    Calls Try.prog 52 #[.slice A m cap, .func (.func F) #[] caps] w fun e w' => e = .returned (.bool (l.any p)) ∧ Below w.heap.size w w' := by
  have CI := Lib.hid (indexFunc_any F caps p A m cap l w hm h hT)
  obtain ⟨q, hq⟩ : ∃ q, q = l.any p := ⟨_, rfl⟩
  have e1 := firstS_any p l 0
  rw [← hq] at e1 ⊢
  obtain ⟨R, hR⟩ : ∃ R, R = firstS p l 0 := ⟨_, rfl⟩
  simp only [← hR] at CI e1
  have e2 : decide (R ≥ 0) = q := e1
  clear hq hR h hT
  go_enter Try.func52, Try.ntmps52
  go_wp2_with fail
  refine CI.out.mono ?_
  rintro e w2 ⟨rfl, b2⟩
  have B2 := Lib.hid b2
  clear b2 CI
  go_wp2
  go_ret
  exact ⟨rfl, B2.out⟩

theorem enter_acc1 : ∀ args w, (callFunc 53 args).run Try.prog w = .ok (.enter 53 args) w := by
  intro args w
  have hn : decide (Try.f53.name = "runtime.NumGoroutine") = false := by kernel_rfl
  have hb : Try.f53.body.isNone = false := by kernel_rfl
  exact enter_of Try.func53 hn hb args w
set_option maxHeartbeats 1000000 in
theorem acc1_any (t : Ses) (gn g : Nat) (s : Ses) (w : World) (hn : CellAt w gn (.int .u64 (t.nonce : Int))) (h : Ent.At w g t.peer) :
    Calls Try.prog 53 #[s.val, .pointer (some ⟨gn, 0, none⟩), .pointer (some ⟨g, 0, none⟩)] w fun x w' => x = .returned (.bool (halfP t s)) ∧ Below w.heap.size w w' := by
  obtain ⟨q, hq⟩ : ∃ q, q = decide (s.role = 2) := ⟨_, rfl⟩
  obtain ⟨u, hu⟩ : ∃ u, u = decide (s.nonce = t.nonce) := ⟨_, rfl⟩
  have CH := Lib.hid (fun w => who_any s.peer t.peer w)
  obtain ⟨r, hr⟩ : ∃ r, r = entW s.peer t.peer := ⟨_, rfl⟩
  simp only [← hr] at CH
  have HF : Hid (halfP t s = (q && u && r)) := Lib.hid (by rw [halfP, hq, hu, hr])
  have e1 : (s.role == 2) = q := by rw [hq]; rfl
  have e2 : ((s.nonce : Int) == (t.nonce : Int)) = u := by rw [hu, Bool.eq_iff_iff, beq_iff_eq, decide_eq_true_eq]; omega
  rw [HF.out]
  clear hq hr hu HF
  go_enter Try.func53, Try.ntmps53
  have C0 : Hid (CellAt w gn (.int .u64 (t.nonce : Int))) := Lib.hid (hn)
  have E0 : Hid (Ent.At w g t.peer) := Lib.hid (h)
  clear h hn
  go_wp2_with (first | (with_reducible refine wpList_load_whole Ent.isRec rfl _ rfl None (by with_unfolding_all exact rfl) _ _ (Ent.len _) E0.out ?_) | (refine wpList_box_row rfl 36 _ rfl s.enc.toArray (by with_unfolding_all exact rfl) ?_))
  intro w1 b1 x1 z1
  obtain ⟨gS, hgS⟩ : ∃ g, g = w.heap.size := ⟨_, rfl⟩
  have M_S := Lib.hid (show w.heap.size ≤ gS from by rw [hgS]; exact Nat.le_refl _)
  have C1 : Hid (CellAt w1 gn (.int .u64 (t.nonce : Int))) := Lib.hid (C0.out.below b1)
  have E1 : Hid (Ent.At w1 g t.peer) := Lib.hid (Whole.below E0.out b1 E0.out.lt)
  have B1 := Lib.hid b1
  rw [← hgS] at x1 ⊢
  have S1 : Hid (Ses.At w1 gS s) := Lib.hid x1
  clear b1 x1 z1 hgS C0 E0
  have c1 := Ses.At.at_role S1.out
  have c2 := Ses.At.at_nonce S1.out
  have c3 := C1.out.cell
  cases q with
  | false =>
    go_wp2
    go_ret
    exact ⟨rfl, B1.out⟩
  | true =>
    cases u with
    | false =>
      go_wp2
      go_ret
      exact ⟨rfl, B1.out⟩
    | true =>
      go_wp2_with (first | (with_reducible refine wpList_load_whole Ent.isRec rfl _ rfl None (by with_unfolding_all exact rfl) _ _ (Ent.len _) E1.out ?_) | (with_reducible refine wpList_load_whole Ses.isRec rfl _ rfl gS (by with_unfolding_all exact rfl) _ _ (Ses.len _) S1.out ?_) | (with_reducible refine wpList_load_rec Ent.isRec rfl _ rfl gS 2 (by with_unfolding_all exact rfl) _ (Ent.len _) (Ses.At.part_peer S1.out) ?_) | (with_reducible refine wpList_load_rec Win.isRec rfl _ rfl gS 16 (by with_unfolding_all exact rfl) _ (Win.len _) (Ses.At.part_seen S1.out) ?_) | (first | (with_reducible refine wpList_load_rec_w Ent.isRec (by kernel_rfl) _ rfl gS 2 (by with_unfolding_all exact rfl) _ (Ent.len _) (Ses.At.part_peer S1.out) ?_) | (with_reducible refine wpList_load_whole_w Ent.isRec (by kernel_rfl) _ rfl g (by with_unfolding_all exact rfl) _ _ (Ent.len _) E1.out ?_)))
      refine (CH.out w1).mono ?_
      rintro e2 w2 ⟨rfl, b2⟩
      have C2 : Hid (CellAt w2 gn (.int .u64 (t.nonce : Int))) := Lib.hid (C1.out.below b2)
      have E2 : Hid (Ent.At w2 g t.peer) := Lib.hid (Whole.below E1.out b2 E1.out.lt)
      have S2 : Hid (Ses.At w2 gS s) := Lib.hid (Whole.below S1.out b2 S1.out.lt)
      have B2 := Lib.hid (B1.out.trans (b2.mono B1.out.size))
      clear b2 C1 E1 S1 B1
      go_wp2
      go_ret
      exact ⟨rfl, B2.out⟩
set_option maxHeartbeats 1000000 in
theorem accepted_any (A : Option Addr) (m cap : Nat) (l : List Ses) (t : Ses) (w : World) (hm : m ≤ 1000000) (h : RowsAt w (.slice A m cap) 20 (l.map Ses.enc)) :
    Calls Try.prog 48 #[.slice A m cap, .int .u64 (t.nonce : Int), t.peer.val] w fun e w' => e = .returned (.bool (l.any (halfP t))) ∧ Below w.heap.size w w' := by
  have HH := Lib.hid h
  have hmf : ∀ (fn : Fn) (first cap : Array Value) (w : World), (Instr.makeFunc fn first cap).run Try.prog w = .ok (.func fn first cap) w := fun _ _ _ _ => rfl
  clear h
  go_enter Try.func48, Try.ntmps48
  go_wp2_with (refine wpList_box_one rfl 23 _ rfl (.int .u64 (t.nonce : Int)) (by with_unfolding_all exact rfl) (by with_unfolding_all exact rfl) ?_)
  intro wa b1 x1 z1
  obtain ⟨gn, hgn⟩ : ∃ q, q = w.heap.size := ⟨_, rfl⟩
  have BA := Lib.hid b1
  rw [← hgn] at x1 ⊢
  clear b1 z1 hgn
  have C0 : Hid (CellAt wa gn (.int .u64 (t.nonce : Int))) := Lib.hid (x1)
  clear x1
  go_wp2_with (refine wpList_box_row rfl 25 _ rfl t.peer.enc.toArray (by with_unfolding_all exact rfl) ?_)
  intro w1 b1 x1 z1
  obtain ⟨gE, hgE⟩ : ∃ g, g = wa.heap.size := ⟨_, rfl⟩
  have M_E := Lib.hid (show w.heap.size ≤ gE from by rw [hgE]; exact BA.out.size)
  have C1 : Hid (CellAt w1 gn (.int .u64 (t.nonce : Int))) := Lib.hid (C0.out.below b1)
  have B1 := Lib.hid (BA.out.trans (b1.mono BA.out.size))
  rw [← hgE] at x1 ⊢
  have E1 : Hid (Ent.At w1 gE t.peer) := Lib.hid x1
  clear b1 x1 z1 hgE C0 BA
  have CI := Lib.hid (containsFunc_any 53 #[.pointer (some ⟨gn, 0, none⟩), .pointer (some ⟨gE, 0, none⟩)] (halfP t) A m cap l w1 hm (HH.out.below B1.out) ⟨enter_acc1, fun s w' hb => acc1_any t _ _ s w' (C1.out.below hb) (Whole.below E1.out hb E1.out.lt)⟩)
  go_wp2_with (with_reducible refine wpList_load_whole Ent.isRec rfl _ rfl gE (by with_unfolding_all exact rfl) _ _ (Ent.len _) E1.out ?_)
  refine (CI.out).mono ?_
  rintro e2 w2 ⟨rfl, b2⟩
  have C2 : Hid (CellAt w2 gn (.int .u64 (t.nonce : Int))) := Lib.hid (C1.out.below b2)
  have E2 : Hid (Ent.At w2 gE t.peer) := Lib.hid (Whole.below E1.out b2 E1.out.lt)
  have B2 := Lib.hid (B1.out.trans (b2.mono B1.out.size))
  clear b2 C1 E1 B1
  clear CI hmf
  go_wp2
  go_ret
  exact ⟨rfl, B2.out⟩

set_option maxHeartbeats 1000000 in
theorem again_any (A : Option Addr) (m cap : Nat) (l : List Ses) (s : Ses) (w : World) (hm : m ≤ 1000000) (h : RowsAt w (.slice A m cap) 20 (l.map Ses.enc)) :
    Calls Try.prog 37 #[.slice A m cap, s.val] w fun e w' => e = .returned (.bool (againS l s)) ∧ Below w.heap.size w w' := by
  have HH := Lib.hid h
  have CW := Lib.hid (fun w => isWaiting_any s w)
  have C1 := Lib.hid (fun w h => tbWaits_any A m cap l s.nonce w hm h)
  have C2 := Lib.hid (fun w h => tbById_any A m cap l s.id w hm h)
  have C3 := Lib.hid (fun w h => accepted_any A m cap l s w hm h)
  have hF : againS l s = if decide (s.state = 1) then decide (0 ≤ firstS (waitsP s.nonce) l 0) else decide (0 ≤ firstS (byIdP s.id) l 0) || (decide (s.state = 2) && l.any (halfP s)) := by rw [againS]; simp only [decide_eq_true_eq]
  have n1 := (firstS_le (waitsP s.nonce) l 0).2
  have n2 := (firstS_le (byIdP s.id) l 0).2
  obtain ⟨r1, hr1⟩ : ∃ r, r = firstS (waitsP s.nonce) l 0 := ⟨_, rfl⟩
  obtain ⟨r2, hr2⟩ : ∃ r, r = firstS (byIdP s.id) l 0 := ⟨_, rfl⟩
  obtain ⟨r3, hr3⟩ : ∃ r, r = l.any (halfP s) := ⟨_, rfl⟩
  obtain ⟨q, hq⟩ : ∃ q, q = decide (s.state = 1) := ⟨_, rfl⟩
  obtain ⟨u, hu⟩ : ∃ q, q = decide (s.state = 2) := ⟨_, rfl⟩
  simp only [← hr1, ← hr2, ← hr3, ← hq, ← hu] at hF CW C1 C2 C3 n1 n2
  obtain ⟨t1, ht1⟩ : ∃ t, t = decide (0 ≤ r1) := ⟨_, rfl⟩
  obtain ⟨t2, ht2⟩ : ∃ t, t = decide (0 ≤ r2) := ⟨_, rfl⟩
  have e1 : (r1 != -1) = t1 := by rw [ht1, Bool.eq_iff_iff, bne_iff_ne, decide_eq_true_eq]; omega
  have e2 : (r2 != -1) = t2 := by rw [ht2, Bool.eq_iff_iff, bne_iff_ne, decide_eq_true_eq]; omega
  have e3 : (s.state == 2) = u := by rw [hu]; rfl
  rw [← ht1, ← ht2] at hF
  rw [hF]
  clear h hF hr1 hr2 hr3 hq hu ht1 ht2 n1 n2
  go_enter Try.func37, Try.ntmps37
  go_wp2_with (refine wpList_box_row rfl 36 _ rfl s.enc.toArray (by with_unfolding_all exact rfl) ?_)
  intro w1 b1 x1 z1
  obtain ⟨gS, hgS⟩ : ∃ g, g = w.heap.size := ⟨_, rfl⟩
  have M_S := Lib.hid (show w.heap.size ≤ gS from by rw [hgS]; exact Nat.le_refl _)
  have B1 := Lib.hid b1
  rw [← hgS] at x1 ⊢
  have S1 : Hid (Ses.At w1 gS s) := Lib.hid x1
  clear b1 x1 z1 hgS 
  go_wp2_with (first | (with_reducible refine wpList_load_whole Ses.isRec rfl _ rfl gS (by with_unfolding_all exact rfl) _ _ (Ses.len _) S1.out ?_) | (with_reducible refine wpList_load_rec Ent.isRec rfl _ rfl gS 2 (by with_unfolding_all exact rfl) _ (Ent.len _) (Ses.At.part_peer S1.out) ?_) | (with_reducible refine wpList_load_rec Win.isRec rfl _ rfl gS 16 (by with_unfolding_all exact rfl) _ (Win.len _) (Ses.At.part_seen S1.out) ?_))
  refine (CW.out w1).mono ?_
  rintro e2 w2 ⟨rfl, b2⟩
  have S2 : Hid (Ses.At w2 gS s) := Lib.hid (Whole.below S1.out b2 S1.out.lt)
  have B2 := Lib.hid (B1.out.trans (b2.mono B1.out.size))
  clear b2 S1 B1
  cases q with
  | true =>
    have c1 := Ses.At.at_nonce S2.out
    go_wp2_with (first | (with_reducible refine wpList_load_whole Ses.isRec rfl _ rfl gS (by with_unfolding_all exact rfl) _ _ (Ses.len _) S2.out ?_) | (with_reducible refine wpList_load_rec Ent.isRec rfl _ rfl gS 2 (by with_unfolding_all exact rfl) _ (Ent.len _) (Ses.At.part_peer S2.out) ?_) | (with_reducible refine wpList_load_rec Win.isRec rfl _ rfl gS 16 (by with_unfolding_all exact rfl) _ (Win.len _) (Ses.At.part_seen S2.out) ?_))
    refine (C1.out w2 (HH.out.below B2.out)).mono ?_
    rintro e3 w3 ⟨rfl, b3⟩
    have S3 : Hid (Ses.At w3 gS s) := Lib.hid (Whole.below S2.out b3 S2.out.lt)
    have B3 := Lib.hid (B2.out.trans (b3.mono B2.out.size))
    clear b3 S2 B2
    clear c1
    go_wp2
    go_ret
    exact ⟨rfl, B3.out⟩
  | false =>
    have c1 := Ses.At.at_id S2.out
    go_wp2_with (first | (with_reducible refine wpList_load_whole Ses.isRec rfl _ rfl gS (by with_unfolding_all exact rfl) _ _ (Ses.len _) S2.out ?_) | (with_reducible refine wpList_load_rec Ent.isRec rfl _ rfl gS 2 (by with_unfolding_all exact rfl) _ (Ent.len _) (Ses.At.part_peer S2.out) ?_) | (with_reducible refine wpList_load_rec Win.isRec rfl _ rfl gS 16 (by with_unfolding_all exact rfl) _ (Win.len _) (Ses.At.part_seen S2.out) ?_))
    refine (C2.out w2 (HH.out.below B2.out)).mono ?_
    rintro e3 w3 ⟨rfl, b3⟩
    have S3 : Hid (Ses.At w3 gS s) := Lib.hid (Whole.below S2.out b3 S2.out.lt)
    have B3 := Lib.hid (B2.out.trans (b3.mono B2.out.size))
    clear b3 S2 B2
    clear c1
    have c2 := Ses.At.at_state S3.out
    have c3 := Ses.At.at_nonce S3.out
    cases t2 with
    | true =>
      go_wp2
      go_ret
      exact ⟨rfl, B3.out⟩
    | false =>
      cases u with
      | false =>
        go_wp2
        go_ret
        exact ⟨rfl, B3.out⟩
      | true =>
        go_wp2_with (first | (with_reducible refine wpList_load_whole Ses.isRec rfl _ rfl gS (by with_unfolding_all exact rfl) _ _ (Ses.len _) S3.out ?_) | (with_reducible refine wpList_load_rec Ent.isRec rfl _ rfl gS 2 (by with_unfolding_all exact rfl) _ (Ent.len _) (Ses.At.part_peer S3.out) ?_) | (with_reducible refine wpList_load_rec Win.isRec rfl _ rfl gS 16 (by with_unfolding_all exact rfl) _ (Win.len _) (Ses.At.part_seen S3.out) ?_) | (with_reducible refine wpList_load_rec_w Ent.isRec (by kernel_rfl) _ rfl gS 2 (by with_unfolding_all exact rfl) _ (Ent.len _) (Ses.At.part_peer S3.out) ?_))
        refine (C3.out w3 (HH.out.below B3.out)).mono ?_
        rintro e4 w4 ⟨rfl, b4⟩
        have S4 : Hid (Ses.At w4 gS s) := Lib.hid (Whole.below S3.out b4 S3.out.lt)
        have B4 := Lib.hid (B3.out.trans (b4.mono B3.out.size))
        clear b4 S3 B3
        clear c2 c3
        go_wp2
        go_ret
        exact ⟨rfl, B4.out⟩
end Go.Proofs.Ytjohlnpalcmhbaa
