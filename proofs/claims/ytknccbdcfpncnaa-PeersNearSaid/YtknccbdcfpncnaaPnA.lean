/- Layer 24 as landed: who has a name, Place, Drop, has, ahead. -/
import Derived.Test.YtknccbdcfpncnaaPnM
import Derived.Test.YtknccbdcfpncnaaSlPeD
import Derived.Test.YtknccbdcfpncnaaAcD
namespace Go.Proofs.Ytknccbdcfpncnaa
set_option maxRecDepth 100000
open Go.RowKit

set_option maxRecDepth 100000
theorem enter_named1 : ∀ args w, (callFunc 45 args).run Try.prog w = .ok (.enter 45 args) w := by
  intro args w
  have hn : decide (Try.f45.name = "runtime.NumGoroutine") = false := by kernel_rfl
  have hb : Try.f45.body.isNone = false := by kernel_rfl
  exact enter_of Try.func45 hn hb args w
set_option maxHeartbeats 1000000 in
theorem named1_any (n : List UInt8) (g : Nat) (s : Peer) (w : World) (h : CellAt w g (.string ⟨n.toArray⟩)) :
    Calls Try.prog 45 #[s.val, .pointer (some ⟨g, 0, none⟩)] w fun e w' => e = .returned (.bool (nameQ n s)) ∧ Below w.heap.size w w' := by
  obtain ⟨q, hq⟩ : ∃ q, q = nameQ n s := ⟨_, rfl⟩
  have e1 : (s.entry.name == n) = q := by rw [hq, nameQ, Bool.eq_iff_iff, beq_iff_eq, decide_eq_true_eq]
  rw [← hq]
  clear hq
  go_enter Try.func45, Try.ntmps45
  have C0 : Hid (CellAt w g (.string ⟨n.toArray⟩)) := Lib.hid (h)
  clear h
  go_wp2_with (refine wpList_box_row rfl 27 _ rfl s.enc.toArray (by with_unfolding_all exact rfl) ?_)
  intro w1 b1 x1 z1
  obtain ⟨gS, hgS⟩ : ∃ g, g = w.heap.size := ⟨_, rfl⟩
  have M_S := Lib.hid (show w.heap.size ≤ gS from by rw [hgS]; exact Nat.le_refl _)
  have C1 : Hid (CellAt w1 g (.string ⟨n.toArray⟩)) := Lib.hid (C0.out.below b1)
  have B1 := Lib.hid b1
  rw [← hgS] at x1 ⊢
  have S1 : Hid (Peer.At w1 gS s) := Lib.hid x1
  clear b1 x1 z1 hgS C0
  have c1 := Peer.At.at_entry_name S1.out
  have c2 := C1.out.cell
  go_wp2
  go_ret
  exact ⟨rfl, B1.out⟩
/-- named answers a closure that tells who has that name. -/
theorem named_any (n : List UInt8) (w : World) :
    Calls Try.prog 34 #[.string ⟨n.toArray⟩] w fun e w' => ∃ g, e = .returned (.func (.func 45) #[] #[.pointer (some ⟨g, 0, none⟩)]) ∧ (w.heap.size ≤ g ∧ CellAt w' g (.string ⟨n.toArray⟩)) ∧ Below w.heap.size w w' := by
  have hmf : ∀ (fn : Fn) (first cap : Array Value) (w : World), (Instr.makeFunc fn first cap).run Try.prog w = .ok (.func fn first cap) w := fun _ _ _ _ => rfl
  go_enter Try.func34, Try.ntmps34
  go_wp2_with (refine wpList_box_one rfl 9 _ rfl (.string ⟨n.toArray⟩) (by with_unfolding_all exact rfl) (by with_unfolding_all exact rfl) ?_)
  intro wa b1 x1 z1
  have BA := Lib.hid b1
  have XA := Lib.hid x1
  clear b1 z1 x1
  go_wp2
  go_ret
  exact ⟨_, rfl, ⟨Nat.le_refl _, XA.out⟩, BA.out⟩

set_option maxHeartbeats 1000000 in
theorem place_any (A : Option Addr) (m cap : Nat) (l : List Peer) (n : List UInt8) (w : World) (hm : m ≤ 1000000) (h : RowsAt w (.slice A m cap) 8 (l.map Peer.enc)) :
    Calls Try.prog 17 #[.slice A m cap, .string ⟨n.toArray⟩] w fun e w' => e = .returned (.int .i64 (placeQ l n)) ∧ Below w.heap.size w w' := by
  have HR := Lib.hid h
  have CN := Lib.hid (named_any n w)
  obtain ⟨R, hR⟩ : ∃ R, R = placeQ l n := ⟨_, rfl⟩
  have HV := Lib.hid hR
  rw [← hR]
  clear h hR
  go_enter Try.func17, Try.ntmps17
  go_wp2_with fail
  refine CN.out.mono ?_
  rintro e w1 ⟨g, rfl, ht, b1⟩
  have B1 := Lib.hid b1
  have CI : Hid (Calls Try.prog 36 #[.slice A m cap, .func (.func 45) #[] #[.pointer (some ⟨g, 0, none⟩)]] w1 fun e w' => e = .returned (.int .i64 R) ∧ Below w1.heap.size w1 w') := Lib.hid (by
    rw [HV.out]
    exact indexFuncPe_any _ _ (nameQ n) A m cap l w1 hm (HR.out.below b1) ⟨enter_named1, fun s w' hb => named1_any n _ s w' (ht.2.below hb)⟩)
  clear ht b1 CN HR
  go_wp2_with fail
  refine CI.out.mono ?_
  rintro e w2 ⟨rfl, b2⟩
  have B2 := Lib.hid (B1.out.trans (b2.mono B1.out.size))
  clear b2 CI
  go_wp2
  go_ret
  exact ⟨rfl, B2.out⟩

set_option maxHeartbeats 1000000 in
theorem drop_any (A : Option Addr) (m cap : Nat) (l : List Peer) (n : List UInt8) (base : Nat) (w : World) (hb : base ≤ w.heap.size) (hl : l.length ≤ 100000) (h : RowsAt w (.slice A m cap) 8 (l.map Peer.enc)) :
    Calls Try.prog 13 #[.slice A m cap, .string ⟨n.toArray⟩] w fun e w' => ∃ v, e = .returned v ∧ OwnRows w' base 27 8 v ((dropQ l n).map Peer.enc) ∧ Below w.heap.size w w' := by
  have HB := Lib.hid hb
  have HL := Lib.hid hl
  have HR := Lib.hid h
  clear hb hl h
  go_enter Try.func13, Try.ntmps13
  go_wp2_with (with_reducible refine wpList_build_1Pe rfl _ rfl A m cap l (by with_unfolding_all exact rfl) HR.out ?_)
  intro wp bp xp
  have BP := Lib.hid bp
  have XP := Lib.hid xp
  clear bp xp
  go_wp2_with fail
  refine (concatPe_any _ 1 [l] rfl w.heap.size wp BP.out.size XP.out (by decide) (by have := HL.out; simp; omega)).mono ?_
  rintro e wq ⟨v, rfl, oq, bq⟩
  have OQ : Hid (OwnRows wq w.heap.size 27 8 v (l.map Peer.enc)) := Lib.hid (oq.eqL (by simp))
  have BQ := Lib.hid (BP.out.trans (bq.mono BP.out.size))
  clear oq bq BP XP
  go_wp2_with fail
  refine (named_any n wq).mono ?_
  rintro e wr ⟨g, rfl, ht, br⟩
  have OR := Lib.hid (OQ.out.below br rfl)
  have OW := Lib.hid OQ.out
  have BR := Lib.hid (BQ.out.trans (br.mono BQ.out.size))
  have HT := Lib.hid ht
  clear br ht BQ OQ
  go_wp2_with fail
  have HG : Hid (∀ k, v.ownBlock = some k → some g ≠ some k) := Lib.hid (fun k hk e => by injection e with e; have := (OW.out.lt k hk).2; have := HT.out.1; omega)
  refine (deleteFuncPe_any w 45 #[.pointer (some ⟨g, 0, none⟩)] (nameQ n) (fun w => CellAt w g (.string ⟨n.toArray⟩)) enter_named1 (fun s w h => named1_any n _ s w h) (fun _ _ h b => h.below b) v (fun k _ _ hk h q => h.far q (HG.out k hk)) l HL.out wr HT.out.2 BR.out OR.out).mono ?_
  rintro e w3 ⟨v', rfl, o3, b3⟩
  have O3 := Lib.hid o3
  have B3 := Lib.hid b3
  clear o3 b3 OR BR OW HG
  go_wp2
  go_ret
  exact ⟨v', rfl, O3.out.less HB.out, B3.out⟩

theorem enter_has1 : ∀ args w, (callFunc 42 args).run Try.prog w = .ok (.enter 42 args) w := by
  intro args w
  have hn : decide (Try.f42.name = "runtime.NumGoroutine") = false := by kernel_rfl
  have hb : Try.f42.body.isNone = false := by kernel_rfl
  exact enter_of Try.func42 hn hb args w
set_option maxHeartbeats 1000000 in
theorem has1_any (t : Ent) (g : Nat) (s : Peer) (w : World) (h : Ent.At w g t) :
    Calls Try.prog 42 #[s.val, .pointer (some ⟨g, 0, none⟩)] w fun e w' => e = .returned (.bool (decide (s.entry = t))) ∧ Below w.heap.size w w' := by
  have r1 : ∀ w, (binOp .eql 24 s.entry.val t.val).run Try.prog w = .ok (.bool (decide (s.entry = t))) w := Ent.eq_run _ _
  generalize decide (s.entry = t) = q at r1 ⊢
  go_enter Try.func42, Try.ntmps42
  have E0 : Hid (Ent.At w g t) := Lib.hid (h)
  clear h
  go_wp2_with (first | (with_reducible refine wpList_load_whole Ent.isRec rfl _ rfl None (by with_unfolding_all exact rfl) _ _ (Ent.len _) E0.out ?_) | (refine wpList_box_row rfl 27 _ rfl s.enc.toArray (by with_unfolding_all exact rfl) ?_))
  intro w1 b1 x1 z1
  obtain ⟨gS, hgS⟩ : ∃ g, g = w.heap.size := ⟨_, rfl⟩
  have M_S := Lib.hid (show w.heap.size ≤ gS from by rw [hgS]; exact Nat.le_refl _)
  have E1 : Hid (Ent.At w1 g t) := Lib.hid (Whole.below E0.out b1 E0.out.lt)
  have B1 := Lib.hid b1
  rw [← hgS] at x1 ⊢
  have S1 : Hid (Peer.At w1 gS s) := Lib.hid x1
  clear b1 x1 z1 hgS E0
  go_wp2_with (first | (with_reducible refine wpList_load_rec Ent.isRec rfl _ rfl gS 0 (by with_unfolding_all exact rfl) _ (Ent.len _) (Peer.At.part_entry S1.out) ?_) | (with_reducible refine wpList_load_whole Ent.isRec rfl _ rfl g (by with_unfolding_all exact rfl) _ _ (Ent.len _) E1.out ?_))
  go_ret
  exact ⟨rfl, B1.out⟩
set_option maxHeartbeats 1000000 in
theorem has_any (A : Option Addr) (m cap : Nat) (l : List Peer) (t : Ent) (w : World) (hm : m ≤ 1000000) (h : RowsAt w (.slice A m cap) 8 (l.map Peer.enc)) :
    Calls Try.prog 29 #[.slice A m cap, t.val] w fun e w' => e = .returned (.bool (hasQ l t)) ∧ Below w.heap.size w w' := by
  have HH := Lib.hid h
  have hmf : ∀ (fn : Fn) (first cap : Array Value) (w : World), (Instr.makeFunc fn first cap).run Try.prog w = .ok (.func fn first cap) w := fun _ _ _ _ => rfl
  clear h
  go_enter Try.func29, Try.ntmps29
  go_wp2_with (refine wpList_box_row rfl 24 _ rfl t.enc.toArray (by with_unfolding_all exact rfl) ?_)
  intro w1 b1 x1 z1
  obtain ⟨gE, hgE⟩ : ∃ g, g = w.heap.size := ⟨_, rfl⟩
  have M_E := Lib.hid (show w.heap.size ≤ gE from by rw [hgE]; exact Nat.le_refl _)
  have B1 := Lib.hid b1
  rw [← hgE] at x1 ⊢
  have E1 : Hid (Ent.At w1 gE t) := Lib.hid x1
  clear b1 x1 z1 hgE 
  have CI := Lib.hid (containsFuncPe_any 42 #[.pointer (some ⟨gE, 0, none⟩)] (fun p => decide (p.entry = t)) A m cap l w1 hm (HH.out.below B1.out) ⟨enter_has1, fun s w' hb => has1_any t _ s w' (Whole.below E1.out hb E1.out.lt)⟩)
  go_wp2_with (with_reducible refine wpList_load_whole Ent.isRec rfl _ rfl gE (by with_unfolding_all exact rfl) _ _ (Ent.len _) E1.out ?_)
  refine (CI.out).mono ?_
  rintro e2 w2 ⟨rfl, b2⟩
  have E2 : Hid (Ent.At w2 gE t) := Lib.hid (Whole.below E1.out b2 E1.out.lt)
  have B2 := Lib.hid (B1.out.trans (b2.mono B1.out.size))
  clear b2 E1 B1
  clear CI hmf
  go_wp2
  go_ret
  exact ⟨rfl, B2.out⟩
end Go.Proofs.Ytknccbdcfpncnaa
