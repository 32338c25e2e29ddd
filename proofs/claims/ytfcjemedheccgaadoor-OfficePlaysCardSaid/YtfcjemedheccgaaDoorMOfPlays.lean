/- OfficePlays' core. -/
import Derived.Test.YtfcjemedheccgaaDoorMOfD2
import Derived.Test.YtfcjemedheccgaaDoorGbg
namespace Go.Proofs.YtfcjemedheccgaaDoor
set_option maxRecDepth 100000
open Go.RowKit

structure PlAt (W wr : World) (g g2 : Nat) (v u v2 u2 : Value) (s : OS) : Prop where
  both : Both wr g g2 v u v2 u2 s
  feet : ∀ i, Foot g v u i ∨ Foot g2 v2 u2 i → W.heap.size ≤ i
  low : Below W.heap.size W wr
theorem PlAt.below {W wr w' : World} {g g2 : Nat} {v u v2 u2 : Value} {s : OS} (h : PlAt W wr g g2 v u v2 u2 s) (b : Below wr.heap.size wr w') : PlAt W w' g g2 v u v2 u2 s := ⟨h.both.below b, h.feet, h.low.trans (b.mono h.low.size)⟩
theorem PlAt.done {W wr w' : World} {g g2 : Nat} {v u v2 u2 : Value} {s s' : OS} (h : PlAt W wr g g2 v u v2 u2 s) (d : Done wr w' g g2 v u v2 u2 s') : ∃ v' u' v2' u2', PlAt W w' g g2 v' u' v2' u2' s' := by
  obtain ⟨v', u', v2', u2', b, m⟩ := d
  exact ⟨v', u', v2', u2', b, fun i q => (m.foot i q).elim (h.feet i) (fun z => Nat.le_trans h.low.size z), h.low.trans (m.keeps.below h.feet h.low.size)⟩
theorem PlAt.away {W wr : World} {g g2 : Nat} {v u v2 u2 : Value} {s : OS} (h : PlAt W wr g g2 v u v2 u2 s) (T : Tab W) : Away (Foot g v u) := fun k => by have := h.feet _ (.inl k); have := T.pos; omega
set_option maxHeartbeats 4000000 in
theorem offPlays_core (seed : List UInt8) (len : Int) (A : Option Addr) (m cap : Nat) (l : List Deed) (hid : ∀ d ∈ l, d.id < 18446744073709551616) (w : World) (T : Tab w) (h : RowsAt w (.slice A m cap) 5 (l.map Deed.enc)) :
    Calls Tryd.prog 3 #[.string ⟨seed.toArray⟩, .int .i64 len, .slice A m cap] w fun e w' => e = .returned (.bool true) ∧ Below w.heap.size w w' := by
  have H := Lib.hid h
  have hlen := h.size.1
  rw [List.length_map] at hlen
  have HL := Lib.hid hlen
  have T0 := Lib.hid T
  have HID := Lib.hid hid
  have CG := Lib.hid (greatD_any A m cap l w h)
  have WK := fun w t => Lib.hid (works14 w t)
  by_cases hs : 300 < seed.length
  · have d : decide ((seed.length : Int) > 300) = true := by simp; omega
    have d' : decide ((300 : Int) < (seed.length : Int)) = true := by simp; omega
    have d'' : decide (300 < seed.length) = true := by simp; omega
    clear hs h hlen T hid
    go_enter Tryd.func3, Tryd.ntmps3
    go_wp2_with fail
    refine (WK w T0.out).out.mono ?_
    rintro e w1 ⟨rfl, b1⟩
    have B1 := Lib.hid b1
    clear b1
    go_wp2
    go_ret
    exact ⟨rfl, B1.out⟩
  have d : decide ((seed.length : Int) > 300) = false := by simp; omega
  have d' : decide ((300 : Int) < (seed.length : Int)) = false := by simp; omega
  have d'' : decide (300 < seed.length) = false := by simp; omega
  have HS : Hid (seed.length ≤ 4000) := Lib.hid (by omega)
  obtain ⟨q, hq⟩ : ∃ q, q = greatD l := ⟨_, rfl⟩
  have HQ := Lib.hid hq
  rw [← hq] at CG
  clear hs h hlen T hid hq
  cases q with
  | true =>
    go_enter Tryd.func3, Tryd.ntmps3
    go_wp2_with fail
    refine CG.out.mono ?_
    rintro e w1 ⟨rfl, rfl⟩
    go_wp2_with fail
    refine (WK _ T0.out).out.mono ?_
    rintro e w1 ⟨rfl, b1⟩
    have B1 := Lib.hid b1
    clear b1
    go_wp2
    go_ret
    exact ⟨rfl, B1.out⟩
  | false =>
    obtain ⟨hm20, hnm⟩ := greatD_no HQ.out.symm
    have HNM := Lib.hid hnm
    have HM20 : Hid (m ≤ 20) := Lib.hid (by rw [HL.out]; exact hm20)
    clear hm20 hnm
    by_cases hk : keyBad len 0
    · have C1 := fun w t => Lib.hid (offNew_bad seed len HS.out hk w t)
      have C2 := fun w => Lib.hid (rffNew_bad seed len HS.out hk w)
      clear hk
      go_enter Tryd.func3, Tryd.ntmps3
      go_wp2_with fail
      refine CG.out.mono ?_
      rintro e w1 ⟨rfl, rfl⟩
      go_wp2_with fail
      refine (C1 _ T0.out).out.mono ?_
      rintro e w1 ⟨rfl, b1⟩
      have B1 := Lib.hid b1
      clear b1
      go_wp2_with fail
      refine (C2 w1).out.mono ?_
      rintro e w2 ⟨rfl, b2⟩
      have B2 := Lib.hid (B1.out.trans (b2.mono B1.out.size))
      clear b2 C1 C2 CG B1
      go_wp2_with fail
      go_loopw [11] (fun i wr => i = .int .i64 0 ∧ Below w.heap.size w wr) (fun _ _ => 0)
      case atStart => exact ⟨rfl, B2.out⟩
      case round =>
        clear B2
        obtain ⟨rfl, hb⟩ := hrel
        have B2 := Lib.hid hb
        clear hb
        by_cases h0 : 0 < m
        · have d0 : decide ((0 : Int) < (m : Int)) = true := by simp; omega
          have d1 : decide (0 < m) = true := by simp; omega
          clear h0
          go_wp2_with fail
          refine (WK wr (T0.out.below B2.out T0.out.pos)).out.mono ?_
          rintro e w3 ⟨rfl, b3⟩
          have B3 := Lib.hid (B2.out.trans (b3.mono B2.out.size))
          clear b3
          go_wp2
          go_ret
          exact ⟨rfl, B3.out⟩
        · have d0 : decide ((0 : Int) < (m : Int)) = false := by simp; omega
          have d1 : decide (0 < m) = false := by simp; omega
          clear h0
          go_wp2_with fail
          refine (WK wr (T0.out.below B2.out T0.out.pos)).out.mono ?_
          rintro e w3 ⟨rfl, b3⟩
          have B3 := Lib.hid (B2.out.trans (b3.mono B2.out.size))
          clear b3
          go_wp2
          go_ret
          exact ⟨rfl, B3.out⟩
    · have C1 := fun w t => Lib.hid (offNew_good seed len HS.out hk w t)
      have C2 := fun w => Lib.hid (rffNew_good seed len HS.out hk w)
      obtain ⟨s0, hs0⟩ : ∃ q : OS, q = ⟨seed, len, 0, [], []⟩ := ⟨_, rfl⟩
      rw [← hs0] at C1 C2
      have OK0 : Hid (s0.Ok 0) := Lib.hid (by
        simp only [keyBad, not_or, Int.not_lt] at hk
        rw [hs0]
        exact ⟨HS.out, hk.1, hk.2.1, Int.le_refl _, by show (0 : Int) ≤ len; omega, Nat.le_refl _, Nat.le_refl _, fun e he => by cases he⟩)
      have OKK : Hid (∀ k, k ≤ 20 → (deedsS s0 (l.take k)).Ok (2 ^ (k + 1))) := Lib.hid (fun k hk => OK0.out.deeds_in _ k (by rw [List.length_take]; omega) (fun d hd => by
        have := List.mem_of_mem_take hd
        exact ⟨HNM.out d this, HID.out d this⟩))
      clear hk hs0
      go_enter Tryd.func3, Tryd.ntmps3
      go_wp2_with fail
      refine CG.out.mono ?_
      rintro e w1 ⟨rfl, rfl⟩
      go_wp2_with fail
      refine (C1 _ T0.out).out.mono ?_
      rintro e w1 ⟨g, rfl, o1, hg, b1⟩
      have O1 := Lib.hid o1
      have B1 := Lib.hid b1
      have G1 := Lib.hid hg
      clear b1 o1 hg
      go_wp2_with fail
      refine (C2 w1).out.mono ?_
      rintro e w2 ⟨g2, rfl, r2, hg2, b2⟩
      have I2 : Hid (∃ v u v2 u2, PlAt w w2 g g2 v u v2 u2 (deedsS s0 (l.take 0))) := Lib.hid ⟨.slice none 0 0, .slice none 0 0, .slice none 0 0, .slice none 0 0, ⟨O1.out.below b2, r2, fun i k k2 => by
        have := O1.out.lt i k
        rcases k2 with e | e | e
        · omega
        · cases e
        · cases e⟩, (fun i k => by
        rcases k with e | e
        · rcases e with e | e | e
          · have := G1.out; omega
          · cases e
          · cases e
        · rcases e with e | e | e
          · have := G1.out; have := B1.out.size; omega
          · cases e
          · cases e), B1.out.trans (b2.mono B1.out.size)⟩
      clear b2 r2 hg2 C1 C2 CG B1 O1 G1
      go_wp2_with fail
      go_loopw [11] (fun i wr => ∃ k : Nat, k ≤ m ∧ i = .int .i64 (k : Int) ∧ ∃ v u v2 u2, PlAt w wr g g2 v u v2 u2 (deedsS s0 (l.take k))) (fun i _ => m - (intOf i).toNat)
      case atStart => exact ⟨0, Nat.zero_le _, rfl, I2.out⟩
      case round =>
        clear I2
        obtain ⟨k, hk, rfl, v, u, v2, u2, hr⟩ := hrel
        have I := Lib.hid hr
        clear hr
        by_cases hlt : k < m
        · have dk : decide ((k : Int) < (m : Int)) = true := by simp; omega
          have jk : (k : Int) < (m : Int) := by omega
          have r4 : IntKind.i64.wrap ((k : Int) + 1) = ((k + 1 : Nat) : Int) := by have := HM20.out; rw [IntWalk.i64_in _ (by omega)]; omega
          obtain ⟨x, hx⟩ : ∃ x, l[k]? = some x := ⟨_, List.getElem?_eq_getElem (by rw [← HL.out]; exact hlt)⟩
          obtain ⟨gl, off, rfl, hgl, hc⟩ := H.out.row (fun c hc => (deedC_one l c hc).1) (by decide) (by rw [List.getElem?_map, hx]; rfl : (l.map Deed.enc)[k]? = some x.enc)
          have HC := Lib.hid hc
          have HGL := Lib.hid hgl
          have HX : Hid (x.name.length ≤ 300 ∧ x.id < 18446744073709551616) := Lib.hid (by have := List.mem_of_getElem? hx; exact ⟨HNM.out x this, HID.out x this⟩)
          have HT : Hid (deedsS s0 (l.take (k + 1)) = deedS (deedsS s0 (l.take k)) x) := Lib.hid (by rw [List.take_add_one, hx]; exact deedsS_snoc s0 _ x)
          have OK1 : Hid ((deedsS s0 (l.take k)).Ok 1048576) := Lib.hid ((OKK.out k (by have := HM20.out; omega)).mono (Nat.le_trans (Nat.pow_le_pow_right (by decide : 2 > 0) (by have := HM20.out; omega : k + 1 ≤ 20)) (by decide : 2 ^ 20 ≤ 1048576)))
          have OK2 : Hid ((deedsS s0 (l.take (k + 1))).Ok 2097152) := Lib.hid ((OKK.out (k + 1) (by have := HM20.out; omega)).mono (Nat.le_trans (Nat.pow_le_pow_right (by decide : 2 > 0) (by have := HM20.out; omega : k + 1 + 1 ≤ 21)) (by decide : 2 ^ 21 ≤ 2097152)))
          clear hx hc hgl
          go_wp2_with fail
          have S1 : Hid (Below w.heap.size w wr.drew) := Lib.hid I.out.low.drew
          have I1 : Hid (PlAt w wr.drew g g2 v u v2 u2 (deedsS s0 (l.take k))) := Lib.hid (I.out.below (Below.refl _ _).drew)
          refine regS_begin (fun w' => Below w.heap.size w w') (by kernel_rfl) S1.out ?_
          obtain ⟨w3, hw3⟩ : ∃ q, q = wr.drew := ⟨_, rfl⟩
          rw [← hw3] at S1 I1 ⊢
          clear hw3 I
          have hS := S1.out
          refine regS_take (i := 0) (v := ?_) rfl (by kernel_rfl) (by kernel_rfl) (by kernel_rfl) (fun _ _ _ h => h) (by rfl) hS ?hy0 ?_
          case hy0 => intro w' hw'; go_simp; (try with_reducible rfl)
          simp only [Act.put, List.setIfInBounds_toArray, List.set_cons_zero, List.set_cons_succ]
          refine regS_take (i := 1) (v := ?_) rfl (by kernel_rfl) (by kernel_rfl) (by kernel_rfl) (fun _ _ _ h => h) (by rfl) hS ?hy1 ?_
          case hy1 => intro w' hw'; go_simp; (try with_reducible rfl)
          simp only [Act.put, List.setIfInBounds_toArray, List.set_cons_zero, List.set_cons_succ]
          refine regS_take (i := 2) (v := ?_) rfl (by kernel_rfl) (by kernel_rfl) (by kernel_rfl) (fun _ _ _ h => h) (by rfl) hS ?hy2 ?_
          case hy2 => intro w' hw'; go_simp; (try with_reducible rfl)
          simp only [Act.put, List.setIfInBounds_toArray, List.set_cons_zero, List.set_cons_succ]
          refine regS_take (i := 3) (v := ?_) rfl (by kernel_rfl) (by kernel_rfl) (by kernel_rfl) (fun _ _ _ h => h) (by rfl) hS ?hy3 ?_
          case hy3 => intro w' hw'; go_simp; (try with_reducible rfl)
          simp only [Act.put, List.setIfInBounds_toArray, List.set_cons_zero, List.set_cons_succ]
          refine regS_take (i := 4) (v := ?_) rfl (by kernel_rfl) (by kernel_rfl) (by kernel_rfl) (fun _ _ _ h => h) (by rfl) hS ?hy4 ?_
          case hy4 => intro w' hw'; go_simp; (try with_reducible rfl)
          simp only [Act.put, List.setIfInBounds_toArray, List.set_cons_zero, List.set_cons_succ]
          refine regS_take (i := 5) (v := x.val) rfl (by kernel_rfl) (by kernel_rfl) (by kernel_rfl) (fun _ _ _ h => h) (by rfl) hS ?hy5 ?_
          case hy5 => intro w' hw'; exact exec_load_rec Deed.isRec _ rfl gl (off + k * 5) rfl x.enc (Deed.len _) w' (fun j u hj => (hw'.cell (p := ⟨gl, off + k * 5 + j, none⟩) HGL.out).trans (HC.out j u hj))
          simp only [Act.put, List.setIfInBounds_toArray, List.set_cons_zero, List.set_cons_succ]
          clear hS
          refine regS_do (i := 6) rfl (by kernel_rfl) (fun K' hK => ?_)
          go_simp
          refine (does_any g g2 v u v2 u2 (deedsS s0 (l.take k)) 1048576 OK1.out (by decide) x (by have := HX.out.1; omega) HX.out.2 w3 (T0.out.below S1.out T0.out.pos) (I1.out.away T0.out) I1.out.both).mono ?_
          rintro e w4 ⟨rfl, dn⟩
          obtain ⟨v', u', v2', u2', i4⟩ := I1.out.done dn
          rw [← HT.out] at i4
          obtain ⟨S, hSS⟩ : ∃ q, q = deedsS s0 (l.take (k + 1)) := ⟨_, rfl⟩
          have HSS := Lib.hid hSS
          rw [← hSS] at i4 OK2
          have I4 := Lib.hid i4
          have L4 := Lib.hid i4.low
          refine hK.out _ _ L4.out ?_
          clear hK K' dn i4 I1 S1 hSS
          refine anyH_mono (S' := From w4) (fun w' hb => L4.out.trans (hb.mono L4.out.size)) _ _ _ _ ?_
          have CG1 := fun w t o => Lib.hid (offGate_any g v' u' S 2097152 OK2.out w t o)
          have CG2 := fun w o => Lib.hid (rffGate_any g2 v2' u2' S OK2.out.seed w o)
          have CI := fun w o => Lib.hid (issued_rows g v' u' S 2097152 OK2.out (by decide) w o)
          have CS := fun a b w x y => Lib.hid (refEntsSame_any_v a b S.issued S.issued (by have := OK2.out.many; omega) w x y)
          simp only at CS
          have HGQ : Hid (false = !eqCells (Gate.enc ⟨S.idx, S.key⟩) (Gate.enc ⟨S.idx, S.key⟩)) := Lib.hid (by rw [Gate.same]; simp)
          have I0 : Hid (PlAt w w4 g g2 v' u' v2' u2' S) := Lib.hid (I4.out)
          refine reg_take (i := 7) (v := ?_) rfl (by kernel_rfl) (by kernel_rfl) (by kernel_rfl) (fun _ _ _ h => h) (by rfl) ?hy7 ?_
          case hy7 => intro w' hw'; go_simp; (try with_reducible rfl)
          simp only [Act.put, List.setIfInBounds_toArray, List.set_cons_zero, List.set_cons_succ]
          refine reg_take (i := 8) (v := ?_) rfl (by kernel_rfl) (by kernel_rfl) (by kernel_rfl) (fun _ _ _ h => h) (by rfl) ?hy8 ?_
          case hy8 => intro w' hw'; go_simp; (try with_reducible rfl)
          simp only [Act.put, List.setIfInBounds_toArray, List.set_cons_zero, List.set_cons_succ]
          refine reg_take (i := 9) (v := ?_) rfl (by kernel_rfl) (by kernel_rfl) (by kernel_rfl) (fun _ _ _ h => h) (by rfl) ?hy9 ?_
          case hy9 => intro w' hw'; go_simp; (try with_reducible rfl)
          simp only [Act.put, List.setIfInBounds_toArray, List.set_cons_zero, List.set_cons_succ]
          refine reg_take (i := 11) (v := ?_) rfl (by kernel_rfl) (by kernel_rfl) (by kernel_rfl) (fun _ _ _ h => h) (by rfl) ?hy11 ?_
          case hy11 => intro w' hw'; go_simp; (try with_reducible rfl)
          simp only [Act.put, List.setIfInBounds_toArray, List.set_cons_zero, List.set_cons_succ]
          refine reg_call (i := 10) rfl (by kernel_rfl) (fun K' hK => ?_)
          go_simp
          refine ((CG1 w4 (T0.out.below L4.out T0.out.pos) I0.out.both.off).out).mono ?_
          rintro e1 w1 ⟨rfl, b1⟩
          have I1 : Hid (PlAt w w1 g g2 v' u' v2' u2' S) := Lib.hid (I0.out.below b1)
          have B1 := Lib.hid (L4.out.trans (b1.mono L4.out.size))
          refine hK.out _ _ b1 ?_
          clear hK K' b1 I0 L4
          refine reg_call (i := 12) rfl (by kernel_rfl) (fun K' hK => ?_)
          go_simp
          refine ((CG2 w1 I1.out.both.rff).out).mono ?_
          rintro e2 w2 ⟨rfl, b2⟩
          have I2 : Hid (PlAt w w2 g g2 v' u' v2' u2' S) := Lib.hid (I1.out.below b2)
          have B2 := Lib.hid (B1.out.trans (b2.mono B1.out.size))
          refine hK.out _ _ b2 ?_
          clear hK K' b2 I1 B1
          refine reg_take (i := 13) (v := .bool false) rfl (by kernel_rfl) (by kernel_rfl) (by kernel_rfl) (fun _ _ _ h => h) (by rfl) ?hy13 ?_
          case hy13 => intro w' hw'; exact exec_neq_rec Gate.isRec _ _ _ rfl (Gate.enc ⟨S.idx, S.key⟩) (Gate.enc ⟨S.idx, S.key⟩) (Gate.fits _) (Gate.fits _) rfl rfl false HGQ.out w'
          simp only [Act.put, List.setIfInBounds_toArray, List.set_cons_zero, List.set_cons_succ]
          refine reg_take (i := 14) (v := ?_) rfl (by kernel_rfl) (by kernel_rfl) (by kernel_rfl) (fun _ _ _ h => h) (by rfl) ?hy14 ?_
          case hy14 => intro w' hw'; go_simp; (try with_reducible rfl)
          simp only [Act.put, List.setIfInBounds_toArray, List.set_cons_zero, List.set_cons_succ]
          refine reg_take (i := 15) (v := ?_) rfl (by kernel_rfl) (by kernel_rfl) (by kernel_rfl) (fun _ _ _ h => h) (by rfl) ?hy15 ?_
          case hy15 => intro w' hw'; go_simp; (try with_reducible rfl)
          simp only [Act.put, List.setIfInBounds_toArray, List.set_cons_zero, List.set_cons_succ]
          refine reg_take (i := 16) (v := ?_) rfl (by kernel_rfl) (by kernel_rfl) (by kernel_rfl) (fun _ _ _ h => h) (by rfl) ?hy16 ?_
          case hy16 => intro w' hw'; go_simp; (try with_reducible rfl)
          simp only [Act.put, List.setIfInBounds_toArray, List.set_cons_zero, List.set_cons_succ]
          refine reg_take (i := 18) (v := ?_) rfl (by kernel_rfl) (by kernel_rfl) (by kernel_rfl) (fun _ _ _ h => h) (by rfl) ?hy18 ?_
          case hy18 => intro w' hw'; go_simp; (try with_reducible rfl)
          simp only [Act.put, List.setIfInBounds_toArray, List.set_cons_zero, List.set_cons_succ]
          refine reg_take (i := 19) (v := ?_) rfl (by kernel_rfl) (by kernel_rfl) (by kernel_rfl) (fun _ _ _ h => h) (by rfl) ?hy19 ?_
          case hy19 => intro w' hw'; go_simp; (try with_reducible rfl)
          simp only [Act.put, List.setIfInBounds_toArray, List.set_cons_zero, List.set_cons_succ]
          refine reg_take (i := 20) (v := ?_) rfl (by kernel_rfl) (by kernel_rfl) (by kernel_rfl) (fun _ _ _ h => h) (by rfl) ?hy20 ?_
          case hy20 => intro w' hw'; go_simp; (try with_reducible rfl)
          simp only [Act.put, List.setIfInBounds_toArray, List.set_cons_zero, List.set_cons_succ]
          refine reg_take (i := 21) (v := v2') rfl (by kernel_rfl) (by kernel_rfl) (by kernel_rfl) (fun _ _ _ h => h) (by rfl) ?hy21 ?_
          case hy21 => intro w' hw'; have c := RffAt.c3 (I2.out.below hw').both.rff; go_simp; (try with_reducible rfl)
          simp only [Act.put, List.setIfInBounds_toArray, List.set_cons_zero, List.set_cons_succ]
          refine reg_call (i := 17) rfl (by kernel_rfl) (fun K' hK => ?_)
          go_simp
          refine ((CI w2 I2.out.both.off).out).mono ?_
          rintro e3 w3 ⟨y, rfl, o, b3⟩
          have I3 : Hid (PlAt w w3 g g2 v' u' v2' u2' S) := Lib.hid (I2.out.below b3)
          have B3 := Lib.hid (B2.out.trans (b3.mono B2.out.size))
          have X3 : Hid (RowsAt w3 y 6 (S.issued.map Ent.enc)) := Lib.hid o
          refine hK.out _ _ b3 ?_
          clear hK K' b3 I2 B2 o
          refine reg_call (i := 22) rfl (by kernel_rfl) (fun K' hK => ?_)
          go_simp
          refine ((CS y v2' w3 X3.out I3.out.both.rff.rows.rows).out).mono ?_
          rintro e4 w4 ⟨rfl, b4⟩
          have I4 : Hid (PlAt w w4 g g2 v' u' v2' u2' S) := Lib.hid (I3.out.below b4)
          have X4 : Hid (RowsAt w4 y 6 (S.issued.map Ent.enc)) := Lib.hid (X3.out.below b4)
          have B4 := Lib.hid (B3.out.trans (b4.mono B3.out.size))
          refine hK.out _ _ b4 ?_
          clear hK K' b4 I3 X3 B3
          refine reg_take (i := 23) (v := ?_) rfl (by kernel_rfl) (by kernel_rfl) (by kernel_rfl) (fun _ _ _ h => h) (by rfl) ?hy23 ?_
          case hy23 => intro w' hw'; go_simp; (try with_reducible rfl)
          simp only [Act.put, List.setIfInBounds_toArray, List.set_cons_zero, List.set_cons_succ]
          refine reg_take (i := 24) (v := ?_) rfl (by kernel_rfl) (by kernel_rfl) (by kernel_rfl) (fun _ _ _ h => h) (by rfl) ?hy24 ?_
          case hy24 => intro w' hw'; go_simp; (try with_reducible rfl)
          simp only [Act.put, List.setIfInBounds_toArray, List.set_cons_zero, List.set_cons_succ]
          refine reg_end (by kernel_rfl) ?_
          go_wp2
          exact ⟨⟨k + 1, by omega, by go_num, v', u', v2', u2', by rw [← HSS.out]; exact I4.out⟩, by simp [intOf]; omega⟩
        · have dk : decide ((k : Int) < (m : Int)) = false := by simp; omega
          go_wp2_with fail
          refine (WK wr (T0.out.below I.out.low T0.out.pos)).out.mono ?_
          rintro e w3 ⟨rfl, b3⟩
          have B3 := Lib.hid (I.out.low.trans (b3.mono I.out.low.size))
          clear b3 I
          go_wp2
          go_ret
          exact ⟨rfl, B3.out⟩
end Go.Proofs.YtfcjemedheccgaaDoor
