/- What slices.Equal[[]carcanet/api.Entry,carcanet/api.Entry] answers: are two slices alike? (Written by tools/mksame.py.) What slices.Equal[[]carcanet/api.Item,carcanet/api.Item] answers: are two slices alike? (Written by tools/mksame.py.) What carcanet/msg.Same answers: are two messages alike? (Written by tools/mkmssame.py.) -/
import Derived.Test.YtnjeopgcpffkcaaGi
import Derived.Test.YtnjeopgcpffkcaaGb
import Derived.Deep.LoopGhost
import Derived.StillTailTactics
import Derived.Test.YtnjeopgcpffkcaaGk
import Derived.Test.YtnjeopgcpffkcaaGm
namespace Go.Proofs.Ytnjeopgcpffkcaa
set_option maxRecDepth 100000
open Go.RowKit

set_option maxRecDepth 100000 in
set_option maxHeartbeats 1000000 in
theorem entsEqual_any (A B : Option Addr) (m n ca cb : Nat) (l r : List Ent) (hm : m ≤ 1000000) (w : World) (h : RowsAt w (.slice A m ca) 6 (l.map Ent.enc)) (h' : RowsAt w (.slice B n cb) 6 (r.map Ent.enc)) :
    Calls Try.prog 54 #[.slice A m ca, .slice B n cb] w fun e w' => e = .returned (.bool (decide (l = r))) ∧ Below w.heap.size w w' := by
  have HA := Lib.hid h
  have HB := Lib.hid h'
  have HL := Lib.hid (show m = l.length by have := h.size.1; simpa using this)
  have HR := Lib.hid (show n = r.length by have := h'.size.1; simpa using this)
  have HM := Lib.hid hm
  obtain ⟨q, hq⟩ : ∃ q, q = decide (l = r) := ⟨_, rfl⟩
  rw [← hq]
  have HQ := Lib.hid hq
  clear h h' hm hq
  go_enter Try.func54, Try.ntmps54
  by_cases hne : m = n
  · subst hne
    have e0 : ((m : Int) != (m : Int)) = false := by simp
    go_wp2_with fail
    go_loopw [13] (fun i wr => ∃ k : Nat, k ≤ m ∧ i = .int .i64 (k : Int) ∧ l.take k = r.take k ∧ Below w.heap.size w wr) (fun i _ => m - (intOf i).toNat)
    case atStart => exact ⟨0, Nat.zero_le _, rfl, by simp, Below.refl _ _⟩
    case round =>
      obtain ⟨k, hk, rfl, ht, hb⟩ := hrel
      have T0 := Lib.hid ht
      have B0 := Lib.hid hb
      clear ht hb
      by_cases hlt : k < m
      · have dk : decide ((k : Int) < (m : Int)) = true := by simp; omega
        have jk : (k : Int) < (m : Int) := by omega
        obtain ⟨x, hx⟩ : ∃ x, l[k]? = some x := ⟨_, List.getElem?_eq_getElem (by rw [← HL.out]; exact hlt)⟩
        obtain ⟨y, hy⟩ : ∃ y, r[k]? = some y := ⟨_, List.getElem?_eq_getElem (by rw [← HR.out]; exact hlt)⟩
        obtain ⟨b, off, rfl, hbl, hc⟩ := HA.out.row (fun c hc => by obtain ⟨y, _, rfl⟩ := List.mem_map.1 hc; exact y.len) (by decide) (by rw [List.getElem?_map, hx]; rfl : (l.map Ent.enc)[k]? = some x.enc)
        obtain ⟨b', off', rfl, hbl', hc'⟩ := HB.out.row (fun c hc => by obtain ⟨y, _, rfl⟩ := List.mem_map.1 hc; exact y.len) (by decide) (by rw [List.getElem?_map, hy]; rfl : (r.map Ent.enc)[k]? = some y.enc)
        have HC := Lib.hid hc
        have HC' := Lib.hid hc'
        have HT : Hid (x = y → l.take (k + 1) = r.take (k + 1)) := Lib.hid (fun e => by rw [List.take_add_one, List.take_add_one, hx, hy, T0.out, e])
        have HF : Hid (x ≠ y → q = false) := Lib.hid (fun e => by rw [HQ.out, decide_eq_false_iff_not]; rintro rfl; rw [hx] at hy; exact e (Option.some.inj hy))
        have r4 : IntKind.i64.wrap ((k : Int) + 1) = ((k + 1 : Nat) : Int) := by have := HM.out; rw [IntWalk.i64_in _ (by omega)]; omega
        clear hc hc' hx hy
        obtain ⟨ne, hne⟩ : ∃ ne, ne = !eqCells x.enc y.enc := ⟨_, rfl⟩
        have HNE := Lib.hid (show ne = !decide (x = y) by rw [hne, Ent.same])
        go_wp2_with fail
        refine still_all (by kernel_rfl) (by kernel_rfl) fun w1 h1 b1 => ?_
        have B1 := Lib.hid (B0.out.trans (b1.mono B0.out.size))
        clear h1 b1 B0
        still_step
        still_step
        still_step
        refine still_load_rec Ent.isRec (by kernel_rfl) _ rfl (b) (off + k * 6) (by with_unfolding_all exact rfl) (Ent.enc (x)) (Ent.len _) (fun j u hj => (B1.out.cell (p := ⟨b, off + k * 6 + j, none⟩) hbl).trans (HC.out j u hj)) ?_
        still_step
        still_step
        still_step
        refine still_load_rec Ent.isRec (by kernel_rfl) _ rfl (b') (off' + k * 6) (by with_unfolding_all exact rfl) (Ent.enc (y)) (Ent.len _) (fun j u hj => (B1.out.cell (p := ⟨b', off' + k * 6 + j, none⟩) hbl').trans (HC'.out j u hj)) ?_
        refine still_neq_rec Ent.isRec (by kernel_rfl) _ _ rfl x.enc y.enc x.fits y.fits (by with_unfolding_all exact rfl) (by with_unfolding_all exact rfl) ne hne ?_
        refine wpStill_nil ?_
        clear hne
        by_cases he : x = y
        · have e1 : ne = false := by rw [HNE.out, decide_eq_true he]; rfl
          subst e1
          have HT2 := Lib.hid (HT.out he)
          clear he
          go_wp2_with fail
          exact ⟨⟨k + 1, by omega, by go_num, HT2.out, B1.out⟩, by simp [intOf]; omega⟩
        · have e1 : ne = true := by rw [HNE.out, decide_eq_false he]; rfl
          subst e1
          have HF2 := Lib.hid (HF.out he)
          clear he
          go_wp2
          go_ret
          exact ⟨by rw [HF2.out]; rfl, B1.out⟩
      · have dk : decide ((k : Int) < (m : Int)) = false := by simp; omega
        have HT : Hid (q = true) := Lib.hid (by rw [HQ.out, decide_eq_true_eq]; have h := T0.out; rw [List.take_of_length_le (by rw [← HL.out]; omega), List.take_of_length_le (by rw [← HR.out]; omega)] at h; exact h)
        go_wp2
        go_ret
        exact ⟨by rw [HT.out]; rfl, B0.out⟩
  · have e0 : ((m : Int) == (n : Int)) = false := by simp; omega
    have e1 : ((m : Int) != (n : Int)) = true := by simp; omega
    have HT : Hid (q = false) := Lib.hid (by rw [HQ.out, decide_eq_false_iff_not]; rintro rfl; exact hne (by rw [HL.out, HR.out]))
    go_wp2
    go_ret
    exact ⟨by rw [HT.out]; rfl, Below.refl _ _⟩

theorem entsEqual_any_v (v v' : Value) (l r : List Ent) (hm : l.length ≤ 1000000) (w : World) (h : RowsAt w v 6 (l.map Ent.enc)) (h' : RowsAt w v' 6 (r.map Ent.enc)) :
    Calls Try.prog 54 #[v, v'] w fun e w' => e = .returned (.bool (decide (l = r))) ∧ Below w.heap.size w w' := by
  obtain ⟨A, ca, e, -⟩ := id h
  obtain ⟨B, cb, e', -⟩ := id h'
  subst e e'
  exact entsEqual_any A B _ _ ca cb l r (by simpa using hm) w h h'
end Go.Proofs.Ytnjeopgcpffkcaa

namespace Go.Proofs.Ytnjeopgcpffkcaa
set_option maxRecDepth 100000
open Go.RowKit

set_option maxRecDepth 100000 in
set_option maxHeartbeats 1000000 in
theorem itemsEqual_any (A B : Option Addr) (m n ca cb : Nat) (l r : List Item) (hm : m ≤ 1000000) (w : World) (h : RowsAt w (.slice A m ca) 4 (l.map Item.enc)) (h' : RowsAt w (.slice B n cb) 4 (r.map Item.enc)) :
    Calls Try.prog 55 #[.slice A m ca, .slice B n cb] w fun e w' => e = .returned (.bool (decide (l = r))) ∧ Below w.heap.size w w' := by
  have HA := Lib.hid h
  have HB := Lib.hid h'
  have HL := Lib.hid (show m = l.length by have := h.size.1; simpa using this)
  have HR := Lib.hid (show n = r.length by have := h'.size.1; simpa using this)
  have HM := Lib.hid hm
  obtain ⟨q, hq⟩ : ∃ q, q = decide (l = r) := ⟨_, rfl⟩
  rw [← hq]
  have HQ := Lib.hid hq
  clear h h' hm hq
  go_enter Try.func55, Try.ntmps55
  by_cases hne : m = n
  · subst hne
    have e0 : ((m : Int) != (m : Int)) = false := by simp
    go_wp2_with fail
    go_loopw [13] (fun i wr => ∃ k : Nat, k ≤ m ∧ i = .int .i64 (k : Int) ∧ l.take k = r.take k ∧ Below w.heap.size w wr) (fun i _ => m - (intOf i).toNat)
    case atStart => exact ⟨0, Nat.zero_le _, rfl, by simp, Below.refl _ _⟩
    case round =>
      obtain ⟨k, hk, rfl, ht, hb⟩ := hrel
      have T0 := Lib.hid ht
      have B0 := Lib.hid hb
      clear ht hb
      by_cases hlt : k < m
      · have dk : decide ((k : Int) < (m : Int)) = true := by simp; omega
        have jk : (k : Int) < (m : Int) := by omega
        obtain ⟨x, hx⟩ : ∃ x, l[k]? = some x := ⟨_, List.getElem?_eq_getElem (by rw [← HL.out]; exact hlt)⟩
        obtain ⟨y, hy⟩ : ∃ y, r[k]? = some y := ⟨_, List.getElem?_eq_getElem (by rw [← HR.out]; exact hlt)⟩
        obtain ⟨b, off, rfl, hbl, hc⟩ := HA.out.row (fun c hc => by obtain ⟨y, _, rfl⟩ := List.mem_map.1 hc; exact y.len) (by decide) (by rw [List.getElem?_map, hx]; rfl : (l.map Item.enc)[k]? = some x.enc)
        obtain ⟨b', off', rfl, hbl', hc'⟩ := HB.out.row (fun c hc => by obtain ⟨y, _, rfl⟩ := List.mem_map.1 hc; exact y.len) (by decide) (by rw [List.getElem?_map, hy]; rfl : (r.map Item.enc)[k]? = some y.enc)
        have HC := Lib.hid hc
        have HC' := Lib.hid hc'
        have HT : Hid (x = y → l.take (k + 1) = r.take (k + 1)) := Lib.hid (fun e => by rw [List.take_add_one, List.take_add_one, hx, hy, T0.out, e])
        have HF : Hid (x ≠ y → q = false) := Lib.hid (fun e => by rw [HQ.out, decide_eq_false_iff_not]; rintro rfl; rw [hx] at hy; exact e (Option.some.inj hy))
        have r4 : IntKind.i64.wrap ((k : Int) + 1) = ((k + 1 : Nat) : Int) := by have := HM.out; rw [IntWalk.i64_in _ (by omega)]; omega
        clear hc hc' hx hy
        obtain ⟨ne, hne⟩ : ∃ ne, ne = !eqCells x.enc y.enc := ⟨_, rfl⟩
        have HNE := Lib.hid (show ne = !decide (x = y) by rw [hne, Item.same])
        go_wp2_with fail
        refine still_all (by kernel_rfl) (by kernel_rfl) fun w1 h1 b1 => ?_
        have B1 := Lib.hid (B0.out.trans (b1.mono B0.out.size))
        clear h1 b1 B0
        still_step
        still_step
        still_step
        refine still_load_rec Item.isRec (by kernel_rfl) _ rfl (b) (off + k * 4) (by with_unfolding_all exact rfl) (Item.enc (x)) (Item.len _) (fun j u hj => (B1.out.cell (p := ⟨b, off + k * 4 + j, none⟩) hbl).trans (HC.out j u hj)) ?_
        still_step
        still_step
        still_step
        refine still_load_rec Item.isRec (by kernel_rfl) _ rfl (b') (off' + k * 4) (by with_unfolding_all exact rfl) (Item.enc (y)) (Item.len _) (fun j u hj => (B1.out.cell (p := ⟨b', off' + k * 4 + j, none⟩) hbl').trans (HC'.out j u hj)) ?_
        refine still_neq_rec Item.isRec (by kernel_rfl) _ _ rfl x.enc y.enc x.fits y.fits (by with_unfolding_all exact rfl) (by with_unfolding_all exact rfl) ne hne ?_
        refine wpStill_nil ?_
        clear hne
        by_cases he : x = y
        · have e1 : ne = false := by rw [HNE.out, decide_eq_true he]; rfl
          subst e1
          have HT2 := Lib.hid (HT.out he)
          clear he
          go_wp2_with fail
          exact ⟨⟨k + 1, by omega, by go_num, HT2.out, B1.out⟩, by simp [intOf]; omega⟩
        · have e1 : ne = true := by rw [HNE.out, decide_eq_false he]; rfl
          subst e1
          have HF2 := Lib.hid (HF.out he)
          clear he
          go_wp2
          go_ret
          exact ⟨by rw [HF2.out]; rfl, B1.out⟩
      · have dk : decide ((k : Int) < (m : Int)) = false := by simp; omega
        have HT : Hid (q = true) := Lib.hid (by rw [HQ.out, decide_eq_true_eq]; have h := T0.out; rw [List.take_of_length_le (by rw [← HL.out]; omega), List.take_of_length_le (by rw [← HR.out]; omega)] at h; exact h)
        go_wp2
        go_ret
        exact ⟨by rw [HT.out]; rfl, B0.out⟩
  · have e0 : ((m : Int) == (n : Int)) = false := by simp; omega
    have e1 : ((m : Int) != (n : Int)) = true := by simp; omega
    have HT : Hid (q = false) := Lib.hid (by rw [HQ.out, decide_eq_false_iff_not]; rintro rfl; exact hne (by rw [HL.out, HR.out]))
    go_wp2
    go_ret
    exact ⟨by rw [HT.out]; rfl, Below.refl _ _⟩

theorem itemsEqual_any_v (v v' : Value) (l r : List Item) (hm : l.length ≤ 1000000) (w : World) (h : RowsAt w v 4 (l.map Item.enc)) (h' : RowsAt w v' 4 (r.map Item.enc)) :
    Calls Try.prog 55 #[v, v'] w fun e w' => e = .returned (.bool (decide (l = r))) ∧ Below w.heap.size w w' := by
  obtain ⟨A, ca, e, -⟩ := id h
  obtain ⟨B, cb, e', -⟩ := id h'
  subst e e'
  exact itemsEqual_any A B _ _ ca cb l r (by simpa using hm) w h h'
end Go.Proofs.Ytnjeopgcpffkcaa

namespace Go.Proofs.Ytnjeopgcpffkcaa
set_option maxRecDepth 100000
open Go.RowKit

set_option maxHeartbeats 8000000 in
theorem msSame_any (a b : Mg) (e t e' t' : Row) (hes : a.es.length ≤ 1000000) (hits : a.its.length ≤ 1000000) (w : World) (ha : Lists w e t a) (hb : Lists w e' t' b) :
    Calls Try.prog 21 #[(a.raw e t).val, (b.raw e' t').val] w fun x w' => x = .returned (.bool (decide (a = b))) ∧ Below w.heap.size w w' := by
  have HA := Lib.hid ha
  have HB := Lib.hid hb
  have HE := Lib.hid hes
  have HI := Lib.hid hits
  obtain ⟨q, hq⟩ : ∃ q, q = decide (a = b) := ⟨_, rfl⟩
  rw [← hq]
  have HQ := Lib.hid hq
  clear ha hb hes hits hq
  go_enter Try.func21, Try.ntmps21
  go_wp2_with (refine wpList_box_row rfl 27 _ rfl (a.raw e t).enc.toArray (by with_unfolding_all exact rfl) ?_)
  intro w1 b1 x1 z1
  obtain ⟨gX, hgX⟩ : ∃ g, g = w.heap.size := ⟨_, rfl⟩
  have M_X := Lib.hid (show w.heap.size ≤ gX from by rw [hgX]; exact Nat.le_refl _)
  have B1 := Lib.hid b1
  rw [← hgX] at x1 ⊢
  have X1 : Hid (Mr.At w1 gX (a.raw e t)) := Lib.hid x1
  clear b1 x1 z1 hgX 
  go_wp2_with (first | (with_reducible refine wpList_load_whole_st Mr.isRec rfl _ rfl gX (by with_unfolding_all exact rfl) _ _ (Mr.len _) X1.out ?_) | (refine wpList_box_row rfl 27 _ rfl (b.raw e' t').enc.toArray (by with_unfolding_all exact rfl) ?_))
  intro w2 b2 x2 z2
  obtain ⟨gY, hgY⟩ : ∃ g, g = w1.heap.size := ⟨_, rfl⟩
  have N_X_Y := Lib.hid (show gX < gY from by rw [hgY]; exact X1.out.lt)
  have M_Y := Lib.hid (show w.heap.size ≤ gY from by rw [hgY]; exact B1.out.size)
  have X2 : Hid (Mr.At w2 gX (a.raw e t)) := Lib.hid (Whole.below X1.out b2 X1.out.lt)
  have B2 := Lib.hid (B1.out.trans (b2.mono B1.out.size))
  rw [← hgY] at x2 ⊢
  have Y2 : Hid (Mr.At w2 gY (b.raw e' t')) := Lib.hid x2
  clear b2 x2 z2 hgY X1 B1
  obtain ⟨x0, x1, x2, x3, x4, x5, x6, x7, x8, x9, x10⟩ := Mr.At.all X2.out
  obtain ⟨y0, y1, y2, y3, y4, y5, y6, y7, y8, y9, y10⟩ := Mr.At.all Y2.out
  have A0 := Lib.hid (HA.out.below B2.out)
  have B0 := Lib.hid (HB.out.below B2.out)
  by_cases h0 : a.kind = b.kind
  · have e0 : (a.kind == b.kind) = true := by simp [h0]
    have n0 : (a.kind != b.kind) = false := by simp [h0]
    by_cases h1 : a.rid = b.rid
    · have e1 : (a.rid == b.rid) = true := by simp [h1]
      have n1 : (a.rid != b.rid) = false := by simp [h1]
      by_cases h2 : a.ver = b.ver
      · have e2 : (a.ver == b.ver) = true := by simp [h2]
        have n2 : (a.ver != b.ver) = false := by simp [h2]
        by_cases h3 : a.error = b.error
        · have e3 : (a.error == b.error) = true := by simp [h3]
          have n3 : (a.error != b.error) = false := by simp [h3]
          by_cases h4 : a.id = b.id
          · have e4 : ((a.id : Int) == (b.id : Int)) = true := by simp [h4]
            have n4 : ((a.id : Int) != (b.id : Int)) = false := by simp [h4]
            by_cases h5 : a.has = b.has
            · have e5 : (a.has == b.has) = true := by simp [h5]
              have n5 : (a.has != b.has) = false := by simp [h5]
              by_cases h6 : a.gone = b.gone
              · have e6 : (a.gone == b.gone) = true := by simp [h6]
                have n6 : (a.gone != b.gone) = false := by simp [h6]
                by_cases h7 : a.key = b.key
                · have e7 : (a.key == b.key) = true := by simp [h7]
                  have n7 : (a.key != b.key) = false := by simp [h7]
                  by_cases h8 : a.val = b.val
                  · have e8 : (a.val == b.val) = true := by simp [h8]
                    have n8 : (a.val != b.val) = false := by simp [h8]
                    have HS : Hid (q = (decide (a.es = b.es) && decide (a.its = b.its))) := Lib.hid (by rw [HQ.out, Bool.eq_iff_iff, decide_eq_true_eq, Bool.and_eq_true, decide_eq_true_eq, decide_eq_true_eq]; obtain ⟨⟩ := a; obtain ⟨⟩ := b; simp only at h0 h1 h2 h3 h4 h5 h6 h7 h8; subst h0 h1 h2 h3 h4 h5 h6 h7 h8; simp)
                    clear HQ h0 h1 h2 h3 h4 h5 h6 h7 h8
                    obtain ⟨q1, hq1⟩ : ∃ q, q = decide (a.es = b.es) := ⟨_, rfl⟩
                    obtain ⟨q2, hq2⟩ : ∃ q, q = decide (a.its = b.its) := ⟨_, rfl⟩
                    rw [← hq1, ← hq2] at HS
                    have CE := Lib.hid (entsEqual_any_v _ _ a.es b.es (by have := HE.out; omega) w2 A0.out.es B0.out.es)
                    rw [← hq1] at CE
                    have CI := fun w' (h : Below w2.heap.size w2 w') => Lib.hid (itemsEqual_any_v _ _ a.its b.its HI.out w' (A0.out.below h).its (B0.out.below h).its)
                    rw [← hq2] at CI
                    clear hq1 hq2
                    go_wp2_with fail
                    refine CE.out.mono ?_
                    rintro x w9 ⟨rfl, b9⟩
                    have D9 := Lib.hid (B2.out.trans (b9.mono B2.out.size))
                    have CJ := Lib.hid (CI w9 b9).out
                    have X9 : Hid (Mr.At w9 gX (a.raw e t)) := Lib.hid (Whole.below X2.out b9 X2.out.lt)
                    have Y9 : Hid (Mr.At w9 gY (b.raw e' t')) := Lib.hid (Whole.below Y2.out b9 Y2.out.lt)
                    clear x0 x1 x2 x3 x4 x5 x6 x7 x8 x9 x10 y0 y1 y2 y3 y4 y5 y6 y7 y8 y9 y10 CE CI b9
                    have x10 : w9.cell? ⟨gX, 10, none⟩ = some (.slice t.a t.n t.c) := X9.out.at_ 10
                    have y10 : w9.cell? ⟨gY, 10, none⟩ = some (.slice t'.a t'.n t'.c) := Y9.out.at_ 10
                    cases q1 with
                    | false =>
                      go_wp2
                      go_ret
                      exact ⟨by rw [HS.out]; rfl, D9.out⟩
                    | true =>
                      go_wp2_with fail
                      refine CJ.out.mono ?_
                      rintro x wA ⟨rfl, bA⟩
                      have DA := Lib.hid (D9.out.trans (bA.mono D9.out.size))
                      clear bA
                      go_wp2
                      go_ret
                      exact ⟨by rw [HS.out]; cases q2 <;> rfl, DA.out⟩
                  · have e8 : (a.val == b.val) = false := by simpa using h8
                    have n8 : (a.val != b.val) = true := by simpa using h8
                    have HF : Hid (q = false) := Lib.hid (by rw [HQ.out, decide_eq_false_iff_not]; rintro rfl; exact h8 rfl)
                    clear HQ
                    go_wp2
                    go_ret
                    exact ⟨by rw [HF.out]; rfl, B2.out⟩
                · have e7 : (a.key == b.key) = false := by simpa using h7
                  have n7 : (a.key != b.key) = true := by simpa using h7
                  have HF : Hid (q = false) := Lib.hid (by rw [HQ.out, decide_eq_false_iff_not]; rintro rfl; exact h7 rfl)
                  clear HQ
                  go_wp2
                  go_ret
                  exact ⟨by rw [HF.out]; rfl, B2.out⟩
              · have e6 : (a.gone == b.gone) = false := by simpa using h6
                have n6 : (a.gone != b.gone) = true := by simpa using h6
                have HF : Hid (q = false) := Lib.hid (by rw [HQ.out, decide_eq_false_iff_not]; rintro rfl; exact h6 rfl)
                clear HQ
                go_wp2
                go_ret
                exact ⟨by rw [HF.out]; rfl, B2.out⟩
            · have e5 : (a.has == b.has) = false := by simpa using h5
              have n5 : (a.has != b.has) = true := by simpa using h5
              have HF : Hid (q = false) := Lib.hid (by rw [HQ.out, decide_eq_false_iff_not]; rintro rfl; exact h5 rfl)
              clear HQ
              go_wp2
              go_ret
              exact ⟨by rw [HF.out]; rfl, B2.out⟩
          · have e4 : ((a.id : Int) == (b.id : Int)) = false := by simp; omega
            have n4 : ((a.id : Int) != (b.id : Int)) = true := by simp; omega
            have HF : Hid (q = false) := Lib.hid (by rw [HQ.out, decide_eq_false_iff_not]; rintro rfl; exact h4 rfl)
            clear HQ
            go_wp2
            go_ret
            exact ⟨by rw [HF.out]; rfl, B2.out⟩
        · have e3 : (a.error == b.error) = false := by simp; omega
          have n3 : (a.error != b.error) = true := by simp; omega
          have HF : Hid (q = false) := Lib.hid (by rw [HQ.out, decide_eq_false_iff_not]; rintro rfl; exact h3 rfl)
          clear HQ
          go_wp2
          go_ret
          exact ⟨by rw [HF.out]; rfl, B2.out⟩
      · have e2 : (a.ver == b.ver) = false := by simp; omega
        have n2 : (a.ver != b.ver) = true := by simp; omega
        have HF : Hid (q = false) := Lib.hid (by rw [HQ.out, decide_eq_false_iff_not]; rintro rfl; exact h2 rfl)
        clear HQ
        go_wp2
        go_ret
        exact ⟨by rw [HF.out]; rfl, B2.out⟩
    · have e1 : (a.rid == b.rid) = false := by simp; omega
      have n1 : (a.rid != b.rid) = true := by simp; omega
      have HF : Hid (q = false) := Lib.hid (by rw [HQ.out, decide_eq_false_iff_not]; rintro rfl; exact h1 rfl)
      clear HQ
      go_wp2
      go_ret
      exact ⟨by rw [HF.out]; rfl, B2.out⟩
  · have e0 : (a.kind == b.kind) = false := by simp; omega
    have n0 : (a.kind != b.kind) = true := by simp; omega
    have HF : Hid (q = false) := Lib.hid (by rw [HQ.out, decide_eq_false_iff_not]; rintro rfl; exact h0 rfl)
    clear HQ
    go_wp2
    go_ret
    exact ⟨by rw [HF.out]; rfl, B2.out⟩
end Go.Proofs.Ytnjeopgcpffkcaa
