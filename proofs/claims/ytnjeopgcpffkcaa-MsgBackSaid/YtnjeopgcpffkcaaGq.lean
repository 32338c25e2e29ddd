/- Package entry, as landed: within, Right. Package msg: may a message's key, entries, items be (rightKey, rightEntries, rightItems)? -/
import Derived.Test.YtnjeopgcpffkcaaGj
import Derived.Test.YtnjeopgcpffkcaaGp
import Derived.Test.YtnjeopgcpffkcaaGo
import Derived.Deep.LoopGhost
namespace Go.Proofs.Ytnjeopgcpffkcaa
set_option maxRecDepth 100000
open Go.RowKit

theorem within_any (n l m : Int) (w : World) :
    Calls Try.prog 84 #[.int .i64 n, .int .i64 l, .int .i64 m] w fun e w' => e = .returned (.bool (decide (l ≤ n) && decide (n ≤ m))) ∧ w' = w := by
  obtain ⟨b1, h1⟩ : ∃ b, b = decide (l ≤ n) := ⟨_, rfl⟩
  obtain ⟨b2, h2⟩ : ∃ b, b = decide (n ≤ m) := ⟨_, rfl⟩
  rw [← h1, ← h2]
  have r1 := h1.symm
  have r2 := h2.symm
  clear h1 h2
  cases b1 <;> cases b2
  all_goals
    go_enter Try.func84, Try.ntmps84
    go_wp2
    go_ret
    exact ⟨rfl, rfl⟩

theorem entR_is (n t : List UInt8) (i : Nat) (f u x : Int) : entR ⟨n, i, f, u, x, t⟩ = (nameB n && (decide (0 ≤ f) && decide (f ≤ 1073741824)) && (decide (f ≤ u) && decide (u ≤ 1073741824)) && (decide (0 ≤ x) && decide (x ≤ 64)) && decide (t.length = 32)) := by
  rw [entR]
  cases nameB n
  · simp
  · rw [Bool.eq_iff_iff]
    simp only [Bool.and_eq_true, decide_eq_true_eq]
    constructor
    · rintro ⟨⟨⟨⟨⟨⟨h1, h2⟩, h3⟩, h4⟩, h5⟩, h6⟩, h7⟩
      exact ⟨⟨⟨⟨trivial, h3, by omega⟩, h4, h5⟩, h6, h7⟩, h2⟩
    · rintro ⟨⟨⟨⟨_, h3, _⟩, h4, h5⟩, h6, h7⟩, h2⟩
      exact ⟨⟨⟨⟨⟨⟨trivial, h2⟩, h3⟩, h4⟩, h5⟩, h6⟩, h7⟩

set_option maxHeartbeats 1000000 in
theorem right_any (a : Ent) (w : World) :
    Calls Try.prog 66 #[a.val] w fun e w' => e = .returned (.bool (entR a)) ∧ Below w.heap.size w w' := by
  obtain ⟨n, i, f, u, x, t⟩ := a
  have HE := entR_is n t i f u x
  simp only [Ent.val, Ent.enc]
  have CN := fun w => Lib.hid (labelName_any n w)
  have W1 := fun w => Lib.hid (within_any f 0 1073741824 w)
  have W2 := fun w => Lib.hid (within_any u f 1073741824 w)
  have W3 := fun w => Lib.hid (within_any x 0 64 w)
  obtain ⟨b0, h0⟩ : ∃ b, b = nameB n := ⟨_, rfl⟩
  obtain ⟨b1, h1⟩ : ∃ b, b = (decide (0 ≤ f) && decide (f ≤ 1073741824)) := ⟨_, rfl⟩
  obtain ⟨b2, h2⟩ : ∃ b, b = (decide (f ≤ u) && decide (u ≤ 1073741824)) := ⟨_, rfl⟩
  obtain ⟨b3, h3⟩ : ∃ b, b = (decide (0 ≤ x) && decide (x ≤ 64)) := ⟨_, rfl⟩
  obtain ⟨b4, h4⟩ : ∃ b, b = decide (t.length = 32) := ⟨_, rfl⟩
  simp only [← h0] at CN
  simp only [← h1] at W1
  simp only [← h2] at W2
  simp only [← h3] at W3
  rw [← h0, ← h1, ← h2, ← h3, ← h4] at HE
  have q1 : ((t.length : Int) == 32) = b4 := by rw [h4, Bool.eq_iff_iff, beq_iff_eq, decide_eq_true_eq]; omega
  have q2 : (t.length == 32) = b4 := by rw [h4, Bool.eq_iff_iff, beq_iff_eq, decide_eq_true_eq]
  have q3 : decide ((t.length : Int) = 32) = b4 := by rw [h4, Bool.eq_iff_iff, decide_eq_true_eq, decide_eq_true_eq]; omega
  have HB := Lib.hid HE
  clear HE h0 h1 h2 h3 h4
  go_enter Try.func66, Try.ntmps66
  go_wp2_with fail
  have X := Whole.new w 51 #[.string ⟨n.toArray⟩, .int .u64 (i : Int), .int .i64 f, .int .i64 u, .int .i64 x, .string ⟨t.toArray⟩]
  have b : Below w.heap.size w (w.alloc (.cells #[.string ⟨n.toArray⟩, .int .u64 (i : Int), .int .i64 f, .int .i64 u, .int .i64 x, .string ⟨t.toArray⟩] 51)) := (Below.refl _ _).alloc (Nat.le_refl _) _
  have z : w.heap.size < (w.alloc (.cells #[.string ⟨n.toArray⟩, .int .u64 (i : Int), .int .i64 f, .int .i64 u, .int .i64 x, .string ⟨t.toArray⟩] 51)).heap.size := X.lt
  generalize w.alloc (.cells #[.string ⟨n.toArray⟩, .int .u64 (i : Int), .int .i64 f, .int .i64 u, .int .i64 x, .string ⟨t.toArray⟩] 51) = w1 at *
  have X1 := Lib.hid X
  have B1 := Lib.hid b
  have Z1 := Lib.hid z
  clear X b z
  refine (CN w1).out.mono ?_
  rintro e w2 ⟨rfl, b2'⟩
  have X2 := X1.out.below b2' Z1.out
  have B2 := Lib.hid (B1.out.trans (b2'.mono B1.out.size))
  have c2 := X2.at_ 2
  have c3 := X2.at_ 3
  have c4 := X2.at_ 4
  have c5 := X2.at_ 5
  simp at c2 c3 c4 c5
  clear X2 b2' X1 B1 Z1 CN
  cases b0 with
  | false =>
    go_wp2
    go_ret
    exact ⟨by rw [HB.out]; rfl, B2.out⟩
  | true =>
    go_wp2_with fail
    refine (W1 _).out.mono ?_
    rintro e w3 ⟨rfl, rfl⟩
    cases b1 with
    | false =>
      go_wp2
      go_ret
      exact ⟨by rw [HB.out]; rfl, B2.out⟩
    | true =>
      go_wp2_with fail
      refine (W2 _).out.mono ?_
      rintro e w4 ⟨rfl, rfl⟩
      cases b2 with
      | false =>
        go_wp2
        go_ret
        exact ⟨by rw [HB.out]; rfl, B2.out⟩
      | true =>
        go_wp2_with fail
        refine (W3 _).out.mono ?_
        rintro e w5 ⟨rfl, rfl⟩
        cases b3 with
        | false =>
          go_wp2
          go_ret
          exact ⟨by rw [HB.out]; rfl, B2.out⟩
        | true =>
          cases b4
          all_goals
            go_wp2
            go_ret
            exact ⟨by rw [HB.out]; rfl, B2.out⟩
end Go.Proofs.Ytnjeopgcpffkcaa

namespace Go.Proofs.Ytnjeopgcpffkcaa
set_option maxRecDepth 100000
open Go.RowKit

def keyX (m : Mg) : Bool := !(decide (m.kind = 8) || decide (m.kind = 10)) || keyB m.key
set_option maxHeartbeats 1000000 in
theorem rightKey_any (m : Mg) (e t : Row) (w : World) : Calls Try.prog 35 #[(m.raw e t).val] w fun x w' => x = .returned (.bool (keyX m)) ∧ Below w.heap.size w w' := by
  have CK := fun w => Lib.hid (labelKey_any m.key w)
  have HB : Hid (keyX m = (!(decide (m.kind = 8) || decide (m.kind = 10)) || keyB m.key)) := Lib.hid rfl
  generalize keyX m = q at *
  generalize keyB m.key = q1 at *
  go_enter Try.func35, Try.ntmps35
  go_wp2_with (refine wpList_box_row rfl 27 _ rfl (m.raw e t).enc.toArray (by with_unfolding_all exact rfl) ?_)
  intro w1 b1 x1 z1
  obtain ⟨gM, hgM⟩ : ∃ g, g = w.heap.size := ⟨_, rfl⟩
  have M_M := Lib.hid (show w.heap.size ≤ gM from by rw [hgM]; exact Nat.le_refl _)
  have B1 := Lib.hid b1
  rw [← hgM] at x1 ⊢
  have M1 : Hid (Mr.At w1 gM (m.raw e t)) := Lib.hid x1
  clear b1 x1 z1 hgM 
  have c0 : w1.cell? ⟨gM, 0, none⟩ = some (.int .i64 m.kind) := M1.out.at_ 0
  have c7 : w1.cell? ⟨gM, 7, none⟩ = some (.string ⟨m.key.toArray⟩) := M1.out.at_ 7
  by_cases h8 : m.kind = 8
  · have HQ : Hid (q = q1) := Lib.hid (by rw [HB.out]; simp [h8])
    have e8 : (m.kind == 8) = true := by simp [h8]
    clear HB h8
    go_wp2_with fail
    refine (CK _).out.mono ?_
    rintro x u ⟨rfl, b⟩
    have BU := Lib.hid (B1.out.trans (b.mono B1.out.size))
    clear b
    go_wp2
    go_ret
    exact ⟨by rw [HQ.out]; rfl, BU.out⟩
  · have e8 : (m.kind == 8) = false := by simp [h8]
    by_cases h10 : m.kind = 10
    · have HQ : Hid (q = q1) := Lib.hid (by rw [HB.out]; simp [h10])
      have e10 : (m.kind == 10) = true := by simp [h10]
      clear HB h8 h10
      go_wp2_with fail
      refine (CK _).out.mono ?_
      rintro x u ⟨rfl, b⟩
      have BU := Lib.hid (B1.out.trans (b.mono B1.out.size))
      clear b
      go_wp2
      go_ret
      exact ⟨by rw [HQ.out]; rfl, BU.out⟩
    · have HQ : Hid (q = true) := Lib.hid (by rw [HB.out]; simp [h8, h10])
      have e10 : (m.kind == 10) = false := by simp [h10]
      clear HB h8 h10
      go_wp2
      go_ret
      exact ⟨by rw [HQ.out]; rfl, B1.out⟩

theorem allTake {α : Type} {f : α → Bool} {l : List α} {k : Nat} {x : α} (h : l[k]? = some x) : (l.take (k + 1)).all f = ((l.take k).all f && f x) := by
  rw [take_at h, List.all_append]
  simp
theorem allFalse {α : Type} {f : α → Bool} {l : List α} {k : Nat} {x : α} (h : l[k]? = some x) (hx : f x = false) : l.all f = false := by
  rw [List.all_eq_false]
  exact ⟨x, List.mem_of_getElem? h, by simp [hx]⟩
def itsX (l : List Item) : Bool := decide (l.length ≤ 16) && l.all itemB

set_option maxHeartbeats 2000000 in
theorem rightItems_any (t : Row) (l : List Item) (hl : l.length ≤ 1000000) (w : World) (h : RowsAt w t.v 4 (l.map Item.enc)) :
    Calls Try.prog 38 #[.slice t.a t.n t.c] w fun x w' => x = .returned (.bool (itsX l)) ∧ Below w.heap.size w w' := by
  obtain ⟨A, n, c⟩ := t
  have HL := Lib.hid (show n = l.length by have := h.size.1; simpa using this)
  have HA := Lib.hid h
  have HM := Lib.hid hl
  have HB : Hid (itsX l = (decide (l.length ≤ 16) && l.all itemB)) := Lib.hid rfl
  obtain ⟨q, hq⟩ : ∃ q, q = itsX l := ⟨_, rfl⟩
  rw [← hq] at HB ⊢
  clear h hl hq
  show Calls _ _ #[.slice A n c] _ _
  go_enter Try.func38, Try.ntmps38
  by_cases hn : n ≤ 16
  · have HQ : Hid (q = l.all itemB) := Lib.hid (by rw [HB.out, decide_eq_true (by rw [← HL.out]; exact hn)]; rfl)
    have dn : decide ((16 : Int) < (n : Int)) = false := by simp; omega
    clear HB
    go_wp2_with fail
    go_loopw [10] (fun i wr => ∃ k : Nat, k ≤ n ∧ i = .int .i64 (k : Int) ∧ (l.take k).all itemB = true ∧ Below w.heap.size w wr) (fun i _ => n - (intOf i).toNat)
    case atStart => exact ⟨0, Nat.zero_le _, rfl, by simp, Below.refl _ _⟩
    case round =>
      obtain ⟨k, hk, rfl, ht, hb⟩ := hrel
      have T0 := Lib.hid ht
      have B0 := Lib.hid hb
      clear ht hb
      by_cases hlt : k < n
      · have dk : decide ((k : Int) < (n : Int)) = true := by simp; omega
        have jk : (k : Int) < (n : Int) := by omega
        obtain ⟨x, hx⟩ : ∃ x, l[k]? = some x := ⟨_, List.getElem?_eq_getElem (by rw [← HL.out]; exact hlt)⟩
        obtain ⟨b, off, rfl, hbl, hc⟩ := HA.out.row (itemC_len l) (by decide) (map_at hx)
        have HC := Lib.hid (fun j u (hj : x.enc[j]? = some u) => (B0.out.cell (p := ⟨b, off + k * 4 + j, none⟩) hbl).trans (hc j u hj))
        have HT : Hid (itemB x = true → (l.take (k + 1)).all itemB = true) := Lib.hid (fun e => by rw [allTake hx, T0.out, e]; rfl)
        have HF : Hid (itemB x = false → q = false) := Lib.hid (fun e => by rw [HQ.out]; exact allFalse hx e)
        have CI := fun w => Lib.hid (msItem_any x w)
        have r4 : IntKind.i64.wrap ((k : Int) + 1) = ((k + 1 : Nat) : Int) := by have := HM.out; have := HL.out; rw [IntWalk.i64_in _ (by omega)]; omega
        clear hc hx
        generalize itemB x = qx at *
        go_wp2_with (first | (with_reducible refine wpList_load_rec Item.isRec rfl _ rfl b (off + k * 4) (by with_unfolding_all exact rfl) x.enc (Item.len _) HC.out ?_) | (refine wpList_alloc_row rfl 29 rfl Item.zero.enc.toArray Item.zero_is ?_))
        intro w1 b1 x1 z1
        have X1 : Hid (Item.At w1 wr.heap.size Item.zero) := Lib.hid x1
        have B1 := Lib.hid (B0.out.trans (b1.mono B0.out.size))
        have S1 := Lib.hid B0.out.size
        clear b1 x1 z1 B0 HC
        go_wp2_with (with_reducible refine wpList_store_whole rfl 29 _ _ rfl wr.heap.size x.enc.toArray (by with_unfolding_all exact rfl) (by with_unfolding_all exact rfl) _ _ X1.out (Item.size _) rfl (Item.one _) ?_)
        intro w2 g2 x2 z2
        have X2 : Hid (Item.At w2 wr.heap.size x) := Lib.hid x2
        have B2 := Lib.hid (B1.out.grown g2 B1.out.size (fun k hk => by injection hk with hk; have := S1.out; omega))
        clear g2 x2 z2 X1 B1
        go_wp2_with (with_reducible refine wpList_load_whole Item.isRec rfl _ rfl wr.heap.size (by with_unfolding_all exact rfl) _ _ (Item.len _) X2.out ?_)
        refine (CI _).out.mono ?_
        rintro e w3 ⟨rfl, b3⟩
        have B3 := Lib.hid (B2.out.trans (b3.mono B2.out.size))
        clear b3 B2 X2
        cases qx with
        | true =>
          have HV := Lib.hid (HT.out rfl)
          go_wp2
          exact ⟨⟨k + 1, by omega, by go_num, HV.out, B3.out⟩, by simp [intOf]; omega⟩
        | false =>
          have HV := Lib.hid (HF.out rfl)
          go_wp2
          go_ret
          exact ⟨by rw [HV.out]; rfl, B3.out⟩
      · have dk : decide ((k : Int) < (n : Int)) = false := by simp; omega
        have HV : Hid (q = true) := Lib.hid (by rw [HQ.out]; have := T0.out; rwa [List.take_of_length_le (by rw [← HL.out]; omega)] at this)
        go_wp2
        go_ret
        exact ⟨by rw [HV.out]; rfl, B0.out⟩
  · have HQ : Hid (q = false) := Lib.hid (by rw [HB.out, decide_eq_false (by rw [← HL.out]; exact hn)]; rfl)
    have dn : decide ((16 : Int) < (n : Int)) = true := by simp; omega
    clear HB
    go_wp2
    go_ret
    exact ⟨by rw [HQ.out]; rfl, Below.refl _ _⟩

def esN (m : Mg) : Bool := if m.kind = 7 then decide (m.es.length = 1) else decide (m.es.length ≤ 8)
def esX (m : Mg) : Bool := esN m && m.es.all entR
set_option maxHeartbeats 4000000 in
theorem rightEntries_any (m : Mg) (e t : Row) (hl : m.es.length ≤ 1000000) (w : World) (h : Lists w e t m) :
    Calls Try.prog 37 #[(m.raw e t).val] w fun x w' => x = .returned (.bool (esX m)) ∧ Below w.heap.size w w' := by
  obtain ⟨A, n, cp⟩ := e
  have HL := Lib.hid (show n = m.es.length from h.en)
  have HA := Lib.hid (show RowsAt w (.slice A n cp) 6 (m.es.map Ent.enc) from h.es)
  have HM := Lib.hid hl
  obtain ⟨least, most, hlm⟩ : ∃ least most : Int, (least = if m.kind = 7 then 1 else 0) ∧ (most = if m.kind = 7 then 1 else 8) := ⟨_, _, rfl, rfl⟩
  have HN : Hid (esN m = (decide (least ≤ (n : Int)) && decide ((n : Int) ≤ most))) := Lib.hid (by
    have := HL.out
    rw [hlm.1, hlm.2, esN, Bool.eq_iff_iff]
    split <;> simp <;> omega)
  obtain ⟨q, hq⟩ : ∃ q, q = esX m := ⟨_, rfl⟩
  have HB : Hid (q = (esN m && m.es.all entR)) := Lib.hid hq
  rw [← hq]
  have CW := fun w => Lib.hid (msWithin_any (n : Int) least most w)
  rw [← HN.out] at CW
  obtain ⟨l, hl2⟩ : ∃ l, l = m.es := ⟨_, rfl⟩
  rw [← hl2] at HB HA HL HM
  clear h hl hq hl2 HN
  generalize esN m = qn at *
  go_enter Try.func37, Try.ntmps37
  go_wp2_with (refine wpList_box_row rfl 27 _ rfl (m.raw ⟨A, n, cp⟩ t).enc.toArray (by with_unfolding_all exact rfl) ?_)
  intro w1 b1 x1 z1
  obtain ⟨gM, hgM⟩ : ∃ g, g = w.heap.size := ⟨_, rfl⟩
  have M_M := Lib.hid (show w.heap.size ≤ gM from by rw [hgM]; exact Nat.le_refl _)
  have B1 := Lib.hid b1
  rw [← hgM] at x1 ⊢
  have M1 : Hid (Mr.At w1 gM (m.raw ⟨A, n, cp⟩ t)) := Lib.hid x1
  clear b1 x1 z1 hgM 
  have c0 : w1.cell? ⟨gM, 0, none⟩ = some (.int .i64 m.kind) := M1.out.at_ 0
  have c9 : w1.cell? ⟨gM, 9, none⟩ = some (.slice A n cp) := M1.out.at_ 9
  by_cases h7 : m.kind = 7
  · have e7 : (m.kind == 7) = true := by simp [h7]
    have hlm1 : least = 1 ∧ most = 1 := by rw [hlm.1, hlm.2]; simp [h7]
    obtain ⟨rfl, rfl⟩ := hlm1
    clear hlm h7
    go_wp2_with fail
    refine (CW _).out.mono ?_
    rintro x u ⟨rfl, rfl⟩
    cases qn with
    | false =>
      have HQ : Hid (q = false) := Lib.hid (by rw [HB.out]; rfl)
      go_wp2
      go_ret
      exact ⟨by rw [HQ.out]; rfl, B1.out⟩
    | true =>
      have HQ : Hid (q = l.all entR) := Lib.hid (by rw [HB.out]; rfl)
      clear HB c0
      go_wp2_with fail
      go_loopw [20] (fun i wr => ∃ k : Nat, k ≤ n ∧ i = .int .i64 (k : Int) ∧ (l.take k).all entR = true ∧ Below w.heap.size w wr) (fun i _ => n - (intOf i).toNat)
      case atStart => exact ⟨0, Nat.zero_le _, rfl, by simp, B1.out⟩
      case round =>
        obtain ⟨k, hk, rfl, ht, hb⟩ := hrel
        have T0 := Lib.hid ht
        have B0 := Lib.hid hb
        clear ht hb
        by_cases hlt : k < n
        · have dk : decide ((k : Int) < (n : Int)) = true := by simp; omega
          have jk : (k : Int) < (n : Int) := by omega
          obtain ⟨x, hx⟩ : ∃ x, l[k]? = some x := ⟨_, List.getElem?_eq_getElem (by rw [← HL.out]; exact hlt)⟩
          obtain ⟨b, off, rfl, hbl, hc⟩ := HA.out.row (entC_len l) (by decide) (map_at hx)
          have HC := Lib.hid (fun j u (hj : x.enc[j]? = some u) => (B0.out.cell (p := ⟨b, off + k * 6 + j, none⟩) hbl).trans (hc j u hj))
          have HT : Hid (entR x = true → (l.take (k + 1)).all entR = true) := Lib.hid (fun e => by rw [allTake hx, T0.out, e]; rfl)
          have HF : Hid (entR x = false → q = false) := Lib.hid (fun e => by rw [HQ.out]; exact allFalse hx e)
          have CI := fun w => Lib.hid (right_any x w)
          have r4 : IntKind.i64.wrap ((k : Int) + 1) = ((k + 1 : Nat) : Int) := by have := HM.out; have := HL.out; rw [IntWalk.i64_in _ (by omega)]; omega
          clear hc hx
          generalize entR x = qx at *
          go_wp2_with (first | (with_reducible refine wpList_load_rec Ent.isRec rfl _ rfl b (off + k * 6) (by with_unfolding_all exact rfl) x.enc (Ent.len _) HC.out ?_) | (refine wpList_alloc_row rfl 51 rfl Ent.zero.enc.toArray Ent.zero_is ?_))
          intro w1 b1 x1 z1
          have X1 : Hid (Ent.At w1 wr.heap.size Ent.zero) := Lib.hid x1
          have BB1 := Lib.hid (B0.out.trans (b1.mono B0.out.size))
          have S1 := Lib.hid B0.out.size
          clear b1 x1 z1 B0 HC
          go_wp2_with (with_reducible refine wpList_store_whole rfl 51 _ _ rfl wr.heap.size x.enc.toArray (by with_unfolding_all exact rfl) (by with_unfolding_all exact rfl) _ _ X1.out (Ent.size _) rfl (Ent.one _) ?_)
          intro w2 g2 x2 z2
          have X2 : Hid (Ent.At w2 wr.heap.size x) := Lib.hid x2
          have B2 := Lib.hid (BB1.out.grown g2 BB1.out.size (fun k hk => by injection hk with hk; have := S1.out; omega))
          clear g2 x2 z2 X1 BB1
          go_wp2_with (with_reducible refine wpList_load_whole Ent.isRec rfl _ rfl wr.heap.size (by with_unfolding_all exact rfl) _ _ (Ent.len _) X2.out ?_)
          refine (CI _).out.mono ?_
          rintro e w3 ⟨rfl, b3⟩
          have B3 := Lib.hid (B2.out.trans (b3.mono B2.out.size))
          clear b3 B2 X2
          cases qx with
          | true =>
            have HV := Lib.hid (HT.out rfl)
            go_wp2
            exact ⟨⟨k + 1, by omega, by go_num, HV.out, B3.out⟩, by simp [intOf]; omega⟩
          | false =>
            have HV := Lib.hid (HF.out rfl)
            go_wp2
            go_ret
            exact ⟨by rw [HV.out]; rfl, B3.out⟩
        · have dk : decide ((k : Int) < (n : Int)) = false := by simp; omega
          have HV : Hid (q = true) := Lib.hid (by rw [HQ.out]; have := T0.out; rwa [List.take_of_length_le (by rw [← HL.out]; omega)] at this)
          go_wp2
          go_ret
          exact ⟨by rw [HV.out]; rfl, B0.out⟩
  · have e7 : (m.kind == 7) = false := by simp [h7]
    have hlm1 : least = 0 ∧ most = 8 := by rw [hlm.1, hlm.2]; simp [h7]
    obtain ⟨rfl, rfl⟩ := hlm1
    clear hlm h7
    go_wp2_with fail
    refine (CW _).out.mono ?_
    rintro x u ⟨rfl, rfl⟩
    cases qn with
    | false =>
      have HQ : Hid (q = false) := Lib.hid (by rw [HB.out]; rfl)
      go_wp2
      go_ret
      exact ⟨by rw [HQ.out]; rfl, B1.out⟩
    | true =>
      have HQ : Hid (q = l.all entR) := Lib.hid (by rw [HB.out]; rfl)
      clear HB c0
      go_wp2_with fail
      go_loopw [20] (fun i wr => ∃ k : Nat, k ≤ n ∧ i = .int .i64 (k : Int) ∧ (l.take k).all entR = true ∧ Below w.heap.size w wr) (fun i _ => n - (intOf i).toNat)
      case atStart => exact ⟨0, Nat.zero_le _, rfl, by simp, B1.out⟩
      case round =>
        obtain ⟨k, hk, rfl, ht, hb⟩ := hrel
        have T0 := Lib.hid ht
        have B0 := Lib.hid hb
        clear ht hb
        by_cases hlt : k < n
        · have dk : decide ((k : Int) < (n : Int)) = true := by simp; omega
          have jk : (k : Int) < (n : Int) := by omega
          obtain ⟨x, hx⟩ : ∃ x, l[k]? = some x := ⟨_, List.getElem?_eq_getElem (by rw [← HL.out]; exact hlt)⟩
          obtain ⟨b, off, rfl, hbl, hc⟩ := HA.out.row (entC_len l) (by decide) (map_at hx)
          have HC := Lib.hid (fun j u (hj : x.enc[j]? = some u) => (B0.out.cell (p := ⟨b, off + k * 6 + j, none⟩) hbl).trans (hc j u hj))
          have HT : Hid (entR x = true → (l.take (k + 1)).all entR = true) := Lib.hid (fun e => by rw [allTake hx, T0.out, e]; rfl)
          have HF : Hid (entR x = false → q = false) := Lib.hid (fun e => by rw [HQ.out]; exact allFalse hx e)
          have CI := fun w => Lib.hid (right_any x w)
          have r4 : IntKind.i64.wrap ((k : Int) + 1) = ((k + 1 : Nat) : Int) := by have := HM.out; have := HL.out; rw [IntWalk.i64_in _ (by omega)]; omega
          clear hc hx
          generalize entR x = qx at *
          go_wp2_with (first | (with_reducible refine wpList_load_rec Ent.isRec rfl _ rfl b (off + k * 6) (by with_unfolding_all exact rfl) x.enc (Ent.len _) HC.out ?_) | (refine wpList_alloc_row rfl 51 rfl Ent.zero.enc.toArray Ent.zero_is ?_))
          intro w1 b1 x1 z1
          have X1 : Hid (Ent.At w1 wr.heap.size Ent.zero) := Lib.hid x1
          have BB1 := Lib.hid (B0.out.trans (b1.mono B0.out.size))
          have S1 := Lib.hid B0.out.size
          clear b1 x1 z1 B0 HC
          go_wp2_with (with_reducible refine wpList_store_whole rfl 51 _ _ rfl wr.heap.size x.enc.toArray (by with_unfolding_all exact rfl) (by with_unfolding_all exact rfl) _ _ X1.out (Ent.size _) rfl (Ent.one _) ?_)
          intro w2 g2 x2 z2
          have X2 : Hid (Ent.At w2 wr.heap.size x) := Lib.hid x2
          have B2 := Lib.hid (BB1.out.grown g2 BB1.out.size (fun k hk => by injection hk with hk; have := S1.out; omega))
          clear g2 x2 z2 X1 BB1
          go_wp2_with (with_reducible refine wpList_load_whole Ent.isRec rfl _ rfl wr.heap.size (by with_unfolding_all exact rfl) _ _ (Ent.len _) X2.out ?_)
          refine (CI _).out.mono ?_
          rintro e w3 ⟨rfl, b3⟩
          have B3 := Lib.hid (B2.out.trans (b3.mono B2.out.size))
          clear b3 B2 X2
          cases qx with
          | true =>
            have HV := Lib.hid (HT.out rfl)
            go_wp2
            exact ⟨⟨k + 1, by omega, by go_num, HV.out, B3.out⟩, by simp [intOf]; omega⟩
          | false =>
            have HV := Lib.hid (HF.out rfl)
            go_wp2
            go_ret
            exact ⟨by rw [HV.out]; rfl, B3.out⟩
        · have dk : decide ((k : Int) < (n : Int)) = false := by simp; omega
          have HV : Hid (q = true) := Lib.hid (by rw [HQ.out]; have := T0.out; rwa [List.take_of_length_le (by rw [← HL.out]; omega)] at this)
          go_wp2
          go_ret
          exact ⟨by rw [HV.out]; rfl, B0.out⟩
end Go.Proofs.Ytnjeopgcpffkcaa
