/- What the document's Block answers. -/
import Derived.Test.YtmnhpkdldeifgaaGreatDoorGbq
namespace Go.Proofs.YtmnhpkdldeifgaaGreatDoor
set_option maxRecDepth 100000
open Go.RowKit

theorem sched_take (b : List UInt32) (m n : Nat) (h : n ≤ m) : (schedN b m).take (b.length + n) = schedN b n := by
  induction m with
  | zero =>
    obtain rfl : n = 0 := by omega
    exact List.take_of_length_le (by rw [schedN_length]; omega)
  | succ m ih =>
    rcases Nat.lt_or_ge m n with hlt | hge
    · obtain rfl : n = m + 1 := by omega
      exact List.take_of_length_le (by rw [schedN_length]; omega)
    · rw [schedN, List.take_append_of_le_length (by rw [schedN_length]; omega)]
      exact ih hge
theorem wordsOf_take (l : List UInt8) (k : Nat) (h1 : 16 ≤ k) (h2 : k ≤ 64) : (wordsOf l).take k = schedN (words16 l) (k - 16) := by
  have e := sched_take (words16 l) 48 (k - 16) (by omega)
  rw [words16_length, show 16 + (k - 16) = k by omega] at e
  exact e
theorem wordsOf_next (l : List UInt8) (k : Nat) (h1 : 16 ≤ k) (h2 : k < 64) : (wordsOf l)[k]? = some (nextW ((wordsOf l).take k)) := by
  have e1 := wordsOf_take l k h1 (by omega)
  have e2 := wordsOf_take l (k + 1) (by omega) (by omega)
  have e3 : k + 1 - 16 = (k - 16) + 1 := by omega
  rw [e3, schedN] at e2
  have q : ((wordsOf l).take (k + 1))[k]? = (wordsOf l)[k]? := by rw [List.getElem?_take]; simp
  rw [← q, e2, e1, List.getElem?_append_right (by rw [schedN_length, words16_length]; omega), schedN_length, words16_length, show k - (16 + (k - 16)) = 0 by omega]
  rfl
theorem wordsOf_low (l : List UInt8) (k : Nat) (h : k < 16) : (wordsOf l)[k]? = some (word4 ((l.drop (4 * k)).take 4)) := by
  have e := wordsOf_take l 16 (Nat.le_refl _) (by decide)
  have q : ((wordsOf l).take 16)[k]? = (wordsOf l)[k]? := by rw [List.getElem?_take]; simp [h]
  rw [← q, e]
  simp [schedN, words16, List.getElem?_range h]
theorem four (l : List UInt8) (j : Nat) (h : j + 4 ≤ l.length) : ∃ a b c d, l[j]? = some a ∧ l[j + 1]? = some b ∧ l[j + 2]? = some c ∧ l[j + 3]? = some d ∧ (l.drop j).take 4 = [a, b, c, d] := by
  have h0 : j < l.length := by omega
  have h1 : j + 1 < l.length := by omega
  have h2 : j + 2 < l.length := by omega
  have h3 : j + 3 < l.length := by omega
  refine ⟨l[j], l[j + 1], l[j + 2], l[j + 3], List.getElem?_eq_getElem h0, List.getElem?_eq_getElem h1, List.getElem?_eq_getElem h2, List.getElem?_eq_getElem h3, ?_⟩
  rw [List.drop_eq_getElem_cons h0, List.drop_eq_getElem_cons h1, List.drop_eq_getElem_cons h2, List.drop_eq_getElem_cons h3]
  rfl

set_option maxRecDepth 100000 in
set_option maxHeartbeats 4000000 in
theorem refBlock_any (vs vb : Value) (s : List UInt32) (hs : s.length = 8) (l : List UInt8) (hl : l.length = 64) (w : World) (h1 : WordsAt w vs s) (h2 : BytesAt w vb l) :
    Calls Tryz.prog 102 #[vs, vb] w fun e w' => ∃ v', e = .returned v' ∧ WordsAt w' v' (blockS s l) ∧ Below w.heap.size w w' := by
  have HS := Lib.hid h1
  have HV := Lib.hid h2
  obtain ⟨bs, offs, caps, rfl, -, -, hcs⟩ := h1
  obtain ⟨A2, capb, rfl, -, -⟩ := h2
  rw [hs] at HS ⊢
  rw [hl] at HV ⊢
  have hcapb := HV.out.size.2
  obtain ⟨bb, offb, rfl, hbb, hcb⟩ := HV.out.spots (by intro e; rw [e] at hl; simp at hl)
  have HCB := Lib.hid hcb
  have HBL := Lib.hid hbb
  have HL := Lib.hid hl
  have H8 := Lib.hid hs
  have LOW := Lib.hid (wordsOf_low l)
  have NEX := Lib.hid (wordsOf_next l)
  have HW := Lib.hid (wordsOf_length l)
  have HBS : Hid (blockS s l = addW s (rounds (wordsOf l) s 64)) := Lib.hid rfl
  generalize wordsOf l = W at *
  generalize blockS s l = R at *
  clear hcs hcb hbb hl hs
  go_enter Tryz.func102, Tryz.ntmps102
  go_wp2_with fail
  go_loopw [5, 6] (fun v i wr => ∃ k : Nat, k ≤ 64 ∧ i = .int .i64 k ∧ wr.ownsRow w.heap.size 57 1 v k ((W.take k).map wd) ∧ Below w.heap.size w wr) (fun _ i _ => 64 - (intOf i).toNat)
  case atStart => exact ⟨0, Nat.zero_le _, rfl, World.ownsRow_nil _ _ _ _, Below.refl _ _⟩
  case round =>
    obtain ⟨k, hk, rfl, ho, hb⟩ := hrel
    have HO := Lib.hid ho
    have HB := Lib.hid hb
    clear ho hb
    by_cases hlt : k < 64
    · have d64 : decide ((k : Int) < 64) = true := by simp; omega
      by_cases h16 : k < 16
      · have d16 : decide ((k : Int) < 16) = true := by simp; omega
        obtain ⟨a0, a1, a2, a3, q0, q1, q2, q3, q4⟩ := four l (4 * k) (by rw [HL.out]; omega)
        have hx := LOW.out k h16
        rw [q4] at hx
        have c0 : wr.cell? ⟨bb, offb + 4 * k, none⟩ = some (.int .u8 (a0.toNat : Int)) := (HB.out.cell (p := ⟨bb, offb + 4 * k, none⟩) HBL.out).trans (HCB.out _ _ q0)
        have c1 : wr.cell? ⟨bb, offb + 4 * k + 1, none⟩ = some (.int .u8 (a1.toNat : Int)) := (HB.out.cell (p := ⟨bb, offb + 4 * k + 1, none⟩) HBL.out).trans (by rw [Nat.add_assoc]; exact HCB.out _ _ q1)
        have c2 : wr.cell? ⟨bb, offb + 4 * k + 2, none⟩ = some (.int .u8 (a2.toNat : Int)) := (HB.out.cell (p := ⟨bb, offb + 4 * k + 2, none⟩) HBL.out).trans (by rw [Nat.add_assoc]; exact HCB.out _ _ q2)
        have c3 : wr.cell? ⟨bb, offb + 4 * k + 3, none⟩ = some (.int .u8 (a3.toNat : Int)) := (HB.out.cell (p := ⟨bb, offb + 4 * k + 3, none⟩) HBL.out).trans (by rw [Nat.add_assoc]; exact HCB.out _ _ q3)
        have CN := Lib.hid (number_any bb (offb + 4 * k) (capb - 4 * k) a0 a1 a2 a3 wr c0 c1 c2 c3)
        generalize word4 [a0, a1, a2, a3] = y at *
        have hne : capb ≠ 4 * k := by omega
        have HT := Lib.hid (take_at hx)
        clear c0 c1 c2 c3 q0 q1 q2 q3 q4 hx
        go_wp2_with fail
        refine CN.out.mono ?_
        rintro e w2 ⟨rfl, h2, b2⟩
        have g2 : wr.grownBy w2 none := ⟨b2.os, b2.tape, b2.output, b2.size, fun j hj _ => b2.block j hj⟩
        have HO2 := Lib.hid (HO.out.kept g2 (by cases u5.ownBlock <;> simp))
        have HB2 := Lib.hid (HB.out.trans (b2.mono HB.out.size))
        clear g2 h2 b2 CN HO HB
        go_wp2_with (with_reducible refine wpList_lit_wd1 rfl _ rfl y ?hp ?_)
        case hp => exact rfl
        intro w3 b3 x3 g3
        have HO3 := Lib.hid (HO2.out.kept g3 (by cases u5.ownBlock <;> simp))
        have HB3 := Lib.hid (HB2.out.trans (b3.mono HB2.out.size))
        have X3 := Lib.hid x3
        clear b3 x3 g3
        go_wp2_with (with_reducible refine wpList_append_wd rfl _ _ rfl w.heap.size _ _ _ ?hv HO3.out _ y ?hx X3.out ?hlen ?hbase ?_)
        case hv => exact rfl
        case hx => exact rfl
        case hlen => omega
        case hbase => exact HB3.out.size
        intro v4 w4 ho4 hg4
        have hlt4 := HO3.out.lt
        have HB4 := Lib.hid (HB3.out.grown hg4 HB3.out.size (fun j hj => (hlt4 j hj).1))
        have ho4' : w4.ownsRow w.heap.size 57 1 v4 (k + 1) ((W.take (k + 1)).map wd) := by
          rw [HT.out, List.map_append, List.map_take]
          exact ho4
        have HO4 := Lib.hid ho4'
        clear ho4 ho4' hg4 hlt4 HO3 HB3 X3 d64 d16
        have i1 : IntKind.i64.wrap ((k : Int) + 1) = ((k + 1 : Nat) : Int) := by rw [IntWalk.i64_in _ (by omega)]; omega
        go_wp2_with fail
        refine ⟨⟨k + 1, hlt, ?_, HO4.out, HB4.out⟩, ?_⟩
        · go_num
        · simp [intOf]; omega
      · have h16' : 16 ≤ k := by omega
        have d16 : decide ((k : Int) < 16) = false := by simp; omega
        have hlk : (W.take k).length = k := by rw [List.length_take, HW.out]; omega
        have WA : Hid (WordsAt wr u5 (W.take k)) := WordsAt.of_own (base := w.heap.size) (by rw [hlk]; exact HO.out) (by rw [hlk]; omega)
        obtain ⟨bw, ofw, capw, hvw, hcw, hbw, hcell⟩ := WA.out
        rw [hlk] at hvw
        subst hvw
        have hat : ∀ j, j < k → wr.cell? ⟨bw, ofw + j, none⟩ = some (wd ((W.take k).getD j 0)) := fun j hj => hcell j _ (by simp [List.getD, List.getElem?_eq_getElem (show j < (W.take k).length by rw [hlk]; exact hj)])
        have HAT := Lib.hid hat
        have hx := NEX.out k h16' hlt
        have HT := Lib.hid (take_at hx)
        have HX : Hid (nextW (W.take k) = (W.take k).getD (k - 16) 0 + (W.take k).getD (k - 7) 0 + (rotr ((W.take k).getD (k - 15) 0) 7 ^^^ rotr ((W.take k).getD (k - 15) 0) 18 ^^^ (W.take k).getD (k - 15) 0 >>> 3) + (rotr ((W.take k).getD (k - 2) 0) 17 ^^^ rotr ((W.take k).getD (k - 2) 0) 19 ^^^ (W.take k).getD (k - 2) 0 >>> 10)) := by
          rw [nextW, hlk]
          exact rfl
        have A16 := Lib.hid (hat (k - 16) (by omega))
        have A15 := Lib.hid (hat (k - 15) (by omega))
        have A7 := Lib.hid (hat (k - 7) (by omega))
        have A2 := Lib.hid (hat (k - 2) (by omega))
        generalize nextW (W.take k) = y at *
        generalize (W.take k).getD (k - 16) 0 = x16 at *
        generalize (W.take k).getD (k - 15) 0 = x15 at *
        generalize (W.take k).getD (k - 7) 0 = x7 at *
        generalize (W.take k).getD (k - 2) 0 = x2 at *
        have i16 : IntKind.i64.wrap ((k : Int) - 16) = ((k - 16 : Nat) : Int) := by rw [IntWalk.i64_in _ (by omega)]; omega
        have i15 : IntKind.i64.wrap ((k : Int) - 15) = ((k - 15 : Nat) : Int) := by rw [IntWalk.i64_in _ (by omega)]; omega
        have i7 : IntKind.i64.wrap ((k : Int) - 7) = ((k - 7 : Nat) : Int) := by rw [IntWalk.i64_in _ (by omega)]; omega
        have i2 : IntKind.i64.wrap ((k : Int) - 2) = ((k - 2 : Nat) : Int) := by rw [IntWalk.i64_in _ (by omega)]; omega
        have j16 : ((k - 16 : Nat) : Int) < (k : Int) := by omega
        have j15 : ((k - 15 : Nat) : Int) < (k : Int) := by omega
        have j7 : ((k - 7 : Nat) : Int) < (k : Int) := by omega
        have j2 : ((k - 2 : Nat) : Int) < (k : Int) := by omega
        have n16 : k - 16 < k := by omega
        have n15 : k - 15 < k := by omega
        have n7 : k - 7 < k := by omega
        have n2 : k - 2 < k := by omega
        generalize k - 16 = m16 at *
        generalize k - 15 = m15 at *
        generalize k - 7 = m7 at *
        generalize k - 2 = m2 at *
        obtain ⟨r1, r2, -, -, -⟩ := rules_w
        have e8 := run_quo 3 (by decide) 8 rfl
        have e10 := run_quo 10 (by decide) 1024 rfl
        clear hat hcell hbw hcw hlk h16' h16 hx WA
        go_wp2_with fail
        refine still_all (by kernel_rfl) (by kernel_rfl) fun w2 hh2 bb2 => ?_
        have a15 : w2.cell? ⟨bw, ofw + m15, none⟩ = some (wd x15) := (World.cell?_of_block (by rw [hh2])).trans A15.out
        repeat still_step
        still_call ((refRight_7 x15 _).mono fun _ _ h => ⟨h.1, h.2.symm⟩)
        repeat still_step
        still_call ((refRight_18 x15 _).mono fun _ _ h => ⟨h.1, h.2.symm⟩)
        repeat still_step
        refine wpStill_nil ?_
        clear a15
        go_wp2_with fail
        refine still_all (by kernel_rfl) (by kernel_rfl) fun w3 hh3 bb3 => ?_
        have a2 : w3.cell? ⟨bw, ofw + m2, none⟩ = some (wd x2) := (World.cell?_of_block (by rw [hh3, hh2])).trans A2.out
        repeat still_step
        still_call ((refRight_17 x2 _).mono fun _ _ h => ⟨h.1, h.2.symm⟩)
        repeat still_step
        still_call ((refRight_19 x2 _).mono fun _ _ h => ⟨h.1, h.2.symm⟩)
        repeat still_step
        refine wpStill_nil ?_
        clear a2
        go_upto_region 9 with fail
        refine regS_begin (fun _ => True) (by kernel_rfl) trivial ?_
        have hS : True := trivial
        have g4 : wr.grownBy w3.drew none := ⟨bb3.os.trans bb2.os, bb3.tape.trans bb2.tape, bb3.output.trans bb2.output, by show wr.heap.size ≤ w3.heap.size; rw [hh3, hh2]; exact Nat.le_refl _, fun j _ _ => by show w3.heap[j]? = wr.heap[j]?; rw [hh3, hh2]⟩
        have HO4 := Lib.hid (HO.out.kept g4 (Classical.em _))
        have HB4 := Lib.hid (HB.out.grown g4 HB.out.size (fun j hj => by cases hj))
        have a16 : w3.drew.cell? ⟨bw, ofw + m16, none⟩ = some (wd x16) := (World.cell?_of_block (show w3.heap[bw]? = wr.heap[bw]? by rw [hh3, hh2])).trans A16.out
        have a7 : w3.drew.cell? ⟨bw, ofw + m7, none⟩ = some (wd x7) := (World.cell?_of_block (show w3.heap[bw]? = wr.heap[bw]? by rw [hh3, hh2])).trans A7.out
        clear g4 hh2 hh3 bb2 bb3 HO HB A16 A15 A7 A2 HAT
        generalize w3.drew = w4 at *
        refine regS_take (i := 0) (v := ?_) rfl (by kernel_rfl) (by kernel_rfl) (by kernel_rfl) (fun _ _ _ h => h) (by rfl) hS ?hy0 ?_
        case hy0 => intro w' hw'; go_simp; (try with_reducible rfl)
        simp only [Act.put, List.setIfInBounds_toArray, List.set_cons_zero, List.set_cons_succ]
        refine regS_take (i := 1) (v := ?_) rfl (by kernel_rfl) (by kernel_rfl) (by kernel_rfl) (fun _ _ _ h => h) (by rfl) hS ?hy1 ?_
        case hy1 => intro w' hw'; go_simp; (try with_reducible rfl)
        simp only [Act.put, List.setIfInBounds_toArray, List.set_cons_zero, List.set_cons_succ]
        refine regS_take (i := 2) (v := ?_) rfl (by kernel_rfl) (by kernel_rfl) (by kernel_rfl) (fun _ _ _ h => h) (by rfl) hS ?hy2 ?_
        case hy2 => intro w' hw'; go_simp; (try with_reducible rfl)
        simp only [Act.put, List.setIfInBounds_toArray, List.set_cons_zero, List.set_cons_succ]
        refine regS_take (i := 3) (v := ?_) rfl (by kernel_rfl) (by kernel_rfl) (by kernel_rfl) (fun _ _ _ h => h) (by rfl) hS ?hy3 ?_
        case hy3 => intro w' hw'; go_simp; (try with_reducible rfl)
        simp only [Act.put, List.setIfInBounds_toArray, List.set_cons_zero, List.set_cons_succ]
        refine regS_take (i := 4) (v := ?_) rfl (by kernel_rfl) (by kernel_rfl) (by kernel_rfl) (fun _ _ _ h => h) (by rfl) hS ?hy4 ?_
        case hy4 => intro w' hw'; go_simp; (try with_reducible rfl)
        simp only [Act.put, List.setIfInBounds_toArray, List.set_cons_zero, List.set_cons_succ]
        refine regS_take (i := 6) (v := ?_) rfl (by kernel_rfl) (by kernel_rfl) (by kernel_rfl) (fun _ _ _ h => h) (by rfl) hS ?hy6 ?_
        case hy6 => intro w' hw'; go_simp; (try with_reducible rfl)
        simp only [Act.put, List.setIfInBounds_toArray, List.set_cons_zero, List.set_cons_succ]
        refine regS_take (i := 7) (v := ?_) rfl (by kernel_rfl) (by kernel_rfl) (by kernel_rfl) (fun _ _ _ h => h) (by rfl) hS ?hy7 ?_
        case hy7 => intro w' hw'; go_simp; (try with_reducible rfl)
        simp only [Act.put, List.setIfInBounds_toArray, List.set_cons_zero, List.set_cons_succ]
        refine regS_take (i := 8) (v := ?_) rfl (by kernel_rfl) (by kernel_rfl) (by kernel_rfl) (fun _ _ _ h => h) (by rfl) hS ?hy8 ?_
        case hy8 => intro w' hw'; go_simp; (try with_reducible rfl)
        simp only [Act.put, List.setIfInBounds_toArray, List.set_cons_zero, List.set_cons_succ]
        refine regS_take (i := 9) (v := ?_) rfl (by kernel_rfl) (by kernel_rfl) (by kernel_rfl) (fun _ _ _ h => h) (by rfl) hS ?hy9 ?_
        case hy9 => intro w' hw'; go_simp; (try with_reducible rfl)
        simp only [Act.put, List.setIfInBounds_toArray, List.set_cons_zero, List.set_cons_succ]
        refine regS_take (i := 12) (v := ?_) rfl (by kernel_rfl) (by kernel_rfl) (by kernel_rfl) (fun _ _ _ h => h) (by rfl) hS ?hy12 ?_
        case hy12 => intro w' hw'; go_simp; (try with_reducible rfl)
        simp only [Act.put, List.setIfInBounds_toArray, List.set_cons_zero, List.set_cons_succ]
        refine regS_take (i := 14) (v := ?_) rfl (by kernel_rfl) (by kernel_rfl) (by kernel_rfl) (fun _ _ _ h => h) (by rfl) hS ?hy14 ?_
        case hy14 => intro w' hw'; go_simp; (try with_reducible rfl)
        simp only [Act.put, List.setIfInBounds_toArray, List.set_cons_zero, List.set_cons_succ]
        refine regS_two (i := 5) (j := 10) rfl rfl (by kernel_rfl) (fun K' hK => ?_) (fun K' hK => ?_)
        · skip
          go_simp
          refine hK.out _ _ trivial ?_
          clear hK K'
          refine regS_do (i := 10) rfl (by kernel_rfl) (fun K' hK => ?_)
          go_simp
          refine hK.out _ _ trivial ?_
          clear hK K' a16 a7
          refine regS_take (i := 11) (v := ?_) rfl (by kernel_rfl) (by kernel_rfl) (by kernel_rfl) (fun _ _ _ h => h) (by rfl) hS ?hy11 ?_
          case hy11 => intro w' hw'; go_simp; (try with_reducible rfl)
          simp only [Act.put, List.setIfInBounds_toArray, List.set_cons_zero, List.set_cons_succ]
          refine regS_take (i := 13) (v := ?_) rfl (by kernel_rfl) (by kernel_rfl) (by kernel_rfl) (fun _ _ _ h => h) (by rfl) hS ?hy13 ?_
          case hy13 => intro w' hw'; go_simp; (try with_reducible rfl)
          simp only [Act.put, List.setIfInBounds_toArray, List.set_cons_zero, List.set_cons_succ]
          refine regS_take (i := 15) (v := ?_) rfl (by kernel_rfl) (by kernel_rfl) (by kernel_rfl) (fun _ _ _ h => h) (by rfl) hS ?hy15 ?_
          case hy15 => intro w' hw'; go_simp; (try with_reducible rfl)
          simp only [Act.put, List.setIfInBounds_toArray, List.set_cons_zero, List.set_cons_succ]
          rw [← HX.out]
          refine regS_do (i := 16) rfl (by kernel_rfl) (fun K' hK => ?_)
          rw [if_pos (by rfl)]
          refine wp_lit_wd1 _ rfl y rfl ?_
          intro w5 b5 x5 g5
          have HO5 := Lib.hid (HO4.out.kept g5 (Classical.em _))
          have HB5 := Lib.hid (HB4.out.trans (b5.mono HB4.out.size))
          have X5 := Lib.hid x5
          refine hK.out _ _ trivial ?_
          clear hK K' b5 x5 g5
          simp only [Act.put, List.setIfInBounds_toArray, List.set_cons_zero, List.set_cons_succ]
          refine regS_do (i := 17) rfl (by kernel_rfl) (fun K' hK => ?_)
          rw [if_pos (by rfl)]
          refine wp_append_wd _ _ rfl w.heap.size _ _ _ rfl HO5.out _ y rfl X5.out (by omega) HB5.out.size ?_
          intro v6 w6 ho6 hg6
          have hlt6 := HO5.out.lt
          have HB6 := Lib.hid (HB5.out.grown hg6 HB5.out.size (fun j hj => (hlt6 j hj).1))
          have ho6' : w6.ownsRow w.heap.size 57 1 v6 (k + 1) ((W.take (k + 1)).map wd) := by
            rw [HT.out, List.map_append]
            exact ho6
          have HO6 := Lib.hid ho6'
          refine hK.out _ _ trivial ?_
          clear hK K' ho6 ho6' hg6 hlt6 HO5 HB5 X5
          simp only [Act.put, List.setIfInBounds_toArray, List.set_cons_zero, List.set_cons_succ]
          refine regS_take (i := 18) (v := ?_) rfl (by kernel_rfl) (by kernel_rfl) (by kernel_rfl) (fun _ _ _ h => h) (by rfl) hS ?hy18 ?_
          case hy18 => intro w' hw'; go_simp; (try with_reducible rfl)
          simp only [Act.put, List.setIfInBounds_toArray, List.set_cons_zero, List.set_cons_succ]
          refine regS_end (by kernel_rfl) ?_
          have i1 : IntKind.i64.wrap ((k : Int) + 1) = ((k + 1 : Nat) : Int) := by rw [IntWalk.i64_in _ (by omega)]; omega
          clear i16 i15 i7 i2 j16 j15 j7 j2 n16 n15 n7 n2 d64 d16 r1 r2 e8 e10
          go_wp2_with fail
          refine ⟨⟨k + 1, hlt, ?_, HO6.out, HB6.out⟩, ?_⟩
          · go_num
          · simp [intOf]; omega
        · skip
          go_simp
          refine hK.out _ _ trivial ?_
          clear hK K'
          refine regS_do (i := 5) rfl (by kernel_rfl) (fun K' hK => ?_)
          go_simp
          refine hK.out _ _ trivial ?_
          clear hK K' a16 a7
          refine regS_take (i := 11) (v := ?_) rfl (by kernel_rfl) (by kernel_rfl) (by kernel_rfl) (fun _ _ _ h => h) (by rfl) hS ?hy11 ?_
          case hy11 => intro w' hw'; go_simp; (try with_reducible rfl)
          simp only [Act.put, List.setIfInBounds_toArray, List.set_cons_zero, List.set_cons_succ]
          refine regS_take (i := 13) (v := ?_) rfl (by kernel_rfl) (by kernel_rfl) (by kernel_rfl) (fun _ _ _ h => h) (by rfl) hS ?hy13 ?_
          case hy13 => intro w' hw'; go_simp; (try with_reducible rfl)
          simp only [Act.put, List.setIfInBounds_toArray, List.set_cons_zero, List.set_cons_succ]
          refine regS_take (i := 15) (v := ?_) rfl (by kernel_rfl) (by kernel_rfl) (by kernel_rfl) (fun _ _ _ h => h) (by rfl) hS ?hy15 ?_
          case hy15 => intro w' hw'; go_simp; (try with_reducible rfl)
          simp only [Act.put, List.setIfInBounds_toArray, List.set_cons_zero, List.set_cons_succ]
          rw [← HX.out]
          refine regS_do (i := 16) rfl (by kernel_rfl) (fun K' hK => ?_)
          rw [if_pos (by rfl)]
          refine wp_lit_wd1 _ rfl y rfl ?_
          intro w5 b5 x5 g5
          have HO5 := Lib.hid (HO4.out.kept g5 (Classical.em _))
          have HB5 := Lib.hid (HB4.out.trans (b5.mono HB4.out.size))
          have X5 := Lib.hid x5
          refine hK.out _ _ trivial ?_
          clear hK K' b5 x5 g5
          simp only [Act.put, List.setIfInBounds_toArray, List.set_cons_zero, List.set_cons_succ]
          refine regS_do (i := 17) rfl (by kernel_rfl) (fun K' hK => ?_)
          rw [if_pos (by rfl)]
          refine wp_append_wd _ _ rfl w.heap.size _ _ _ rfl HO5.out _ y rfl X5.out (by omega) HB5.out.size ?_
          intro v6 w6 ho6 hg6
          have hlt6 := HO5.out.lt
          have HB6 := Lib.hid (HB5.out.grown hg6 HB5.out.size (fun j hj => (hlt6 j hj).1))
          have ho6' : w6.ownsRow w.heap.size 57 1 v6 (k + 1) ((W.take (k + 1)).map wd) := by
            rw [HT.out, List.map_append]
            exact ho6
          have HO6 := Lib.hid ho6'
          refine hK.out _ _ trivial ?_
          clear hK K' ho6 ho6' hg6 hlt6 HO5 HB5 X5
          simp only [Act.put, List.setIfInBounds_toArray, List.set_cons_zero, List.set_cons_succ]
          refine regS_take (i := 18) (v := ?_) rfl (by kernel_rfl) (by kernel_rfl) (by kernel_rfl) (fun _ _ _ h => h) (by rfl) hS ?hy18 ?_
          case hy18 => intro w' hw'; go_simp; (try with_reducible rfl)
          simp only [Act.put, List.setIfInBounds_toArray, List.set_cons_zero, List.set_cons_succ]
          refine regS_end (by kernel_rfl) ?_
          have i1 : IntKind.i64.wrap ((k : Int) + 1) = ((k + 1 : Nat) : Int) := by rw [IntWalk.i64_in _ (by omega)]; omega
          clear i16 i15 i7 i2 j16 j15 j7 j2 n16 n15 n7 n2 d64 d16 r1 r2 e8 e10
          go_wp2_with fail
          refine ⟨⟨k + 1, hlt, ?_, HO6.out, HB6.out⟩, ?_⟩
          · go_num
          · simp [intOf]; omega
    · have hk64 : k = 64 := by omega
      have d64 : decide ((k : Int) < 64) = false := by simp; omega
      have WA : Hid (WordsAt wr u5 W) := WordsAt.of_own (base := w.heap.size) (by
        have q := HO.out
        rw [hk64, List.take_of_length_le (by rw [HW.out]; omega)] at q
        rw [HW.out]
        exact q) (by rw [HW.out]; omega)
      clear HO hlt hk hk64 LOW NEX HV HCB HBL HL hcapb
      go_wp2_with fail
      refine (refConst_any wr).mono ?_
      rintro e w2 ⟨vk, rfl, yk, b2⟩
      have HB2 := Lib.hid (HB.out.trans (b2.mono HB.out.size))
      have WA2 := Lib.hid (WA.out.below b2)
      have KA2 := Lib.hid yk
      have HS2 := Lib.hid (HS.out.below HB2.out)
      clear b2 yk WA HB
      obtain ⟨bw, ofw, capw, hvw, hcw, hbw, hcellw⟩ := WA2.out
      obtain ⟨bk, ofk, capk, hvk, hck, hbk, hcellk⟩ := KA2.out
      obtain ⟨bs', offs', caps', hvs, hcs', hbs, hcells⟩ := HS2.out
      have hk64 : kt.length = 64 := by kernel_rfl
      rw [HW.out] at hvw
      rw [hk64] at hvk
      subst hvw hvk
      injection hvs with e1 e2 e3
      injection e1 with e1
      injection e1 with e4 e5
      subst e4 e5
      have HCW := Lib.hid hcellw
      have HCK := Lib.hid hcellk
      obtain ⟨a0, b0, c0, d0, e0, f0, g0, h0, hs8⟩ := list8 s H8.out
      have HS8 := Lib.hid hs8
      have at8 : ∀ j x, [a0, b0, c0, d0, e0, f0, g0, h0][j]? = some x → w2.cell? ⟨bs, offs + j, none⟩ = some (wd x) := fun j x hj => hcells j x (by rw [hs8]; exact hj)
      have V0 := Lib.hid (at8 0 a0 rfl)
      have V1 := Lib.hid (at8 1 b0 rfl)
      have V2 := Lib.hid (at8 2 c0 rfl)
      have V3 := Lib.hid (at8 3 d0 rfl)
      have V4 := Lib.hid (at8 4 e0 rfl)
      have V5 := Lib.hid (at8 5 f0 rfl)
      have V6 := Lib.hid (at8 6 g0 rfl)
      have V7 := Lib.hid (at8 7 h0 rfl)
      clear at8 hs8 hcells hcellw hcellk hcw hck hbw hbk hbs hcs' hk64 e2 e3 WA2 KA2 HS2 HS d64
      go_wp2_with fail
      refine still_all (by kernel_rfl) (by kernel_rfl) fun w3 h3 b3 => ?_
      have q0 : w3.cell? ⟨bs, offs, none⟩ = some (wd a0) := (World.cell?_of_block (by rw [h3])).trans V0.out
      have q1 : w3.cell? ⟨bs, offs + 1, none⟩ = some (wd b0) := (World.cell?_of_block (by rw [h3])).trans V1.out
      have q2 : w3.cell? ⟨bs, offs + 2, none⟩ = some (wd c0) := (World.cell?_of_block (by rw [h3])).trans V2.out
      have q3 : w3.cell? ⟨bs, offs + 3, none⟩ = some (wd d0) := (World.cell?_of_block (by rw [h3])).trans V3.out
      repeat still_step
      refine wpStill_nil ?_
      clear q0 q1 q2 q3
      go_wp2_with fail
      refine still_all (by kernel_rfl) (by kernel_rfl) fun w4 h4 b4 => ?_
      have q4 : w4.cell? ⟨bs, offs + 4, none⟩ = some (wd e0) := (World.cell?_of_block (by rw [h4, h3])).trans V4.out
      have q5 : w4.cell? ⟨bs, offs + 5, none⟩ = some (wd f0) := (World.cell?_of_block (by rw [h4, h3])).trans V5.out
      have q6 : w4.cell? ⟨bs, offs + 6, none⟩ = some (wd g0) := (World.cell?_of_block (by rw [h4, h3])).trans V6.out
      have q7 : w4.cell? ⟨bs, offs + 7, none⟩ = some (wd h0) := (World.cell?_of_block (by rw [h4, h3])).trans V7.out
      repeat still_step
      refine wpStill_nil ?_
      have H4 := Lib.hid (h4.trans h3)
      have HB3 := HB2.out.trans (b3.mono HB2.out.size)
      have HB4 := Lib.hid (HB3.trans (b4.mono HB3.size))
      clear q4 q5 q6 q7 h3 h4 b3 b4 HB3 HB2
      go_wp2_with fail
      go_loopw [10, 11, 12, 13, 14, 15, 16, 17, 18] (fun ua ub uc ud ue uf ug uh i wr => ∃ (t : Nat) (a b c d e f g h : UInt32), t ≤ 64 ∧ i = .int .i64 t ∧ rounds W s t = [a, b, c, d, e, f, g, h] ∧ ua = wd a ∧ ub = wd b ∧ uc = wd c ∧ ud = wd d ∧ ue = wd e ∧ uf = wd f ∧ ug = wd g ∧ uh = wd h ∧ wr.heap = w2.heap ∧ Below w.heap.size w wr) (fun _ _ _ _ _ _ _ _ i _ => 64 - (intOf i).toNat)
      case atStart => exact ⟨0, _, _, _, _, _, _, _, _, Nat.zero_le _, rfl, HS8.out, rfl, rfl, rfl, rfl, rfl, rfl, rfl, rfl, H4.out, HB4.out⟩
      case round =>
        obtain ⟨t, a, b, c, d, e, f, g, h, ht, rfl, hr, rfl, rfl, rfl, rfl, rfl, rfl, rfl, rfl, hh, hb⟩ := hrel
        clear H4 HB4
        have HR := Lib.hid hr
        have HH := Lib.hid hh
        have HB := Lib.hid hb
        clear hr hh hb
        by_cases hlt : t < 64
        · have dt : decide ((t : Int) < 64) = true := by simp; omega
          have jt : (t : Int) < 64 := by omega
          have HNN : Hid (rounds W s (t + 1) = rnd (kt.getD t 0) (W.getD t 0) (rounds W s t)) := Lib.hid rfl
          rw [HR.out] at HNN
          have hWl : t < W.length := by rw [HW.out]; exact hlt
          have hKl : t < kt.length := by rw [show kt.length = 64 by kernel_rfl]; exact hlt
          have KT := Lib.hid (HCK.out t (kt.getD t 0) (by simp [List.getD, List.getElem?_eq_getElem hKl]))
          have WT := Lib.hid (HCW.out t (W.getD t 0) (by simp [List.getD, List.getElem?_eq_getElem hWl]))
          generalize kt.getD t 0 = kk at *
          generalize W.getD t 0 = x at *
          obtain ⟨r1, r2, r3, r4, r5⟩ := rules_w
          clear hWl hKl r4
          have HT := Lib.hid (And.intro ht hlt)
          clear hlt ht
          go_upto_region 16 with fail
          refine still_all (by kernel_rfl) (by kernel_rfl) fun w8 h8 b8 => ?_
          have k1 : w8.cell? ⟨bk, ofk + t, none⟩ = some (wd kk) := (World.cell?_of_block (by rw [h8, HH.out])).trans KT.out
          have k2 : w8.cell? ⟨bw, ofw + t, none⟩ = some (wd x) := (World.cell?_of_block (by rw [h8, HH.out])).trans WT.out
          repeat still_step
          still_call ((refRight_6 e _).mono fun _ _ h => ⟨h.1, h.2.symm⟩)
          repeat still_step
          still_call ((refRight_11 e _).mono fun _ _ h => ⟨h.1, h.2.symm⟩)
          repeat still_step
          still_call ((refRight_25 e _).mono fun _ _ h => ⟨h.1, h.2.symm⟩)
          repeat still_step
          refine wpStill_nil ?_
          have H8' := Lib.hid (h8.trans HH.out)
          have HB8 := Lib.hid (HB.out.trans (b8.mono HB.out.size))
          clear k1 k2 KT WT h8 b8 HH HB dt jt
          go_wp2_with fail
          refine (refRight_2 a _).mono ?_
          rintro _ _ ⟨rfl, rfl⟩
          go_wp2_with fail
          refine (refRight_13 a _).mono ?_
          rintro _ _ ⟨rfl, rfl⟩
          go_wp2_with fail
          refine (refRight_22 a _).mono ?_
          rintro _ _ ⟨rfl, rfl⟩
          have i1 : IntKind.i64.wrap ((t : Int) + 1) = ((t + 1 : Nat) : Int) := by have := HT.out; rw [IntWalk.i64_in _ (by omega)]; omega
          go_wp2_with fail
          clear r1 r2 r3 r5 i1
          obtain ⟨ht, hlt⟩ := HT.out
          refine ⟨⟨t + 1, _, _, _, _, _, _, _, _, hlt, ?_, HNN.out, rfl, rfl, rfl, rfl, rfl, rfl, rfl, rfl, H8'.out, HB8.out⟩, ?_⟩
          · go_num
          · simp [intOf]; omega
        · have ht64 : t = 64 := by omega
          have dt : decide ((t : Int) < 64) = false := by simp; omega
          have HE : Hid (R = [a0 + a, b0 + b, c0 + c, d0 + d, e0 + e, f0 + f, g0 + g, h0 + h]) := by
            have := HBS.out
            rw [ht64] at HR
            rw [HR.out, HS8.out] at this
            exact this
          obtain ⟨r1, r2, r3, r4, r5⟩ := rules_w
          clear r2 r3 r4 r5 ht64 hlt ht
          go_upto_region 26 with fail
          refine still_tail 40 (by kernel_rfl) (by kernel_rfl) fun w8 h8 b8 => ?_
          simp only [List.take_succ_cons, List.take_zero, List.drop_succ_cons, List.drop_zero]
          have q0 : w8.cell? ⟨bs, offs, none⟩ = some (wd a0) := (World.cell?_of_block (by rw [h8, HH.out])).trans V0.out
          have q1 : w8.cell? ⟨bs, offs + 1, none⟩ = some (wd b0) := (World.cell?_of_block (by rw [h8, HH.out])).trans V1.out
          have q2 : w8.cell? ⟨bs, offs + 2, none⟩ = some (wd c0) := (World.cell?_of_block (by rw [h8, HH.out])).trans V2.out
          have q3 : w8.cell? ⟨bs, offs + 3, none⟩ = some (wd d0) := (World.cell?_of_block (by rw [h8, HH.out])).trans V3.out
          have q4 : w8.cell? ⟨bs, offs + 4, none⟩ = some (wd e0) := (World.cell?_of_block (by rw [h8, HH.out])).trans V4.out
          have q5 : w8.cell? ⟨bs, offs + 5, none⟩ = some (wd f0) := (World.cell?_of_block (by rw [h8, HH.out])).trans V5.out
          have q6 : w8.cell? ⟨bs, offs + 6, none⟩ = some (wd g0) := (World.cell?_of_block (by rw [h8, HH.out])).trans V6.out
          have q7 : w8.cell? ⟨bs, offs + 7, none⟩ = some (wd h0) := (World.cell?_of_block (by rw [h8, HH.out])).trans V7.out
          repeat still_step
          refine wpStill_nil ?_
          have HB8 := Lib.hid (HB.out.trans (b8.mono HB.out.size))
          clear q0 q1 q2 q3 q4 q5 q6 q7 h8 b8 HB
          refine wpList_lit_wd8 rfl _ _ _ _ _ _ _ _ rfl _ _ _ _ _ _ _ _ rfl rfl rfl rfl rfl rfl rfl rfl ?_
          intro w9 b9 x9
          have X9 := Lib.hid x9
          have HB9 := Lib.hid (HB8.out.trans (b9.mono HB8.out.size))
          clear b9 x9 r1
          go_wp2
          go_ret
          refine ⟨_, rfl, ?_, HB9.out⟩
          have q := WordsAt.whole X9.out
          rw [HE.out]
          exact q
end Go.Proofs.YtmnhpkdldeifgaaGreatDoor
