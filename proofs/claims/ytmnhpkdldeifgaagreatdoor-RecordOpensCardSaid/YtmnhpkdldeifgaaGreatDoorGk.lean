/- What the document's Block of layer 6 answers. -/
import Derived.Test.YtmnhpkdldeifgaaGreatDoorGi
import Derived.Test.YtmnhpkdldeifgaaGreatDoorGb
import Derived.Test.YtmnhpkdldeifgaaGreatDoorGj
import Derived.Deep.DeepCutAuto
import Derived.Deep.LoopGhost
namespace Go.Proofs.YtmnhpkdldeifgaaGreatDoor
set_option maxRecDepth 100000
open Go.RowKit

set_option maxHeartbeats 1000000 in
theorem refBlock_bad (A0 A1 : Option Addr) (n0 n1 cap0 cap1 : Nat) (v : Value) (hn : n0 ≠ 32 ∨ n1 ≠ 12) (w : World) :
    Calls Tryz.prog 63 #[.slice A0 n0 cap0, .slice A1 n1 cap1, v] w fun e w' => e = .returned (.tuple #[.slice none 0 0, .int .i64 2]) ∧ Below w.heap.size w w' := by
  by_cases h0 : n0 = 32
  · subst h0
    have d1 : ((n1 : Int) != 12) = true := by simp; omega
    clear hn
    go_enter Tryz.func63, Tryz.ntmps63
    go_wp2
    go_ret2
    exact ⟨rfl, Below.refl _ _⟩
  · have d0 : ((n0 : Int) != 32) = true := by simp; omega
    clear hn
    go_enter Tryz.func63, Tryz.ntmps63
    go_wp2
    go_ret2
    exact ⟨rfl, Below.refl _ _⟩

def placesN : List Nat := [0, 4, 8, 12, 1, 5, 9, 13, 2, 6, 10, 14, 3, 7, 11, 15, 0, 5, 10, 15, 1, 6, 11, 12, 2, 7, 8, 13, 3, 4, 9, 14]
def placesV : Array Value := (placesN.map fun (n : Nat) => Value.int .i64 (n : Int)).toArray
theorem placesV_is : placesV = #[.int .i64 0, .int .i64 4, .int .i64 8, .int .i64 12, .int .i64 1, .int .i64 5, .int .i64 9, .int .i64 13, .int .i64 2, .int .i64 6, .int .i64 10, .int .i64 14, .int .i64 3, .int .i64 7, .int .i64 11, .int .i64 15, .int .i64 0, .int .i64 5, .int .i64 10, .int .i64 15, .int .i64 1, .int .i64 6, .int .i64 11, .int .i64 12, .int .i64 2, .int .i64 7, .int .i64 8, .int .i64 13, .int .i64 3, .int .i64 4, .int .i64 9, .int .i64 14] := rfl
theorem placesV_at (j : Nat) (p q r s : Nat) (h : qPlaces[j]? = some (p, q, r, s)) : placesV[4 * j]? = some (.int .i64 (p : Int)) ∧ placesV[4 * j + 1]? = some (.int .i64 (q : Int)) ∧ placesV[4 * j + 2]? = some (.int .i64 (r : Int)) ∧ placesV[4 * j + 3]? = some (.int .i64 (s : Int)) := by
  have hj : j < 8 := (List.getElem?_eq_some_iff.1 h).1
  match j, hj with
  | 0, _ =>
    cases (show some ((0, 4, 8, 12) : Nat × Nat × Nat × Nat) = some (p, q, r, s) from h)
    exact ⟨rfl, rfl, rfl, rfl⟩
  | 1, _ =>
    cases (show some ((1, 5, 9, 13) : Nat × Nat × Nat × Nat) = some (p, q, r, s) from h)
    exact ⟨rfl, rfl, rfl, rfl⟩
  | 2, _ =>
    cases (show some ((2, 6, 10, 14) : Nat × Nat × Nat × Nat) = some (p, q, r, s) from h)
    exact ⟨rfl, rfl, rfl, rfl⟩
  | 3, _ =>
    cases (show some ((3, 7, 11, 15) : Nat × Nat × Nat × Nat) = some (p, q, r, s) from h)
    exact ⟨rfl, rfl, rfl, rfl⟩
  | 4, _ =>
    cases (show some ((0, 5, 10, 15) : Nat × Nat × Nat × Nat) = some (p, q, r, s) from h)
    exact ⟨rfl, rfl, rfl, rfl⟩
  | 5, _ =>
    cases (show some ((1, 6, 11, 12) : Nat × Nat × Nat × Nat) = some (p, q, r, s) from h)
    exact ⟨rfl, rfl, rfl, rfl⟩
  | 6, _ =>
    cases (show some ((2, 7, 8, 13) : Nat × Nat × Nat × Nat) = some (p, q, r, s) from h)
    exact ⟨rfl, rfl, rfl, rfl⟩
  | 7, _ =>
    cases (show some ((3, 4, 9, 14) : Nat × Nat × Nat × Nat) = some (p, q, r, s) from h)
    exact ⟨rfl, rfl, rfl, rfl⟩
theorem qPlaces_at (j : Nat) (hj : j < 8) : ∃ p q r s, qPlaces[j]? = some (p, q, r, s) ∧ p < 16 ∧ q < 16 ∧ r < 16 ∧ s < 16 := by
  have : ∀ j : Fin 8, ∃ p q r s, qPlaces[j.val]? = some (p, q, r, s) ∧ p < 16 ∧ q < 16 ∧ r < 16 ∧ s < 16 := by
    intro j
    match j with
    | ⟨0, _⟩ => exact ⟨_, _, _, _, rfl, by decide, by decide, by decide, by decide⟩
    | ⟨1, _⟩ => exact ⟨_, _, _, _, rfl, by decide, by decide, by decide, by decide⟩
    | ⟨2, _⟩ => exact ⟨_, _, _, _, rfl, by decide, by decide, by decide, by decide⟩
    | ⟨3, _⟩ => exact ⟨_, _, _, _, rfl, by decide, by decide, by decide, by decide⟩
    | ⟨4, _⟩ => exact ⟨_, _, _, _, rfl, by decide, by decide, by decide, by decide⟩
    | ⟨5, _⟩ => exact ⟨_, _, _, _, rfl, by decide, by decide, by decide, by decide⟩
    | ⟨6, _⟩ => exact ⟨_, _, _, _, rfl, by decide, by decide, by decide, by decide⟩
    | ⟨7, _⟩ => exact ⟨_, _, _, _, rfl, by decide, by decide, by decide, by decide⟩
  exact this ⟨j, hj⟩

theorem four_of (l : List UInt8) (t : Nat) (h : t + 4 ≤ l.length) : ∃ a b c d, l[t]? = some a ∧ l[t + 1]? = some b ∧ l[t + 2]? = some c ∧ l[t + 3]? = some d ∧ (l.drop t).take 4 = [a, b, c, d] := by
  refine ⟨l[t]'(by omega), l[t + 1]'(by omega), l[t + 2]'(by omega), l[t + 3]'(by omega), List.getElem?_eq_getElem _, List.getElem?_eq_getElem _, List.getElem?_eq_getElem _, List.getElem?_eq_getElem _, ?_⟩
  rw [List.drop_eq_getElem_cons (by omega), List.drop_eq_getElem_cons (by omega), List.drop_eq_getElem_cons (by omega), List.drop_eq_getElem_cons (by omega)]
  rfl

set_option maxRecDepth 100000 in
set_option maxHeartbeats 8000000 in
theorem refCiBlock_any (A0 A1 : Option Addr) (cap0 cap1 : Nat) (key nonce : List UInt8) (c : UInt32) (w : World) (h0 : BytesAt w (.slice A0 32 cap0) key) (h1 : BytesAt w (.slice A1 12 cap1) nonce) :
    Calls Tryz.prog 63 #[.slice A0 32 cap0, .slice A1 12 cap1, wd c] w fun e w' => ∃ v', e = .returned (.tuple #[v', .int .i64 0]) ∧ w'.ownsRow w.heap.size 5 1 v' 64 (bv (blockC key nonce c)) ∧ Below w.heap.size w w' := by
  have hk := h0.size
  have hc := h1.size
  obtain ⟨bk, ok, rfl, hbk, kcell⟩ := h0.spots (by intro e; rw [e] at hk; simp at hk)
  obtain ⟨bn, on, rfl, hbn, ncell⟩ := h1.spots (by intro e; rw [e] at hc; simp at hc)
  have KL := Lib.hid hk.1
  have NL := Lib.hid hc.1
  have hcap0 := hk.2
  have hcap1 := hc.2
  have KC := Lib.hid kcell
  have NC := Lib.hid ncell
  clear hk hc kcell ncell h0 h1
  go_enter Tryz.func63, Tryz.ntmps63
  go_wp2_with fail
  have o1 := own_words_lit w sigma (by decide)
  have b1 := (Below.refl w.heap.size w).alloc (Nat.le_refl _) (.cells (wv sigma) 57)
  have e1 : w.alloc (.cells (wv sigma) 57) = w.alloc (.cells #[.int .u32 1634760805, .int .u32 857760878, .int .u32 2036477234, .int .u32 1797285236] 57) := rfl
  rw [e1] at o1 b1
  generalize w.alloc (.cells #[.int .u32 1634760805, .int .u32 857760878, .int .u32 2036477234, .int .u32 1797285236] 57) = w1 at *
  have O1 := Lib.hid o1
  have B1 := Lib.hid b1
  clear o1 b1 e1
  go_loopw [8, 9] (fun u i wr => ∃ k t n : Nat, t = 4 * k ∧ t ≤ 32 ∧ n = 4 + k ∧ i = .int .i64 (t : Int) ∧ wr.ownsRow w.heap.size 57 1 u n ((sigma ++ lwords key k).map wd) ∧ Below w.heap.size w wr) (fun _ i _ => 32 - (intOf i).toNat)
  case atStart => exact ⟨0, 0, 4, rfl, by decide, rfl, rfl, O1.out, B1.out⟩
  case round =>
    obtain ⟨k, t, n, ht, ht32, hn, rfl, ho, hb⟩ := hrel
    obtain ⟨A8, cap8, rfl⟩ := own_form ho
    have HT := Lib.hid ht
    have HN := Lib.hid hn
    have HO := Lib.hid ho
    have HB := Lib.hid hb
    clear ht hn ho hb O1 B1
    by_cases hlt : t < 32
    · have d : decide ((t : Int) < 32) = true := by simp; omega
      have t4 : t + 4 ≤ 32 := by have := HT.out; omega
      have tw : IntKind.i64.wrap ((t : Int) + 4) = ((t + 4 : Nat) : Int) := by rw [IntWalk.i64_in _ (by omega)]; omega
      have hct : cap0 ≠ t := by omega
      have hc4 : t + 4 ≤ cap0 := by omega
      obtain ⟨x0, x1, x2, x3, k0, k1, k2, k3, e4⟩ := four_of key t (by rw [← KL.out]; exact t4)
      have cb := HB.out
      have q0 := (cb.cell (p := ⟨bk, ok + t, none⟩) hbk).trans (KC.out t x0 k0)
      have q1 := (cb.cell (p := ⟨bk, ok + t + 1, none⟩) hbk).trans (KC.out (t + 1) x1 k1)
      have q2 := (cb.cell (p := ⟨bk, ok + t + 2, none⟩) hbk).trans (KC.out (t + 2) x2 k2)
      have q3 := (cb.cell (p := ⟨bk, ok + t + 3, none⟩) hbk).trans (KC.out (t + 3) x3 k3)
      have CW := Lib.hid (refWord_any bk (ok + t) (cap0 - t) x0 x1 x2 x3 wr q0 q1 q2 q3)
      have EW : Hid (lwords key (k + 1) = lwords key k ++ [lword [x0, x1, x2, x3]]) := by
        rw [Hid, lwords_next, ← HT.out, e4]
      generalize lword [x0, x1, x2, x3] = y at *
      clear q0 q1 q2 q3 k0 k1 k2 k3 e4 cb
      go_wp2_with fail
      refine CW.out.mono ?_
      rintro e w2 ⟨rfl, -, b2⟩
      have HB2 := Lib.hid (HB.out.trans (b2.mono HB.out.size))
      have HO2 := Lib.hid (kept_below HO.out b2 rfl)
      clear b2 HO HB CW
      go_wp2_with (with_reducible refine wpList_lit_wd1 rfl _ rfl y ?hp ?_)
      case hp => exact rfl
      intro w3 b3 x3 g3
      have HO3 := Lib.hid (kept_below HO2.out b3 rfl)
      have HB3 := Lib.hid (HB2.out.trans (b3.mono HB2.out.size))
      have X3 := Lib.hid x3
      clear b3 x3 g3 HO2 HB2
      go_wp2_with (with_reducible refine wpList_append_wd rfl _ _ rfl w.heap.size _ _ _ ?hv HO3.out _ y ?hx X3.out ?hlen ?hbase ?_)
      case hv => exact rfl
      case hx => exact rfl
      case hlen => have := HN.out; have := HT.out; omega
      case hbase => exact HB3.out.size
      intro v4 w4 ho4 hg4
      have hlt4 := HO3.out.lt
      have HB4 := Lib.hid (HB3.out.grown hg4 HB3.out.size (fun j hj => (hlt4 j hj).1))
      have ho4' : w4.ownsRow w.heap.size 57 1 v4 (n + 1) ((sigma ++ lwords key (k + 1)).map wd) := by
        rw [EW.out, ← List.append_assoc, List.map_append]
        exact ho4
      have HO4 := Lib.hid ho4'
      clear ho4 ho4' hg4 hlt4 HO3 HB3 X3 hct hc4
      go_wp2_with fail
      exact ⟨⟨k + 1, t + 4, n + 1, by have := HT.out; omega, by omega, by have := HN.out; omega, by go_num, HO4.out, HB4.out⟩, by simp [intOf]; omega⟩
    · have ht : t = 32 := by omega
      have d : decide ((t : Int) < 32) = false := by simp; omega
      have hk8 : k = 8 := by have := HT.out; omega
      have hn12 : n = 12 := by have := HN.out; omega
      subst hk8 hn12
      clear HT HN hlt ht32
      obtain ⟨x0, x1, x2, x3, k0, k1, k2, k3, e0⟩ := four_of nonce 0 (by rw [← NL.out]; decide)
      obtain ⟨y0, y1, y2, y3, k4, k5, k6, k7, e1⟩ := four_of nonce 4 (by rw [← NL.out]; decide)
      obtain ⟨z0, z1, z2, z3, k8, k9, k10, k11, e2⟩ := four_of nonce 8 (by rw [← NL.out]; decide)
      have EN : Hid (lwords nonce 3 = [lword [x0, x1, x2, x3], lword [y0, y1, y2, y3], lword [z0, z1, z2, z3]]) := by
        show [lword ((nonce.drop 0).take 4), lword ((nonce.drop 4).take 4), lword ((nonce.drop 8).take 4)] = _
        rw [e0, e1, e2]
      have C0 : Hid (∀ W, Below w.heap.size w W → Calls Tryz.prog 79 #[.slice (some ⟨bn, on, none⟩) 4 cap1] W fun e w' => e = .returned (wd (lword [x0, x1, x2, x3])) ∧ w'.heap = W.heap ∧ Below W.heap.size W w') := Lib.hid fun W h =>
        refWord_any bn on cap1 x0 x1 x2 x3 W ((h.cell (p := ⟨bn, on + 0, none⟩) hbn).trans (NC.out 0 x0 k0)) ((h.cell (p := ⟨bn, on + 1, none⟩) hbn).trans (NC.out 1 x1 k1)) ((h.cell (p := ⟨bn, on + 2, none⟩) hbn).trans (NC.out 2 x2 k2)) ((h.cell (p := ⟨bn, on + 3, none⟩) hbn).trans (NC.out 3 x3 k3))
      have C1 : Hid (∀ W, Below w.heap.size w W → Calls Tryz.prog 79 #[.slice (some ⟨bn, on + 4, none⟩) 4 (cap1 - 4)] W fun e w' => e = .returned (wd (lword [y0, y1, y2, y3])) ∧ w'.heap = W.heap ∧ Below W.heap.size W w') := Lib.hid fun W h =>
        refWord_any bn (on + 4) (cap1 - 4) y0 y1 y2 y3 W ((h.cell (p := ⟨bn, on + 4, none⟩) hbn).trans (NC.out 4 y0 k4)) ((h.cell (p := ⟨bn, on + 5, none⟩) hbn).trans (NC.out 5 y1 k5)) ((h.cell (p := ⟨bn, on + 6, none⟩) hbn).trans (NC.out 6 y2 k6)) ((h.cell (p := ⟨bn, on + 7, none⟩) hbn).trans (NC.out 7 y3 k7))
      have C2 : Hid (∀ W, Below w.heap.size w W → Calls Tryz.prog 79 #[.slice (some ⟨bn, on + 8, none⟩) 4 (cap1 - 8)] W fun e w' => e = .returned (wd (lword [z0, z1, z2, z3])) ∧ w'.heap = W.heap ∧ Below W.heap.size W w') := Lib.hid fun W h =>
        refWord_any bn (on + 8) (cap1 - 8) z0 z1 z2 z3 W ((h.cell (p := ⟨bn, on + 8, none⟩) hbn).trans (NC.out 8 z0 k8)) ((h.cell (p := ⟨bn, on + 9, none⟩) hbn).trans (NC.out 9 z1 k9)) ((h.cell (p := ⟨bn, on + 10, none⟩) hbn).trans (NC.out 10 z2 k10)) ((h.cell (p := ⟨bn, on + 11, none⟩) hbn).trans (NC.out 11 z3 k11))
      clear k0 k1 k2 k3 k4 k5 k6 k7 k8 k9 k10 k11 e0 e1 e2
      generalize lword [x0, x1, x2, x3] = a0 at *
      generalize lword [y0, y1, y2, y3] = a1 at *
      generalize lword [z0, z1, z2, z3] = a2 at *
      go_wp2_with fail
      refine regS_begin (fun w' => Below w.heap.size w w') (by kernel_rfl) HB.out.drew ?_
      have hS : Below w.heap.size w wr.drew := HB.out.drew
      have HO1 : Hid (wr.drew.ownsRow w.heap.size 57 1 (.slice A8 12 cap8) 12 ((sigma ++ lwords key 8).map wd)) := HO.out
      clear HO HB
      generalize wr.drew = w2 at *
      have m4 : (4 : Int) ≤ (cap1 : Int) := by omega
      have m8 : (8 : Int) ≤ (cap1 : Int) := by omega
      have m12 : (12 : Int) ≤ (cap1 : Int) := by omega
      have n4 : cap1 ≠ 4 := by omega
      have n8 : cap1 ≠ 8 := by omega
      refine regS_take (i := 0) (v := ?_) rfl (by kernel_rfl) (by kernel_rfl) (by kernel_rfl) (fun _ _ _ h => h) (by rfl) hS ?hy0 ?_
      case hy0 => intro w' hw'; go_simp; (try with_reducible rfl)
      simp only [Act.put, List.setIfInBounds_toArray, List.set_cons_zero, List.set_cons_succ]
      refine regS_take (i := 1) (v := ?_) rfl (by kernel_rfl) (by kernel_rfl) (by kernel_rfl) (fun _ _ _ h => h) (by rfl) hS ?hy1 ?_
      case hy1 => intro w' hw'; go_simp; (try with_reducible rfl)
      simp only [Act.put, List.setIfInBounds_toArray, List.set_cons_zero, List.set_cons_succ]
      refine regS_take (i := 2) (v := ?_) rfl (by kernel_rfl) (by kernel_rfl) (by kernel_rfl) (fun _ _ _ h => h) (by rfl) hS ?hy2 ?_
      case hy2 => intro w' hw'; go_simp; (try with_reducible rfl)
      simp only [Act.put, List.setIfInBounds_toArray, List.set_cons_zero, List.set_cons_succ]
      refine regS_take (i := 3) (v := ?_) rfl (by kernel_rfl) (by kernel_rfl) (by kernel_rfl) (fun _ _ _ h => h) (by rfl) hS ?hy3 ?_
      case hy3 => intro w' hw'; go_simp; (try with_reducible rfl)
      simp only [Act.put, List.setIfInBounds_toArray, List.set_cons_zero, List.set_cons_succ]
      refine regS_take (i := 5) (v := ?_) rfl (by kernel_rfl) (by kernel_rfl) (by kernel_rfl) (fun _ _ _ h => h) (by rfl) hS ?hy5 ?_
      case hy5 => intro w' hw'; go_simp; (try with_reducible rfl)
      simp only [Act.put, List.setIfInBounds_toArray, List.set_cons_zero, List.set_cons_succ]
      refine regS_take (i := 6) (v := ?_) rfl (by kernel_rfl) (by kernel_rfl) (by kernel_rfl) (fun _ _ _ h => h) (by rfl) hS ?hy6 ?_
      case hy6 => intro w' hw'; go_simp; (try with_reducible rfl)
      simp only [Act.put, List.setIfInBounds_toArray, List.set_cons_zero, List.set_cons_succ]
      refine regS_take (i := 8) (v := ?_) rfl (by kernel_rfl) (by kernel_rfl) (by kernel_rfl) (fun _ _ _ h => h) (by rfl) hS ?hy8 ?_
      case hy8 => intro w' hw'; go_simp; (try with_reducible rfl)
      simp only [Act.put, List.setIfInBounds_toArray, List.set_cons_zero, List.set_cons_succ]
      refine regS_take (i := 9) (v := ?_) rfl (by kernel_rfl) (by kernel_rfl) (by kernel_rfl) (fun _ _ _ h => h) (by rfl) hS ?hy9 ?_
      case hy9 => intro w' hw'; go_simp; (try with_reducible rfl)
      simp only [Act.put, List.setIfInBounds_toArray, List.set_cons_zero, List.set_cons_succ]
      refine regS_do (i := 4) rfl (by kernel_rfl) (fun K' hK => ?_)
      go_simp
      refine (C0.out w2 hS).mono ?_
      rintro e w3 ⟨rfl, -, b3⟩
      have HO3 := Lib.hid (kept_below HO1.out b3 rfl)
      have sS : Below w.heap.size w w3 := hS.trans (b3.mono hS.size)
      refine hK.out _ _ sS ?_
      clear hK K' b3 hS
      have hS := sS
      clear sS
      refine regS_do (i := 7) rfl (by kernel_rfl) (fun K' hK => ?_)
      go_simp
      refine (C1.out w3 hS).mono ?_
      rintro e w4 ⟨rfl, -, b4⟩
      have HO4 := Lib.hid (kept_below HO3.out b4 rfl)
      have sS : Below w.heap.size w w4 := hS.trans (b4.mono hS.size)
      refine hK.out _ _ sS ?_
      clear hK K' b4 hS
      have hS := sS
      clear sS
      refine regS_do (i := 10) rfl (by kernel_rfl) (fun K' hK => ?_)
      go_simp
      refine (C2.out w4 hS).mono ?_
      rintro e w5 ⟨rfl, -, b5⟩
      have HO5 := Lib.hid (kept_below HO4.out b5 rfl)
      have sS : Below w.heap.size w w5 := hS.trans (b5.mono hS.size)
      refine hK.out _ _ sS ?_
      clear hK K' b5 hS
      have hS := sS
      clear sS
      refine regS_do (i := 11) rfl (by kernel_rfl) (fun K' hK => ?_)
      rw [if_pos (by rfl)]
      refine wp_lit_wd4 _ _ _ _ rfl c a0 a1 a2 rfl rfl rfl rfl ?_
      intro w6 b6 x6 g6
      have HO6 := Lib.hid (kept_below HO5.out b6 rfl)
      have sS : Below w.heap.size w w6 := hS.trans (b6.mono hS.size)
      have Y6 := Lib.hid (WordsAt.whole x6)
      refine hK.out _ _ sS ?_
      clear hK K' b6 x6 g6 hS
      have hS := sS
      clear sS
      simp only [Act.put, List.setIfInBounds_toArray, List.set_cons_zero, List.set_cons_succ]
      refine regS_do (i := 12) rfl (by kernel_rfl) (fun K' hK => ?_)
      rw [if_pos (by rfl)]
      refine wp_append_words _ _ rfl w.heap.size _ _ _ rfl HO6.out _ _ rfl Y6.out (by simp) hS.size ?_
      intro v7 w7 ho7 hg7
      have hlt7 := HO6.out.lt
      have sS : Below w.heap.size w w7 := hS.grown hg7 hS.size (fun k hk => (hlt7 k hk).1)
      have EW : Hid (((sigma ++ lwords key 8).map wd) ++ [c, a0, a1, a2].map wd = (words16C key nonce c).map wd) := by
        rw [Hid, ← List.map_append, words16C, EN.out]
      rw [EW.out] at ho7
      have HO7 : Hid (w7.ownsRow w.heap.size 57 1 v7 16 ((words16C key nonce c).map wd)) := ho7
      have WL := Lib.hid (words16C_length key nonce c)
      have BC : Hid (lstream (sumW (drounds (words16C key nonce c) 10) (words16C key nonce c)) = blockC key nonce c) := Lib.hid rfl
      generalize words16C key nonce c = W16 at *
      obtain ⟨g7, cap7, rfl, hb7, hl7⟩ := HO7.out.form (by decide)
      refine hK.out _ _ sS ?_
      clear hK K' ho7 hg7 hlt7 hS HO6 Y6 HO5 HO4 HO3 EW EN C0 C1 C2
      have hS := sS
      clear sS
      simp only [Act.put, List.setIfInBounds_toArray, List.set_cons_zero, List.set_cons_succ]
      refine regS_take (i := 13) (v := ?_) rfl (by kernel_rfl) (by kernel_rfl) (by kernel_rfl) (fun _ _ _ h => h) (by rfl) hS ?hy13 ?_
      case hy13 => intro w' hw'; go_simp; (try with_reducible rfl)
      simp only [Act.put, List.setIfInBounds_toArray, List.set_cons_zero, List.set_cons_succ]
      refine regS_end (by kernel_rfl) ?_
      have B7 := Lib.hid hS
      clear hS HO1
      have o8 : (w7.alloc (.cells #[] 57)).ownsRow w7.heap.size 57 1 (.slice (some ⟨w7.heap.size, 0, none⟩) 0 0) 0 [] := own_words_lit w7 [] (by decide)
      have b8 : Below w7.heap.size w7 (w7.alloc (.cells #[] 57)) := (Below.refl _ _).alloc (Nat.le_refl _) _
      have Y7 := Lib.hid (WordsAt.of_own (by rw [WL.out]; exact HO7.out) (by rw [WL.out]; decide))
      go_wp2_with (with_reducible refine wpList_append_words rfl _ _ rfl w7.heap.size _ _ _ ?hv o8 _ _ ?hx (Y7.out.below b8) ?hlen ?hbase ?_)
      case hv => exact rfl
      case hx => exact rfl
      case hlen => have := WL.out; omega
      case hbase => exact b8.size
      intro v9 w9 ho9 hg9
      have lt9 := o8.lt
      have B9 := Lib.hid (b8.grown hg9 b8.size (fun k hk => (lt9 k hk).1))
      have ho9' : w9.ownsRow w7.heap.size 57 1 v9 16 (W16.map wd) := by
        have e := WL.out
        rw [e] at ho9
        simpa using ho9
      obtain ⟨g9, cap9, rfl, hb9, hl9⟩ := ho9'.form (by decide)
      have Y9 : Hid (WordsAt w9 (.slice (some ⟨g9, 0, none⟩) 16 cap9) W16) := Lib.hid (WordsAt.of_own (by rw [WL.out]; exact ho9') (by rw [WL.out]; decide))
      have HO9 := Lib.hid (kept_below HO7.out B9.out rfl)
      have BW9 := Lib.hid (B7.out.trans (B9.out.mono B7.out.size))
      clear ho9 ho9' hg9 lt9 o8 b8 Y7 HO7 B7
      go_upto_region 12 with fail
      have y10 := Whole.new w9 3 placesV
      have b10 := (Below.refl w9.heap.size w9).alloc (Nat.le_refl _) (.cells placesV 3)
      rw [placesV_is] at y10 b10
      generalize w9.alloc (.cells #[.int .i64 0, .int .i64 4, .int .i64 8, .int .i64 12, .int .i64 1, .int .i64 5, .int .i64 9, .int .i64 13, .int .i64 2, .int .i64 6, .int .i64 10, .int .i64 14, .int .i64 3, .int .i64 7, .int .i64 11, .int .i64 15, .int .i64 0, .int .i64 5, .int .i64 10, .int .i64 15, .int .i64 1, .int .i64 6, .int .i64 11, .int .i64 12, .int .i64 2, .int .i64 7, .int .i64 8, .int .i64 13, .int .i64 3, .int .i64 4, .int .i64 9, .int .i64 14] 3) = w10 at *
      rw [← placesV_is] at y10
      have YP := Lib.hid y10
      have HO10 := Lib.hid (kept_below HO9.out b10 rfl)
      have Y10 := Lib.hid (Y9.out.below b10)
      have BW10 := Lib.hid (BW9.out.trans (b10.mono BW9.out.size))
      have hgp : w9.heap.size < w10.heap.size := y10.lt
      have hs10 : w9.heap.size ≤ w10.heap.size := b10.size
      have hne9 : g9 ≠ g7 := by omega
      have B97 := B9.out.size
      have hnep : w9.heap.size ≠ g7 := by omega
      have hl10 : g7 < w10.heap.size := by omega
      generalize w9.heap.size = gp at *
      clear y10 b10 HO9 Y9 BW9 B9
      go_loopw [12] (fun i W => ∃ k : Nat, k ≤ 10 ∧ i = .int .i64 (k : Int) ∧ W.ownsRow w.heap.size 57 1 (.slice (some ⟨g7, 0, none⟩) 16 cap7) 16 ((drounds W16 k).map wd) ∧ w10.grownBy W (some g7)) (fun i _ => 10 - (intOf i).toNat)
      case atStart => exact ⟨0, by decide, rfl, HO10.out, World.grownBy.refl _ _⟩
      case round =>
        obtain ⟨k, hk, rfl, ho, hg⟩ := hrel
        have HO := Lib.hid ho
        have HG := Lib.hid hg
        clear ho hg
        by_cases hlt : k < 10
        · have d : decide ((k : Int) < 10) = true := by simp; omega
          have DL : Hid ((drounds W16 k).length = 16) := by rw [Hid, drounds_length]; exact WL.out
          have DN : Hid (dpart (drounds W16 k) 8 = drounds W16 (k + 1)) := Lib.hid rfl
          have HO0 : Hid (wr.ownsRow w.heap.size 57 1 (.slice (some ⟨g7, 0, none⟩) 16 cap7) 16 ((dpart (drounds W16 k) 0).map wd)) := HO.out
          clear HO
          generalize drounds W16 k = D at *
          go_wp2_with fail
          obtain ⟨wo, hwo⟩ : ∃ wo, wo = wr := ⟨_, rfl⟩
          subst hwo
          go_loopw [13] (fun i W => ∃ j t : Nat, t = 4 * j ∧ t ≤ 32 ∧ i = .int .i64 (t : Int) ∧ W.ownsRow w.heap.size 57 1 (.slice (some ⟨g7, 0, none⟩) 16 cap7) 16 ((dpart D j).map wd) ∧ w10.grownBy W (some g7)) (fun i _ => 32 - (intOf i).toNat)
          case atStart => exact ⟨0, 0, rfl, by decide, rfl, HO0.out, HG.out⟩
          case round =>
            obtain ⟨j, t2, ht2, ht32, rfl, ho, hg⟩ := hrel
            have HT := Lib.hid ht2
            have HO := Lib.hid ho
            have HGr := Lib.hid hg
            clear ho hg ht2 HO0 HG
            by_cases hl2 : t2 < 32
            · have d2 : decide ((t2 : Int) < 32) = true := by simp; omega
              have hj8 : j < 8 := by have := HT.out; omega
              obtain ⟨p, q, r, s, hq, hp16, hq16, hr16, hs16⟩ := qPlaces_at j hj8
              obtain ⟨c0, c1, c2, c3⟩ := placesV_at j p q r s hq
              rw [← HT.out] at c0 c1 c2 c3
              have t3 : t2 + 3 < 32 := by have := HT.out; omega
              obtain ⟨ta, ea⟩ : ∃ a, a = t2 + 1 := ⟨_, rfl⟩
              obtain ⟨tb, eb⟩ : ∃ a, a = t2 + 2 := ⟨_, rfl⟩
              obtain ⟨tc, ec⟩ : ∃ a, a = t2 + 3 := ⟨_, rfl⟩
              rw [← ea] at c1
              rw [← eb] at c2
              rw [← ec] at c3
              have tw1 : IntKind.i64.wrap ((t2 : Int) + 1) = (ta : Int) := by rw [IntWalk.i64_in _ (by omega)]; omega
              have tw2 : IntKind.i64.wrap ((t2 : Int) + 2) = (tb : Int) := by rw [IntWalk.i64_in _ (by omega)]; omega
              have tw3 : IntKind.i64.wrap ((t2 : Int) + 3) = (tc : Int) := by rw [IntWalk.i64_in _ (by omega)]; omega
              have tl0 : (t2 : Int) < 32 := by omega
              have tl1 : (ta : Int) < 32 := by omega
              have tl2 : (tb : Int) < 32 := by omega
              have tl3 : (tc : Int) < 32 := by omega
              clear ea eb ec
              have YPr := Lib.hid (YP.out.grown HGr.out (by simpa using hnep))
              have HN := Lib.hid (dpart_next D j (p, q, r, s) hq)
              have DPL : Hid ((dpart D j).length = 16) := by rw [Hid, dpart_length]; exact DL.out
              have C0 := Lib.hid c0
              have C1 := Lib.hid c1
              have C2 := Lib.hid c2
              have C3 := Lib.hid c3
              clear c0 c1 c2 c3 hq
              go_wp2_with fail
              refine still_all (by kernel_rfl) (by kernel_rfl) fun w11 h11 b11 => ?_
              have YP1 := YPr.out.of_heap h11
              have p0 := (YP1.at_ t2).trans C0.out
              have p1 := (YP1.at_ ta).trans C1.out
              have p2 := (YP1.at_ tb).trans C2.out
              have p3 := (YP1.at_ tc).trans C3.out
              have B11 := Lib.hid b11
              clear YP1 b11
              repeat still_step
              refine wpStill_nil ?_
              clear p0 p1 p2 p3 tw1 tw2 tw3 tl0 tl1 tl2 tl3
              have HO11 := Lib.hid (kept_below HO.out B11.out rfl)
              have HG11 : Hid (w10.grownBy w11 (some g7)) := grown_trans' HGr.out ⟨B11.out.os, B11.out.tape, B11.out.output, B11.out.size, fun k hk _ => B11.out.block k hk⟩
              clear HO HGr h11 B11 YPr C0 C1 C2 C3
              go_wp2_with fail
              obtain ⟨xp, ep⟩ : ∃ x, (dpart D j)[p]? = some x := ⟨_, List.getElem?_eq_getElem (by rw [DPL.out]; exact hp16)⟩
              obtain ⟨xq, eq⟩ : ∃ x, (dpart D j)[q]? = some x := ⟨_, List.getElem?_eq_getElem (by rw [DPL.out]; exact hq16)⟩
              obtain ⟨xr, er⟩ : ∃ x, (dpart D j)[r]? = some x := ⟨_, List.getElem?_eq_getElem (by rw [DPL.out]; exact hr16)⟩
              obtain ⟨xs, es⟩ : ∃ x, (dpart D j)[s]? = some x := ⟨_, List.getElem?_eq_getElem (by rw [DPL.out]; exact hs16)⟩
              have HQ : Hid (dpart D (j + 1) = ((((dpart D j).set p (quarter xp xq xr xs).1).set q (quarter xp xq xr xs).2.1).set r (quarter xp xq xr xs).2.2.1).set s (quarter xp xq xr xs).2.2.2) := by
                rw [Hid, HN.out]
                simp only [qAt, List.getD, ep, eq, er, es, Option.getD_some]
              have lp : (p : Int) < 16 := by omega
              have lq : (q : Int) < 16 := by omega
              have lr : (r : Int) < 16 := by omega
              have ls : (s : Int) < 16 := by omega
              have kp := (HO11.out.cellAt p (by omega)).trans (show ((dpart D j).map wd)[p]? = some (wd xp) by simp [ep])
              have kq := (HO11.out.cellAt q (by omega)).trans (show ((dpart D j).map wd)[q]? = some (wd xq) by simp [eq])
              have kr := (HO11.out.cellAt r (by omega)).trans (show ((dpart D j).map wd)[r]? = some (wd xr) by simp [er])
              have ks := (HO11.out.cellAt s (by omega)).trans (show ((dpart D j).map wd)[s]? = some (wd xs) by simp [es])
              have KP := Lib.hid kp
              have KQ := Lib.hid kq
              have KR := Lib.hid kr
              have KS := Lib.hid ks
              have hg11 : g7 < w11.heap.size := (HO11.out.lt g7 rfl).2
              have QA := Lib.hid (refQuarter_any xp xq xr xs)
              generalize quarter xp xq xr xs = qq at *
              obtain ⟨ya, yb, yc, yd⟩ := qq
              clear kp kq kr ks ep eq er es HN
              have HB11 : Hid (Below w.heap.size w w11) := Lib.hid (BW10.out.grown HG11.out BW10.out.size (fun k hk => by cases hk; exact hb7))
              refine regG_begin [31, 33, 35, 37] (fun w' => w'.cell? ⟨g7, p, none⟩ = some (wd xp) ∧ w'.cell? ⟨g7, q, none⟩ = some (wd xq) ∧ w'.cell? ⟨g7, r, none⟩ = some (wd xr) ∧ w'.cell? ⟨g7, s, none⟩ = some (wd xs)) (fun w' => w11.grownBy w' (some g7)) (by kernel_rfl) ?_
              have hS1 : w11.grownBy w11.drew (some g7) := ⟨rfl, rfl, rfl, Nat.le_refl _, fun _ _ _ => rfl⟩
              have hS0 : w11.drew.cell? ⟨g7, p, none⟩ = some (wd xp) ∧ w11.drew.cell? ⟨g7, q, none⟩ = some (wd xq) ∧ w11.drew.cell? ⟨g7, r, none⟩ = some (wd xr) ∧ w11.drew.cell? ⟨g7, s, none⟩ = some (wd xs) := ⟨KP.out, KQ.out, KR.out, KS.out⟩
              have HO12 : Hid (w11.drew.ownsRow w.heap.size 57 1 (.slice (some ⟨g7, 0, none⟩) 16 cap7) 16 ((dpart D j).map wd)) := HO11.out
              generalize w11.drew = w12 at *
              refine regG_take (i := 0) (v := ?_) rfl (by kernel_rfl) (by kernel_rfl) (by kernel_rfl) (by kernel_rfl) (by kernel_rfl) (fun _ _ _ h => h) (by rfl) ⟨hS1, .inl hS0⟩ ?hy0 ?_
              case hy0 => intro w' hw'; go_simp; (try with_reducible rfl)
              simp only [Act.put, List.setIfInBounds_toArray, List.set_cons_zero, List.set_cons_succ]
              refine regG_take (i := 1) (v := ?_) rfl (by kernel_rfl) (by kernel_rfl) (by kernel_rfl) (by kernel_rfl) (by kernel_rfl) (fun _ _ _ h => h) (by rfl) ⟨hS1, .inl hS0⟩ ?hy1 ?_
              case hy1 => intro w' hw'; go_simp; (try with_reducible rfl)
              simp only [Act.put, List.setIfInBounds_toArray, List.set_cons_zero, List.set_cons_succ]
              refine regG_take (i := 2) (v := ?_) rfl (by kernel_rfl) (by kernel_rfl) (by kernel_rfl) (by kernel_rfl) (by kernel_rfl) (fun _ _ _ h => h) (by rfl) ⟨hS1, .inl hS0⟩ ?hy2 ?_
              case hy2 => intro w' hw'; go_simp; (try with_reducible rfl)
              simp only [Act.put, List.setIfInBounds_toArray, List.set_cons_zero, List.set_cons_succ]
              refine regG_take (i := 3) (v := ?_) rfl (by kernel_rfl) (by kernel_rfl) (by kernel_rfl) (by kernel_rfl) (by kernel_rfl) (fun _ _ _ h => h) (by rfl) ⟨hS1, .inl hS0⟩ ?hy3 ?_
              case hy3 => intro w' hw'; go_simp; (try with_reducible rfl)
              simp only [Act.put, List.setIfInBounds_toArray, List.set_cons_zero, List.set_cons_succ]
              refine regG_take (i := 4) (v := ?_) rfl (by kernel_rfl) (by kernel_rfl) (by kernel_rfl) (by kernel_rfl) (by kernel_rfl) (fun _ _ _ h => h) (by rfl) ⟨hS1, .inl hS0⟩ ?hy4 ?_
              case hy4 => intro w' hw'; go_simp; (try with_reducible rfl)
              simp only [Act.put, List.setIfInBounds_toArray, List.set_cons_zero, List.set_cons_succ]
              refine regG_take (i := 5) (v := ?_) rfl (by kernel_rfl) (by kernel_rfl) (by kernel_rfl) (by kernel_rfl) (by kernel_rfl) (fun _ _ _ h => h) (by rfl) ⟨hS1, .inl hS0⟩ ?hy5 ?_
              case hy5 => intro w' hw'; go_simp; (try with_reducible rfl)
              simp only [Act.put, List.setIfInBounds_toArray, List.set_cons_zero, List.set_cons_succ]
              refine regG_take (i := 6) (v := ?_) rfl (by kernel_rfl) (by kernel_rfl) (by kernel_rfl) (by kernel_rfl) (by kernel_rfl) (fun _ _ _ h => h) (by rfl) ⟨hS1, .inl hS0⟩ ?hy6 ?_
              case hy6 => intro w' hw'; go_simp; (try with_reducible rfl)
              simp only [Act.put, List.setIfInBounds_toArray, List.set_cons_zero, List.set_cons_succ]
              refine regG_take (i := 7) (v := ?_) rfl (by kernel_rfl) (by kernel_rfl) (by kernel_rfl) (by kernel_rfl) (by kernel_rfl) (fun _ _ _ h => h) (by rfl) ⟨hS1, .inl hS0⟩ ?hy7 ?_
              case hy7 => intro w' hw'; go_simp; (try with_reducible rfl)
              simp only [Act.put, List.setIfInBounds_toArray, List.set_cons_zero, List.set_cons_succ]
              refine regG_take (i := 8) (v := ?_) rfl (by kernel_rfl) (by kernel_rfl) (by kernel_rfl) (by kernel_rfl) (by kernel_rfl) (fun _ _ _ h => h) (by rfl) ⟨hS1, .inl hS0⟩ ?hy8 ?_
              case hy8 => intro w' hw'; go_simp; (try with_reducible rfl)
              simp only [Act.put, List.setIfInBounds_toArray, List.set_cons_zero, List.set_cons_succ]
              refine regG_take (i := 9) (v := ?_) rfl (by kernel_rfl) (by kernel_rfl) (by kernel_rfl) (by kernel_rfl) (by kernel_rfl) (fun _ _ _ h => h) (by rfl) ⟨hS1, .inl hS0⟩ ?hy9 ?_
              case hy9 => intro w' hw'; go_simp; (try with_reducible rfl)
              simp only [Act.put, List.setIfInBounds_toArray, List.set_cons_zero, List.set_cons_succ]
              refine regG_take (i := 10) (v := ?_) rfl (by kernel_rfl) (by kernel_rfl) (by kernel_rfl) (by kernel_rfl) (by kernel_rfl) (fun _ _ _ h => h) (by rfl) ⟨hS1, .inl hS0⟩ ?hy10 ?_
              case hy10 => intro w' hw'; go_simp; (try with_reducible rfl)
              simp only [Act.put, List.setIfInBounds_toArray, List.set_cons_zero, List.set_cons_succ]
              refine regG_take (i := 12) (v := ?_) rfl (by kernel_rfl) (by kernel_rfl) (by kernel_rfl) (by kernel_rfl) (by kernel_rfl) (fun _ _ _ h => h) (by rfl) ⟨hS1, .inl hS0⟩ ?hy12 ?_
              case hy12 => intro w' hw'; go_simp; (try with_reducible rfl)
              simp only [Act.put, List.setIfInBounds_toArray, List.set_cons_zero, List.set_cons_succ]
              refine regG_take (i := 13) (v := ?_) rfl (by kernel_rfl) (by kernel_rfl) (by kernel_rfl) (by kernel_rfl) (by kernel_rfl) (fun _ _ _ h => h) (by rfl) ⟨hS1, .inl hS0⟩ ?hy13 ?_
              case hy13 => intro w' hw'; go_simp; (try with_reducible rfl)
              simp only [Act.put, List.setIfInBounds_toArray, List.set_cons_zero, List.set_cons_succ]
              refine regG_take (i := 14) (v := ?_) rfl (by kernel_rfl) (by kernel_rfl) (by kernel_rfl) (by kernel_rfl) (by kernel_rfl) (fun _ _ _ h => h) (by rfl) ⟨hS1, .inl hS0⟩ ?hy14 ?_
              case hy14 => intro w' hw'; go_simp; (try with_reducible rfl)
              simp only [Act.put, List.setIfInBounds_toArray, List.set_cons_zero, List.set_cons_succ]
              refine regG_take (i := 16) (v := ?_) rfl (by kernel_rfl) (by kernel_rfl) (by kernel_rfl) (by kernel_rfl) (by kernel_rfl) (fun _ _ _ h => h) (by rfl) ⟨hS1, .inl hS0⟩ ?hy16 ?_
              case hy16 => intro w' hw'; go_simp; (try with_reducible rfl)
              simp only [Act.put, List.setIfInBounds_toArray, List.set_cons_zero, List.set_cons_succ]
              refine regG_take (i := 17) (v := ?_) rfl (by kernel_rfl) (by kernel_rfl) (by kernel_rfl) (by kernel_rfl) (by kernel_rfl) (fun _ _ _ h => h) (by rfl) ⟨hS1, .inl hS0⟩ ?hy17 ?_
              case hy17 => intro w' hw'; go_simp; (try with_reducible rfl)
              simp only [Act.put, List.setIfInBounds_toArray, List.set_cons_zero, List.set_cons_succ]
              refine regG_take (i := 18) (v := ?_) rfl (by kernel_rfl) (by kernel_rfl) (by kernel_rfl) (by kernel_rfl) (by kernel_rfl) (fun _ _ _ h => h) (by rfl) ⟨hS1, .inl hS0⟩ ?hy18 ?_
              case hy18 => intro w' hw'; go_simp; (try with_reducible rfl)
              simp only [Act.put, List.setIfInBounds_toArray, List.set_cons_zero, List.set_cons_succ]
              refine regG_take (i := 20) (v := ?_) rfl (by kernel_rfl) (by kernel_rfl) (by kernel_rfl) (by kernel_rfl) (by kernel_rfl) (fun _ _ _ h => h) (by rfl) ⟨hS1, .inl hS0⟩ ?hy20 ?_
              case hy20 => intro w' hw'; go_simp; (try with_reducible rfl)
              simp only [Act.put, List.setIfInBounds_toArray, List.set_cons_zero, List.set_cons_succ]
              refine regG_take (i := 21) (v := ?_) rfl (by kernel_rfl) (by kernel_rfl) (by kernel_rfl) (by kernel_rfl) (by kernel_rfl) (fun _ _ _ h => h) (by rfl) ⟨hS1, .inl hS0⟩ ?hy21 ?_
              case hy21 => intro w' hw'; go_simp; (try with_reducible rfl)
              simp only [Act.put, List.setIfInBounds_toArray, List.set_cons_zero, List.set_cons_succ]
              refine regG_take (i := 22) (v := ?_) rfl (by kernel_rfl) (by kernel_rfl) (by kernel_rfl) (by kernel_rfl) (by kernel_rfl) (fun _ _ _ h => h) (by rfl) ⟨hS1, .inl hS0⟩ ?hy22 ?_
              case hy22 => intro w' hw'; go_simp; (try with_reducible rfl)
              simp only [Act.put, List.setIfInBounds_toArray, List.set_cons_zero, List.set_cons_succ]
              refine regG_read (i := 11) (v := ?_) rfl (by kernel_rfl) (by kernel_rfl) (by kernel_rfl) (by kernel_rfl) (by kernel_rfl) (by kernel_rfl) (fun _ _ _ h => h) (by rfl) ⟨hS1, .inl hS0⟩ ?hy11 ?_
              case hy11 => intro w' hw'; go_simp; (try with_reducible rfl)
              simp only [Act.put, List.setIfInBounds_toArray, List.set_cons_zero, List.set_cons_succ]
              refine regG_read (i := 15) (v := ?_) rfl (by kernel_rfl) (by kernel_rfl) (by kernel_rfl) (by kernel_rfl) (by kernel_rfl) (by kernel_rfl) (fun _ _ _ h => h) (by rfl) ⟨hS1, .inl hS0⟩ ?hy15 ?_
              case hy15 => intro w' hw'; go_simp; (try with_reducible rfl)
              simp only [Act.put, List.setIfInBounds_toArray, List.set_cons_zero, List.set_cons_succ]
              refine regG_read (i := 19) (v := ?_) rfl (by kernel_rfl) (by kernel_rfl) (by kernel_rfl) (by kernel_rfl) (by kernel_rfl) (by kernel_rfl) (fun _ _ _ h => h) (by rfl) ⟨hS1, .inl hS0⟩ ?hy19 ?_
              case hy19 => intro w' hw'; go_simp; (try with_reducible rfl)
              simp only [Act.put, List.setIfInBounds_toArray, List.set_cons_zero, List.set_cons_succ]
              refine regG_read (i := 23) (v := ?_) rfl (by kernel_rfl) (by kernel_rfl) (by kernel_rfl) (by kernel_rfl) (by kernel_rfl) (by kernel_rfl) (fun _ _ _ h => h) (by rfl) ⟨hS1, .inl hS0⟩ ?hy23 ?_
              case hy23 => intro w' hw'; go_simp; (try with_reducible rfl)
              simp only [Act.put, List.setIfInBounds_toArray, List.set_cons_zero, List.set_cons_succ]
              refine regG_do (i := 24) rfl (by kernel_rfl) (fun K' hK => ?_)
              go_simp
              refine (QA.out w12).mono ?_
              rintro e w13 ⟨rfl, b13⟩
              have h12 : g7 < w12.heap.size := (HO12.out.lt g7 rfl).2
              have HO13 := Lib.hid (kept_below HO12.out b13 rfl)
              have sS1 : w11.grownBy w13 (some g7) := grown_trans' hS1 ⟨b13.os, b13.tape, b13.output, b13.size, fun k hk _ => b13.block k hk⟩
              have sS0 : w13.cell? ⟨g7, p, none⟩ = some (wd xp) ∧ w13.cell? ⟨g7, q, none⟩ = some (wd xq) ∧ w13.cell? ⟨g7, r, none⟩ = some (wd xr) ∧ w13.cell? ⟨g7, s, none⟩ = some (wd xs) :=
                ⟨(b13.cell (p := ⟨g7, p, none⟩) h12).trans hS0.1, (b13.cell (p := ⟨g7, q, none⟩) h12).trans hS0.2.1, (b13.cell (p := ⟨g7, r, none⟩) h12).trans hS0.2.2.1, (b13.cell (p := ⟨g7, s, none⟩) h12).trans hS0.2.2.2⟩
              refine hK.out _ _ sS1 (.inl sS0) ?_
              clear hK K' b13 hS1 hS0 HO12
              have hS1 := sS1
              have hS0 := sS0
              clear sS1 sS0
              refine regG_take (i := 25) (v := ?_) rfl (by kernel_rfl) (by kernel_rfl) (by kernel_rfl) (by kernel_rfl) (by kernel_rfl) (fun _ _ _ h => h) (by rfl) ⟨hS1, .inl hS0⟩ ?hy25 ?_
              case hy25 => intro w' hw'; go_simp; (try with_reducible rfl)
              simp only [Act.put, List.setIfInBounds_toArray, List.set_cons_zero, List.set_cons_succ]
              refine regG_take (i := 26) (v := ?_) rfl (by kernel_rfl) (by kernel_rfl) (by kernel_rfl) (by kernel_rfl) (by kernel_rfl) (fun _ _ _ h => h) (by rfl) ⟨hS1, .inl hS0⟩ ?hy26 ?_
              case hy26 => intro w' hw'; go_simp; (try with_reducible rfl)
              simp only [Act.put, List.setIfInBounds_toArray, List.set_cons_zero, List.set_cons_succ]
              refine regG_take (i := 27) (v := ?_) rfl (by kernel_rfl) (by kernel_rfl) (by kernel_rfl) (by kernel_rfl) (by kernel_rfl) (fun _ _ _ h => h) (by rfl) ⟨hS1, .inl hS0⟩ ?hy27 ?_
              case hy27 => intro w' hw'; go_simp; (try with_reducible rfl)
              simp only [Act.put, List.setIfInBounds_toArray, List.set_cons_zero, List.set_cons_succ]
              refine regG_take (i := 28) (v := ?_) rfl (by kernel_rfl) (by kernel_rfl) (by kernel_rfl) (by kernel_rfl) (by kernel_rfl) (fun _ _ _ h => h) (by rfl) ⟨hS1, .inl hS0⟩ ?hy28 ?_
              case hy28 => intro w' hw'; go_simp; (try with_reducible rfl)
              simp only [Act.put, List.setIfInBounds_toArray, List.set_cons_zero, List.set_cons_succ]
              refine regG_take (i := 29) (v := ?_) rfl (by kernel_rfl) (by kernel_rfl) (by kernel_rfl) (by kernel_rfl) (by kernel_rfl) (fun _ _ _ h => h) (by rfl) ⟨hS1, .inl hS0⟩ ?hy29 ?_
              case hy29 => intro w' hw'; go_simp; (try with_reducible rfl)
              simp only [Act.put, List.setIfInBounds_toArray, List.set_cons_zero, List.set_cons_succ]
              refine regG_take (i := 30) (v := ?_) rfl (by kernel_rfl) (by kernel_rfl) (by kernel_rfl) (by kernel_rfl) (by kernel_rfl) (fun _ _ _ h => h) (by rfl) ⟨hS1, .inl hS0⟩ ?hy30 ?_
              case hy30 => intro w' hw'; go_simp; (try with_reducible rfl)
              simp only [Act.put, List.setIfInBounds_toArray, List.set_cons_zero, List.set_cons_succ]
              clear hS0
              have L0 := DPL.out
              generalize dpart D j = E0 at *
              refine regG_do (i := 31) rfl (by kernel_rfl) (fun K' hK => ?_)
              rw [if_pos (by rfl)]
              refine wp_store_own _ _ rfl w.heap.size g7 p 16 cap7 rfl ya rfl E0 L0 HO13.out hp16 ?_
              intro w14 g14 o14
              have HO14 := Lib.hid o14
              have sS1 := grown_trans' hS1 g14
              refine hK.out _ _ sS1 (.inr ⟨31, by simp, by kernel_rfl⟩) ?_
              clear hK K' g14 o14 hS1 HO13
              have hS1 := sS1
              clear sS1
              simp only [Act.put]
              refine regG_take (i := 32) (v := ?_) rfl (by kernel_rfl) (by kernel_rfl) (by kernel_rfl) (by kernel_rfl) (by kernel_rfl) (fun _ _ _ h => h) (by rfl) ⟨hS1, .inr ⟨_, List.mem_cons_self .., by kernel_rfl⟩⟩ ?hy32 ?_
              case hy32 => intro w' hw'; go_simp; (try with_reducible rfl)
              simp only [Act.put, List.setIfInBounds_toArray, List.set_cons_zero, List.set_cons_succ]
              refine regG_do (i := 33) rfl (by kernel_rfl) (fun K' hK => ?_)
              rw [if_pos (by rfl)]
              refine wp_store_own _ _ rfl w.heap.size g7 q 16 cap7 rfl yb rfl (E0.set p ya) (by simp [L0]) HO14.out hq16 ?_
              intro w15 g15 o15
              have HO15 := Lib.hid o15
              have sS1 := grown_trans' hS1 g15
              refine hK.out _ _ sS1 (.inr ⟨33, by simp, by kernel_rfl⟩) ?_
              clear hK K' g15 o15 hS1 HO14
              have hS1 := sS1
              clear sS1
              simp only [Act.put]
              refine regG_take (i := 34) (v := ?_) rfl (by kernel_rfl) (by kernel_rfl) (by kernel_rfl) (by kernel_rfl) (by kernel_rfl) (fun _ _ _ h => h) (by rfl) ⟨hS1, .inr ⟨_, List.mem_cons_self .., by kernel_rfl⟩⟩ ?hy34 ?_
              case hy34 => intro w' hw'; go_simp; (try with_reducible rfl)
              simp only [Act.put, List.setIfInBounds_toArray, List.set_cons_zero, List.set_cons_succ]
              refine regG_do (i := 35) rfl (by kernel_rfl) (fun K' hK => ?_)
              rw [if_pos (by rfl)]
              refine wp_store_own _ _ rfl w.heap.size g7 r 16 cap7 rfl yc rfl ((E0.set p ya).set q yb) (by simp [L0]) HO15.out hr16 ?_
              intro w16 g16 o16
              have HO16 := Lib.hid o16
              have sS1 := grown_trans' hS1 g16
              refine hK.out _ _ sS1 (.inr ⟨35, by simp, by kernel_rfl⟩) ?_
              clear hK K' g16 o16 hS1 HO15
              have hS1 := sS1
              clear sS1
              simp only [Act.put]
              refine regG_take (i := 36) (v := ?_) rfl (by kernel_rfl) (by kernel_rfl) (by kernel_rfl) (by kernel_rfl) (by kernel_rfl) (fun _ _ _ h => h) (by rfl) ⟨hS1, .inr ⟨_, List.mem_cons_self .., by kernel_rfl⟩⟩ ?hy36 ?_
              case hy36 => intro w' hw'; go_simp; (try with_reducible rfl)
              simp only [Act.put, List.setIfInBounds_toArray, List.set_cons_zero, List.set_cons_succ]
              refine regG_do (i := 37) rfl (by kernel_rfl) (fun K' hK => ?_)
              rw [if_pos (by rfl)]
              refine wp_store_own _ _ rfl w.heap.size g7 s 16 cap7 rfl yd rfl (((E0.set p ya).set q yb).set r yc) (by simp [L0]) HO16.out hs16 ?_
              intro w17 g17 o17
              have HO17 := Lib.hid o17
              have sS1 := grown_trans' hS1 g17
              refine hK.out _ _ sS1 (.inr ⟨37, by simp, by kernel_rfl⟩) ?_
              clear hK K' g17 o17 hS1 HO16
              have hS1 := sS1
              clear sS1
              simp only [Act.put]
              refine regG_end (by kernel_rfl) ?_
              have HG17 : Hid (w10.grownBy w17 (some g7)) := grown_trans' HG11.out hS1
              rw [← HQ.out] at HO17
              clear hS1 HG11
              go_wp2_with fail
              exact ⟨⟨j + 1, t2 + 4, by have := HT.out; omega, by have := HT.out; omega, by go_num, HO17.out, HG17.out⟩, by simp [intOf]; omega⟩
            · have d2 : decide ((t2 : Int) < 32) = false := by simp; omega
              have hj8 : j = 8 := by have := HT.out; omega
              subst hj8
              rw [DN.out] at HO
              go_wp2_with fail
              exact ⟨⟨k + 1, by omega, by go_num, HO.out, HGr.out⟩, by simp [intOf]; omega⟩
        · have d : decide ((k : Int) < 10) = false := by simp; omega
          have hk10 : k = 10 := by omega
          subst hk10
          have SL := Lib.hid (sumW_length (drounds W16 10) W16 16 (by rw [drounds_length]; exact WL.out) WL.out)
          have DL : Hid ((drounds W16 10).length = 16) := by rw [Hid, drounds_length]; exact WL.out
          have BX : Hid (Below w.heap.size w wr) := Lib.hid (BW10.out.grown HG.out BW10.out.size (fun k hk => by cases hk; exact hb7))
          have YB : Hid (∀ j x, W16[j]? = some x → wr.cell? ⟨g9, j, none⟩ = some (wd x)) := Lib.hid fun j x hj => by
            have q := Y10.out.at_ j x hj
            rw [Nat.zero_add] at q
            have hlb : g9 < w10.heap.size := World.block_lt_of_cell? w10 ⟨g9, j, none⟩ q
            rw [← q]
            exact World.cell?_of_block (HG.out.block g9 hlb (by simpa using hne9))
          clear Y10 HG
          have hl9' : g9 < wr.heap.size := by
            have := YB.out 0 _ (List.getElem?_eq_getElem (by rw [WL.out]; decide))
            exact World.block_lt_of_cell? wr ⟨g9, 0, none⟩ this
          have hl7' : g7 < wr.heap.size := (HO.out.lt g7 rfl).2
          generalize drounds W16 10 = D at *
          obtain ⟨wo, hwo⟩ : ∃ wo, wo = wr := ⟨_, rfl⟩
          subst hwo
          go_wp2_with fail
          obtain ⟨r1, -, -, -, -⟩ := rules_w
          go_loopg [18, 19] 16 (fun g v i W => ∃ m n4 : Nat, m + g = 16 ∧ n4 = 4 * m ∧ i = .int .i64 (m : Int) ∧ W.ownsRow wo.heap.size 5 1 v n4 (bv (lstream ((sumW D W16).take m))) ∧ Below wo.heap.size wo W)
          case atStart => exact ⟨0, 0, rfl, rfl, rfl, World.ownsRow_nil _ _ _ _, Below.refl _ _⟩
          case round =>
            obtain ⟨m, n4, hm16, hn4, rfl, ho, hb⟩ := hrel
            obtain ⟨A18, cap18, rfl⟩ := own_form ho
            have HN4 := Lib.hid hn4
            have HO18 := Lib.hid ho
            have HBm := Lib.hid hb
            clear ho hb hn4
            by_cases hlm : m < 16
            · have dm : decide ((m : Int) < 16) = true := by simp; omega
              have lm : (m : Int) < 16 := by omega
              obtain ⟨x, hx⟩ : ∃ x, D[m]? = some x := ⟨_, List.getElem?_eq_getElem (by rw [DL.out]; exact hlm)⟩
              obtain ⟨y, hy⟩ : ∃ y, W16[m]? = some y := ⟨_, List.getElem?_eq_getElem (by rw [WL.out]; exact hlm)⟩
              have hz : (sumW D W16)[m]? = some (x + y) := by simp [sumW, List.getElem?_zipWith, hx, hy]
              have HNX := Lib.hid (lstream_next _ m _ hz)
              have KX := Lib.hid ((HO.out.cellAt m (by omega)).trans (show (D.map wd)[m]? = some (wd x) by simp [hx]))
              have KY := Lib.hid (YB.out m y hy)
              clear hx hy hz
              go_wp2_with fail
              refine still_all (by kernel_rfl) (by kernel_rfl) fun w21 h21 b21 => ?_
              have kx : w21.cell? ⟨g7, m, none⟩ = some (wd x) := (World.cell?_of_block (by rw [h21])).trans ((HBm.out.cell (p := ⟨g7, m, none⟩) hl7').trans KX.out)
              have ky : w21.cell? ⟨g9, m, none⟩ = some (wd y) := (World.cell?_of_block (by rw [h21])).trans ((HBm.out.cell (p := ⟨g9, m, none⟩) hl9').trans KY.out)
              repeat still_step
              refine wpStill_nil ?_
              have HB21 := Lib.hid (HBm.out.trans (b21.mono HBm.out.size))
              have HO21 := Lib.hid (kept_below HO18.out b21 rfl)
              clear kx ky h21 b21 KX KY HO18 HBm
              generalize x + y = z at *
              have s24 := run_quo 24 (by decide) 16777216 rfl
              have s16 := run_quo 16 (by decide) 65536 rfl
              have s8 := run_quo 8 (by decide) 256 rfl
              have c24 := wd_byte (z >>> 24)
              have c16 := wd_byte (z >>> 16)
              have c8 := wd_byte (z >>> 8)
              have c0 := wd_byte z
              have EL : Hid (lbytes z = [z.toUInt8, (z >>> 8).toUInt8, (z >>> 16).toUInt8, (z >>> 24).toUInt8]) := Lib.hid rfl
              generalize (z >>> 24).toUInt8 = b3 at *
              generalize (z >>> 16).toUInt8 = b2 at *
              generalize (z >>> 8).toUInt8 = b1 at *
              generalize z.toUInt8 = b0 at *
              have z1 : BytesAt (w21.alloc (.cells #[.int .u8 (b0.toNat : Int), .int .u8 (b1.toNat : Int), .int .u8 (b2.toNat : Int), .int .u8 (b3.toNat : Int)] 5)) (.slice (some ⟨w21.heap.size, 0, none⟩) 4 4) [b0, b1, b2, b3] := BytesAt.lit w21 [b0, b1, b2, b3] _ rfl
              have hO1 := HO21.out.alloc (.cells #[.int .u8 (b0.toNat : Int), .int .u8 (b1.toNat : Int), .int .u8 (b2.toNat : Int), .int .u8 (b3.toNat : Int)] 5)
              have hB1 := HB21.out.alloc HB21.out.size (.cells #[.int .u8 (b0.toNat : Int), .int .u8 (b1.toNat : Int), .int .u8 (b2.toNat : Int), .int .u8 (b3.toNat : Int)] 5)
              clear HO21 HB21
              go_wp2_with (with_reducible refine wpList_append_bytes rfl _ _ rfl wo.heap.size _ _ _ ?hv hO1 _ _ ?hx z1 ?hlen ?hbase ?_)
              case hv => exact rfl
              case hx => exact rfl
              case hlen => have := HN4.out; simp; omega
              case hbase => exact hB1.size
              intro v22 w22 ho22 hg22
              have lt22 := hO1.lt
              have HB22 := Lib.hid (hB1.grown hg22 hB1.size (fun k hk => (lt22 k hk).1))
              rw [← bv_append, ← EL.out, ← HNX.out] at ho22
              have HO22 := Lib.hid ho22
              clear lt22 ho22 hg22 hO1 hB1 z1 s24 s16 s8 c24 c16 c8 c0
              go_wp2_with fail
              go_roundg (gk - 1)
              case measure => omega
              case rel => exact ⟨m + 1, n4 + 4, by omega, by have := HN4.out; omega, by go_num, HO22.out, HB22.out⟩
            · have dm : decide ((m : Int) < 16) = false := by simp; omega
              have hm : m = 16 := by omega
              have HY : Hid (wr.ownsRow w.heap.size 5 1 (.slice A18 64 cap18) 64 (bv (blockC key nonce c))) := by
                have e : (sumW D W16).take m = sumW D W16 := List.take_of_length_le (by rw [SL.out]; omega)
                have q := HO18.out
                rw [e, BC.out, show n4 = 64 by have := HN4.out; omega] at q
                exact own_less q BX.out.size
              have hn64 : n4 = 64 := by have := HN4.out; omega
              subst hn64
              clear HO18
              go_wp2
              go_ret2
              exact ⟨_, rfl, HY.out, BX.out.trans (HBm.out.mono BX.out.size)⟩
end Go.Proofs.YtmnhpkdldeifgaaGreatDoor
