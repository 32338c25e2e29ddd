/- The document's office: New, Gate, gone, issue. -/
import Derived.Test.YtfcjemedheccgaaDoorGm
import Derived.Test.YtfcjemedheccgaaDoorGw
import Derived.Test.YtfcjemedheccgaaDoorGy
import Derived.Test.YtfcjemedheccgaaDoorGa
import Derived.Test.YtfcjemedheccgaaDoorGg
namespace Go.Proofs.YtfcjemedheccgaaDoor
set_option maxRecDepth 100000
open Go.RowKit

set_option maxHeartbeats 1000000 in
theorem rffNew_bad (seed : List UInt8) (len : Int) (hs : seed.length ≤ 4000) (h : keyBad len 0) (w : World) :
    Calls Tryd.prog 9 #[.string ⟨seed.toArray⟩, .int .i64 len] w fun e w' => e = .returned (.tuple #[.pointer none, .int .i64 2]) ∧ Below w.heap.size w w' := by
  have C := Lib.hid (refChKey_any seed len 0 w hs)
  rw [chKeyC, if_pos h] at C
  generalize keyA seed len 0 = kk at *
  clear h hs
  go_enter Tryd.func9, Tryd.ntmps9
  go_wp2_with fail
  refine C.out.mono ?_
  rintro e w1 ⟨rfl, b1⟩
  have B1 := Lib.hid b1
  clear b1 C
  go_wp2
  go_ret2
  exact ⟨rfl, B1.out⟩
set_option maxHeartbeats 1000000 in
theorem rffNew_good (seed : List UInt8) (len : Int) (hs : seed.length ≤ 4000) (h : ¬ keyBad len 0) (w : World) :
    Calls Tryd.prog 9 #[.string ⟨seed.toArray⟩, .int .i64 len] w fun e w' => ∃ g, e = .returned (.tuple #[.pointer (some ⟨g, 0, none⟩), .int .i64 0]) ∧ RffAt w' g (.slice none 0 0) (.slice none 0 0) ⟨seed, len, 0, [], []⟩ ∧ w.heap.size ≤ g ∧ Below w.heap.size w w' := by
  have C := Lib.hid (refChKey_any seed len 0 w hs)
  rw [chKeyC, if_neg h] at C
  generalize keyA seed len 0 = kk at *
  clear h hs
  go_enter Tryd.func9, Tryd.ntmps9
  go_wp2_with fail
  refine C.out.mono ?_
  rintro e w1 ⟨rfl, b1⟩
  have B1 := Lib.hid b1
  clear b1 C
  go_wp2_with (refine wpList_box_row rfl 44 _ rfl (rffC (.slice none 0 0) (.slice none 0 0) ⟨seed, len, 0, [], []⟩).toArray (by with_unfolding_all exact rfl) ?_)
  intro w2 b2 x2 z2
  have X2 := Lib.hid x2
  have B2 := Lib.hid (B1.out.trans (b2.mono B1.out.size))
  have S2 := Lib.hid B1.out.size
  obtain ⟨g, hg⟩ : ∃ g, g = w1.heap.size := ⟨_, rfl⟩
  rw [← hg] at X2 S2 ⊢
  clear b2 x2 z2 B1 hg
  go_wp2
  go_ret2
  exact ⟨_, rfl, ObjAt.new X2.out, S2.out, B2.out⟩
set_option maxHeartbeats 1000000 in
theorem rffGate_any (g : Nat) (v u : Value) (s : OS) (hs : s.seed.length ≤ 4000) (w : World) (h : RffAt w g v u s) :
    Calls Tryd.prog 12 #[.pointer (some ⟨g, 0, none⟩)] w fun e w' => e = .returned (gateV s.idx s.key) ∧ Below w.heap.size w w' := by
  have O := Lib.hid h
  have K := fun w => Lib.hid (refChKey_any s.seed s.len s.idx w hs)
  have HK : Hid (s.key = keyA s.seed s.len s.idx) := Lib.hid rfl
  generalize s.key = key at *
  generalize keyA s.seed s.len s.idx = kk at *
  obtain rfl := HK.out
  generalize chKeyC s.len s.idx = cc at *
  clear h HK hs
  go_enter Tryd.func12, Tryd.ntmps12
  go_wp2_with fail
  obtain ⟨w0, hw0⟩ : ∃ w0, w0 = w.alloc (.cells #[.int .i64 0, .string ⟨#[]⟩] 37) := ⟨_, rfl⟩
  have b0 : Hid (Below w.heap.size w w0) := Lib.hid (by rw [hw0]; exact (Below.refl _ _).alloc (Nat.le_refl _) _)
  have x0 : Hid (Whole w0 w.heap.size 37 (gateC 0 [])) := Lib.hid (by rw [hw0]; exact Whole.new _ _ _)
  have o0 : Hid (RffAt w0 g v u s) := Lib.hid (O.out.below b0.out)
  obtain ⟨gX, hgX⟩ : ∃ q, q = w.heap.size := ⟨_, rfl⟩
  have M_X : Hid (w.heap.size ≤ gX) := Lib.hid (by rw [hgX]; exact Nat.le_refl _)
  rw [← hw0, ← hgX]
  rw [← hgX] at x0
  clear hw0 hgX
  have O0 : Hid (RffAt w g v u s) := Lib.hid (O.out)
  clear O O0
  go_wp2_with fail
  refine reg_begin (by kernel_rfl) fun w1 b1 z1 => ?_
  have X1 : Hid (Whole w1 gX 37 (gateC 0 [])) := Lib.hid (Whole.below x0.out b1 x0.out.lt)
  have O1 : Hid (RffAt w1 g v u s) := Lib.hid (o0.out.below b1)
  have B1 := Lib.hid (b0.out.trans (b1.mono b0.out.size))
  clear b1 z1 x0 o0 b0
  refine reg_take (i := 0) (v := ?_) rfl (by kernel_rfl) (by kernel_rfl) (by kernel_rfl) (fun _ _ _ h => h) (by rfl) ?hy0 ?_
  case hy0 => intro w' hw'; go_simp; (try with_reducible rfl)
  simp only [Act.put, List.setIfInBounds_toArray, List.set_cons_zero, List.set_cons_succ]
  refine reg_take (i := 1) (v := ?_) rfl (by kernel_rfl) (by kernel_rfl) (by kernel_rfl) (fun _ _ _ h => h) (by rfl) ?hy1 ?_
  case hy1 => intro w' hw'; go_simp; (try with_reducible rfl)
  simp only [Act.put, List.setIfInBounds_toArray, List.set_cons_zero, List.set_cons_succ]
  refine reg_take (i := 2) (v := ?_) rfl (by kernel_rfl) (by kernel_rfl) (by kernel_rfl) (fun _ _ _ h => h) (by rfl) ?hy2 ?_
  case hy2 => intro w' hw'; go_simp; (try with_reducible rfl)
  simp only [Act.put, List.setIfInBounds_toArray, List.set_cons_zero, List.set_cons_succ]
  refine reg_take (i := 3) (v := .string ⟨s.seed.toArray⟩) rfl (by kernel_rfl) (by kernel_rfl) (by kernel_rfl) (fun _ _ _ h => h) (by rfl) ?hy3 ?_
  case hy3 => intro w' hw'; have c := RffAt.c0 (O1.out.below hw'); go_simp; (try with_reducible rfl)
  simp only [Act.put, List.setIfInBounds_toArray, List.set_cons_zero, List.set_cons_succ]
  refine reg_take (i := 4) (v := ?_) rfl (by kernel_rfl) (by kernel_rfl) (by kernel_rfl) (fun _ _ _ h => h) (by rfl) ?hy4 ?_
  case hy4 => intro w' hw'; go_simp; (try with_reducible rfl)
  simp only [Act.put, List.setIfInBounds_toArray, List.set_cons_zero, List.set_cons_succ]
  refine reg_take (i := 5) (v := ?_) rfl (by kernel_rfl) (by kernel_rfl) (by kernel_rfl) (fun _ _ _ h => h) (by rfl) ?hy5 ?_
  case hy5 => intro w' hw'; go_simp; (try with_reducible rfl)
  simp only [Act.put, List.setIfInBounds_toArray, List.set_cons_zero, List.set_cons_succ]
  refine reg_take (i := 6) (v := ?_) rfl (by kernel_rfl) (by kernel_rfl) (by kernel_rfl) (fun _ _ _ h => h) (by rfl) ?hy6 ?_
  case hy6 => intro w' hw'; go_simp; (try with_reducible rfl)
  simp only [Act.put, List.setIfInBounds_toArray, List.set_cons_zero, List.set_cons_succ]
  refine reg_take (i := 7) (v := .int .i64 s.len) rfl (by kernel_rfl) (by kernel_rfl) (by kernel_rfl) (fun _ _ _ h => h) (by rfl) ?hy7 ?_
  case hy7 => intro w' hw'; have c := RffAt.c1 (O1.out.below hw'); go_simp; (try with_reducible rfl)
  simp only [Act.put, List.setIfInBounds_toArray, List.set_cons_zero, List.set_cons_succ]
  refine reg_take (i := 8) (v := ?_) rfl (by kernel_rfl) (by kernel_rfl) (by kernel_rfl) (fun _ _ _ h => h) (by rfl) ?hy8 ?_
  case hy8 => intro w' hw'; go_simp; (try with_reducible rfl)
  simp only [Act.put, List.setIfInBounds_toArray, List.set_cons_zero, List.set_cons_succ]
  refine reg_take (i := 9) (v := ?_) rfl (by kernel_rfl) (by kernel_rfl) (by kernel_rfl) (fun _ _ _ h => h) (by rfl) ?hy9 ?_
  case hy9 => intro w' hw'; go_simp; (try with_reducible rfl)
  simp only [Act.put, List.setIfInBounds_toArray, List.set_cons_zero, List.set_cons_succ]
  refine reg_take (i := 10) (v := ?_) rfl (by kernel_rfl) (by kernel_rfl) (by kernel_rfl) (fun _ _ _ h => h) (by rfl) ?hy10 ?_
  case hy10 => intro w' hw'; go_simp; (try with_reducible rfl)
  simp only [Act.put, List.setIfInBounds_toArray, List.set_cons_zero, List.set_cons_succ]
  refine reg_take (i := 11) (v := .int .i64 s.idx) rfl (by kernel_rfl) (by kernel_rfl) (by kernel_rfl) (fun _ _ _ h => h) (by rfl) ?hy11 ?_
  case hy11 => intro w' hw'; have c := RffAt.c2 (O1.out.below hw'); go_simp; (try with_reducible rfl)
  simp only [Act.put, List.setIfInBounds_toArray, List.set_cons_zero, List.set_cons_succ]
  refine reg_call (i := 12) rfl (by kernel_rfl) (fun K' hK => ?_)
  go_simp
  refine ((K w1).out).mono ?_
  rintro e2 w2 ⟨rfl, b2⟩
  have X2 : Hid (Whole w2 gX 37 (gateC 0 [])) := Lib.hid (Whole.below X1.out b2 X1.out.lt)
  have O2 : Hid (RffAt w2 g v u s) := Lib.hid (O1.out.below b2)
  have B2 := Lib.hid (B1.out.trans (b2.mono B1.out.size))
  refine hK.out _ _ b2 ?_
  clear hK K' b2 X1 O1 B1
  refine reg_take (i := 13) (v := ?_) rfl (by kernel_rfl) (by kernel_rfl) (by kernel_rfl) (fun _ _ _ h => h) (by rfl) ?hy13 ?_
  case hy13 => intro w' hw'; go_simp; (try with_reducible rfl)
  simp only [Act.put, List.setIfInBounds_toArray, List.set_cons_zero, List.set_cons_succ]
  refine reg_take (i := 14) (v := ?_) rfl (by kernel_rfl) (by kernel_rfl) (by kernel_rfl) (fun _ _ _ h => h) (by rfl) ?hy14 ?_
  case hy14 => intro w' hw'; go_simp; (try with_reducible rfl)
  simp only [Act.put, List.setIfInBounds_toArray, List.set_cons_zero, List.set_cons_succ]
  refine reg_take (i := 15) (v := ?_) rfl (by kernel_rfl) (by kernel_rfl) (by kernel_rfl) (fun _ _ _ h => h) (by rfl) ?hy15 ?_
  case hy15 => intro w' hw'; go_simp; (try with_reducible rfl)
  simp only [Act.put, List.setIfInBounds_toArray, List.set_cons_zero, List.set_cons_succ]
  refine reg_take (i := 16) (v := ?_) rfl (by kernel_rfl) (by kernel_rfl) (by kernel_rfl) (fun _ _ _ h => h) (by rfl) ?hy16 ?_
  case hy16 => intro w' hw'; go_simp; (try with_reducible rfl)
  simp only [Act.put, List.setIfInBounds_toArray, List.set_cons_zero, List.set_cons_succ]
  refine reg_take (i := 17) (v := ?_) rfl (by kernel_rfl) (by kernel_rfl) (by kernel_rfl) (fun _ _ _ h => h) (by rfl) ?hy17 ?_
  case hy17 => intro w' hw'; go_simp; (try with_reducible rfl)
  simp only [Act.put, List.setIfInBounds_toArray, List.set_cons_zero, List.set_cons_succ]
  refine reg_end (by kernel_rfl) ?_
  have c2 := RffAt.c2 O2.out
  clear O2
  go_wp2_with (with_reducible refine wpList_store_whole rfl 37 _ _ rfl gX (gateC s.idx key) (by with_unfolding_all exact rfl) (by with_unfolding_all exact rfl) _ _ X2.out (gate_size _ _) rfl (gate_one _ _) ?_)
  intro w3 q3 x3 z3
  have X3 : Hid (Whole w3 gX 37 (gateC s.idx key)) := Lib.hid x3
  have B3 := Lib.hid (B2.out.grown q3 B2.out.size (fun k hk => by injection hk with hk; have := M_X.out; omega))
  clear q3 x3 z3 X2 B2
  go_wp2
  exact bodyPost_ret (results_gate rfl _ _ _ _ _ rfl X3.out) rfl ⟨rfl, B3.out⟩
set_option maxHeartbeats 1000000 in
theorem rffGone_any (g : Nat) (v u : Value) (s : OS) (n : List UInt8) (hN : s.gone.length ≤ 4000000) (w : World) (h : RffAt w g v u s) :
    Calls Tryd.prog 42 #[.pointer (some ⟨g, 0, none⟩), .string ⟨n.toArray⟩] w fun e w' => e = .returned (.bool (s.marked n)) ∧ Below w.heap.size w w' := by
  obtain ⟨m, hm⟩ : ∃ m, m = s.gone.length := ⟨_, rfl⟩
  obtain ⟨A, cap, hu⟩ := h.names.form
  rw [nmC_length, ← hm] at hu
  have H : Hid (RowsAt w u 1 (nmC s.gone)) := Lib.hid h.names.rows
  have HL := Lib.hid hm
  have HN : Hid (m ≤ 4000000) := Lib.hid (by omega)
  have c4 := RffAt.c4 h
  obtain ⟨R, hR⟩ : ∃ R, R = s.marked n := ⟨_, rfl⟩
  have HR : Hid (R = decide (n ∈ s.gone)) := Lib.hid hR
  rw [← hR]
  subst hu
  clear h hR hN hm
  go_enter Tryd.func42, Tryd.ntmps42
  go_wp2_with fail
  go_loop [5] (fun i => ∃ k : Nat, k ≤ m ∧ i = .int .i64 (k : Int) ∧ n ∉ s.gone.take k) (fun i => m - (intOf i).toNat)
  case atStart => exact ⟨0, Nat.zero_le _, rfl, by simp⟩
  case round =>
    obtain ⟨k, hk, rfl, hr⟩ := hrel
    have HK := Lib.hid hr
    clear hr
    by_cases hlt : k < m
    · have dk : decide ((k : Int) < (m : Int)) = true := by simp; omega
      obtain ⟨x, hx⟩ : ∃ x, s.gone[k]? = some x := ⟨_, List.getElem?_eq_getElem (by rw [← HL.out]; exact hlt)⟩
      obtain ⟨b, off, rfl, _, hc⟩ := H.out.row (fun c hc => (nmC_one _ c hc).1) (by decide) (by rw [nmC, List.getElem?_map, hx]; rfl : (nmC s.gone)[k]? = some [.string ⟨x.toArray⟩])
      have c : w.cell? ⟨b, off + k, none⟩ = some (.string ⟨x.toArray⟩) := by have := hc 0 _ rfl; rwa [Nat.mul_one] at this
      have HT : Hid (s.gone.take (k + 1) = s.gone.take k ++ [x]) := Lib.hid (by rw [List.take_add_one, hx]; rfl)
      have HXM := Lib.hid (List.mem_of_getElem? hx)
      have jk : (k : Int) < (m : Int) := by omega
      have r4 : IntKind.i64.wrap ((k : Int) + 1) = ((k + 1 : Nat) : Int) := by have := HN.out; rw [IntWalk.i64_in _ (by omega)]; omega
      clear hc hx
      by_cases hn : x = n
      · have r : (x == n) = true := by simp [hn]
        have HV : Hid (R = true) := Lib.hid (by rw [HR.out, decide_eq_true_eq, ← hn]; exact HXM.out)
        clear hn
        go_wp2
        go_ret
        exact ⟨by rw [HV.out]; rfl, Below.refl _ _⟩
      · have r : (x == n) = false := by simp; exact hn
        have HV : Hid (n ∉ s.gone.take (k + 1)) := Lib.hid (by
          rw [HT.out, List.mem_append, List.mem_singleton]
          rintro (q | q)
          · exact HK.out q
          · exact hn q.symm)
        clear hn
        go_wp2
        exact ⟨⟨k + 1, by omega, by go_num, HV.out⟩, by simp [intOf]; omega⟩
    · have dk : decide ((k : Int) < (m : Int)) = false := by simp; omega
      have HV : Hid (R = false) := Lib.hid (by rw [HR.out, decide_eq_false_iff_not]; have q := HK.out; rwa [List.take_of_length_le (by rw [← HL.out]; omega)] at q)
      go_wp2
      go_ret
      exact ⟨by rw [HV.out]; rfl, Below.refl _ _⟩
end Go.Proofs.YtfcjemedheccgaaDoor
