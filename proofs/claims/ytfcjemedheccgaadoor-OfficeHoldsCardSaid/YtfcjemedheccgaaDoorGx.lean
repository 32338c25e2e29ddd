/- Package office as landed: names among names (slices.Contains), Gate, atEnd, marked, mark, knows. -/
import Derived.Test.YtfcjemedheccgaaDoorGm
import Derived.Test.YtfcjemedheccgaaDoorGw
import Derived.Test.YtfcjemedheccgaaDoorGa
import Derived.Test.YtfcjemedheccgaaDoorGh
namespace Go.Proofs.YtfcjemedheccgaaDoor
set_option maxRecDepth 100000
open Go.RowKit

def findN (n : List UInt8) : List (List UInt8) → Nat → Int
  | [], _ => -1
  | x :: l, k => if x = n then (k : Int) else findN n l (k + 1)
theorem findN_pos (n : List UInt8) (l : List (List UInt8)) (k : Nat) : decide (findN n l k ≥ 0) = decide (n ∈ l) := by
  induction l generalizing k with
  | nil => rfl
  | cons x r ih =>
    rw [findN]
    split
    · next h =>
      subst h
      rw [decide_eq_true (by omega), decide_eq_true (by simp)]
    · next h =>
      rw [ih]
      have : n ≠ x := fun e => h e.symm
      simp [this]
set_option maxHeartbeats 1000000 in
theorem strIndex_any (A : Option Addr) (m cap : Nat) (l : List (List UInt8)) (n : List UInt8) (hm : m ≤ 10000000) (w : World) (h : RowsAt w (.slice A m cap) 1 (nmC l)) :
    Calls Tryd.prog 58 #[.slice A m cap, .string ⟨n.toArray⟩] w fun e w' => e = .returned (.int .i64 (findN n l 0)) ∧ w' = w := by
  have hlen := h.size.1
  rw [nmC_length] at hlen
  have H := Lib.hid h
  have HL := Lib.hid hlen
  obtain ⟨R, hR⟩ : ∃ R, R = findN n l 0 := ⟨_, rfl⟩
  have HR : Hid (findN n (l.drop 0) 0 = R) := Lib.hid (by rw [hR]; rfl)
  rw [← hR]
  clear h hlen hR
  go_enter Tryd.func58, Tryd.ntmps58
  go_wp2_with fail
  go_loop [8] (fun i => ∃ k : Nat, k ≤ m ∧ i = .int .i64 (k : Int) ∧ findN n (l.drop k) k = R) (fun i => m - (intOf i).toNat)
  case atStart => exact ⟨0, Nat.zero_le _, rfl, HR.out⟩
  case round =>
    obtain ⟨k, hk, rfl, hr⟩ := hrel
    have HK := Lib.hid hr
    clear hr HR
    by_cases hlt : k < m
    · have dk : decide ((k : Int) < (m : Int)) = true := by simp; omega
      obtain ⟨x, hx⟩ : ∃ x, l[k]? = some x := ⟨_, List.getElem?_eq_getElem (by rw [← HL.out]; exact hlt)⟩
      obtain ⟨b, off, rfl, _, hc⟩ := H.out.row (fun c hc => (nmC_one l c hc).1) (by decide) (by rw [nmC, List.getElem?_map, hx]; rfl : (nmC l)[k]? = some [.string ⟨x.toArray⟩])
      have c : w.cell? ⟨b, off + k, none⟩ = some (.string ⟨x.toArray⟩) := by have := hc 0 _ rfl; rwa [Nat.mul_one] at this
      have HD := Lib.hid (drop_at hx)
      have jk : (k : Int) < (m : Int) := by omega
      have r4 : IntKind.i64.wrap ((k : Int) + 1) = ((k + 1 : Nat) : Int) := by rw [IntWalk.i64_in _ (by omega)]; omega
      clear hc hx
      by_cases hn : x = n
      · have r : (n == x) = true := by simp [hn]
        have HV : Hid ((k : Int) = R) := Lib.hid (by have q := HK.out; rw [HD.out, findN, if_pos hn] at q; exact q)
        clear hn
        go_wp2
        go_ret
        exact ⟨by rw [← HV.out]; rfl, rfl⟩
      · have r : (n == x) = false := by simp; exact fun e => hn e.symm
        have HV : Hid (findN n (l.drop (k + 1)) (k + 1) = R) := Lib.hid (by have q := HK.out; rw [HD.out, findN, if_neg hn] at q; exact q)
        clear hn
        go_wp2
        exact ⟨⟨k + 1, by omega, by go_num, HV.out⟩, by simp [intOf]; omega⟩
    · obtain rfl : k = m := by omega
      have dk : decide ((k : Int) < (k : Int)) = false := by simp
      have HV : Hid ((-1 : Int) = R) := Lib.hid (by have q := HK.out; rw [List.drop_eq_nil_of_le (by rw [← HL.out]; exact Nat.le_refl _)] at q; exact q)
      go_wp2
      go_ret
      exact ⟨by rw [← HV.out]; rfl, rfl⟩
set_option maxHeartbeats 1000000 in
theorem strContains_any (A : Option Addr) (m cap : Nat) (l : List (List UInt8)) (n : List UInt8) (hm : m ≤ 10000000) (w : World) (h : RowsAt w (.slice A m cap) 1 (nmC l)) :
    Calls Tryd.prog 45 #[.slice A m cap, .string ⟨n.toArray⟩] w fun e w' => e = .returned (.bool (decide (n ∈ l))) ∧ w' = w := by
  have C := Lib.hid (strIndex_any A m cap l n hm w h)
  have HQ := Lib.hid (findN_pos n l 0)
  generalize findN n l 0 = R at *
  go_enter Tryd.func45, Tryd.ntmps45
  go_wp2_with fail
  refine C.out.mono ?_
  rintro e w1 ⟨rfl, rfl⟩
  go_wp2
  go_ret
  exact ⟨by rw [← HQ.out]; rfl, rfl⟩

set_option maxHeartbeats 1000000 in
theorem marked_any (g : Nat) (v u : Value) (s : OS) (n : List UInt8) (N : Nat) (ok : s.Ok N) (hN : N ≤ 4000000) (w : World) (h : OffAt w g v u s) :
    Calls Tryd.prog 29 #[.pointer (some ⟨g, 0, none⟩), .string ⟨n.toArray⟩] w fun e w' => e = .returned (.bool (s.marked n)) ∧ w' = w := by
  have c0 : w.cell? ⟨g, 0, none⟩ = some u := h.at_ 0
  obtain ⟨A, cap, hu⟩ := h.names.form
  rw [nmC_length] at hu
  have C := Lib.hid (strContains_any A s.gone.length cap s.gone n (by have := ok.gone; omega) w (by have := h.names.rows; rwa [hu] at this))
  subst hu
  have HQ : Hid (s.marked n = decide (n ∈ s.gone)) := Lib.hid rfl
  clear h ok hN
  go_enter Tryd.func29, Tryd.ntmps29
  go_wp2_with fail
  refine C.out.mono ?_
  rintro e w1 ⟨rfl, rfl⟩
  go_wp2
  go_ret
  exact ⟨by rw [← HQ.out]; rfl, rfl⟩
theorem marked_below (g : Nat) (v u : Value) (s : OS) (n : List UInt8) (N : Nat) (ok : s.Ok N) (hN : N ≤ 4000000) (w : World) (h : OffAt w g v u s) :
    Calls Tryd.prog 29 #[.pointer (some ⟨g, 0, none⟩), .string ⟨n.toArray⟩] w fun e w' => e = .returned (.bool (s.marked n)) ∧ Below w.heap.size w w' :=
  (marked_any g v u s n N ok hN w h).mono fun _ _ q => ⟨q.1, q.2 ▸ Below.refl w.heap.size w⟩
set_option maxHeartbeats 1000000 in
theorem atEnd_any (g : Nat) (v u : Value) (s : OS) (w : World) (h : OffAt w g v u s) :
    Calls Tryd.prog 31 #[.pointer (some ⟨g, 0, none⟩)] w fun e w' => e = .returned (.bool (decide (s.idx = s.len))) ∧ Below w.heap.size w w' := by
  have O := Lib.hid h
  clear h
  go_enter Tryd.func31, Tryd.ntmps31
  have O0 : Hid (OffAt w g v u s) := Lib.hid (O.out)
  go_wp2_with fail
  refine still_all (by kernel_rfl) (by kernel_rfl) fun w1 h1 b1 => ?_
  have O1 : Hid (OffAt w1 g v u s) := Lib.hid (O0.out.below b1)
  have B1 := Lib.hid b1
  clear h1 b1 O0
  have c2 : w1.cell? ⟨g, 2, none⟩ = some (.int .i64 s.len) := O1.out.at_ 2
  have c3 : w1.cell? ⟨g, 3, none⟩ = some (.int .i64 s.idx) := O1.out.at_ 3
  repeat still_step
  refine wpStill_nil ?_
  clear c2 c3
  go_wp2
  go_ret
  exact ⟨rfl, B1.out⟩
set_option maxHeartbeats 1000000 in
theorem offGate_any (g : Nat) (v u : Value) (s : OS) (N : Nat) (ok : s.Ok N) (w : World) (T : Tab w) (h : OffAt w g v u s) :
    Calls Tryd.prog 11 #[.pointer (some ⟨g, 0, none⟩)] w fun e w' => e = .returned (gateV s.idx s.key) ∧ Below w.heap.size w w' := by
  have O := Lib.hid h
  have T0 := Lib.hid T
  have K := fun w t => Lib.hid (chKey_any s.seed s.len s.idx w ok.seed t)
  have HK : Hid (s.key = keyA s.seed s.len s.idx) := Lib.hid rfl
  generalize s.key = key at *
  generalize keyA s.seed s.len s.idx = kk at *
  obtain rfl := HK.out
  generalize chKeyC s.len s.idx = cc at *
  clear h T ok HK
  go_enter Tryd.func11, Tryd.ntmps11
  go_wp2_with fail
  obtain ⟨w0, hw0⟩ : ∃ w0, w0 = w.alloc (.cells #[.int .i64 0, .string ⟨#[]⟩] 37) := ⟨_, rfl⟩
  have b0 : Hid (Below w.heap.size w w0) := Lib.hid (by rw [hw0]; exact (Below.refl _ _).alloc (Nat.le_refl _) _)
  have x0 : Hid (Whole w0 w.heap.size 37 (gateC 0 [])) := Lib.hid (by rw [hw0]; exact Whole.new _ _ _)
  have o0 : Hid (OffAt w0 g v u s) := Lib.hid (O.out.below b0.out)
  obtain ⟨gX, hgX⟩ : ∃ q, q = w.heap.size := ⟨_, rfl⟩
  have M_X : Hid (w.heap.size ≤ gX) := Lib.hid (by rw [hgX]; exact Nat.le_refl _)
  rw [← hw0, ← hgX]
  rw [← hgX] at x0
  clear hw0 hgX
  have O0 : Hid (OffAt w g v u s) := Lib.hid (O.out)
  clear O O0
  go_wp2_with fail
  refine reg_begin (by kernel_rfl) fun w1 b1 z1 => ?_
  have X1 : Hid (Whole w1 gX 37 (gateC 0 [])) := Lib.hid (Whole.below x0.out b1 x0.out.lt)
  have O1 : Hid (OffAt w1 g v u s) := Lib.hid (o0.out.below b1)
  have B1 := Lib.hid (b0.out.trans (b1.mono b0.out.size))
  clear b1 z1 x0 o0 b0
  refine reg_take (i := 0) (v := ?_) rfl (by kernel_rfl) (by kernel_rfl) (by kernel_rfl) (fun _ _ _ h => h) (by rfl) ?hy0 ?_
  case hy0 => intro w' hw'; go_simp; (try with_reducible rfl)
  simp only [Act.put, List.setIfInBounds_toArray, List.set_cons_zero, List.set_cons_succ]
  refine reg_take (i := 1) (v := ?_) rfl (by kernel_rfl) (by kernel_rfl) (by kernel_rfl) (fun _ _ _ h => h) (by rfl) ?hy1 ?_
  case hy1 => intro w' hw'; go_simp; (try with_reducible rfl)
  simp only [Act.put, List.setIfInBounds_toArray, List.set_cons_zero, List.set_cons_succ]
  refine reg_take (i := 2) (v := ?_) rfl (by kernel_rfl) (by kernel_rfl) (by kernel_rfl) (fun _ _ _ h => h) (by rfl) ?hy2 ?_
  case hy2 => intro w' hw'; go_simp; (try with_reducible rfl)
  simp only [Act.put, List.setIfInBounds_toArray, List.set_cons_zero, List.set_cons_succ]
  refine reg_take (i := 3) (v := .string ⟨s.seed.toArray⟩) rfl (by kernel_rfl) (by kernel_rfl) (by kernel_rfl) (fun _ _ _ h => h) (by rfl) ?hy3 ?_
  case hy3 => intro w' hw'; have c := OffAt.c1 (O1.out.below hw'); go_simp; (try with_reducible rfl)
  simp only [Act.put, List.setIfInBounds_toArray, List.set_cons_zero, List.set_cons_succ]
  refine reg_take (i := 4) (v := ?_) rfl (by kernel_rfl) (by kernel_rfl) (by kernel_rfl) (fun _ _ _ h => h) (by rfl) ?hy4 ?_
  case hy4 => intro w' hw'; go_simp; (try with_reducible rfl)
  simp only [Act.put, List.setIfInBounds_toArray, List.set_cons_zero, List.set_cons_succ]
  refine reg_take (i := 5) (v := ?_) rfl (by kernel_rfl) (by kernel_rfl) (by kernel_rfl) (fun _ _ _ h => h) (by rfl) ?hy5 ?_
  case hy5 => intro w' hw'; go_simp; (try with_reducible rfl)
  simp only [Act.put, List.setIfInBounds_toArray, List.set_cons_zero, List.set_cons_succ]
  refine reg_take (i := 6) (v := ?_) rfl (by kernel_rfl) (by kernel_rfl) (by kernel_rfl) (fun _ _ _ h => h) (by rfl) ?hy6 ?_
  case hy6 => intro w' hw'; go_simp; (try with_reducible rfl)
  simp only [Act.put, List.setIfInBounds_toArray, List.set_cons_zero, List.set_cons_succ]
  refine reg_take (i := 7) (v := .int .i64 s.len) rfl (by kernel_rfl) (by kernel_rfl) (by kernel_rfl) (fun _ _ _ h => h) (by rfl) ?hy7 ?_
  case hy7 => intro w' hw'; have c := OffAt.c2 (O1.out.below hw'); go_simp; (try with_reducible rfl)
  simp only [Act.put, List.setIfInBounds_toArray, List.set_cons_zero, List.set_cons_succ]
  refine reg_take (i := 8) (v := ?_) rfl (by kernel_rfl) (by kernel_rfl) (by kernel_rfl) (fun _ _ _ h => h) (by rfl) ?hy8 ?_
  case hy8 => intro w' hw'; go_simp; (try with_reducible rfl)
  simp only [Act.put, List.setIfInBounds_toArray, List.set_cons_zero, List.set_cons_succ]
  refine reg_take (i := 9) (v := ?_) rfl (by kernel_rfl) (by kernel_rfl) (by kernel_rfl) (fun _ _ _ h => h) (by rfl) ?hy9 ?_
  case hy9 => intro w' hw'; go_simp; (try with_reducible rfl)
  simp only [Act.put, List.setIfInBounds_toArray, List.set_cons_zero, List.set_cons_succ]
  refine reg_take (i := 10) (v := ?_) rfl (by kernel_rfl) (by kernel_rfl) (by kernel_rfl) (fun _ _ _ h => h) (by rfl) ?hy10 ?_
  case hy10 => intro w' hw'; go_simp; (try with_reducible rfl)
  simp only [Act.put, List.setIfInBounds_toArray, List.set_cons_zero, List.set_cons_succ]
  refine reg_take (i := 11) (v := .int .i64 s.idx) rfl (by kernel_rfl) (by kernel_rfl) (by kernel_rfl) (fun _ _ _ h => h) (by rfl) ?hy11 ?_
  case hy11 => intro w' hw'; have c := OffAt.c3 (O1.out.below hw'); go_simp; (try with_reducible rfl)
  simp only [Act.put, List.setIfInBounds_toArray, List.set_cons_zero, List.set_cons_succ]
  refine reg_call (i := 12) rfl (by kernel_rfl) (fun K' hK => ?_)
  go_simp
  refine ((K w1 (T0.out.below B1.out T0.out.pos)).out).mono ?_
  rintro e2 w2 ⟨rfl, b2⟩
  have X2 : Hid (Whole w2 gX 37 (gateC 0 [])) := Lib.hid (Whole.below X1.out b2 X1.out.lt)
  have O2 : Hid (OffAt w2 g v u s) := Lib.hid (O1.out.below b2)
  have B2 := Lib.hid (B1.out.trans (b2.mono B1.out.size))
  refine hK.out _ _ b2 ?_
  clear hK K' b2 X1 O1 B1
  refine reg_take (i := 13) (v := ?_) rfl (by kernel_rfl) (by kernel_rfl) (by kernel_rfl) (fun _ _ _ h => h) (by rfl) ?hy13 ?_
  case hy13 => intro w' hw'; go_simp; (try with_reducible rfl)
  simp only [Act.put, List.setIfInBounds_toArray, List.set_cons_zero, List.set_cons_succ]
  refine reg_take (i := 14) (v := ?_) rfl (by kernel_rfl) (by kernel_rfl) (by kernel_rfl) (fun _ _ _ h => h) (by rfl) ?hy14 ?_
  case hy14 => intro w' hw'; go_simp; (try with_reducible rfl)
  simp only [Act.put, List.setIfInBounds_toArray, List.set_cons_zero, List.set_cons_succ]
  refine reg_take (i := 15) (v := ?_) rfl (by kernel_rfl) (by kernel_rfl) (by kernel_rfl) (fun _ _ _ h => h) (by rfl) ?hy15 ?_
  case hy15 => intro w' hw'; go_simp; (try with_reducible rfl)
  simp only [Act.put, List.setIfInBounds_toArray, List.set_cons_zero, List.set_cons_succ]
  refine reg_take (i := 16) (v := ?_) rfl (by kernel_rfl) (by kernel_rfl) (by kernel_rfl) (fun _ _ _ h => h) (by rfl) ?hy16 ?_
  case hy16 => intro w' hw'; go_simp; (try with_reducible rfl)
  simp only [Act.put, List.setIfInBounds_toArray, List.set_cons_zero, List.set_cons_succ]
  refine reg_take (i := 17) (v := ?_) rfl (by kernel_rfl) (by kernel_rfl) (by kernel_rfl) (fun _ _ _ h => h) (by rfl) ?hy17 ?_
  case hy17 => intro w' hw'; go_simp; (try with_reducible rfl)
  simp only [Act.put, List.setIfInBounds_toArray, List.set_cons_zero, List.set_cons_succ]
  refine reg_end (by kernel_rfl) ?_
  have c3 : w2.cell? ⟨g, 3, none⟩ = some (.int .i64 s.idx) := O2.out.at_ 3
  clear O2
  go_wp2_with (with_reducible refine wpList_store_whole rfl 37 _ _ rfl gX (gateC s.idx key) (by with_unfolding_all exact rfl) (by with_unfolding_all exact rfl) _ _ X2.out (gate_size _ _) rfl (gate_one _ _) ?_)
  intro w3 q3 x3 z3
  have X3 : Hid (Whole w3 gX 37 (gateC s.idx key)) := Lib.hid x3
  have B3 := Lib.hid (B2.out.grown q3 B2.out.size (fun k hk => by injection hk with hk; have := M_X.out; omega))
  clear q3 x3 z3 X2 B2
  go_wp2
  exact bodyPost_ret (results_gate rfl _ _ _ _ _ rfl X3.out) rfl ⟨rfl, B3.out⟩
end Go.Proofs.YtfcjemedheccgaaDoor
