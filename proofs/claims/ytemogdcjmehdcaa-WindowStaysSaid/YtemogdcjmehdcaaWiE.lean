/- What package window's with, Fresh, Mark and Seen answer. -/
import Derived.Test.YtemogdcjmehdcaaWiC
namespace Go.Proofs.Ytemogdcjmehdcaa
set_option maxRecDepth 100000
open Go.RowKit

/-- A number of 64 bits stored into an array's place, where an operation's own end is asked. -/
theorem wp_put_q {o : Oper} {a : Act} {w : World} {Q : Exit → Act → World → Prop} {K : Act → World → Prop} (x y : Operand) (ho : o.op = .store 22 x y)
    (g i : Nat) (hx : a.eval x = .pointer (some ⟨g, i, none⟩)) (z : Nat) (hy : a.eval y = .int .u64 (z : Int)) (t : TypeId) (l : List Nat) (hg : Whole w g t (uv l)) (hi : i < l.length)
    (h : ∀ w', w.grownBy w' (some g) → Whole w' g t (uv (l.set i z)) → w'.heap.size = w.heap.size → K (a.put o.dst undef) w') : o.wp Try.prog a w K Q := by
  have c1 : w.cell? ⟨g, i, none⟩ = some (.int .u64 ((l[i] : Nat) : Int)) := (hg.at_ i).trans (uv_at _ _ _ (List.getElem?_eq_getElem hi))
  have q := hg.stored i (.int .u64 (z : Int))
  rw [uv_set] at q
  have hh := h _ (grown_store w g i (.int .u64 (z : Int))) q (by simp)
  have hz : (sizeOf 22).run Try.prog w = .ok 1 w := by kernel_rfl
  unfold Oper.wp execOp
  have hc : (Value.int .u64 (z : Int)).cells = #[.int .u64 (z : Int)] := rfl
  simp only [ho, hx, hy, Instr.storeAt, Instr.sureAddr, storeVar, hc, Sem.run_bind, Sem.run_pure, Result.andThen_ok, hz, List.size_toArray, List.length_cons, List.length_nil, ne_eq, not_true_eq_false, if_false, store_q w g i _ c1 (hg.free i), Oper.upon]
  exact hh

set_option maxRecDepth 100000 in
set_option maxHeartbeats 1000000 in
theorem winWith_any (lo hi : Nat) (hlo : lo < 18446744073709551616) (hhi : hi < 18446744073709551616) (k : Nat) (hk : k < 128) (w : World) :
    Calls Try.prog 17 #[.agg (uv [lo, hi]), .int .i64 (k : Int)] w fun e w' => e = .returned (.agg (uv [setLo lo k, setHi hi k])) ∧ Below w.heap.size w w' := by
  obtain ⟨l', hl'⟩ : ∃ l', l' = [setLo lo k, setHi hi k] := ⟨_, rfl⟩
  obtain ⟨l, hl⟩ : ∃ l, l = [lo, hi] := ⟨_, rfl⟩
  rw [← hl, ← hl']
  obtain ⟨q, x, r, y, hq, hr, hx, hxl, hy, hset⟩ : ∃ q x r y : Nat, q = k / 64 ∧ r = k % 64 ∧ l[q]? = some x ∧ x < 18446744073709551616 ∧ y = x ||| 2 ^ r ∧ l.set q y = l' := by
    by_cases h : k < 64
    · refine ⟨0, lo, k, _, by omega, by omega, by rw [hl]; rfl, hlo, rfl, ?_⟩
      rw [hl, hl', setLo, setHi, if_pos h, if_pos h]
      rfl
    · refine ⟨1, hi, k - 64, _, by omega, by omega, by rw [hl]; rfl, hhi, rfl, ?_⟩
      rw [hl, hl', setLo, setHi, if_neg h, if_neg h]
      rfl
  have LL : l.length = 2 := by rw [hl]; rfl
  have LL' := Lib.hid (show (uv l').size = 2 by rw [hl']; rfl)
  have HS := Lib.hid hset
  obtain ⟨s, hs⟩ : ∃ s, s = 2 ^ r := ⟨_, rfl⟩
  rw [← hs] at hy
  have sl : s < 18446744073709551616 := by rw [hs]; exact pow_lt64 (by omega)
  have s1 : (k : Int) / 64 = (q : Int) := by omega
  have s2 : (k : Int).tmod 64 = (r : Int) := by rw [Int.tmod_eq_emod_of_nonneg (by omega)]; omega
  have s2' : (k : Int) % 64 = (r : Int) := by omega
  have s3 : IntKind.u64.wrap ((2 : Int) ^ r) = (s : Int) := by
    have e : (2 : Int) ^ r = (s : Int) := by rw [hs]; simp
    rw [e, IntKind.wrap_u64]; omega
  have s3' : IntKind.u64.wrap (1 * (2 : Int) ^ r) = (s : Int) := by rw [Int.one_mul]; exact s3
  have s4 : min r 64 = r := by omega
  have s5 : bits .or .u64 (x : Int) (s : Int) = (y : Int) := by rw [hy]; exact u64_or_nat x s hxl sl
  have jq : (q : Int) < 2 := by omega
  have jn : q < 2 := by omega
  have wq : IntKind.i64.wrap (q : Int) = (q : Int) := by rw [IntWalk.i64_in _ (by omega)]
  have jl : q < l.length := by omega
  have JL := Lib.hid jl
  clear hl hl' hset hs sl hy hxl hk hq hr hlo hhi jl LL
  go_enter Try.func17, Try.ntmps17
  go_wp2_with (refine wpList_box_row rfl 37 (.tmp 0) rfl (uv l) rfl ?_)
  intro w1 b1 x1 z1
  go_wp2_with (refine wpList_alloc_row rfl 37 rfl (uv [0, 0]) two_zero ?_)
  intro w2 b2 x2 z2
  obtain ⟨f, hf⟩ : ∃ f, f = w.heap.size := ⟨_, rfl⟩
  obtain ⟨g, hg⟩ : ∃ g, g = w.heap.size + 1 := ⟨_, rfl⟩
  have X2 := Lib.hid (show Whole w2 g _ _ by rw [hg]; exact x2)
  have X1 := Lib.hid (show Whole w2 f _ _ by rw [hf]; exact x1.below b2 (by omega))
  have M1 := Lib.hid (show w.heap.size ≤ g ∧ w.heap.size ≤ f ∧ f ≠ g from by omega)
  have B2 := Lib.hid (b1.trans (b2.mono (by omega)))
  have C1 := Lib.hid ((X1.out.at_ q).trans (uv_at _ _ _ hx))
  rw [← hg, ← hf]
  clear b1 x1 z1 b2 x2 z2 hg hf hx
  go_wp2_with fail
  refine regG_begin [9] (fun w' => w'.cell? ⟨f, q, none⟩ = some (.int .u64 (x : Int))) (fun w' => w2.grownBy w' (some f)) (by kernel_rfl) ?_
  have hS1 : w2.grownBy w2.drew (some f) := ⟨rfl, rfl, rfl, Nat.le_refl _, fun _ _ _ => rfl⟩
  have hS0 : w2.drew.cell? ⟨f, q, none⟩ = some (.int .u64 (x : Int)) := C1.out
  have bd : Below w2.heap.size w2 w2.drew := (Below.refl _ _).drew
  have X1' := Lib.hid (X1.out.below bd X1.out.lt)
  have X2' := Lib.hid (X2.out.below bd X2.out.lt)
  have B3 := Lib.hid (B2.out.trans (bd.mono B2.out.size))
  generalize w2.drew = w3 at *
  clear bd X1 X2 B2 C1
  refine regG_take (i := 0) (v := ?_) rfl (by kernel_rfl) (by kernel_rfl) (by kernel_rfl) (by kernel_rfl) (by kernel_rfl) (fun _ _ _ h => h) (by rfl) ⟨hS1, .inl hS0⟩ ?hy0 ?_
  case hy0 => intro w' hw'; go_simp; (try with_reducible rfl)
  simp only [Act.put, List.setIfInBounds_toArray, List.set_cons_zero, List.set_cons_succ]
  refine regG_take (i := 1) (v := ?_) rfl (by kernel_rfl) (by kernel_rfl) (by kernel_rfl) (by kernel_rfl) (by kernel_rfl) (fun _ _ _ h => h) (by rfl) ⟨hS1, .inl hS0⟩ ?hy1 ?_
  case hy1 => intro w' hw'; go_simp; (try with_reducible rfl)
  simp only [Act.put, List.setIfInBounds_toArray, List.set_cons_zero, List.set_cons_succ]
  refine regG_take (i := 2) (v := ?_) rfl (by kernel_rfl) (by kernel_rfl) (by kernel_rfl) (by kernel_rfl) (by kernel_rfl) (fun _ _ _ h => h) (by rfl) ⟨hS1, .inl hS0⟩ ?hy2 ?_
  case hy2 => intro w' hw'; go_simp; (try with_reducible rfl)
  simp only [Act.put, List.setIfInBounds_toArray, List.set_cons_zero, List.set_cons_succ]
  refine regG_read (i := 3) (v := ?_) rfl (by kernel_rfl) (by kernel_rfl) (by kernel_rfl) (by kernel_rfl) (by kernel_rfl) (by kernel_rfl) (fun _ _ _ h => h) (by rfl) ⟨hS1, .inl hS0⟩ ?hy3 ?_
  case hy3 => intro w' hw'; go_simp; (try with_reducible rfl)
  simp only [Act.put, List.setIfInBounds_toArray, List.set_cons_zero, List.set_cons_succ]
  refine regG_take (i := 4) (v := ?_) rfl (by kernel_rfl) (by kernel_rfl) (by kernel_rfl) (by kernel_rfl) (by kernel_rfl) (fun _ _ _ h => h) (by rfl) ⟨hS1, .inl hS0⟩ ?hy4 ?_
  case hy4 => intro w' hw'; go_simp; (try with_reducible rfl)
  simp only [Act.put, List.setIfInBounds_toArray, List.set_cons_zero, List.set_cons_succ]
  refine regG_take (i := 5) (v := ?_) rfl (by kernel_rfl) (by kernel_rfl) (by kernel_rfl) (by kernel_rfl) (by kernel_rfl) (fun _ _ _ h => h) (by rfl) ⟨hS1, .inl hS0⟩ ?hy5 ?_
  case hy5 => intro w' hw'; go_simp; (try with_reducible rfl)
  simp only [Act.put, List.setIfInBounds_toArray, List.set_cons_zero, List.set_cons_succ]
  refine regG_take (i := 6) (v := ?_) rfl (by kernel_rfl) (by kernel_rfl) (by kernel_rfl) (by kernel_rfl) (by kernel_rfl) (fun _ _ _ h => h) (by rfl) ⟨hS1, .inl hS0⟩ ?hy6 ?_
  case hy6 => intro w' hw'; go_simp; (try with_reducible rfl)
  simp only [Act.put, List.setIfInBounds_toArray, List.set_cons_zero, List.set_cons_succ]
  refine regG_take (i := 7) (v := ?_) rfl (by kernel_rfl) (by kernel_rfl) (by kernel_rfl) (by kernel_rfl) (by kernel_rfl) (fun _ _ _ h => h) (by rfl) ⟨hS1, .inl hS0⟩ ?hy7 ?_
  case hy7 => intro w' hw'; go_simp; (try with_reducible rfl)
  simp only [Act.put, List.setIfInBounds_toArray, List.set_cons_zero, List.set_cons_succ]
  refine regG_take (i := 8) (v := ?_) rfl (by kernel_rfl) (by kernel_rfl) (by kernel_rfl) (by kernel_rfl) (by kernel_rfl) (fun _ _ _ h => h) (by rfl) ⟨hS1, .inl hS0⟩ ?hy8 ?_
  case hy8 => intro w' hw'; go_simp; (try with_reducible rfl)
  simp only [Act.put, List.setIfInBounds_toArray, List.set_cons_zero, List.set_cons_succ]
  refine regG_do (i := 9) rfl (by kernel_rfl) (fun K' hK => ?_)
  rw [if_pos (by rfl)]
  refine wp_put_q _ _ rfl f q rfl y rfl _ l X1'.out JL.out ?_
  intro w4 g4 x4 z4
  rw [HS.out] at x4
  have X14 := Lib.hid x4
  have X24 := Lib.hid (X2'.out.grown g4 (by intro h; injection h with h; exact M1.out.2.2 h.symm))
  have B4 := Lib.hid (B3.out.grown g4 B3.out.size (fun k hk => by injection hk with hk; have := M1.out; omega))
  refine hK.out _ _ (grown_trans' hS1 g4) (.inr ⟨9, by simp, by kernel_rfl⟩) ?_
  clear hK K' g4 x4 z4 hS1 hS0 X1' X2' B3 HS s1 s2 s2' s3 s3' s4 s5 jq jn JL
  refine regG_end (by kernel_rfl) ?_
  have S1 : (Try.prog.info? 37).map (·.size) = some (uv l').size := by rw [LL'.out]; exact two_size 0 0
  have SS := Lib.hid S1
  have S2 := Lib.hid (show (uv [0, 0]).size = (uv l').size by rw [LL'.out]; rfl)
  clear S1 LL'
  go_wp2_with (first | refine wpList_load_row rfl 37 _ rfl _ rfl _ _ _ _ X14.out Try.underlying37 rfl SS.out ?_ | with_reducible refine wpList_store_whole rfl 37 _ _ rfl g (uv l') (by with_unfolding_all exact rfl) (by with_unfolding_all exact rfl) _ _ X24.out SS.out S2.out (uv_one _) ?_)
  intro w5 g5 x5 z5
  have X5 := Lib.hid x5
  have B5 := Lib.hid (B4.out.grown g5 B4.out.size (fun k hk => by injection hk with hk; have := M1.out; omega))
  clear g5 x5 z5 X14 X24 B4
  go_wp2_with fail
  refine bodyPost_ret (v := .agg (uv l')) ?_ rfl ⟨rfl, B5.out⟩
  exact results_cell_row rfl _ _ _ _ _ _ _ rfl X5.out Try.underlying37 rfl SS.out

set_option maxRecDepth 100000 in
set_option maxHeartbeats 1000000 in
theorem winFresh_any (W : Win) (hok : W.ok) (n : Int) (w : World) :
    Calls Try.prog 6 #[W.val, .int .i64 n] w fun e w' => e = .returned (.int .i64 (freshX W n)) ∧ Below w.heap.size w w' := by
  have CH := Lib.hid (fun w => winHalves_any W w)
  have CA := Lib.hid (fun k hk w => winHas_any W hok k hk w)
  have hv : W.val = .agg W.cells := rfl
  have HX : Hid (freshX W n = if n < 1 ∨ 1073741824 < n ∨ W.top < 0 ∨ 1073741824 < W.top then 2 else if W.top < n then 0 else if 127 < W.top - n then 23 else if W.bit (W.top - n).toNat = true then 22 else 0) := Lib.hid rfl
  obtain ⟨X, hX⟩ : ∃ X, X = freshX W n := ⟨_, rfl⟩
  rw [← hX] at HX ⊢
  rw [hv]
  clear hX hv hok
  go_enter Try.func6, Try.ntmps6
  go_wp2_with (refine wpList_box_row rfl 24 (.tmp 0) rfl W.cells rfl ?_)
  intro w1 b1 x1 z1
  have X1 : Hid (WinAt w1 w.heap.size W) := Lib.hid x1
  have B1 := Lib.hid b1
  obtain ⟨g, hg⟩ : ∃ g, g = w.heap.size := ⟨_, rfl⟩
  rw [← hg] at X1 ⊢
  clear b1 x1 z1 hg
  obtain ⟨c0, -, -⟩ := WinAt.three X1.out
  by_cases h1 : n < 1
  · have d1 : decide (n < 1) = true := by simpa using h1
    have HF : Hid (X = 2) := Lib.hid (by rw [HX.out, if_pos (.inl h1)])
    clear h1 HX CH CA
    go_wp2
    go_ret
    exact ⟨by rw [HF.out]; rfl, B1.out⟩
  have d1 : decide (n < 1) = false := by simpa using h1
  by_cases h2 : 1073741824 < n
  · have d2 : decide (1073741824 < n) = true := by simpa using h2
    have HF : Hid (X = 2) := Lib.hid (by rw [HX.out, if_pos (.inr (.inl h2))])
    clear h1 h2 HX CH CA
    go_wp2
    go_ret
    exact ⟨by rw [HF.out]; rfl, B1.out⟩
  have d2 : decide (1073741824 < n) = false := by simpa using h2
  by_cases h3 : W.top < 0
  · have d3 : decide (W.top < 0) = true := by simpa using h3
    have HF : Hid (X = 2) := Lib.hid (by rw [HX.out, if_pos (.inr (.inr (.inl h3)))])
    clear h1 h2 h3 HX CH CA
    go_wp2
    go_ret
    exact ⟨by rw [HF.out]; rfl, B1.out⟩
  have d3 : decide (W.top < 0) = false := by simpa using h3
  by_cases h4 : 1073741824 < W.top
  · have d4 : decide (1073741824 < W.top) = true := by simpa using h4
    have HF : Hid (X = 2) := Lib.hid (by rw [HX.out, if_pos (.inr (.inr (.inr h4)))])
    clear h1 h2 h3 h4 HX CH CA
    go_wp2
    go_ret
    exact ⟨by rw [HF.out]; rfl, B1.out⟩
  have d4 : decide (1073741824 < W.top) = false := by simpa using h4
  have HX2 : Hid (X = if W.top < n then 0 else if 127 < W.top - n then 23 else if W.bit (W.top - n).toNat = true then 22 else 0) := Lib.hid (by rw [HX.out, if_neg (by omega)])
  clear HX
  by_cases h5 : W.top < n
  · have d5 : decide (W.top < n) = true := by simpa using h5
    have HF : Hid (X = 0) := Lib.hid (by rw [HX2.out, if_pos h5])
    clear h1 h2 h3 h4 h5 HX2 CH CA
    go_wp2
    go_ret
    exact ⟨by rw [HF.out]; rfl, B1.out⟩
  have d5 : decide (W.top < n) = false := by simpa using h5
  obtain ⟨k, hk⟩ : ∃ k, k = (W.top - n).toNat := ⟨_, rfl⟩
  have hk2 : W.top - n = (k : Int) := by omega
  have r1 : IntKind.i64.wrap (W.top - n) = (k : Int) := by rw [IntWalk.i64_in _ (by omega)]; exact hk2
  have HX3 : Hid (X = if 127 < (k : Int) then 23 else if W.bit k = true then 22 else 0) := Lib.hid (by rw [HX2.out, if_neg h5, hk2]; simp)
  clear HX2 h1 h2 h3 h4 h5 hk hk2
  by_cases h6 : 127 < (k : Int)
  · have d6 : decide (128 ≤ (k : Int)) = true := by simp; omega
    have HF : Hid (X = 23) := Lib.hid (by rw [HX3.out, if_pos h6])
    clear h6 HX3 CH CA
    go_wp2
    go_ret
    exact ⟨by rw [HF.out]; rfl, B1.out⟩
  have d6 : decide (128 ≤ (k : Int)) = false := by simp; omega
  have HX4 : Hid (X = if W.bit k = true then 22 else 0) := Lib.hid (by rw [HX3.out, if_neg h6])
  have K1 := Lib.hid (show k < 128 by omega)
  clear HX3 h6
  go_wp2_with fail
  clear d1 d2 d3 d4 d5 d6 c0
  refine reg_begin (by kernel_rfl) fun w3 hb hz => ?_
  have X3 : Hid (WinAt w3 g W) := Lib.hid (Whole.below X1.out hb X1.out.lt)
  have B3 := Lib.hid (B1.out.trans (hb.mono B1.out.size))
  clear hb hz X1 B1
  refine reg_take (i := 0) (v := W.val) rfl (by kernel_rfl) (by kernel_rfl) (by kernel_rfl) (fun _ _ _ h => h) (by rfl) ?hy0 ?_
  case hy0 => intro w' hw'; exact exec_load_win _ rfl g rfl W w' (Whole.below X3.out hw' X3.out.lt)
  simp only [Act.put, List.setIfInBounds_toArray, List.set_cons_zero, List.set_cons_succ]
  refine reg_take (i := 2) (v := ?_) rfl (by kernel_rfl) (by kernel_rfl) (by kernel_rfl) (fun _ _ _ h => h) (by rfl) ?hy2 ?_
  case hy2 => intro w' hw'; go_simp; (try with_reducible rfl)
  simp only [Act.put, List.setIfInBounds_toArray, List.set_cons_zero, List.set_cons_succ]
  refine reg_take (i := 3) (v := .int .i64 W.top) rfl (by kernel_rfl) (by kernel_rfl) (by kernel_rfl) (fun _ _ _ h => h) (by rfl) ?hy3 ?_
  case hy3 => intro w' hw'; have c := (WinAt.three (Whole.below X3.out hw' X3.out.lt)).1; go_simp; (try with_reducible rfl)
  simp only [Act.put, List.setIfInBounds_toArray, List.set_cons_zero, List.set_cons_succ]
  refine reg_take (i := 4) (v := ?_) rfl (by kernel_rfl) (by kernel_rfl) (by kernel_rfl) (fun _ _ _ h => h) (by rfl) ?hy4 ?_
  case hy4 => intro w' hw'; go_simp; (try with_reducible rfl)
  simp only [Act.put, List.setIfInBounds_toArray, List.set_cons_zero, List.set_cons_succ]
  refine reg_take (i := 5) (v := ?_) rfl (by kernel_rfl) (by kernel_rfl) (by kernel_rfl) (fun _ _ _ h => h) (by rfl) ?hy5 ?_
  case hy5 => intro w' hw'; go_simp; (try with_reducible rfl)
  simp only [Act.put, List.setIfInBounds_toArray, List.set_cons_zero, List.set_cons_succ]
  refine reg_call (i := 1) rfl (by kernel_rfl) (fun K' hK => ?_)
  go_simp
  refine (CH.out w3).mono ?_
  rintro e w4 ⟨rfl, hb⟩
  have B4 := Lib.hid (B3.out.trans (hb.mono B3.out.size))
  refine hK.out _ _ hb ?_
  clear hK K' hb X3 B3 CH r1
  refine reg_call (i := 6) rfl (by kernel_rfl) (fun K' hK => ?_)
  go_simp
  refine (CA.out k K1.out w4).mono ?_
  rintro e w5 ⟨rfl, hb⟩
  have B5 := Lib.hid (B4.out.trans (hb.mono B4.out.size))
  refine hK.out _ _ hb ?_
  clear hK K' hb B4 CA K1
  refine reg_take (i := 7) (v := ?_) rfl (by kernel_rfl) (by kernel_rfl) (by kernel_rfl) (fun _ _ _ h => h) (by rfl) ?hy7 ?_
  case hy7 => intro w' hw'; go_simp; (try with_reducible rfl)
  simp only [Act.put, List.setIfInBounds_toArray, List.set_cons_zero, List.set_cons_succ]
  refine reg_end (by kernel_rfl) ?_
  cases hq : W.bit k with
  | true =>
    have HF : Hid (X = 22) := Lib.hid (by rw [HX4.out, if_pos hq])
    clear HX4 hq
    go_wp2
    go_ret
    exact ⟨by rw [HF.out]; rfl, B5.out⟩
  | false =>
    have HF : Hid (X = 0) := Lib.hid (by rw [HX4.out, if_neg (by simp [hq])])
    clear HX4 hq
    go_wp2
    go_ret
    exact ⟨by rw [HF.out]; rfl, B5.out⟩

set_option maxRecDepth 100000 in
set_option maxHeartbeats 1000000 in
theorem winSeen_any (W : Win) (hok : W.ok) (n : Int) (w : World) :
    Calls Try.prog 10 #[W.val, .int .i64 n] w fun e w' => e = .returned (.bool (seenB W n)) ∧ Below w.heap.size w w' := by
  have CF := Lib.hid (fun w => winFresh_any W hok n w)
  have hv : W.val = .agg W.cells := rfl
  obtain ⟨X, hX⟩ : ∃ X, X = freshX W n := ⟨_, rfl⟩
  have HB : Hid (seenB W n = decide (X = 22)) := Lib.hid (by rw [hX, seenB])
  simp only [← hX] at CF
  obtain ⟨b, hb⟩ : ∃ b, b = seenB W n := ⟨_, rfl⟩
  rw [← hb] at HB ⊢
  have e1 : (X == 22) = b := by rw [HB.out]; by_cases h : X = 22 <;> simp [h]
  rw [hv]
  clear hX hv hok hb HB
  go_enter Try.func10, Try.ntmps10
  go_wp2_with (refine wpList_box_row rfl 24 (.tmp 0) rfl W.cells rfl ?_)
  intro w1 b1 x1 z1
  have X1 : Hid (WinAt w1 w.heap.size W) := Lib.hid x1
  have B1 := Lib.hid b1
  obtain ⟨g, hg⟩ : ∃ g, g = w.heap.size := ⟨_, rfl⟩
  rw [← hg] at X1 ⊢
  clear b1 x1 z1 hg
  go_wp2_with (refine wpList_load_win rfl _ rfl g rfl W X1.out ?_)
  refine (CF.out w1).mono ?_
  rintro e w2 ⟨rfl, b2⟩
  have B2 := Lib.hid (B1.out.trans (b2.mono B1.out.size))
  clear b2 B1 X1 CF
  go_wp2
  go_ret
  exact ⟨rfl, B2.out⟩
end Go.Proofs.Ytemogdcjmehdcaa
