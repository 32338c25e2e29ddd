/- The document's bits and number of layer 20; windows in memory. -/
import Derived.Test.YtemogdcjmehdcaaWiM
import Derived.Test.YtemogdcjmehdcaaBoo
import Derived.Deep.LoopGhost
import Derived.StillTailTactics
namespace Go.Proofs.Ytemogdcjmehdcaa
set_option maxRecDepth 100000
open Go.RowKit

def Win.cells (W : Win) : Array Value := #[.int .i64 W.top, .int .u64 (W.low : Int), .int .u64 (W.high : Int)]
/-- A window in a block. -/
def WinAt (w : World) (g : Nat) (W : Win) : Prop := Whole w g 24 W.cells
theorem WinAt.three {w : World} {g : Nat} {W : Win} (h : WinAt w g W) : w.cell? ⟨g, 0, none⟩ = some (.int .i64 W.top) ∧ w.cell? ⟨g, 1, none⟩ = some (.int .u64 (W.low : Int)) ∧ w.cell? ⟨g, 2, none⟩ = some (.int .u64 (W.high : Int)) := ⟨h.at_ 0, h.at_ 1, h.at_ 2⟩
theorem win_size (W : Win) : (Try.prog.info? 24).map (·.size) = some W.cells.size := by
  have h : (Try.prog.info? 24).map (·.size) = some 3 := by kernel_rfl
  exact h
theorem win_one (W : Win) : W.cells.all (·.oneCell') = true := by simp [Win.cells, Value.oneCell']
def win0 : Win := ⟨0, 0, 0⟩
theorem win_zero : (Try.prog.info? 24).map (·.zero) = some (some (.agg win0.cells)) := by kernel_rfl
theorem load_win {w : World} {g : Nat} {W : Win} (h : WinAt w g W) : (loadVar 24 ⟨g, 0, none⟩).run Try.prog w = .ok W.val w := by
  obtain ⟨c0, c1, c2⟩ := h.three
  simp only [Win.val, Win.enc]
  go_simp
theorem exec_load_win {ev : Operand → Value} {o : Oper} (x : Operand) (ho : o.op = .load 24 x) (g : Nat) (hx : ev x = .pointer (some ⟨g, 0, none⟩)) (W : Win) (w : World) (hg : WinAt w g W) :
    (execOp ev o).run Try.prog w = .ok (.value W.val) w := by
  have h := load_win hg
  unfold execOp
  simp [ho, hx, Instr.loadAt, Instr.sureAddr, h]
theorem wp_load_win {o : Oper} {a : Act} {w : World} {K : Act → World → Prop} {Q : Exit → Act → World → Prop} (x : Operand) (ho : o.op = .load 24 x) (g : Nat) (hx : a.eval x = .pointer (some ⟨g, 0, none⟩)) (W : Win) (hg : WinAt w g W)
    (h : K (a.put o.dst W.val) w) : o.wp Try.prog a w K Q := by
  have hl := load_win hg
  unfold Oper.wp execOp
  simp only [ho, hx, Instr.loadAt, Instr.sureAddr, Sem.run_bind, Sem.run_pure, Result.andThen_ok, hl]
  exact h
theorem wpList_load_win {ops : Array Oper} {rest : List Oper} {o : Oper} {a : Act} {w : World} {Q : Exit → Act → World → Prop} (hgd : o.guard = none) (x : Operand) (ho : o.op = .load 24 x) (g : Nat) (hx : a.eval x = .pointer (some ⟨g, 0, none⟩)) (W : Win) (hg : WinAt w g W)
    (h : wpList Try.prog ops Q rest (a.put o.dst W.val) w) : wpList Try.prog ops Q (o :: rest) a w :=
  wpList_plain hgd fun _ hK => wp_load_win x ho g hx W hg (hK _ _ h)
theorem results_win {fn : Func} {p : Tmp} (h : fn.results = #[.cell p 24]) (tmps : Array Value) (w : World) (g : Nat) (W : Win)
    (hp : tmps.getD p undef = .pointer (some ⟨g, 0, none⟩)) (hg : WinAt w g W) : (results fn tmps).run Try.prog w = .ok W.val w := by
  have hl := load_win hg
  have hp' : tmps[p]?.getD undef = .pointer (some ⟨g, 0, none⟩) := by simpa using hp
  simp [results, h, hp', asAddr, hl]
theorem bools_lit (w : World) (b : Bool) : Bools (w.alloc (.cells #[.bool b] 4)) w.heap.size (.slice (some ⟨w.heap.size, 0, none⟩) 1 1) 1 [b] := by
  have h := World.ownsRow_lit (base := w.heap.size) (e := 4) (size := 1) w #[.bool b] 1 (Nat.le_refl _) (by decide) rfl
  exact h

/-- The list of a window's bits. -/
def bitsL (W : Win) : List Bool := (List.range 64).map W.low.testBit ++ (List.range 64).map W.high.testBit
theorem bitsL_length (W : Win) : (bitsL W).length = 128 := by simp [bitsL]
theorem bitsL_at (W : Win) (k : Nat) (hk : k < 128) : (bitsL W)[k]? = some (W.bit k) := by
  rw [bitsL, Win.bit]
  by_cases h : k < 64
  · rw [if_pos h, List.getElem?_append_left (by simpa using h)]
    simp [h]
  · have h2 : k - 64 < 64 := by omega
    rw [if_neg h, List.getElem?_append_right (by simp; omega)]
    simp [List.getElem?_range h2]
theorem half_bit (m k : Nat) : m.testBit k = decide (m / 2 ^ k % 2 = 1) := Nat.testBit_eq_decide_div_mod_eq
theorem range_next (f : Nat → Bool) (k : Nat) : (List.range (k + 1)).map f = (List.range k).map f ++ [f k] := by simp [List.range_succ]

set_option maxRecDepth 100000 in
set_option maxHeartbeats 1000000 in
theorem refBits_any (W : Win) (hok : W.ok) (w : World) :
    Calls Try.prog 16 #[W.val] w fun e w' => ∃ v', e = .returned v' ∧ Bools w' w.heap.size v' 128 (bitsL W) ∧ Below w.heap.size w w' := by
  obtain ⟨hlo, hhi⟩ := hok
  have hv : W.val = .agg W.cells := rfl
  have HB : Hid (bitsL W = (List.range 64).map W.low.testBit ++ (List.range 64).map W.high.testBit) := Lib.hid rfl
  obtain ⟨R, hR⟩ : ∃ R, R = bitsL W := ⟨_, rfl⟩
  rw [← hR] at HB ⊢
  rw [hv]
  have HL := Lib.hid (And.intro hlo hhi)
  clear hlo hhi hR hv
  go_enter Try.func16, Try.ntmps16
  go_wp2_with (refine wpList_box_row rfl 24 (.tmp 0) rfl W.cells rfl ?_)
  intro w1 b1 x1 z1
  have X1 : Hid (WinAt w1 w.heap.size W) := Lib.hid x1
  have B1 := Lib.hid b1
  obtain ⟨g, hg⟩ : ∃ g, g = w.heap.size := ⟨_, rfl⟩
  rw [← hg] at X1 ⊢
  have GG := Lib.hid hg
  clear b1 x1 z1 hg
  go_wp2_with fail
  refine still_all (by kernel_rfl) (by kernel_rfl) fun w2 h2 b2 => ?_
  obtain ⟨c0, c1, c2⟩ := WinAt.three (Whole.of_heap X1.out h2)
  repeat still_step
  refine wpStill_nil ?_
  have B2 := Lib.hid (B1.out.trans (b2.mono B1.out.size))
  obtain ⟨lo, hlo⟩ : ∃ lo, lo = W.low := ⟨_, rfl⟩
  obtain ⟨hi, hhi⟩ : ∃ hi, hi = W.high := ⟨_, rfl⟩
  rw [← hlo, ← hhi] at HL HB ⊢
  clear c0 c1 c2 h2 b2 X1 B1 hlo hhi
  have S0 : Hid (Bools w2 w.heap.size (.slice none 0 0) 0 ((List.range 0).map lo.testBit)) := Lib.hid (World.ownsRow_nil _ _ _ _)
  have D0 : Hid (lo / 2 ^ 0 = lo) := Lib.hid (by simp)
  go_wp2_with fail
  go_loopw [3, 4, 6] (fun u m i wr => ∃ k x : Nat, k ≤ 64 ∧ i = .int .i64 (k : Int) ∧ x = lo / 2 ^ k ∧ m = .int .u64 (x : Int) ∧ Bools wr w.heap.size u k ((List.range k).map lo.testBit) ∧ Below w.heap.size w wr) (fun _ _ i _ => 64 - (intOf i).toNat)
  case atStart => exact ⟨0, lo, by decide, rfl, D0.out.symm, rfl, S0.out, B2.out⟩
  case round =>
    obtain ⟨k, x, hk, rfl, hx, rfl, ho, hb⟩ := hrel
    have HO := Lib.hid ho
    have HBr := Lib.hid hb
    clear ho hb S0 B2 D0
    by_cases hlt : k < 64
    · have dk : decide ((k : Int) < 64) = true := by simp; omega
      have hxl : x < 18446744073709551616 := by rw [hx]; exact Nat.lt_of_le_of_lt (Nat.div_le_self _ _) HL.out.1
      obtain ⟨q, hq⟩ : ∃ q, q = lo.testBit k := ⟨_, rfl⟩
      have hq2 : q = decide (x % 2 = 1) := by rw [hq, half_bit, ← hx]
      have e1 : (((x : Int) % 2) == 1) = q := by rw [hq2]; by_cases h : x % 2 = 1 <;> simp [h] <;> omega
      have HN := Lib.hid (range_next lo.testBit k)
      rw [← hq] at HN
      obtain ⟨y, hy⟩ : ∃ y, y = x / 2 := ⟨_, rfl⟩
      have r2 : (x : Int) / 2 = (y : Int) := by omega
      have HY : Hid (y = lo / 2 ^ (k + 1)) := Lib.hid (by rw [hy, hx, Nat.pow_succ, Nat.div_div_eq_div_mul])
      clear hq hq2 hy hx
      go_wp2_with (at_builtin; refine wpList_append_bools rfl (.tmp 16) (.tmp 20) rfl w.heap.size _ k _ rfl (HO.out.alloc _) wr.heap.size wr.heap.size 1 1 [q] rfl (bools_lit wr q) (by omega) (by have := HBr.out.size; simp; omega) ?_)
      intro v' w3 ho3 hg3
      have B3 := Lib.hid ((HBr.out.alloc HBr.out.size (.cells #[.bool q] 4)).grown hg3 (by have := HBr.out.size; simp; omega) (fun k hk => ((HO.out.alloc (.cells #[.bool q] 4)).lt k hk).1))
      rw [← HN.out] at ho3
      have O3 := Lib.hid ho3
      clear ho3 hg3 HO HBr
      go_wp2_with fail
      exact ⟨⟨k + 1, y, by omega, by go_num, HY.out, rfl, O3.out, B3.out⟩, by simp [intOf]; omega⟩
    · obtain rfl : k = 64 := by omega
      clear hlt hk hx
      obtain ⟨L0, hL0⟩ : ∃ L0, L0 = (List.range 64).map lo.testBit := ⟨_, rfl⟩
      rw [← hL0] at HB HO
      have S0 : Hid (Bools wr w.heap.size u3 (64 + 0) (L0 ++ (List.range 0).map hi.testBit)) := Lib.hid (by simpa using HO.out)
      clear hL0
      have D0 : Hid (hi / 2 ^ 0 = hi) := Lib.hid (by simp)
      have B0 := HBr
      obtain ⟨wo, hwo⟩ : ∃ wo, wo = wr := ⟨_, rfl⟩
      rw [← hwo] at S0 B0 ⊢
      clear HO HBr hwo
      go_wp2_with fail
      go_loopw [3, 5, 7] (fun u m i wr => ∃ k x : Nat, k ≤ 64 ∧ i = .int .i64 (k : Int) ∧ x = hi / 2 ^ k ∧ m = .int .u64 (x : Int) ∧ Bools wr w.heap.size u (64 + k) (L0 ++ (List.range k).map hi.testBit) ∧ Below w.heap.size w wr) (fun _ _ i _ => 64 - (intOf i).toNat)
      case atStart => exact ⟨0, hi, by decide, rfl, D0.out.symm, rfl, S0.out, B0.out⟩
      case round =>
        obtain ⟨k, x, hk, rfl, hx, rfl, ho, hb⟩ := hrel
        have HO := Lib.hid ho
        have HBr := Lib.hid hb
        clear ho hb S0 B0 D0
        by_cases hlt : k < 64
        · have dk : decide ((k : Int) < 64) = true := by simp; omega
          have hxl : x < 18446744073709551616 := by rw [hx]; exact Nat.lt_of_le_of_lt (Nat.div_le_self _ _) HL.out.2
          obtain ⟨q, hq⟩ : ∃ q, q = hi.testBit k := ⟨_, rfl⟩
          have hq2 : q = decide (x % 2 = 1) := by rw [hq, half_bit, ← hx]
          have e1 : (((x : Int) % 2) == 1) = q := by rw [hq2]; by_cases h : x % 2 = 1 <;> simp [h] <;> omega
          have HN := Lib.hid (range_next hi.testBit k)
          rw [← hq] at HN
          obtain ⟨y, hy⟩ : ∃ y, y = x / 2 := ⟨_, rfl⟩
          have r2 : (x : Int) / 2 = (y : Int) := by omega
          have HY : Hid (y = hi / 2 ^ (k + 1)) := Lib.hid (by rw [hy, hx, Nat.pow_succ, Nat.div_div_eq_div_mul])
          clear hq hq2 hy hx
          go_wp2_with (at_builtin; refine wpList_append_bools rfl (.tmp 28) (.tmp 32) rfl w.heap.size _ (64 + k) _ rfl (HO.out.alloc _) wr.heap.size wr.heap.size 1 1 [q] rfl (bools_lit wr q) (by omega) (by have := HBr.out.size; simp; omega) ?_)
          intro v' w3 ho3 hg3
          have B3 := Lib.hid ((HBr.out.alloc HBr.out.size (.cells #[.bool q] 4)).grown hg3 (by have := HBr.out.size; simp; omega) (fun k hk => ((HO.out.alloc (.cells #[.bool q] 4)).lt k hk).1))
          rw [← HN.out] at ho3
          have O3 := Lib.hid ho3
          clear ho3 hg3 HO HBr
          go_wp2_with fail
          exact ⟨⟨v', .int .u64 (y : Int), .int .i64 ((k : Int) + 1), _, _, _, _, _, _, _, _, _, _, _, _, ⟨k + 1, y, by omega, by go_num, HY.out, rfl, O3.out, B3.out⟩, rfl⟩, by simp [intOf]; omega⟩
        · obtain rfl : k = 64 := by omega
          have O3 : Hid (Bools wr w.heap.size u3 128 R) := Lib.hid (by rw [HB.out]; exact HO.out)
          clear hlt hk hx HO
          go_wp2
          go_ret
          exact ⟨_, rfl, O3.out, HBr.out⟩

set_option maxRecDepth 100000 in
set_option maxHeartbeats 1000000 in
theorem refNumber_any (A : Nat) (cap B F : Nat) (l : List Bool) (f : Nat → Bool) (w : World) (h : Bools w B (.slice (some ⟨A, 0, none⟩) 128 cap) 128 l) (hF : F ≤ 64) (hf : ∀ i, i < 64 → l[F + i]? = some (f i)) :
    Calls Try.prog 19 #[.slice (some ⟨A, 0, none⟩) 128 cap, .int .i64 (F : Int)] w fun e w' => e = .returned (.int .u64 (num64 f : Int)) ∧ w = w' := by
  have H := Lib.hid h
  have HFf := Lib.hid hf
  have HF := Lib.hid hF
  obtain ⟨R, hR⟩ : ∃ R, R = num64 f := ⟨_, rfl⟩
  have HR : Hid (numTo f 64 = R) := Lib.hid (by rw [hR]; rfl)
  rw [← hR]
  clear h hf hF hR
  go_enter Try.func19, Try.ntmps19
  go_wp2_with fail
  go_loop [5, 6] (fun n i => ∃ k x : Nat, k ≤ 64 ∧ i = .int .i64 (63 - (k : Int)) ∧ x = numTo f k ∧ n = .int .u64 (x : Int)) (fun _ i => (intOf i + 1).toNat)
  case atStart => exact ⟨0, 0, by decide, rfl, rfl, rfl⟩
  case round =>
    obtain ⟨k, x, hk, rfl, hx, rfl⟩ := hrel
    by_cases hlt : k < 64
    · obtain ⟨j, hj⟩ : ∃ j, j = 63 - k := ⟨_, rfl⟩
      have ej : (63 : Int) - (k : Int) = (j : Int) := by omega
      have hj63 : j < 64 := by omega
      have hb := numTo_lt f k
      have hp : 2 ^ k ≤ 2 ^ 63 := Nat.pow_le_pow_right (by decide) (by omega)
      have hx63 : x < 9223372036854775808 := by rw [hx]; omega
      have r1 : IntKind.u64.wrap ((x : Int) * 2) = ((2 * x : Nat) : Int) := by rw [IntWalk.u64_in _ (by omega)]; omega
      have r2 : IntKind.u64.wrap (((2 * x : Nat) : Int) + 1) = ((2 * x + 1 : Nat) : Int) := by rw [IntWalk.u64_in _ (by omega)]; omega
      have r3 : IntKind.i64.wrap ((F : Int) + (j : Int)) = ((F + j : Nat) : Int) := by have := HF.out; rw [IntWalk.i64_in _ (by omega)]; omega
      have r4 : IntKind.i64.wrap ((j : Int) - 1) = (63 : Int) - ((k + 1 : Nat) : Int) := by rw [IntWalk.i64_in _ (by omega)]; omega
      have c := H.out.cell (F + j) (f j) (HFf.out j hj63)
      have ji : ((F + j : Nat) : Int) < 128 := by have := HF.out; omega
      have jn : F + j < 128 := by have := HF.out; omega
      have HX : Hid (numTo f (k + 1) = 2 * x + (f j).toNat) := Lib.hid (by rw [numTo, hx, hj])
      rw [ej]
      generalize F + j = m at *
      obtain ⟨b, hbb⟩ : ∃ b, b = f j := ⟨_, rfl⟩
      rw [← hbb] at c HX
      have HX2 : Hid (k + 1 ≤ 64 ∧ j + 1 = 64 - k) := Lib.hid ⟨by omega, by omega⟩
      clear hj hb hp hx63 hx hbb ej
      cases b with
      | true =>
        have y1 : 2 * x + 1 = numTo f (k + 1) := by rw [HX.out]; rfl
        obtain ⟨y, hy⟩ : ∃ y, y = 2 * x + 1 := ⟨_, rfl⟩
        rw [← hy] at r2 y1
        have Y1 := Lib.hid y1
        clear HX hy y1
        generalize 2 * x = x2 at *
        go_wp2_with fail
        exact ⟨⟨k + 1, y, HX2.out.1, rfl, Y1.out, rfl⟩, by have := HX2.out; simp [intOf]; omega⟩
      | false =>
        have y1 : 2 * x = numTo f (k + 1) := by rw [HX.out]; rfl
        obtain ⟨y, hy⟩ : ∃ y, y = 2 * x := ⟨_, rfl⟩
        rw [← hy] at r1 y1
        have Y1 := Lib.hid y1
        clear HX hy r2 y1
        go_wp2_with fail
        exact ⟨⟨k + 1, y, HX2.out.1, rfl, Y1.out, rfl⟩, by have := HX2.out; simp [intOf]; omega⟩
    · obtain rfl : k = 64 := by omega
      have HV : Hid ((x : Int) = R) := Lib.hid (by rw [hx, HR.out])
      clear hlt hk hx
      go_wp2
      go_ret
      exact ⟨by rw [HV.out]; rfl, rfl⟩
end Go.Proofs.Ytemogdcjmehdcaa
