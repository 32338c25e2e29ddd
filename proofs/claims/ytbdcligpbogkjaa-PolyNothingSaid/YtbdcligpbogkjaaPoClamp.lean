/- What package poly's Clamp answers. -/
import Derived.Test.YtbdcligpbogkjaaPoC
import Derived.Test.YtbdcligpbogkjaaCpy
import Derived.Test.YtbdcligpbogkjaaArr
import Derived.StillTailTactics
namespace Go.Proofs.Ytbdcligpbogkjaa
open Go.RowKit

def clA (b : List UInt8) : Nat → List UInt8
  | 0 => b
  | k + 1 => (clA b k).set (4 * k + 3) ((clA b k).getD (4 * k + 3) 0 % 16)
def clB (b : List UInt8) : Nat → List UInt8
  | 0 => clA b 4
  | k + 1 => (clB b k).set (4 * k + 4) ((clB b k).getD (4 * k + 4) 0 - (clB b k).getD (4 * k + 4) 0 % 4)
theorem clA_length (b : List UInt8) (k : Nat) : (clA b k).length = b.length := by
  induction k with
  | zero => rfl
  | succ k ih => rw [clA, List.length_set, ih]
theorem clB_length (b : List UInt8) (k : Nat) : (clB b k).length = b.length := by
  induction k with
  | zero => exact clA_length b 4
  | succ k ih => rw [clB, List.length_set, ih]
theorem clB_is (l : List UInt8) (h : 16 ≤ l.length) : clB (l.take 16) 3 = clampL l := by
  have hn : ¬ l.length < 16 := by omega
  rw [clampL, if_neg hn]
  match l, h with
  | x0 :: x1 :: x2 :: x3 :: x4 :: x5 :: x6 :: x7 :: x8 :: x9 :: x10 :: x11 :: x12 :: x13 :: x14 :: x15 :: t, _ => rfl

set_option maxRecDepth 100000 in
set_option maxHeartbeats 2000000 in
theorem clamp_any (A : Option Addr) (n cap : Nat) (l : List UInt8) (w : World) (h : BytesAt w (.slice A n cap) l) :
    Calls Try.prog 11 #[.slice A n cap] w fun e w' => ∃ v', e = .returned v' ∧ BytesAt w' v' (clampL l) ∧ Below w.heap.size w w' := by
  have HZ := Lib.hid h.size
  by_cases hn : n < 16
  · have d : decide ((n : Int) < 16) = true := by simp; omega
    have e : clampL l = [] := by rw [clampL, if_pos (by have := HZ.out.1; omega)]
    rw [e]
    clear e h
    go_enter Try.func11, Try.ntmps11
    go_wp2
    go_ret
    exact ⟨_, rfl, BytesAt.nil w, Below.refl _ _⟩
  · have d : decide ((n : Int) < 16) = false := by simp; omega
    have H := Lib.hid h
    have HL : 16 ≤ l.length := by have := HZ.out.1; omega
    have HC := Lib.hid (clB_is l HL)
    have TL : (l.take 16).length = 16 := by rw [List.length_take]; omega
    have MN : Hid (16 = min l.length 16) := Lib.hid (by omega)
    clear h HL hn
    go_enter Try.func11, Try.ntmps11
    go_wp2_with (at_make; refine wpList_make_block rfl _ _ rfl 16 rfl rfl (by decide) ?_)
    intro w1 x1 b1 z1
    obtain ⟨w2, hr, x2, g2, z2⟩ := run_copy_in w1 3 w.heap.size 16 16 5 (List.replicate 16 0) _ l x1 (by rfl) (H.out.below b1) 16 MN.out
    rw [List.drop_replicate, Nat.sub_self, List.replicate_zero, List.append_nil] at x2
    have B2 := Lib.hid ((Below.grown b1 g2 b1.size (fun k hk => by injection hk; omega)))
    obtain ⟨b, hb⟩ : ∃ b, b = l.take 16 := ⟨_, rfl⟩
    rw [← hb] at TL HC x2
    have X2 : Hid (Whole w2 w.heap.size 5 (bv (clA b 0)).toArray) := x2
    have LB := Lib.hid TL
    clear hb x1 b1 z1 x2 g2 z2 TL H MN
    go_wp2_with fail
    go_loopw [4] (fun s wr => ∃ k i : Nat, i = 4 * k + 3 ∧ k ≤ 4 ∧ s = .int .i64 (i : Int) ∧ Whole wr w.heap.size 5 (bv (clA b k)).toArray ∧ Below w.heap.size w wr) (fun s _ => 20 - (intOf s).toNat)
    case atStart => exact ⟨0, 3, rfl, by decide, rfl, X2.out, B2.out⟩
    case round =>
      obtain ⟨k, i, hi, hk, rfl, x1, hb⟩ := hrel
      clear X2 B2 hr
      have Y1 := Lib.hid x1
      have HB := Lib.hid hb
      clear x1 hb
      by_cases hlt : i < 16
      · have di : decide ((i : Int) < 16) = true := by simp; omega
        have LA : Hid ((clA b k).length = 16) := Lib.hid ((clA_length b k).trans LB.out)
        have HN : Hid (clA b (k + 1) = _) := Lib.hid (clA.eq_2 b k)
        rw [← hi] at HN
        obtain ⟨N, hN⟩ : ∃ N, N = clA b (k + 1) := ⟨_, rfl⟩
        rw [← hN] at HN
        have HM := Lib.hid hN
        clear hN
        obtain ⟨L, hL⟩ : ∃ L, L = clA b k := ⟨_, rfl⟩
        rw [← hL] at Y1 LA HN
        clear hL
        obtain ⟨x, hx⟩ : ∃ x, x = L.getD i 0 := ⟨_, rfl⟩
        rw [← hx] at HN
        have c1 := block_cell Y1.out i x (by rw [hx]; simp [List.getD, List.getElem?_eq_getElem (show i < L.length by rw [LA.out]; exact hlt)])
        have r1 := rem16 x
        have ji : (i : Int) < 16 := by omega
        have t1 : IntKind.i64.wrap ((i : Int) + 4) = ((i + 4 : Nat) : Int) := by rw [IntWalk.i64_in _ (by omega)]; omega
        have HI := Lib.hid (And.intro hi hlt)
        clear hx hi
        go_wp2_with (with_reducible refine wpList_put_b rfl _ _ rfl w.heap.size i ?hx (x % 16) ?hy _ L Y1.out ?hi ?_)
        case hx => exact rfl
        case hy => exact rfl
        case hi => rw [LA.out]; exact HI.out.2
        intro w3 g3 x3 z3
        rw [← HN.out, HM.out] at x3
        have X3 := Lib.hid x3
        have B3 := Lib.hid (HB.out.grown g3 HB.out.size (fun k hk => by injection hk; omega))
        clear x3 g3 z3 Y1 HB c1 r1
        go_wp2_with fail
        exact ⟨⟨k + 1, i + 4, by have := HI.out.1; omega, by have := HI.out; omega, by go_num, X3.out, B3.out⟩, by have := HI.out; simp [intOf]; omega⟩
      · have di : decide ((i : Int) < 16) = false := by simp; omega
        obtain rfl : k = 4 := by omega
        have Y2 : Hid (Whole wr w.heap.size 5 (bv (clB b 0)).toArray) := Lib.hid Y1.out
        clear Y1
        go_wp2_with fail
        go_loopw [5] (fun s wr => ∃ k i : Nat, i = 4 * k + 4 ∧ k ≤ 3 ∧ s = .int .i64 (i : Int) ∧ Whole wr w.heap.size 5 (bv (clB b k)).toArray ∧ Below w.heap.size w wr) (fun s _ => 20 - (intOf s).toNat)
        case atStart => exact ⟨0, 4, rfl, by decide, rfl, Y2.out, HB.out⟩
        case round =>
          rename_i wr
          clear hi hk hlt di
          obtain ⟨k, j, hj, hk, rfl, x1, hb⟩ := hrel
          clear Y2 HB
          have Y1 := Lib.hid x1
          have HB := Lib.hid hb
          clear x1 hb
          by_cases hlt : j < 16
          · have di : decide ((j : Int) < 16) = true := by simp; omega
            have LA : Hid ((clB b k).length = 16) := Lib.hid ((clB_length b k).trans LB.out)
            have HN : Hid (clB b (k + 1) = _) := Lib.hid (clB.eq_2 b k)
            rw [← hj] at HN
            obtain ⟨N, hN⟩ : ∃ N, N = clB b (k + 1) := ⟨_, rfl⟩
            rw [← hN] at HN
            have HM := Lib.hid hN
            clear hN
            obtain ⟨L, hL⟩ : ∃ L, L = clB b k := ⟨_, rfl⟩
            rw [← hL] at Y1 LA HN
            clear hL
            obtain ⟨x, hx⟩ : ∃ x, x = L.getD j 0 := ⟨_, rfl⟩
            rw [← hx] at HN
            have C1 := Lib.hid (block_cell Y1.out j x (by rw [hx]; simp [List.getD, List.getElem?_eq_getElem (show j < L.length by rw [LA.out]; exact hlt)]))
            have ji : (j : Int) < 16 := by omega
            have t1 : IntKind.i64.wrap ((j : Int) + 4) = ((j + 4 : Nat) : Int) := by rw [IntWalk.i64_in _ (by omega)]; omega
            have HI := Lib.hid (And.intro hj hlt)
            clear hx hj
            go_wp2_with fail
            refine still_tail 11 (by kernel_rfl) (by kernel_rfl) fun w4 h4 b4 => ?_
            simp only [List.take_succ_cons, List.take_zero, List.drop_succ_cons, List.drop_zero]
            have c1 := (World.cell?_of_block (a := ⟨w.heap.size, j, none⟩) (by rw [h4])).trans C1.out
            repeat still_step
            refine wpStill_nil ?_
            have W1 := Lib.hid (Y1.out.of_heap h4)
            have B4 := Lib.hid (HB.out.trans (b4.mono HB.out.size))
            clear c1 h4 b4 C1 Y1 HB
            refine wpList_put_b rfl _ _ rfl w.heap.size j rfl (x - x % 4) (by first | rfl | exact congrArg (Value.int .u8) (sub4 x) | exact congrArg (Value.int .u8) (sub4' x) | exact congrArg (Value.int .u8) (sub4'' x)) _ L W1.out (by rw [LA.out]; exact HI.out.2) ?_
            intro w3 g3 x3 z3
            rw [← HN.out, HM.out] at x3
            have X3 := Lib.hid x3
            have B3 := Lib.hid (B4.out.grown g3 B4.out.size (fun k hk => by injection hk; omega))
            clear x3 g3 z3 W1 B4
            refine wpList_nil ?_
            go_wp2_with fail
            exact ⟨⟨k + 1, j + 4, by have := HI.out.1; omega, by have := HI.out; omega, by go_num, X3.out, B3.out⟩, by have := HI.out; simp [intOf]; omega⟩
          · have di : decide ((j : Int) < 16) = false := by simp; omega
            obtain rfl : k = 3 := by omega
            have LA : Hid ((clB b 3).length = 16) := Lib.hid ((clB_length b 3).trans LB.out)
            have HY : Hid (BytesAt wr (.slice (some ⟨w.heap.size, 0, none⟩) 16 16) (clampL l)) := Lib.hid (by rw [← HC.out]; exact block_bytes Y1.out LA.out.symm (by decide))
            clear Y1
            go_wp2_with fail
            go_ret
            exact ⟨_, rfl, HY.out, HB.out⟩
end Go.Proofs.Ytbdcligpbogkjaa
