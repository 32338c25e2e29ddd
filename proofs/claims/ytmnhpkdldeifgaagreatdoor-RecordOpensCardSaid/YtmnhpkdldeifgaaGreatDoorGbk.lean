/- What package poly's write answers: the lowest 16 bytes of a number in five parts. What package poly's Clamp answers. Plain mathematics of package poly's Tag, and steps of arrays by value in drawn regions. -/
import Derived.Test.YtmnhpkdldeifgaaGreatDoorGbj
import Derived.Test.YtmnhpkdldeifgaaGreatDoorGs
import Derived.Test.YtmnhpkdldeifgaaGreatDoorGo
import Derived.Test.YtmnhpkdldeifgaaGreatDoorGt
import Derived.Test.YtmnhpkdldeifgaaGreatDoorGbd
import Derived.StillTailTactics
import Derived.Test.YtmnhpkdldeifgaaGreatDoorGbi
import Derived.Test.YtmnhpkdldeifgaaGreatDoorGj
namespace Go.Proofs.YtmnhpkdldeifgaaGreatDoor
set_option maxRecDepth 100000
open Go.RowKit

theorem Fresh.of_whole {w : World} {B g n cap : Nat} {t : TypeId} {l : List UInt8} (h : Whole w g t (bv l).toArray) (hn : n = l.length) (hc : n ≤ cap) (hB : B ≤ g) : Fresh w B (.slice (some ⟨g, 0, none⟩) n cap) l := by
  subst hn
  exact ⟨g, 0, cap, t, _, rfl, hc, hB, h, fun j c hj => by rw [Nat.zero_add]; simp [bv, hj]⟩
theorem toNat_of (m : Nat) (h : m < 256) : (UInt8.ofNat m).toNat = m := by
  simp only [UInt8.toNat_ofNat']
  omega

set_option maxRecDepth 100000 in
set_option maxHeartbeats 4000000 in
theorem write_any (l : List Nat) (hl : l.length = 5) (hu : Under l (2 ^ 26)) (w : World) :
    Calls Tryz.prog 59 #[.agg (uv l)] w fun e w' => ∃ v', e = .returned v' ∧ Fresh w' w.heap.size v' (lowB 16 (vb (2 ^ 26) l 5)) ∧ Below w.heap.size w w' := by
  have LL := Lib.hid hl
  have UL := Lib.hid hu
  clear hl hu
  go_enter Tryz.func59, Tryz.ntmps59
  go_wp2_with (refine wpList_box_row rfl 81 _ rfl _ rfl ?_)
  intro w1 b1 x1 z1
  go_wp2_with (refine wpList_alloc_row rfl 100 rfl _ zero_b17 ?_)
  intro w2 b2 x2 z2
  have X1 : Hid (Whole w2 w.heap.size 81 (uv l)) := Whole.below x1 b2 (by omega)
  have X2 : Hid (Whole w2 (w.heap.size + 1) 100 (bv (lowB 17 (vb (2 ^ 26) l 0))).toArray) := Lib.hid (by
    have e : lowB 17 (vb (2 ^ 26) l 0) = List.replicate 17 0 := lowB_zero 17
    rw [e]
    exact x2)
  have HB : Hid (Below w.heap.size w w2) := b1.trans (b2.mono (by omega))
  clear b1 b2 x1 x2 z1 z2
  go_wp2_with fail
  go_loopw [10] (fun s wr => ∃ i : Nat, i ≤ 5 ∧ s = .int .i64 (i : Int) ∧ Whole wr w.heap.size 81 (uv l) ∧ Whole wr (w.heap.size + 1) 100 (bv (lowB 17 (vb (2 ^ 26) l i))).toArray ∧ Below w.heap.size w wr) (fun s _ => 5 - (intOf s).toNat)
  case atStart => exact ⟨0, by decide, rfl, X1.out, X2.out, HB.out⟩
  case round =>
    obtain ⟨i, hi5, rfl, x1, x2, hb⟩ := hrel
    clear X1 X2 HB
    have Y1 := Lib.hid x1
    have Y2 := Lib.hid x2
    have HBr := Lib.hid hb
    clear x1 x2 hb
    by_cases hlt : i < 5
    · have di : decide ((i : Int) < 5) = true := by simp; omega
      have FC := fun w => Lib.hid (first_any i hlt w)
      have d6 := bitN_le i hlt
      have a13 := atN_le i hlt
      have ux := UL.out i
      have vu := vb_under l UL.out i
      obtain ⟨x, hx⟩ : ∃ x, x = l.getD i 0 := ⟨_, rfl⟩
      have c1 : wr.cell? ⟨w.heap.size, i, none⟩ = some (.int .u64 (x : Int)) := by
        refine (Y1.out.at_ i).trans (uv_at _ _ _ ?_)
        rw [hx]
        simp [List.getD, List.getElem?_eq_getElem (show i < l.length by rw [LL.out]; exact hlt)]
      have H4 := Lib.hid (layN_four l i hlt ux)
      rw [← hx] at H4 ux
      obtain ⟨P, hP⟩ : ∃ P, P = vb (2 ^ 26) l i := ⟨_, rfl⟩
      rw [← hP] at H4 vu Y2
      have ST := fun k hk => Lib.hid (layN_step P x i k hlt hk ux vu)
      have Y20 : Hid (Whole wr (w.heap.size + 1) 100 (bv (lowB 17 (layN P x i 0))).toArray) := by rw [Hid, layN_zero]; exact Y2.out
      have h2 : 2 ^ bitN i ≤ 2 ^ 6 := Nat.pow_le_pow_right (by decide) d6
      have hm : x * 2 ^ bitN i ≤ (2 ^ 26 - 1) * 2 ^ 6 := Nat.mul_le_mul (by omega) h2
      obtain ⟨m, hmm⟩ : ∃ m, m = x * 2 ^ bitN i := ⟨_, rfl⟩
      have s1 : IntKind.u64.wrap ((x : Int) * 2 ^ bitN i) = (m : Int) := by
        have e : (x : Int) * 2 ^ bitN i = (m : Int) := by rw [hmm]; simp
        rw [e, IntWalk.u64_in _ (by omega)]
      simp only [← hmm] at ST
      rw [← hmm] at hm
      obtain ⟨a, ha⟩ : ∃ a, a = atN i := ⟨_, rfl⟩
      simp only [← ha] at ST FC
      rw [← ha] at a13
      obtain ⟨d, hd⟩ : ∃ d, d = bitN i := ⟨_, rfl⟩
      simp only [← hd] at FC s1
      rw [← hd] at d6
      have ji : (i : Int) < 5 := by omega
      have md : min d 64 = d := by omega
      clear hx hP hmm ha hd Y2 h2 d6
      go_wp2_with fail
      refine (FC wr).out.mono ?_
      rintro e w6 ⟨rfl, rfl⟩
      go_wp2_with fail
      go_loopw [23] (fun s wr => ∃ k : Nat, k ≤ 4 ∧ s = .int .i64 (k : Int) ∧ Whole wr w.heap.size 81 (uv l) ∧ Whole wr (w.heap.size + 1) 100 (bv (lowB 17 (layN P x i k))).toArray ∧ Below w.heap.size w wr) (fun s _ => 4 - (intOf s).toNat)
      case atStart => exact ⟨0, by decide, rfl, Y1.out, Y20.out, HBr.out⟩
      case round =>
        rename_i wr
        obtain ⟨k, hk4, rfl, x1, x2, hb⟩ := hrel
        clear Y1 Y20 HBr c1
        have Y1 := Lib.hid x1
        have Y2 := Lib.hid x2
        have HBr := Lib.hid hb
        clear x1 x2 hb
        by_cases hlk : k < 4
        · have dk : decide ((k : Int) < 4) = true := by simp; omega
          obtain ⟨b, q, h1, h2, h3, h4⟩ := (ST k hlk).out
          obtain ⟨W, hW⟩ : ∃ W, W = layN P x i k := ⟨_, rfl⟩
          obtain ⟨N, hN⟩ : ∃ N, N = layN P x i (k + 1) := ⟨_, rfl⟩
          rw [← hW] at h1 h3 h4 Y2
          rw [← hN] at h4
          have HM := Lib.hid hN
          obtain ⟨j, hj⟩ : ∃ j, j = a + k := ⟨_, rfl⟩
          rw [← hj] at h1 h3 h4
          have hset := lowB_set 17 W j (q * 2 ^ b) h3
          rw [h4] at hset
          have j17 : j < 17 := by omega
          obtain ⟨c, hc⟩ : ∃ c, c = W / 256 ^ j := ⟨_, rfl⟩
          rw [← hc] at h1 h3 hset
          have C2 : Hid (wr.cell? ⟨w.heap.size + 1, j, none⟩ = some (.int .u8 (c : Int))) := Lib.hid (by
            have e := block_cell Y2.out j _ (lowB_at 17 W j j17)
            rw [← hc, toNat_of c (by omega)] at e
            exact e)
          obtain ⟨s, hs⟩ : ∃ s, s = 8 * k := ⟨_, rfl⟩
          rw [← hs] at h2
          obtain ⟨p, hp⟩ : ∃ p, p = m / 2 ^ s := ⟨_, rfl⟩
          rw [← hp] at h2
          obtain ⟨r, hr⟩ : ∃ r, r = q * 2 ^ b := ⟨_, rfl⟩
          rw [← hr] at h2 h3 hset
          obtain ⟨u, hu⟩ : ∃ u, u = UInt8.ofNat (c + r) := ⟨_, rfl⟩
          rw [← hu] at hset
          have HS := Lib.hid hset
          have t1 : IntKind.i64.wrap ((a : Int) + (k : Int)) = (j : Int) := by rw [IntWalk.i64_in _ (by omega)]; omega
          have t2 : IntKind.i64.wrap (8 * (k : Int)) = (s : Int) := by rw [IntWalk.i64_in _ (by omega)]; omega
          have t3 : (m : Int) / 2 ^ s = (p : Int) := by rw [hp]; simp
          have t4 : IntKind.u8.wrap (p : Int) = (r : Int) := by rw [wrap8_mod, h2]
          have t5 : bits .or .u8 (c : Int) (r : Int) = (u.toNat : Int) := by
            rw [hu, toNat_of _ h3]
            have h5 := bits_or8 b c q (c + r) (by rw [hr]) h1 h3
            rw [← hr] at h5
            exact h5
          have jj : (j : Int) < 17 := by omega
          have ms : min s 64 = s := by omega
          clear h1 h2 h3 h4 hW hN hj hc hs hp hr hu hset
          go_wp2_with fail
          refine still_tail 12 (by kernel_rfl) (by kernel_rfl) fun w7 h7 b7 => ?_
          simp only [List.take_succ_cons, List.take_zero, List.drop_succ_cons, List.drop_zero]
          have c2 := (World.cell?_of_block (a := ⟨w.heap.size + 1, j, none⟩) (by rw [h7])).trans C2.out
          repeat still_step
          refine wpStill_nil ?_
          have W1 := Lib.hid (Y1.out.of_heap h7)
          have W2 := Lib.hid (Y2.out.of_heap h7)
          have B7 := Lib.hid (HBr.out.trans (b7.mono HBr.out.size))
          clear c2 h7 b7 C2 HBr Y1 Y2
          refine wpList_put_b rfl _ _ rfl (w.heap.size + 1) j rfl u rfl _ _ W2.out (by rw [lowB_length]; exact j17) ?_
          intro w8 g8 x8 z8
          rw [HS.out, HM.out] at x8
          have V2 := Lib.hid x8
          have V1 := Lib.hid (W1.out.grown g8 (by simp))
          have B8 := Lib.hid (B7.out.grown g8 B7.out.size (fun k hk => by injection hk; omega))
          clear x8 g8 z8 W1 W2 B7 t1 t2 t3 t4 t5
          refine wpList_nil ?_
          go_wp2_with fail
          exact ⟨⟨k + 1, by omega, by go_num, V1.out, V2.out, B8.out⟩, by simp [intOf]; omega⟩
        · obtain rfl : k = 4 := by omega
          rw [H4.out] at Y2
          go_wp2_with fail
          exact ⟨⟨i + 1, by omega, by go_num, Y1.out, Y2.out, HBr.out⟩, by simp [intOf]; omega⟩
    · obtain rfl : i = 5 := by omega
      obtain ⟨V, hV⟩ : ∃ V, V = vb (2 ^ 26) l 5 := ⟨_, rfl⟩
      rw [← hV] at Y2
      have HV := Lib.hid hV
      clear hV
      have L2 := Lib.hid Y2.out.lt
      go_wp2_with (at_make; refine wpList_make_block rfl _ _ rfl 16 rfl rfl (by decide) ?_)
      intro w3 x3 b3 z3
      have X3 := Lib.hid x3
      have V2 := Lib.hid (Y2.out.below b3 Y2.out.lt)
      have B3 := Lib.hid (HBr.out.trans (b3.mono HBr.out.size))
      have GE := Lib.hid HBr.out.size
      clear x3 b3 z3 Y1 Y2 HBr
      obtain ⟨g, hg⟩ : ∃ g, g = wr.heap.size := ⟨_, rfl⟩
      rw [← hg] at X3 GE ⊢
      clear hg
      obtain ⟨w4, hr, x4, g4, z4⟩ := run_copy_in w3 3 g 16 16 5 (List.replicate 16 0) (.slice (some ⟨w.heap.size + 1, 0, none⟩) 17 17) (lowB 17 V) X3.out (by rfl) (block_bytes V2.out (lowB_length ..).symm (by decide)) 16 (by rw [lowB_length]; rfl)
      have e4 : (lowB 17 V).take 16 ++ (List.replicate 16 (0 : UInt8)).drop 16 = lowB 16 V := by
        rw [lowB_take _ _ _ (by decide), List.drop_replicate, Nat.sub_self, List.replicate_zero, List.append_nil]
      rw [e4] at x4
      have X4 := Lib.hid x4
      have B4 := Lib.hid (B3.out.grown g4 B3.out.size (fun k hk => by have := GE.out; injection hk; omega))
      clear x4 e4 g4 z4
      go_wp2_with fail
      go_ret
      exact ⟨_, rfl, by rw [← HV.out]; exact Fresh.of_whole X4.out (lowB_length ..).symm (by decide) GE.out, B4.out⟩
end Go.Proofs.YtmnhpkdldeifgaaGreatDoor

namespace Go.Proofs.YtmnhpkdldeifgaaGreatDoor
set_option maxRecDepth 100000
open Go.RowKit

def clA (b : List UInt8) : Nat → List UInt8
  | 0 => b
  | k + 1 => (clA b k).set (4 * k + 3) ((clA b k).getD (4 * k + 3) 0 % 16)
def clB (b : List UInt8) : Nat → List UInt8
  | 0 => clA b 4
  | k + 1 => (clB b k).set (4 * k + 4) ((clB b k).getD (4 * k + 4) 0 - (clB b k).getD (4 * k + 4) 0 % 4)
theorem clA_length (b : List UInt8) (k : Nat) : (clA b k).length = b.length := by
  induction k with
  | zero => rfl
  | succ k ih => rw [clA, List.length_set, ih]
theorem clB_length (b : List UInt8) (k : Nat) : (clB b k).length = b.length := by
  induction k with
  | zero => exact clA_length b 4
  | succ k ih => rw [clB, List.length_set, ih]
theorem clB_is (l : List UInt8) (h : 16 ≤ l.length) : clB (l.take 16) 3 = clampL l := by
  have hn : ¬ l.length < 16 := by omega
  rw [clampL, if_neg hn]
  match l, h with
  | x0 :: x1 :: x2 :: x3 :: x4 :: x5 :: x6 :: x7 :: x8 :: x9 :: x10 :: x11 :: x12 :: x13 :: x14 :: x15 :: t, _ => rfl

set_option maxRecDepth 100000 in
set_option maxHeartbeats 2000000 in
theorem clamp_any (A : Option Addr) (n cap : Nat) (l : List UInt8) (w : World) (h : BytesAt w (.slice A n cap) l) :
    Calls Tryz.prog 54 #[.slice A n cap] w fun e w' => ∃ v', e = .returned v' ∧ BytesAt w' v' (clampL l) ∧ Below w.heap.size w w' := by
  have HZ := Lib.hid h.size
  by_cases hn : n < 16
  · have d : decide ((n : Int) < 16) = true := by simp; omega
    have e : clampL l = [] := by rw [clampL, if_pos (by have := HZ.out.1; omega)]
    rw [e]
    clear e h
    go_enter Tryz.func54, Tryz.ntmps54
    go_wp2
    go_ret
    exact ⟨_, rfl, BytesAt.nil w, Below.refl _ _⟩
  · have d : decide ((n : Int) < 16) = false := by simp; omega
    have H := Lib.hid h
    have HL : 16 ≤ l.length := by have := HZ.out.1; omega
    have HC := Lib.hid (clB_is l HL)
    have TL : (l.take 16).length = 16 := by rw [List.length_take]; omega
    have MN : Hid (16 = min l.length 16) := Lib.hid (by omega)
    clear h HL hn
    go_enter Tryz.func54, Tryz.ntmps54
    go_wp2_with (at_make; refine wpList_make_block rfl _ _ rfl 16 rfl rfl (by decide) ?_)
    intro w1 x1 b1 z1
    obtain ⟨w2, hr, x2, g2, z2⟩ := run_copy_in w1 3 w.heap.size 16 16 5 (List.replicate 16 0) _ l x1 (by rfl) (H.out.below b1) 16 MN.out
    rw [List.drop_replicate, Nat.sub_self, List.replicate_zero, List.append_nil] at x2
    have B2 := Lib.hid ((Below.grown b1 g2 b1.size (fun k hk => by injection hk; omega)))
    obtain ⟨b, hb⟩ : ∃ b, b = l.take 16 := ⟨_, rfl⟩
    rw [← hb] at TL HC x2
    have X2 : Hid (Whole w2 w.heap.size 5 (bv (clA b 0)).toArray) := x2
    have LB := Lib.hid TL
    clear hb x1 b1 z1 x2 g2 z2 TL H MN
    go_wp2_with fail
    go_loopw [4] (fun s wr => ∃ k i : Nat, i = 4 * k + 3 ∧ k ≤ 4 ∧ s = .int .i64 (i : Int) ∧ Whole wr w.heap.size 5 (bv (clA b k)).toArray ∧ Below w.heap.size w wr) (fun s _ => 20 - (intOf s).toNat)
    case atStart => exact ⟨0, 3, rfl, by decide, rfl, X2.out, B2.out⟩
    case round =>
      obtain ⟨k, i, hi, hk, rfl, x1, hb⟩ := hrel
      clear X2 B2 hr
      have Y1 := Lib.hid x1
      have HB := Lib.hid hb
      clear x1 hb
      by_cases hlt : i < 16
      · have di : decide ((i : Int) < 16) = true := by simp; omega
        have LA : Hid ((clA b k).length = 16) := Lib.hid ((clA_length b k).trans LB.out)
        have HN : Hid (clA b (k + 1) = _) := Lib.hid (clA.eq_2 b k)
        rw [← hi] at HN
        obtain ⟨N, hN⟩ : ∃ N, N = clA b (k + 1) := ⟨_, rfl⟩
        rw [← hN] at HN
        have HM := Lib.hid hN
        clear hN
        obtain ⟨L, hL⟩ : ∃ L, L = clA b k := ⟨_, rfl⟩
        rw [← hL] at Y1 LA HN
        clear hL
        obtain ⟨x, hx⟩ : ∃ x, x = L.getD i 0 := ⟨_, rfl⟩
        rw [← hx] at HN
        have c1 := block_cell Y1.out i x (by rw [hx]; simp [List.getD, List.getElem?_eq_getElem (show i < L.length by rw [LA.out]; exact hlt)])
        have r1 := rem16 x
        have ji : (i : Int) < 16 := by omega
        have t1 : IntKind.i64.wrap ((i : Int) + 4) = ((i + 4 : Nat) : Int) := by rw [IntWalk.i64_in _ (by omega)]; omega
        have HI := Lib.hid (And.intro hi hlt)
        clear hx hi
        go_wp2_with (with_reducible refine wpList_put_b rfl _ _ rfl w.heap.size i ?hx (x % 16) ?hy _ L Y1.out ?hi ?_)
        case hx => exact rfl
        case hy => exact rfl
        case hi => rw [LA.out]; exact HI.out.2
        intro w3 g3 x3 z3
        rw [← HN.out, HM.out] at x3
        have X3 := Lib.hid x3
        have B3 := Lib.hid (HB.out.grown g3 HB.out.size (fun k hk => by injection hk; omega))
        clear x3 g3 z3 Y1 HB c1 r1
        go_wp2_with fail
        exact ⟨⟨k + 1, i + 4, by have := HI.out.1; omega, by have := HI.out; omega, by go_num, X3.out, B3.out⟩, by have := HI.out; simp [intOf]; omega⟩
      · have di : decide ((i : Int) < 16) = false := by simp; omega
        obtain rfl : k = 4 := by omega
        have Y2 : Hid (Whole wr w.heap.size 5 (bv (clB b 0)).toArray) := Lib.hid Y1.out
        clear Y1
        go_wp2_with fail
        go_loopw [5] (fun s wr => ∃ k i : Nat, i = 4 * k + 4 ∧ k ≤ 3 ∧ s = .int .i64 (i : Int) ∧ Whole wr w.heap.size 5 (bv (clB b k)).toArray ∧ Below w.heap.size w wr) (fun s _ => 20 - (intOf s).toNat)
        case atStart => exact ⟨0, 4, rfl, by decide, rfl, Y2.out, HB.out⟩
        case round =>
          rename_i wr
          clear hi hk hlt di
          obtain ⟨k, j, hj, hk, rfl, x1, hb⟩ := hrel
          clear Y2 HB
          have Y1 := Lib.hid x1
          have HB := Lib.hid hb
          clear x1 hb
          by_cases hlt : j < 16
          · have di : decide ((j : Int) < 16) = true := by simp; omega
            have LA : Hid ((clB b k).length = 16) := Lib.hid ((clB_length b k).trans LB.out)
            have HN : Hid (clB b (k + 1) = _) := Lib.hid (clB.eq_2 b k)
            rw [← hj] at HN
            obtain ⟨N, hN⟩ : ∃ N, N = clB b (k + 1) := ⟨_, rfl⟩
            rw [← hN] at HN
            have HM := Lib.hid hN
            clear hN
            obtain ⟨L, hL⟩ : ∃ L, L = clB b k := ⟨_, rfl⟩
            rw [← hL] at Y1 LA HN
            clear hL
            obtain ⟨x, hx⟩ : ∃ x, x = L.getD j 0 := ⟨_, rfl⟩
            rw [← hx] at HN
            have C1 := Lib.hid (block_cell Y1.out j x (by rw [hx]; simp [List.getD, List.getElem?_eq_getElem (show j < L.length by rw [LA.out]; exact hlt)]))
            have ji : (j : Int) < 16 := by omega
            have t1 : IntKind.i64.wrap ((j : Int) + 4) = ((j + 4 : Nat) : Int) := by rw [IntWalk.i64_in _ (by omega)]; omega
            have HI := Lib.hid (And.intro hj hlt)
            clear hx hj
            go_wp2_with fail
            refine still_tail 11 (by kernel_rfl) (by kernel_rfl) fun w4 h4 b4 => ?_
            simp only [List.take_succ_cons, List.take_zero, List.drop_succ_cons, List.drop_zero]
            have c1 := (World.cell?_of_block (a := ⟨w.heap.size, j, none⟩) (by rw [h4])).trans C1.out
            repeat still_step
            refine wpStill_nil ?_
            have W1 := Lib.hid (Y1.out.of_heap h4)
            have B4 := Lib.hid (HB.out.trans (b4.mono HB.out.size))
            clear c1 h4 b4 C1 Y1 HB
            refine wpList_put_b rfl _ _ rfl w.heap.size j rfl (x - x % 4) (by first | rfl | exact congrArg (Value.int .u8) (sub4 x) | exact congrArg (Value.int .u8) (sub4' x) | exact congrArg (Value.int .u8) (sub4'' x)) _ L W1.out (by rw [LA.out]; exact HI.out.2) ?_
            intro w3 g3 x3 z3
            rw [← HN.out, HM.out] at x3
            have X3 := Lib.hid x3
            have B3 := Lib.hid (B4.out.grown g3 B4.out.size (fun k hk => by injection hk; omega))
            clear x3 g3 z3 W1 B4
            refine wpList_nil ?_
            go_wp2_with fail
            exact ⟨⟨k + 1, j + 4, by have := HI.out.1; omega, by have := HI.out; omega, by go_num, X3.out, B3.out⟩, by have := HI.out; simp [intOf]; omega⟩
          · have di : decide ((j : Int) < 16) = false := by simp; omega
            obtain rfl : k = 3 := by omega
            have LA : Hid ((clB b 3).length = 16) := Lib.hid ((clB_length b 3).trans LB.out)
            have HY : Hid (BytesAt wr (.slice (some ⟨w.heap.size, 0, none⟩) 16 16) (clampL l)) := Lib.hid (by rw [← HC.out]; exact block_bytes Y1.out LA.out.symm (by decide))
            clear Y1
            go_wp2_with fail
            go_ret
            exact ⟨_, rfl, HY.out, HB.out⟩
end Go.Proofs.YtmnhpkdldeifgaaGreatDoor

namespace Go.Proofs.YtmnhpkdldeifgaaGreatDoor
set_option maxRecDepth 100000
open Go.RowKit

theorem clampL_take (l : List UInt8) (h : 16 ≤ l.length) : clampL (l.take 16) = clampL l := by
  match l, h with
  | x0 :: x1 :: x2 :: x3 :: x4 :: x5 :: x6 :: x7 :: x8 :: x9 :: x10 :: x11 :: x12 :: x13 :: x14 :: x15 :: t, _ =>
    have h1 : ¬ (x0 :: x1 :: x2 :: x3 :: x4 :: x5 :: x6 :: x7 :: x8 :: x9 :: x10 :: x11 :: x12 :: x13 :: x14 :: x15 :: t).length < 16 := by simp
    rw [clampL, clampL, if_neg h1]
    rfl
/-- The number that read answers. -/
def readL (b : List UInt8) (x : UInt8) : List Nat := partsL (leNat (roomL b x))
theorem readL_length (b : List UInt8) (x : UInt8) : (readL b x).length = 5 := partsTo_length _ _
theorem readL_under (b : List UInt8) (x : UInt8) : Under (readL b x) (2 ^ 26) := partsTo_under _ _
theorem readL_zero (b : List UInt8) (h : b.length ≤ 16) : vb (2 ^ 26) (readL b 0) 5 = leNat b := by
  rw [readL, partsL_value _ (roomL_lt b 0 h (by decide)), roomL_value]
  exact Nat.add_zero _
theorem readL_one (b : List UInt8) (h : b.length ≤ 16) : vb (2 ^ 26) (readL b 1) 5 = chunkN b := by
  rw [readL, partsL_value _ (roomL_lt b 1 h (by decide)), roomL_value, chunkN]
  show leNat b + 256 ^ b.length * 1 = _
  rw [Nat.mul_one]

/-- What holds of the number behind so many blocks. -/
def SumIs (R : Nat) (msg : List UInt8) (t : Nat) (S : List Nat) : Prop := S.length = 5 ∧ Under S (2 ^ 27) ∧ vb (2 ^ 26) S 5 < 2 ^ 130 ∧ vb (2 ^ 26) S 5 % pP = accN R msg t
theorem SumIs.zero (R : Nat) (msg : List UInt8) : SumIs R msg 0 [0, 0, 0, 0, 0] := by
  refine ⟨rfl, fun i => ?_, ?_, ?_⟩
  · rcases i with _ | _ | _ | _ | _ | i
    all_goals first | exact (by decide : (0 : Nat) < 2 ^ 27)
  · exact (by decide : vb (2 ^ 26) [0, 0, 0, 0, 0] 5 < 2 ^ 130)
  · exact (by decide : vb (2 ^ 26) [0, 0, 0, 0, 0] 5 % pP = 0)
theorem plus_under {a b : List Nat} (ha : a.length = 5) (ua : Under a (2 ^ 27)) (ub : Under b (2 ^ 26)) : Under (plusL a b) (2 ^ 28) :=
  (plusTo_under a b 5 _ _ (by omega) ua ub).mono (by decide)
theorem SumIs.next {R : Nat} {msg : List UInt8} {t : Nat} {S F : List Nat} (h : SumIs R msg t S) (c : List UInt8) (hc : c = (msg.drop (16 * t)).take 16) (hF : Under F (2 ^ 26)) (hR : vb (2 ^ 26) F 5 = R) :
    SumIs R msg (t + 1) (timesL (plusL S (readL c 1)) F) := by
  obtain ⟨h1, h2, h3, h4⟩ := h
  obtain ⟨k1, k2, k3⟩ := timesL_value _ F (plus_under h1 h2 (readL_under c 1)) hF
  refine ⟨timesL_length _ _, k3, k1, ?_⟩
  rw [k2, plusL_value _ _ h1, readL_one _ (by rw [hc, List.length_take]; omega), hR, accN, ← h4, ← hc, Nat.mul_mod, ← Nat.mod_add_mod, ← Nat.mul_mod]
/-- The number that is written at last. -/
def lastL (S b : List Nat) : List Nat := carryL (plusL (restL S) b)
theorem last_length {S : List Nat} (b : List Nat) (h : S.length = 5) : (lastL S b).length = 5 := by rw [lastL, carryL_length, plusL_length, restL_length, h]
theorem tagL_low (key msg : List UInt8) : tagL key msg = lowB 16 (tagN key msg) := rfl
theorem last_bytes {R : Nat} {key msg : List UInt8} {t : Nat} {S : List Nat} (h : SumIs R msg t S) (hR : R = leNat (clampL key)) (ht : t = (msg.length + 15) / 16) (b : List UInt8) (hb : b = (key.drop 16).take 16) :
    lowB 16 (vb (2 ^ 26) (lastL S (readL b 0)) 5) = tagL key msg := by
  obtain ⟨h1, h2, h3, h4⟩ := h
  have hr : (restL S).length = 5 := (restL_length S).trans h1
  have hp : (plusL (restL S) (readL b 0)).length = 5 := (plusL_length _ _).trans hr
  rw [lastL, (carryL_value _ hp).1, plusL_value _ _ hr, restL_value S h1 h3, h4, readL_zero _ (by rw [hb, List.length_take]; omega), tagL_low, tagN, ← hR, ← ht, ← hb]
  exact lowB_mod 16 _ _ (2 ^ 130) (by decide) (Nat.mod_mod _ _)

theorem chunk_facts (msg : List UInt8) (n t n' M : Nat) (hn : n = msg.length) (h : n' = n - 16 * t) (hM : M = min n' 16) :
    (msg.drop (16 * t)).take M = (msg.drop (16 * t)).take 16 ∧ (msg.drop (16 * t)).drop M = msg.drop (16 * (t + 1)) ∧ n' - M = n - 16 * (t + 1) := by
  have hl : (msg.drop (16 * t)).length = n' := by rw [List.length_drop]; omega
  by_cases h16 : n' ≤ 16
  · obtain rfl : M = n' := by omega
    refine ⟨?_, ?_, by omega⟩
    · rw [List.take_of_length_le (by omega), List.take_of_length_le (by omega)]
    · rw [List.drop_eq_nil_of_le (by omega), List.drop_eq_nil_of_le (by omega)]
  · obtain rfl : M = 16 := by omega
    refine ⟨rfl, ?_, by omega⟩
    rw [List.drop_drop, Nat.mul_add]

/-- An array's value, loaded: an operation that only reads. -/
theorem exec_load_q5 {ev : Operand → Value} {o : Oper} (x : Operand) (ho : o.op = .load 81 x) (g : Nat) (hx : ev x = .pointer (some ⟨g, 0, none⟩)) (t : TypeId) (l : List Nat) (w : World) (hg : Whole w g t (uv l)) (hl : l.length = 5) :
    (execOp ev o).run Tryz.prog w = .ok (.value (.agg (uv l))) w := by
  have h := run_loadVar_row (P := Tryz.prog) w g t 81 (uv l) (0, 0) _ hg Tryz.underlying81 rfl (size_of5 l hl)
  unfold execOp
  simp [ho, hx, Instr.loadAt, Instr.sureAddr, h]
theorem Fresh.less {w : World} {B B' : Nat} {v : Value} {l : List UInt8} (h : Fresh w B v l) (hb : B' ≤ B) : Fresh w B' v l := by
  obtain ⟨g, off, cap, t, cs, h1, h2, h3, h4⟩ := h
  exact ⟨g, off, cap, t, cs, h1, h2, Nat.le_trans hb h3, h4⟩
theorem build_q5 (w : World) : (Instr.build 81 #[]).run Tryz.prog w = .ok (.agg (uv [0, 0, 0, 0, 0])) w :=
  run_build w _ _ _ (by kernel_rfl)
end Go.Proofs.YtmnhpkdldeifgaaGreatDoor
