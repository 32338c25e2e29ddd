/- What package poly's write answers: the lowest 16 bytes of a number in five parts. -/
import Derived.Test.YtbdcligpbogkjaaPoRead
import Derived.Test.YtbdcligpbogkjaaPoA
namespace Go.Proofs.Ytbdcligpbogkjaa
open Go.RowKit

theorem Fresh.of_whole {w : World} {B g n cap : Nat} {t : TypeId} {l : List UInt8} (h : Whole w g t (bv l).toArray) (hn : n = l.length) (hc : n ≤ cap) (hB : B ≤ g) : Fresh w B (.slice (some ⟨g, 0, none⟩) n cap) l := by
  subst hn
  exact ⟨g, 0, cap, t, _, rfl, hc, hB, h, fun j c hj => by rw [Nat.zero_add]; simp [bv, hj]⟩
theorem toNat_of (m : Nat) (h : m < 256) : (UInt8.ofNat m).toNat = m := by
  simp only [UInt8.toNat_ofNat']
  omega

set_option maxRecDepth 100000 in
set_option maxHeartbeats 4000000 in
theorem write_any (l : List Nat) (hl : l.length = 5) (hu : Under l (2 ^ 26)) (w : World) :
    Calls Try.prog 18 #[.agg (uv l)] w fun e w' => ∃ v', e = .returned v' ∧ Fresh w' w.heap.size v' (lowB 16 (vb (2 ^ 26) l 5)) ∧ Below w.heap.size w w' := by
  have LL := Lib.hid hl
  have UL := Lib.hid hu
  clear hl hu
  go_enter Try.func18, Try.ntmps18
  go_wp2_with (refine wpList_box_row rfl 36 _ rfl _ rfl ?_)
  intro w1 b1 x1 z1
  go_wp2_with (refine wpList_alloc_row rfl 48 rfl _ zero_b17 ?_)
  intro w2 b2 x2 z2
  have X1 : Hid (Whole w2 w.heap.size 36 (uv l)) := Whole.below x1 b2 (by omega)
  have X2 : Hid (Whole w2 (w.heap.size + 1) 48 (bv (lowB 17 (vb (2 ^ 26) l 0))).toArray) := Lib.hid (by
    have e : lowB 17 (vb (2 ^ 26) l 0) = List.replicate 17 0 := lowB_zero 17
    rw [e]
    exact x2)
  have HB : Hid (Below w.heap.size w w2) := b1.trans (b2.mono (by omega))
  clear b1 b2 x1 x2 z1 z2
  go_wp2_with fail
  go_loopw [10] (fun s wr => ∃ i : Nat, i ≤ 5 ∧ s = .int .i64 (i : Int) ∧ Whole wr w.heap.size 36 (uv l) ∧ Whole wr (w.heap.size + 1) 48 (bv (lowB 17 (vb (2 ^ 26) l i))).toArray ∧ Below w.heap.size w wr) (fun s _ => 5 - (intOf s).toNat)
  case atStart => exact ⟨0, by decide, rfl, X1.out, X2.out, HB.out⟩
  case round =>
    obtain ⟨i, hi5, rfl, x1, x2, hb⟩ := hrel
    clear X1 X2 HB
    have Y1 := Lib.hid x1
    have Y2 := Lib.hid x2
    have HBr := Lib.hid hb
    clear x1 x2 hb
    by_cases hlt : i < 5
    · have di : decide ((i : Int) < 5) = true := by simp; omega
      have FC := fun w => Lib.hid (first_any i hlt w)
      have d6 := bitN_le i hlt
      have a13 := atN_le i hlt
      have ux := UL.out i
      have vu := vb_under l UL.out i
      obtain ⟨x, hx⟩ : ∃ x, x = l.getD i 0 := ⟨_, rfl⟩
      have c1 : wr.cell? ⟨w.heap.size, i, none⟩ = some (.int .u64 (x : Int)) := by
        refine (Y1.out.at_ i).trans (uv_at _ _ _ ?_)
        rw [hx]
        simp [List.getD, List.getElem?_eq_getElem (show i < l.length by rw [LL.out]; exact hlt)]
      have H4 := Lib.hid (layN_four l i hlt ux)
      rw [← hx] at H4 ux
      obtain ⟨P, hP⟩ : ∃ P, P = vb (2 ^ 26) l i := ⟨_, rfl⟩
      rw [← hP] at H4 vu Y2
      have ST := fun k hk => Lib.hid (layN_step P x i k hlt hk ux vu)
      have Y20 : Hid (Whole wr (w.heap.size + 1) 48 (bv (lowB 17 (layN P x i 0))).toArray) := by rw [Hid, layN_zero]; exact Y2.out
      have h2 : 2 ^ bitN i ≤ 2 ^ 6 := Nat.pow_le_pow_right (by decide) d6
      have hm : x * 2 ^ bitN i ≤ (2 ^ 26 - 1) * 2 ^ 6 := Nat.mul_le_mul (by omega) h2
      obtain ⟨m, hmm⟩ : ∃ m, m = x * 2 ^ bitN i := ⟨_, rfl⟩
      have s1 : IntKind.u64.wrap ((x : Int) * 2 ^ bitN i) = (m : Int) := by
        have e : (x : Int) * 2 ^ bitN i = (m : Int) := by rw [hmm]; simp
        rw [e, IntWalk.u64_in _ (by omega)]
      simp only [← hmm] at ST
      rw [← hmm] at hm
      obtain ⟨a, ha⟩ : ∃ a, a = atN i := ⟨_, rfl⟩
      simp only [← ha] at ST FC
      rw [← ha] at a13
      obtain ⟨d, hd⟩ : ∃ d, d = bitN i := ⟨_, rfl⟩
      simp only [← hd] at FC s1
      rw [← hd] at d6
      have ji : (i : Int) < 5 := by omega
      have md : min d 64 = d := by omega
      clear hx hP hmm ha hd Y2 h2 d6
      go_wp2_with fail
      refine (FC wr).out.mono ?_
      rintro e w6 ⟨rfl, rfl⟩
      go_wp2_with fail
      go_loopw [23] (fun s wr => ∃ k : Nat, k ≤ 4 ∧ s = .int .i64 (k : Int) ∧ Whole wr w.heap.size 36 (uv l) ∧ Whole wr (w.heap.size + 1) 48 (bv (lowB 17 (layN P x i k))).toArray ∧ Below w.heap.size w wr) (fun s _ => 4 - (intOf s).toNat)
      case atStart => exact ⟨0, by decide, rfl, Y1.out, Y20.out, HBr.out⟩
      case round =>
        rename_i wr
        obtain ⟨k, hk4, rfl, x1, x2, hb⟩ := hrel
        clear Y1 Y20 HBr c1
        have Y1 := Lib.hid x1
        have Y2 := Lib.hid x2
        have HBr := Lib.hid hb
        clear x1 x2 hb
        by_cases hlk : k < 4
        · have dk : decide ((k : Int) < 4) = true := by simp; omega
          obtain ⟨b, q, h1, h2, h3, h4⟩ := (ST k hlk).out
          obtain ⟨W, hW⟩ : ∃ W, W = layN P x i k := ⟨_, rfl⟩
          obtain ⟨N, hN⟩ : ∃ N, N = layN P x i (k + 1) := ⟨_, rfl⟩
          rw [← hW] at h1 h3 h4 Y2
          rw [← hN] at h4
          have HM := Lib.hid hN
          obtain ⟨j, hj⟩ : ∃ j, j = a + k := ⟨_, rfl⟩
          rw [← hj] at h1 h3 h4
          have hset := lowB_set 17 W j (q * 2 ^ b) h3
          rw [h4] at hset
          have j17 : j < 17 := by omega
          obtain ⟨c, hc⟩ : ∃ c, c = W / 256 ^ j := ⟨_, rfl⟩
          rw [← hc] at h1 h3 hset
          have C2 : Hid (wr.cell? ⟨w.heap.size + 1, j, none⟩ = some (.int .u8 (c : Int))) := Lib.hid (by
            have e := block_cell Y2.out j _ (lowB_at 17 W j j17)
            rw [← hc, toNat_of c (by omega)] at e
            exact e)
          obtain ⟨s, hs⟩ : ∃ s, s = 8 * k := ⟨_, rfl⟩
          rw [← hs] at h2
          obtain ⟨p, hp⟩ : ∃ p, p = m / 2 ^ s := ⟨_, rfl⟩
          rw [← hp] at h2
          obtain ⟨r, hr⟩ : ∃ r, r = q * 2 ^ b := ⟨_, rfl⟩
          rw [← hr] at h2 h3 hset
          obtain ⟨u, hu⟩ : ∃ u, u = UInt8.ofNat (c + r) := ⟨_, rfl⟩
          rw [← hu] at hset
          have HS := Lib.hid hset
          have t1 : IntKind.i64.wrap ((a : Int) + (k : Int)) = (j : Int) := by rw [IntWalk.i64_in _ (by omega)]; omega
          have t2 : IntKind.i64.wrap (8 * (k : Int)) = (s : Int) := by rw [IntWalk.i64_in _ (by omega)]; omega
          have t3 : (m : Int) / 2 ^ s = (p : Int) := by rw [hp]; simp
          have t4 : IntKind.u8.wrap (p : Int) = (r : Int) := by rw [wrap8_mod, h2]
          have t5 : bits .or .u8 (c : Int) (r : Int) = (u.toNat : Int) := by
            rw [hu, toNat_of _ h3]
            have h5 := bits_or8 b c q (c + r) (by rw [hr]) h1 h3
            rw [← hr] at h5
            exact h5
          have jj : (j : Int) < 17 := by omega
          have ms : min s 64 = s := by omega
          clear h1 h2 h3 h4 hW hN hj hc hs hp hr hu hset
          go_wp2_with fail
          refine still_tail 12 (by kernel_rfl) (by kernel_rfl) fun w7 h7 b7 => ?_
          simp only [List.take_succ_cons, List.take_zero, List.drop_succ_cons, List.drop_zero]
          have c2 := (World.cell?_of_block (a := ⟨w.heap.size + 1, j, none⟩) (by rw [h7])).trans C2.out
          repeat still_step
          refine wpStill_nil ?_
          have W1 := Lib.hid (Y1.out.of_heap h7)
          have W2 := Lib.hid (Y2.out.of_heap h7)
          have B7 := Lib.hid (HBr.out.trans (b7.mono HBr.out.size))
          clear c2 h7 b7 C2 HBr Y1 Y2
          refine wpList_put_b rfl _ _ rfl (w.heap.size + 1) j rfl u rfl _ _ W2.out (by rw [lowB_length]; exact j17) ?_
          intro w8 g8 x8 z8
          rw [HS.out, HM.out] at x8
          have V2 := Lib.hid x8
          have V1 := Lib.hid (W1.out.grown g8 (by simp))
          have B8 := Lib.hid (B7.out.grown g8 B7.out.size (fun k hk => by injection hk; omega))
          clear x8 g8 z8 W1 W2 B7 t1 t2 t3 t4 t5
          refine wpList_nil ?_
          go_wp2_with fail
          exact ⟨⟨k + 1, by omega, by go_num, V1.out, V2.out, B8.out⟩, by simp [intOf]; omega⟩
        · obtain rfl : k = 4 := by omega
          rw [H4.out] at Y2
          go_wp2_with fail
          exact ⟨⟨i + 1, by omega, by go_num, Y1.out, Y2.out, HBr.out⟩, by simp [intOf]; omega⟩
    · obtain rfl : i = 5 := by omega
      obtain ⟨V, hV⟩ : ∃ V, V = vb (2 ^ 26) l 5 := ⟨_, rfl⟩
      rw [← hV] at Y2
      have HV := Lib.hid hV
      clear hV
      have L2 := Lib.hid Y2.out.lt
      go_wp2_with (at_make; refine wpList_make_block rfl _ _ rfl 16 rfl rfl (by decide) ?_)
      intro w3 x3 b3 z3
      have X3 := Lib.hid x3
      have V2 := Lib.hid (Y2.out.below b3 Y2.out.lt)
      have B3 := Lib.hid (HBr.out.trans (b3.mono HBr.out.size))
      have GE := Lib.hid HBr.out.size
      clear x3 b3 z3 Y1 Y2 HBr
      obtain ⟨g, hg⟩ : ∃ g, g = wr.heap.size := ⟨_, rfl⟩
      rw [← hg] at X3 GE ⊢
      clear hg
      obtain ⟨w4, hr, x4, g4, z4⟩ := run_copy_in w3 3 g 16 16 5 (List.replicate 16 0) (.slice (some ⟨w.heap.size + 1, 0, none⟩) 17 17) (lowB 17 V) X3.out (by rfl) (block_bytes V2.out (lowB_length ..).symm (by decide)) 16 (by rw [lowB_length]; rfl)
      have e4 : (lowB 17 V).take 16 ++ (List.replicate 16 (0 : UInt8)).drop 16 = lowB 16 V := by
        rw [lowB_take _ _ _ (by decide), List.drop_replicate, Nat.sub_self, List.replicate_zero, List.append_nil]
      rw [e4] at x4
      have X4 := Lib.hid x4
      have B4 := Lib.hid (B3.out.grown g4 B3.out.size (fun k hk => by have := GE.out; injection hk; omega))
      clear x4 e4 g4 z4
      go_wp2_with fail
      go_ret
      exact ⟨_, rfl, by rw [← HV.out]; exact Fresh.of_whole X4.out (lowB_length ..).symm (by decide) GE.out, B4.out⟩
end Go.Proofs.Ytbdcligpbogkjaa
