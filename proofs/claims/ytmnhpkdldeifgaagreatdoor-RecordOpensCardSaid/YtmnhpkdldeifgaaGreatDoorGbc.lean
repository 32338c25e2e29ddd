/- Numbers of 64 bits as natural numbers: arrays of them by value, stored into their places; shifts, masks, parts put together. What package box's Nonce, padded and length answer, and the library's turning round of a small number's bytes. The library's turning round of a number's bytes, for numbers below 2^24. Bytes copied into a block from a place on; rows of slices made as one. -/
import Derived.Test.YtmnhpkdldeifgaaGreatDoorGb
import Derived.Laws.BitsAllLaws
import Derived.IntWalk
import Derived.Test.YtmnhpkdldeifgaaGreatDoorGs
import Derived.Test.YtmnhpkdldeifgaaGreatDoorGt
import Derived.Laws.MakeOwn
import Derived.Test.YtmnhpkdldeifgaaGreatDoorGba
namespace Go.Proofs.YtmnhpkdldeifgaaGreatDoor
set_option maxRecDepth 100000
open Go.RowKit

/-- Numbers as cells. -/
def uv (l : List Nat) : Array Value := (l.map fun (n : Nat) => Value.int .u64 (n : Int)).toArray
theorem uv_size (l : List Nat) : (uv l).size = l.length := by simp [uv]
theorem uv_at (l : List Nat) (i x : Nat) (h : l[i]? = some x) : (uv l)[i]? = some (.int .u64 (x : Int)) := by simp [uv, h]
theorem uv_set (l : List Nat) (i x : Nat) : (uv l).setIfInBounds i (.int .u64 (x : Int)) = uv (l.set i x) := by simp [uv, List.map_set]
theorem uv_one (l : List Nat) : (uv l).all (·.oneCell') = true := by
  simp only [uv, List.all_toArray, List.all_eq_true, List.mem_map]
  rintro u ⟨x, -, rfl⟩
  rfl
theorem store_q (w : World) (g i : Nat) (old : Value) (hc : w.cell? ⟨g, i, none⟩ = some old) (hf : w.frozen? ⟨g, i, none⟩ = false) (z : Int) : (storeCells ⟨g, i, none⟩ [.int .u64 z]).run Tryz.prog w = .ok () (w.setCell ⟨g, i, none⟩ (.int .u64 z)) := by
  go_simp
/-- A number stored into an array's place. -/
theorem wpList_put_q {ops : Array Oper} {rest : List Oper} {o : Oper} {a : Act} {w : World} {Q : Exit → Act → World → Prop} (hgd : o.guard = none) (x y : Operand) (ho : o.op = .store 22 x y)
    (g i : Nat) (hx : a.eval x = .pointer (some ⟨g, i, none⟩)) (z : Nat) (hy : a.eval y = .int .u64 (z : Int)) (t : TypeId) (l : List Nat) (hg : Whole w g t (uv l)) (hi : i < l.length)
    (h : ∀ w', w.grownBy w' (some g) → Whole w' g t (uv (l.set i z)) → w'.heap.size = w.heap.size → wpList Tryz.prog ops Q rest (a.put o.dst undef) w') : wpList Tryz.prog ops Q (o :: rest) a w := by
  refine wpList_plain hgd fun K hK => ?_
  have c1 : w.cell? ⟨g, i, none⟩ = some (.int .u64 ((l[i] : Nat) : Int)) := (hg.at_ i).trans (uv_at _ _ _ (List.getElem?_eq_getElem hi))
  have q := hg.stored i (.int .u64 (z : Int))
  rw [uv_set] at q
  have hh := hK _ _ (h _ (grown_store w g i (.int .u64 (z : Int))) q (by simp))
  have hz : (sizeOf 22).run Tryz.prog w = .ok 1 w := by kernel_rfl
  unfold Oper.wp execOp
  have hc : (Value.int .u64 (z : Int)).cells = #[.int .u64 (z : Int)] := rfl
  simp only [ho, hx, hy, Instr.storeAt, Instr.sureAddr, storeVar, hc, Sem.run_bind, Sem.run_pure, Result.andThen_ok, hz, List.size_toArray, List.length_cons, List.length_nil, ne_eq, not_true_eq_false, if_false, store_q w g i _ c1 (hg.free i), Oper.upon]
  exact hh

theorem q_wrap (n : Nat) (h : n < 2 ^ 64) : IntKind.u64.wrap (n : Int) = (n : Int) := by rw [IntWalk.u64_in _ (by omega)]
/-- Shifted to the right. -/
theorem q_shr (kc : IntKind) (k : Nat) (hk : k < 64) (t : TypeId) (n : Nat) (w : World) : (binOp .shr t (.int .u64 (n : Int)) (.int kc (k : Int))).run Tryz.prog w = .ok (.int .u64 ((n / 2 ^ k : Nat) : Int)) w := by
  have h0 : ¬ ((k : Int) < 0) := by omega
  have hm : min k 64 = k := by omega
  have e : binOp .shr t (.int .u64 (n : Int)) (.int kc (k : Int)) = pure (.int .u64 ((n / 2 ^ k : Nat) : Int)) := by
    simp only [binOp, Op.shift, h0, if_false, Int.toNat_natCast, IntKind.bits, hm]
    congr 2
    rw [Int.fdiv_eq_ediv_of_nonneg _ (Int.le_of_lt (Int.pow_pos (by decide)))]
    simp
  rw [e]
  rfl
/-- Shifted to the left, as far as nothing goes over. -/
theorem q_shl (kc : IntKind) (k : Nat) (hk : k < 64) (t : TypeId) (n : Nat) (hn : n * 2 ^ k < 2 ^ 64) (w : World) : (binOp .shl t (.int .u64 (n : Int)) (.int kc (k : Int))).run Tryz.prog w = .ok (.int .u64 ((n * 2 ^ k : Nat) : Int)) w := by
  have h0 : ¬ ((k : Int) < 0) := by omega
  have hm : min k 64 = k := by omega
  have hw := q_wrap (n * 2 ^ k) hn
  have e : binOp .shl t (.int .u64 (n : Int)) (.int kc (k : Int)) = pure (.int .u64 ((n * 2 ^ k : Nat) : Int)) := by
    simp only [binOp, Op.shift, h0, if_false, Int.toNat_natCast, IntKind.bits, hm]
    congr 2
  rw [e]
  rfl
/-- The lowest bits. -/
theorem q_mask (k : Nat) (hk : k ≤ 64) (m : Int) (hm : m = ((2 ^ k - 1 : Nat) : Int)) (t : TypeId) (n : Nat) (hn : n < 2 ^ 64) (w : World) : (binOp .and t (.int .u64 (n : Int)) (.int .u64 m)).run Tryz.prog w = .ok (.int .u64 ((n % 2 ^ k : Nat) : Int)) w := by
  subst hm
  have hp : 2 ^ k ≤ 2 ^ 64 := Nat.pow_le_pow_right (by decide) hk
  have h := u64_and_nat n (2 ^ k - 1) hn (by have : 0 < 2 ^ k := Nat.pow_pos (by decide); omega)
  have e : binOp .and t (.int .u64 (n : Int)) (.int .u64 ((2 ^ k - 1 : Nat) : Int)) = pure (.int .u64 ((n % 2 ^ k : Nat) : Int)) := by
    simp only [binOp]
    rw [← Nat.and_two_pow_sub_one_eq_mod, ← h]
    rfl
  rw [e]
  rfl
/-- Parts that have no bit in common, put together. -/
theorem q_or (k : Nat) (t : TypeId) (n q : Nat) (hn : n < 2 ^ k) (hs : n + q * 2 ^ k < 2 ^ 64) (w : World) : (binOp .or t (.int .u64 (n : Int)) (.int .u64 ((q * 2 ^ k : Nat) : Int))).run Tryz.prog w = .ok (.int .u64 ((n + q * 2 ^ k : Nat) : Int)) w := by
  have h := u64_or_nat n (q * 2 ^ k) (by omega) (by omega)
  have e2 : n ||| q * 2 ^ k = n + q * 2 ^ k := by rw [Nat.or_comm, ← Nat.shiftLeft_eq, ← Nat.shiftLeft_add_eq_or_of_lt hn, Nat.add_comm]
  have e : binOp .or t (.int .u64 (n : Int)) (.int .u64 ((q * 2 ^ k : Nat) : Int)) = pure (.int .u64 ((n + q * 2 ^ k : Nat) : Int)) := by
    simp only [binOp]
    rw [← e2, ← h]
    rfl
  rw [e]
  rfl
/-- The walk's own form of these: what bits of two numbers are. -/
theorem bits_mask (k : Nat) (hk : k ≤ 64) (m : Int) (hm : m = ((2 ^ k - 1 : Nat) : Int)) (n : Nat) (hn : n < 2 ^ 64) : bits .and .u64 (n : Int) m = ((n % 2 ^ k : Nat) : Int) := by
  subst hm
  have hp : 2 ^ k ≤ 2 ^ 64 := Nat.pow_le_pow_right (by decide) hk
  have h := u64_and_nat n (2 ^ k - 1) hn (by have : 0 < 2 ^ k := Nat.pow_pos (by decide); omega)
  rw [← Nat.and_two_pow_sub_one_eq_mod, ← h]
theorem bits_or (k n q m : Nat) (hm : m = n + q * 2 ^ k) (hn : n < 2 ^ k) (hs : m < 2 ^ 64) : bits .or .u64 (n : Int) ((q * 2 ^ k : Nat) : Int) = (m : Int) := by
  subst hm
  have h := u64_or_nat n (q * 2 ^ k) (by omega) (by omega)
  have e2 : n ||| q * 2 ^ k = n + q * 2 ^ k := by rw [Nat.or_comm, ← Nat.shiftLeft_eq, ← Nat.shiftLeft_add_eq_or_of_lt hn, Nat.add_comm]
  rw [← e2, ← h]
theorem bits_or8 (k n q m : Nat) (hm : m = n + q * 2 ^ k) (hn : n < 2 ^ k) (hs : m < 256) : bits .or .u8 (n : Int) ((q * 2 ^ k : Nat) : Int) = (m : Int) := by
  subst hm
  have h := u8_or_nat n (q * 2 ^ k) (by omega) (by omega)
  have e2 : n ||| q * 2 ^ k = n + q * 2 ^ k := by rw [Nat.or_comm, ← Nat.shiftLeft_eq, ← Nat.shiftLeft_add_eq_or_of_lt hn, Nat.add_comm]
  rw [← e2, ← h]
theorem wrap8_mod (n : Nat) : IntKind.u8.wrap (n : Int) = ((n % 256 : Nat) : Int) := by
  rw [IntKind.wrap_u8]
  omega
end Go.Proofs.YtmnhpkdldeifgaaGreatDoor

namespace Go.Proofs.YtmnhpkdldeifgaaGreatDoor
set_option maxRecDepth 100000
open Go.RowKit

/-- A row of one's own is made, with room behind. -/
theorem made_own_room (w : World) (n cap : Nat) (hn : n ≤ cap) (hc : cap ≤ 10000000) :
    ∃ w', (Instr.makeSlice 25 (.int .i64 (n : Int)) (.int .i64 (cap : Int))).run Tryz.prog w = .ok (.slice (some ⟨w.heap.size, 0, none⟩) n cap) w' ∧
      w'.ownsRow w.heap.size 5 1 (.slice (some ⟨w.heap.size, 0, none⟩) n cap) n (bv (List.replicate n 0)) ∧ Below w.heap.size w w' := by
  obtain ⟨i0, hi0, hz0, hz1, hz2⟩ := info_parts byte_info
  have q := run_make (P := Tryz.prog) w 25 5 i0 (.int .u8 0) Tryz.underlying25 hi0 hz0 .i64 .i64 (n : Int) (cap : Int) (by omega) (by omega) (by rw [hz2]; omega) (by omega)
  simp only [Int.toNat_natCast, hz1, Nat.mul_one] at q
  have e : (madeCells (Value.int .u8 0).cells cap).toList = bv (List.replicate cap 0) := made_bytes cap
  refine ⟨_, q, ⟨by simp [bv_length], .inr ⟨w.heap.size, cap, _, rfl, Nat.le_refl _, heap_alloc_new w _, hn, by simp only [maxLen]; omega, by rw [size_madeCells, Nat.mul_one], ?_⟩⟩, (Below.refl _ _).alloc (Nat.le_refl _) _⟩
  rw [e, Nat.mul_one]
  simp only [bv, ← List.map_take, List.take_replicate, Nat.min_eq_left hn]

set_option maxHeartbeats 1000000 in
theorem nonce_any (n : Nat) (w : World) :
    Calls Tryz.prog 29 #[.int .u64 (n : Int)] w fun e w' => ∃ v', e = .returned v' ∧ BytesAt w' v' (nonceB n) ∧ Below w.heap.size w w' := by
  obtain ⟨w1, hr0, ho, hb⟩ := made_own_room w 4 12 (by decide) (by decide)
  have hr : (Instr.makeSlice 25 (.int .i64 4) (.int .i64 12)).run Tryz.prog w = .ok (.slice (some ⟨w.heap.size, 0, none⟩) 4 12) w1 := hr0
  clear hr0
  have CP := Lib.hid (put_num w.heap.size _ (List.replicate 4 0) n 8 w1 (by decide) (by decide) ho hb.size (by decide))
  have B1 := Lib.hid hb
  clear ho hb
  go_enter Tryz.func29, Tryz.ntmps29
  go_wp2_with fail
  refine CP.out.mono ?_
  rintro e w2 ⟨v, rfl, ho, hb⟩
  have Y2 := Lib.hid (BytesAt.of_own (l := nonceB n) (by rw [nonceB_length]; exact ho))
  have B2 := Lib.hid (B1.out.trans hb)
  clear ho hb
  go_wp2
  go_ret
  exact ⟨_, rfl, Y2.out, B2.out⟩

theorem pad_room (n : Nat) : (n + 15) / 16 * 16 = n + padN n := by rw [padN]; omega

set_option maxHeartbeats 1000000 in
theorem padded_any (A : Option Addr) (n cap : Nat) (l : List UInt8) (w : World) (hn : n ≤ 1000000) (h : BytesAt w (.slice A n cap) l) :
    Calls Tryz.prog 60 #[.slice A n cap] w fun e w' => ∃ v', e = .returned v' ∧ BytesAt w' v' (padB l) ∧ Below w.heap.size w w' := by
  obtain ⟨hz, -⟩ := h.size
  have H := Lib.hid h
  have hp := padN_lt n
  have e0 := pad_room n
  have r1 : IntKind.i64.wrap ((n : Int) + 16) = ((n + 16 : Nat) : Int) := by rw [IntWalk.i64_in _ (by omega)]; omega
  have r2 : IntKind.i64.wrap (((n + 16 : Nat) : Int) - 1) = ((n + 15 : Nat) : Int) := by rw [IntWalk.i64_in _ (by omega)]; omega
  obtain ⟨q, hq⟩ : ∃ q, q = (n + 15) / 16 := ⟨_, rfl⟩
  have r3 : ((n + 15 : Nat) : Int) / 16 = (q : Int) := by omega
  obtain ⟨m, hm⟩ : ∃ m, m = n + padN n := ⟨_, rfl⟩
  have rq : wrap64 (q : Int) = (q : Int) := IntWalk.wrap64_in _ (by omega)
  have r4 : wrap64 ((q : Int) * 16) = (m : Int) := by rw [IntWalk.wrap64_in _ (by omega)]; omega
  have hmle : m ≤ 1000015 := by omega
  have HM := Lib.hid hm
  have MN : Hid (n = min l.length m) := Lib.hid (by omega)
  have HZ := Lib.hid hz
  clear h hq hm e0 hp hz
  generalize n + 15 = n15 at *
  generalize n + 16 = n16 at *
  go_enter Tryz.func60, Tryz.ntmps60
  go_wp2_with (at_make; refine wpList_make_block rfl _ _ rfl m (congrArg (Value.int .i64) r4) (congrArg (Value.int .i64) r4) (by omega) ?_)
  intro w1 x1 b1 z1
  obtain ⟨w2, hr, x2, g2, z2⟩ := run_copy_in w1 3 w.heap.size m m 5 (List.replicate m 0) _ l x1 (by simp) (H.out.below b1) n MN.out
  have e2 : l.take m ++ (List.replicate m 0).drop n = padB l := by
    have h1 := HM.out
    have h2 := HZ.out
    rw [padB, List.take_of_length_le (by omega), List.drop_replicate, ← h2]
    congr 2
    omega
  rw [e2] at x2
  have Y2 := Lib.hid (block_bytes x2 (n := m) (cap := m) (by rw [padB_length, ← HZ.out]; exact HM.out) (Nat.le_refl _))
  have B2 := Lib.hid (Below.grown b1 g2 b1.size (fun k hk => by injection hk; omega))
  clear x1 b1 z1 x2 g2 z2 e2
  go_wp2
  go_ret
  exact ⟨_, rfl, Y2.out, B2.out⟩
end Go.Proofs.YtmnhpkdldeifgaaGreatDoor

namespace Go.Proofs.YtmnhpkdldeifgaaGreatDoor
set_option maxRecDepth 100000
open Go.RowKit

theorem and_split (k a b c d : Nat) (ha : a < 2 ^ k) (hc : c < 2 ^ k) : (2 ^ k * b + a) &&& (2 ^ k * d + c) = 2 ^ k * (b &&& d) + (a &&& c) := by
  apply Nat.eq_of_testBit_eq
  intro i
  have hac : a &&& c < 2 ^ k := Nat.lt_of_le_of_lt Nat.and_le_left ha
  rw [Nat.testBit_and, Nat.testBit_two_pow_mul_add _ ha, Nat.testBit_two_pow_mul_add _ hc, Nat.testBit_two_pow_mul_add _ hac]
  by_cases hi : i < k
  · simp [hi]
  · simp [hi]
theorem and_low (k x : Nat) (h : x < 2 ^ k) : x &&& (2 ^ k - 1) = x := by
  rw [Nat.and_two_pow_sub_one_eq_mod, Nat.mod_eq_of_lt h]
theorem and_m0 (a b c : Nat) (ha : a < 256) (hb : b < 256) (hc : c < 256) : (65536 * c + 256 * b + a) &&& 71777214294589695 = 65536 * c + a := by
  have h1 := and_split 8 a (256 * c + b) 255 280379743338240 (by omega) (by omega)
  have h2 := and_split 8 b c 0 1095233372415 (by omega) (by omega)
  have h3 := and_split 8 c 0 255 4278255360 (by omega) (by omega)
  have l1 := and_low 8 a (by omega)
  have l3 := and_low 8 c (by omega)
  rw [show (2 : Nat) ^ 8 - 1 = 255 from rfl] at l1 l3
  rw [show (2 : Nat) ^ 8 = 256 from rfl] at h1 h2 h3
  rw [l1] at h1
  rw [l3, Nat.zero_and] at h3
  rw [Nat.and_zero] at h2
  have e1 : 256 * 280379743338240 + 255 = 71777214294589695 := by decide
  have e2 : 256 * 1095233372415 + 0 = 280379743338240 := by decide
  have e3 : 256 * 4278255360 + 255 = 1095233372415 := by decide
  rw [e1] at h1
  rw [e2] at h2
  rw [e3] at h3
  have f3 : 256 * 0 + c = c := by omega
  rw [f3] at h3
  rw [h3] at h2
  rw [h2] at h1
  have f1 : 256 * (256 * c + b) + a = 65536 * c + 256 * b + a := by omega
  rw [f1] at h1
  rw [h1]
  omega
theorem and_m1 (a b : Nat) (ha : a < 65536) (hb : b < 65536) : (65536 * b + a) &&& 281470681808895 = a := by
  have h1 := and_split 16 a b 65535 4294901760 (by omega) (by omega)
  have h2 := and_split 16 b 0 0 65535 (by omega) (by omega)
  have l1 := and_low 16 a (by omega)
  rw [show (2 : Nat) ^ 16 - 1 = 65535 from rfl] at l1
  rw [show (2 : Nat) ^ 16 = 65536 from rfl] at h1 h2
  rw [l1] at h1
  rw [Nat.and_zero, Nat.zero_and] at h2
  have e1 : 65536 * 4294901760 + 65535 = 281470681808895 := by decide
  have e2 : 65536 * 65535 + 0 = 4294901760 := by decide
  rw [e1] at h1
  rw [e2] at h2
  have f2 : 65536 * 0 + b = b := by omega
  rw [f2] at h2
  rw [h2] at h1
  rw [h1]
  omega

/-- A small number's bytes, turned round. -/
def revN (n : Nat) : Nat := (n / 65536 * 256 + n / 256 % 256 * 65536 + n % 256 * 16777216) * 4294967296
theorem ofNat_same {a b : Nat} (h : a % 256 = b % 256) : UInt8.ofNat a = UInt8.ofNat b := by
  apply UInt8.toNat_inj.1
  simp only [UInt8.toNat_ofNat']
  exact h
theorem dv (X k q r : Nat) (h : X = k * q + r) (hr : r < k) : X / k = q := by
  subst h
  rw [Nat.mul_add_div (by omega), Nat.div_eq_of_lt hr, Nat.add_zero]
theorem rev_be (n : Nat) (h : n < 16777216) : be 8 (revN n) = lenB n := by
  rw [be_eq, lenB, lenTo]
  apply List.map_congr_left
  intro i hi
  rw [beAt]
  apply ofNat_same
  rw [Nat.mod_mod]
  have hi8 := List.mem_range.1 hi
  obtain ⟨a, ha⟩ : ∃ a, a = n % 256 := ⟨_, rfl⟩
  obtain ⟨b, hb⟩ : ∃ b, b = n / 256 % 256 := ⟨_, rfl⟩
  obtain ⟨c, hc⟩ : ∃ c, c = n / 65536 := ⟨_, rfl⟩
  have hR : revN n = (c * 256 + b * 65536 + a * 16777216) * 4294967296 := by rw [revN, ha, hb, hc]
  have en : n = 65536 * c + 256 * b + a := by omega
  have ka : a < 256 := by omega
  have kb : b < 256 := by omega
  have kc : c < 256 := by omega
  rw [hR, en]
  clear hR ha hb hc h en
  have en0 : (65536 * c + 256 * b + a) % 256 = a := by omega
  have en1 : (65536 * c + 256 * b + a) / 256 % 256 = b := by omega
  have en2 : (65536 * c + 256 * b + a) / 65536 % 256 = c := by omega
  have ez : 65536 * c + 256 * b + a < 16777216 := by omega
  have d0 := dv ((c * 256 + b * 65536 + a * 16777216) * 4294967296) (2 ^ 56) a ((c * 256 + b * 65536) * 4294967296) (by omega) (by omega)
  have d1 := dv ((c * 256 + b * 65536 + a * 16777216) * 4294967296) (2 ^ 48) (a * 256 + b) (c * 256 * 4294967296) (by omega) (by omega)
  have d2 := dv ((c * 256 + b * 65536 + a * 16777216) * 4294967296) (2 ^ 40) (a * 65536 + b * 256 + c) 0 (by omega) (by omega)
  have d3 := dv ((c * 256 + b * 65536 + a * 16777216) * 4294967296) (2 ^ 32) (a * 16777216 + b * 65536 + c * 256) 0 (by omega) (by omega)
  have dx : ∃ Y, (c * 256 + b * 65536 + a * 16777216) * 4294967296 = Y * 1099511627776 := ⟨a * 65536 + b * 256 + c, by omega⟩
  obtain ⟨X, hX⟩ : ∃ X, X = (c * 256 + b * 65536 + a * 16777216) * 4294967296 := ⟨_, rfl⟩
  rw [← hX] at d0 d1 d2 d3 dx ⊢
  clear hX
  obtain ⟨Y, hY⟩ := dx
  obtain ⟨n, hn⟩ : ∃ n, n = 65536 * c + 256 * b + a := ⟨_, rfl⟩
  rw [← hn] at en0 en1 en2 ez ⊢
  clear hn
  match i, hi8 with
  | 0, _ => show X / 2 ^ 56 % 256 = n / 1 % 256; omega
  | 1, _ => show X / 2 ^ 48 % 256 = n / 256 % 256; omega
  | 2, _ => show X / 2 ^ 40 % 256 = n / 65536 % 256; omega
  | 3, _ => show X / 2 ^ 32 % 256 = n / 16777216 % 256; omega
  | 4, _ => show X / 2 ^ 24 % 256 = n / 256 ^ 4 % 256; rw [Nat.div_eq_of_lt (show n < 256 ^ 4 by omega)]; omega
  | 5, _ => show X / 2 ^ 16 % 256 = n / 256 ^ 5 % 256; rw [Nat.div_eq_of_lt (show n < 256 ^ 5 by omega)]; omega
  | 6, _ => show X / 2 ^ 8 % 256 = n / 256 ^ 6 % 256; rw [Nat.div_eq_of_lt (show n < 256 ^ 6 by omega)]; omega
  | 7, _ => show X / 2 ^ 0 % 256 = n / 256 ^ 7 % 256; rw [Nat.div_eq_of_lt (show n < 256 ^ 7 by omega)]; omega

set_option maxHeartbeats 1000000 in
theorem rev_any (n : Nat) (h : n < 16777216) (w : World) :
    Calls Tryz.prog 77 #[.int .u64 (n : Int)] w fun e w' => e = .returned (.int .u64 (revN n : Int)) ∧ w' = w := by
  obtain ⟨a, ha⟩ : ∃ a, a = n % 256 := ⟨_, rfl⟩
  obtain ⟨b, hb⟩ : ∃ b, b = n / 256 % 256 := ⟨_, rfl⟩
  obtain ⟨c, hc⟩ : ∃ c, c = n / 65536 := ⟨_, rfl⟩
  have hR : revN n = (c * 256 + b * 65536 + a * 16777216) * 4294967296 := by rw [revN, ha, hb, hc]
  have en : n = 65536 * c + 256 * b + a := by omega
  have ka : a < 256 := by omega
  have kb : b < 256 := by omega
  have kc : c < 256 := by omega
  rw [hR]
  clear hR ha hb hc h
  obtain ⟨p, hp⟩ : ∃ p, p = 256 * c + b := ⟨_, rfl⟩
  have r1 : (n : Int) / 256 = (p : Int) := by omega
  have r2 : bits .and .u64 (p : Int) 71777214294589695 = (b : Int) := by
    have q := u64_and_nat p 71777214294589695 (by omega) (by decide)
    have q2 := and_m0 b c 0 kb kc (by decide)
    rw [show 65536 * 0 + 256 * c + b = p by omega] at q2
    rw [q2] at q
    simpa using q
  obtain ⟨s, hs⟩ : ∃ s, s = 65536 * c + a := ⟨_, rfl⟩
  have r3 : bits .and .u64 (n : Int) 71777214294589695 = (s : Int) := by
    have q := u64_and_nat n 71777214294589695 (by omega) (by decide)
    have q2 := and_m0 a b c ka kb kc
    rw [← en, ← hs] at q2
    rw [q2] at q
    exact q
  obtain ⟨s2, hs2⟩ : ∃ s2, s2 = s * 256 := ⟨_, rfl⟩
  have r4 : IntKind.u64.wrap ((s : Int) * 256) = (s2 : Int) := by rw [IntWalk.u64_in _ (by omega)]; omega
  obtain ⟨y, hy⟩ : ∃ y, y = b + s * 256 := ⟨_, rfl⟩
  have r5 : bits .or .u64 (b : Int) (s2 : Int) = (y : Int) := by
    rw [hs2]
    exact bits_or 8 b s y hy (by omega) (by omega)
  obtain ⟨y1, hy1⟩ : ∃ y1, y1 = c * 256 := ⟨_, rfl⟩
  have r6 : (y : Int) / 65536 = (y1 : Int) := by omega
  have r7 : bits .and .u64 (y1 : Int) 281470681808895 = (y1 : Int) := by
    have q := u64_and_nat y1 281470681808895 (by omega) (by decide)
    have q2 := and_m1 y1 0 (by omega) (by decide)
    rw [show 65536 * 0 + y1 = y1 by omega] at q2
    rw [q2] at q
    exact q
  obtain ⟨t, ht⟩ : ∃ t, t = a * 256 + b := ⟨_, rfl⟩
  have r8 : bits .and .u64 (y : Int) 281470681808895 = (t : Int) := by
    have q := u64_and_nat y 281470681808895 (by omega) (by decide)
    have q2 := and_m1 t y1 (by omega) (by omega)
    rw [show 65536 * y1 + t = y by omega] at q2
    rw [q2] at q
    exact q
  obtain ⟨t2, ht2⟩ : ∃ t2, t2 = t * 65536 := ⟨_, rfl⟩
  have r9 : IntKind.u64.wrap ((t : Int) * 65536) = (t2 : Int) := by rw [IntWalk.u64_in _ (by omega)]; omega
  obtain ⟨z, hz⟩ : ∃ z, z = y1 + t * 65536 := ⟨_, rfl⟩
  have r10 : bits .or .u64 (y1 : Int) (t2 : Int) = (z : Int) := by
    rw [ht2]
    exact bits_or 16 y1 t z hz (by omega) (by omega)
  have r11 : (z : Int) / 4294967296 = 0 := by omega
  obtain ⟨R, hR⟩ : ∃ R, R = (c * 256 + b * 65536 + a * 16777216) * 4294967296 := ⟨_, rfl⟩
  have r12 : IntKind.u64.wrap ((z : Int) * 4294967296) = (R : Int) := by rw [IntWalk.u64_in _ (by omega)]; omega
  have r13 : bits .or .u64 0 (R : Int) = (R : Int) := by
    have q := u64_or_nat 0 R (by decide) (by omega)
    rw [Nat.zero_or] at q
    exact q
  rw [← hR]
  clear hR hz ht2 ht hy1 hy hs2 hs hp en ka kb kc
  go_enter Tryz.func77, Tryz.ntmps77
  go_wp2
  go_ret
  exact ⟨rfl, rfl⟩

set_option maxHeartbeats 1000000 in
theorem length_any (A : Option Addr) (n cap : Nat) (hn : n ≤ 1000000) (w : World) :
    Calls Tryz.prog 61 #[.slice A n cap] w fun e w' => ∃ v', e = .returned v' ∧ BytesAt w' v' (lenB n) ∧ Below w.heap.size w w' := by
  have r1 : IntKind.u64.wrap (n : Int) = (n : Int) := by rw [IntWalk.u64_in _ (by omega)]
  have C := Lib.hid (rev_any n (by omega) w)
  have e := rev_be n (by omega)
  have CP := Lib.hid (put_num w.heap.size _ [] (revN n) 8 w (by decide) (by decide) (World.ownsRow_nil _ _ _ _) (Nat.le_refl _) (by decide))
  rw [List.length_nil, List.nil_append, e] at CP
  generalize revN n = R at *
  clear e
  go_enter Tryz.func61, Tryz.ntmps61
  go_wp2_with fail
  refine C.out.mono ?_
  rintro e w1 ⟨rfl, rfl⟩
  go_wp2_with fail
  refine CP.out.mono ?_
  rintro e w2 ⟨v, rfl, ho, hb⟩
  have Y2 := Lib.hid (BytesAt.of_own (l := lenB n) (by rw [lenB_length]; exact ho))
  have B2 := Lib.hid hb
  clear ho hb
  go_wp2
  go_ret
  exact ⟨_, rfl, Y2.out, B2.out⟩
end Go.Proofs.YtmnhpkdldeifgaaGreatDoor

namespace Go.Proofs.YtmnhpkdldeifgaaGreatDoor
set_option maxRecDepth 100000
open Go.RowKit

/-- Bytes copied into a block, from a place on. -/
theorem run_copy_at (w : World) (ty : TypeId) (g off n cap : Nat) (t : TypeId) (L : List UInt8) (src : Value) (l : List UInt8) (hg : Whole w g t (bv L).toArray) (hL : L.length = off + n) (hs : BytesAt w src l) (m : Nat) (hmn : m = min l.length n) :
    ∃ w', (Builtin.copy_ #[25, 25] ty #[.slice (some ⟨g, off, none⟩) n cap, src]).run Tryz.prog w = .ok (goInt (m : Int)) w' ∧ Whole w' g t (bv (L.take off ++ l.take n ++ L.drop (off + m))).toArray ∧ w.grownBy w' (some g) ∧ w'.heap.size = w.heap.size := by
  have bs : (Tryz.prog.info? 5).map (·.size) = some 1 := by kernel_rfl
  subst hmn
  obtain ⟨A, c, rfl, -, hc⟩ := hs
  by_cases h0 : min l.length n = 0
  · have q := run_copy_none (P := Tryz.prog) w 25 25 ty 5 (some ⟨g, off, none⟩) A n cap l.length c Tryz.underlying25 bs h0
    have e : L.take off ++ l.take n ++ L.drop (off + min l.length n) = L := by
      rw [h0]
      have : l.take n = [] := by
        apply List.eq_nil_of_length_eq_zero
        rw [List.length_take]
        omega
      rw [this, List.append_nil, Nat.add_zero, List.take_append_drop]
    refine ⟨w, ?_, by rw [e]; exact hg, grown_same w g, rfl⟩
    rw [h0]
    exact q
  · obtain ⟨ad, rfl, hcell⟩ := hc (by intro e; subst e; simp at h0)
    have hm : (bv (l.take n)).length = Nat.min l.length n := by rw [bv_length, List.length_take, Nat.min_comm]
    have q := run_copy_row (P := Tryz.prog) w 25 25 ty 5 g off n cap ad l.length c (bv L).toArray t (bv (l.take n)) Tryz.underlying25 bs hg hm (fun j v hj => by
      simp only [bv, List.getElem?_map, Option.map_eq_some_iff] at hj
      obtain ⟨x, hx, rfl⟩ := hj
      have hjn : j < n := by
        have := (List.getElem?_eq_some_iff.1 hx).1
        rw [List.length_take] at this
        omega
      rw [List.getElem?_take_of_lt hjn] at hx
      exact hcell j x hx) (by simp [bv_length]; omega) (bv_one _)
    rw [hm] at q
    refine ⟨_, q, ?_, grown_setRow w g _, by simp⟩
    have q2 := hg.setRow (cs := ((bv L).toArray.toList.take off ++ bv (l.take n) ++ (bv L).toArray.toList.drop (off + Nat.min l.length n)).toArray)
    have e : bv (L.take off ++ l.take n ++ L.drop (off + min l.length n)) = (bv L).toArray.toList.take off ++ bv (l.take n) ++ (bv L).toArray.toList.drop (off + Nat.min l.length n) := by
      rw [bv_append, bv_append]
      simp only [bv, List.map_drop, List.map_take]
    rw [e]
    exact q2

theorem parts4_at (w : World) (t : TypeId) (v0 v1 v2 v3 : Value) (l0 l1 l2 l3 : List UInt8) (h0 : BytesAt w v0 l0) (h1 : BytesAt w v1 l1) (h2 : BytesAt w v2 l2) (h3 : BytesAt w v3 l3) :
    PartsAt (w.alloc (.cells #[v0, v1, v2, v3] t)) w.heap.size [l0, l1, l2, l3] := by
  have b : Below w.heap.size w (w.alloc (.cells #[v0, v1, v2, v3] t)) := (Below.refl _ _).alloc (Nat.le_refl _) _
  have y := Whole.new w t #[v0, v1, v2, v3]
  generalize w.alloc (.cells #[v0, v1, v2, v3] t) = w' at *
  refine ⟨y.lt, fun k l hk => ?_⟩
  have c := y.at_ k
  have k0 := h0.below b
  have k1 := h1.below b
  have k2 := h2.below b
  have k3 := h3.below b
  match k, hk, c with
  | 0, hk, c =>
    obtain rfl : l0 = l := by simpa using hk
    obtain ⟨A, cap, rfl, -, -⟩ := id h0
    exact ⟨A, cap, c, k0⟩
  | 1, hk, c =>
    obtain rfl : l1 = l := by simpa using hk
    obtain ⟨A, cap, rfl, -, -⟩ := id h1
    exact ⟨A, cap, c, k1⟩
  | 2, hk, c =>
    obtain rfl : l2 = l := by simpa using hk
    obtain ⟨A, cap, rfl, -, -⟩ := id h2
    exact ⟨A, cap, c, k2⟩
  | 3, hk, c =>
    obtain rfl : l3 = l := by simpa using hk
    obtain ⟨A, cap, rfl, -, -⟩ := id h3
    exact ⟨A, cap, c, k3⟩
  | k + 4, hk, c => simp at hk
end Go.Proofs.YtmnhpkdldeifgaaGreatDoor
