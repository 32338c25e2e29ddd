/- Numbers of 64 bits as natural numbers: arrays of them by value, stored into their places; shifts, masks, parts put together. -/
import Derived.Test.YtemogdcjmehdcaaGenS
import Derived.Laws.BitsAllLaws
import Derived.IntWalk
namespace Go.Proofs.Ytemogdcjmehdcaa
set_option maxRecDepth 100000
open Go.RowKit

/-- Numbers as cells. -/
def uv (l : List Nat) : Array Value := (l.map fun (n : Nat) => Value.int .u64 (n : Int)).toArray
theorem uv_size (l : List Nat) : (uv l).size = l.length := by simp [uv]
theorem uv_at (l : List Nat) (i x : Nat) (h : l[i]? = some x) : (uv l)[i]? = some (.int .u64 (x : Int)) := by simp [uv, h]
theorem uv_set (l : List Nat) (i x : Nat) : (uv l).setIfInBounds i (.int .u64 (x : Int)) = uv (l.set i x) := by simp [uv, List.map_set]
theorem uv_one (l : List Nat) : (uv l).all (·.oneCell') = true := by
  simp only [uv, List.all_toArray, List.all_eq_true, List.mem_map]
  rintro u ⟨x, -, rfl⟩
  rfl
theorem store_q (w : World) (g i : Nat) (old : Value) (hc : w.cell? ⟨g, i, none⟩ = some old) (hf : w.frozen? ⟨g, i, none⟩ = false) (z : Int) : (storeCells ⟨g, i, none⟩ [.int .u64 z]).run Try.prog w = .ok () (w.setCell ⟨g, i, none⟩ (.int .u64 z)) := by
  go_simp
/-- A number stored into an array's place. -/
theorem wpList_put_q {ops : Array Oper} {rest : List Oper} {o : Oper} {a : Act} {w : World} {Q : Exit → Act → World → Prop} (hgd : o.guard = none) (x y : Operand) (ho : o.op = .store 22 x y)
    (g i : Nat) (hx : a.eval x = .pointer (some ⟨g, i, none⟩)) (z : Nat) (hy : a.eval y = .int .u64 (z : Int)) (t : TypeId) (l : List Nat) (hg : Whole w g t (uv l)) (hi : i < l.length)
    (h : ∀ w', w.grownBy w' (some g) → Whole w' g t (uv (l.set i z)) → w'.heap.size = w.heap.size → wpList Try.prog ops Q rest (a.put o.dst undef) w') : wpList Try.prog ops Q (o :: rest) a w := by
  refine wpList_plain hgd fun K hK => ?_
  have c1 : w.cell? ⟨g, i, none⟩ = some (.int .u64 ((l[i] : Nat) : Int)) := (hg.at_ i).trans (uv_at _ _ _ (List.getElem?_eq_getElem hi))
  have q := hg.stored i (.int .u64 (z : Int))
  rw [uv_set] at q
  have hh := hK _ _ (h _ (grown_store w g i (.int .u64 (z : Int))) q (by simp))
  have hz : (sizeOf 22).run Try.prog w = .ok 1 w := by kernel_rfl
  unfold Oper.wp execOp
  have hc : (Value.int .u64 (z : Int)).cells = #[.int .u64 (z : Int)] := rfl
  simp only [ho, hx, hy, Instr.storeAt, Instr.sureAddr, storeVar, hc, Sem.run_bind, Sem.run_pure, Result.andThen_ok, hz, List.size_toArray, List.length_cons, List.length_nil, ne_eq, not_true_eq_false, if_false, store_q w g i _ c1 (hg.free i), Oper.upon]
  exact hh

theorem q_wrap (n : Nat) (h : n < 2 ^ 64) : IntKind.u64.wrap (n : Int) = (n : Int) := by rw [IntWalk.u64_in _ (by omega)]
/-- Shifted to the right. -/
theorem q_shr (kc : IntKind) (k : Nat) (hk : k < 64) (t : TypeId) (n : Nat) (w : World) : (binOp .shr t (.int .u64 (n : Int)) (.int kc (k : Int))).run Try.prog w = .ok (.int .u64 ((n / 2 ^ k : Nat) : Int)) w := by
  have h0 : ¬ ((k : Int) < 0) := by omega
  have hm : min k 64 = k := by omega
  have e : binOp .shr t (.int .u64 (n : Int)) (.int kc (k : Int)) = pure (.int .u64 ((n / 2 ^ k : Nat) : Int)) := by
    simp only [binOp, Op.shift, h0, if_false, Int.toNat_natCast, IntKind.bits, hm]
    congr 2
    rw [Int.fdiv_eq_ediv_of_nonneg _ (Int.le_of_lt (Int.pow_pos (by decide)))]
    simp
  rw [e]
  rfl
/-- Shifted to the left, as far as nothing goes over. -/
theorem q_shl (kc : IntKind) (k : Nat) (hk : k < 64) (t : TypeId) (n : Nat) (hn : n * 2 ^ k < 2 ^ 64) (w : World) : (binOp .shl t (.int .u64 (n : Int)) (.int kc (k : Int))).run Try.prog w = .ok (.int .u64 ((n * 2 ^ k : Nat) : Int)) w := by
  have h0 : ¬ ((k : Int) < 0) := by omega
  have hm : min k 64 = k := by omega
  have hw := q_wrap (n * 2 ^ k) hn
  have e : binOp .shl t (.int .u64 (n : Int)) (.int kc (k : Int)) = pure (.int .u64 ((n * 2 ^ k : Nat) : Int)) := by
    simp only [binOp, Op.shift, h0, if_false, Int.toNat_natCast, IntKind.bits, hm]
    congr 2
  rw [e]
  rfl
/-- The lowest bits. -/
theorem q_mask (k : Nat) (hk : k ≤ 64) (m : Int) (hm : m = ((2 ^ k - 1 : Nat) : Int)) (t : TypeId) (n : Nat) (hn : n < 2 ^ 64) (w : World) : (binOp .and t (.int .u64 (n : Int)) (.int .u64 m)).run Try.prog w = .ok (.int .u64 ((n % 2 ^ k : Nat) : Int)) w := by
  subst hm
  have hp : 2 ^ k ≤ 2 ^ 64 := Nat.pow_le_pow_right (by decide) hk
  have h := u64_and_nat n (2 ^ k - 1) hn (by have : 0 < 2 ^ k := Nat.pow_pos (by decide); omega)
  have e : binOp .and t (.int .u64 (n : Int)) (.int .u64 ((2 ^ k - 1 : Nat) : Int)) = pure (.int .u64 ((n % 2 ^ k : Nat) : Int)) := by
    simp only [binOp]
    rw [← Nat.and_two_pow_sub_one_eq_mod, ← h]
    rfl
  rw [e]
  rfl
/-- Parts that have no bit in common, put together. -/
theorem q_or (k : Nat) (t : TypeId) (n q : Nat) (hn : n < 2 ^ k) (hs : n + q * 2 ^ k < 2 ^ 64) (w : World) : (binOp .or t (.int .u64 (n : Int)) (.int .u64 ((q * 2 ^ k : Nat) : Int))).run Try.prog w = .ok (.int .u64 ((n + q * 2 ^ k : Nat) : Int)) w := by
  have h := u64_or_nat n (q * 2 ^ k) (by omega) (by omega)
  have e2 : n ||| q * 2 ^ k = n + q * 2 ^ k := by rw [Nat.or_comm, ← Nat.shiftLeft_eq, ← Nat.shiftLeft_add_eq_or_of_lt hn, Nat.add_comm]
  have e : binOp .or t (.int .u64 (n : Int)) (.int .u64 ((q * 2 ^ k : Nat) : Int)) = pure (.int .u64 ((n + q * 2 ^ k : Nat) : Int)) := by
    simp only [binOp]
    rw [← e2, ← h]
    rfl
  rw [e]
  rfl
/-- The walk's own form of these: what bits of two numbers are. -/
theorem bits_mask (k : Nat) (hk : k ≤ 64) (m : Int) (hm : m = ((2 ^ k - 1 : Nat) : Int)) (n : Nat) (hn : n < 2 ^ 64) : bits .and .u64 (n : Int) m = ((n % 2 ^ k : Nat) : Int) := by
  subst hm
  have hp : 2 ^ k ≤ 2 ^ 64 := Nat.pow_le_pow_right (by decide) hk
  have h := u64_and_nat n (2 ^ k - 1) hn (by have : 0 < 2 ^ k := Nat.pow_pos (by decide); omega)
  rw [← Nat.and_two_pow_sub_one_eq_mod, ← h]
theorem bits_or (k n q m : Nat) (hm : m = n + q * 2 ^ k) (hn : n < 2 ^ k) (hs : m < 2 ^ 64) : bits .or .u64 (n : Int) ((q * 2 ^ k : Nat) : Int) = (m : Int) := by
  subst hm
  have h := u64_or_nat n (q * 2 ^ k) (by omega) (by omega)
  have e2 : n ||| q * 2 ^ k = n + q * 2 ^ k := by rw [Nat.or_comm, ← Nat.shiftLeft_eq, ← Nat.shiftLeft_add_eq_or_of_lt hn, Nat.add_comm]
  rw [← e2, ← h]
theorem bits_or8 (k n q m : Nat) (hm : m = n + q * 2 ^ k) (hn : n < 2 ^ k) (hs : m < 256) : bits .or .u8 (n : Int) ((q * 2 ^ k : Nat) : Int) = (m : Int) := by
  subst hm
  have h := u8_or_nat n (q * 2 ^ k) (by omega) (by omega)
  have e2 : n ||| q * 2 ^ k = n + q * 2 ^ k := by rw [Nat.or_comm, ← Nat.shiftLeft_eq, ← Nat.shiftLeft_add_eq_or_of_lt hn, Nat.add_comm]
  rw [← e2, ← h]
theorem wrap8_mod (n : Nat) : IntKind.u8.wrap (n : Int) = ((n % 256 : Nat) : Int) := by
  rw [IntKind.wrap_u8]
  omega
end Go.Proofs.Ytemogdcjmehdcaa
