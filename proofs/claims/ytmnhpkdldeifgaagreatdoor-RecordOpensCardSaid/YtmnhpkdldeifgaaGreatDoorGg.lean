/- Words of 32 bits as values, and what the operators of the language make of them. Words turned round to the right: package digest's and the document's. Plain mathematics of package digest: the block, what stands behind a text, the sum. It speaks of no program. Plain mathematics of package mac: a key made long, the tag; the chapter's example. It speaks of no program. Plain mathematics of package derive: Extract, Expand; the chapter's example. It speaks of no program. -/
import Derived.Test.YtmnhpkdldeifgaaGreatDoorGa
import Derived.Laws.BitsAllLaws
import Derived.IntWalk
namespace Go.Proofs.YtmnhpkdldeifgaaGreatDoor
set_option maxRecDepth 100000
open Go.RowKit

/-- A word as a value. -/
def wd (x : UInt32) : Value := .int .u32 (x.toNat : Int)

theorem wd_add (t : TypeId) (x y : UInt32) : binOp .add t (wd x) (wd y) = pure (wd (x + y)) := by
  simp only [wd, binOp, Op.intArith]
  simp [IntKind.wrap_u32]
theorem wd_xor (t : TypeId) (x y : UInt32) : binOp .xor t (wd x) (wd y) = pure (wd (x ^^^ y)) := by
  have h := u32_xor_nat x.toNat y.toNat x.toNat_lt y.toNat_lt
  simp only [wd, binOp, UInt32.toNat_xor, ← h]
  rfl
theorem wd_and (t : TypeId) (x y : UInt32) : binOp .and t (wd x) (wd y) = pure (wd (x &&& y)) := by
  have h := u32_and_nat x.toNat y.toNat x.toNat_lt y.toNat_lt
  simp only [wd, binOp, UInt32.toNat_and, ← h]
  rfl
theorem wd_or (t : TypeId) (x y : UInt32) : binOp .or t (wd x) (wd y) = pure (wd (x ||| y)) := by
  have h := u32_or_nat x.toNat y.toNat x.toNat_lt y.toNat_lt
  simp only [wd, binOp, UInt32.toNat_or, ← h]
  rfl
theorem wd_shr (t : TypeId) (x : UInt32) (k : Nat) (hk : k < 32) : binOp .shr t (wd x) (.int .u64 (k : Int)) = pure (wd (x >>> UInt32.ofNat k)) := by
  have h0 : ¬ ((k : Int) < 0) := by omega
  have hm : min k 32 = k := by omega
  have hm' : k % 4294967296 % 32 = k := by omega
  simp only [wd, binOp, Op.shift, h0, if_false, Int.toNat_natCast, IntKind.bits, hm, UInt32.toNat_shiftRight, UInt32.toNat_ofNat', hm', Nat.shiftRight_eq_div_pow]
  congr 2
  rw [Int.fdiv_eq_ediv_of_nonneg _ (Int.le_of_lt (Int.pow_pos (by decide)))]
  simp
theorem wd_shl (t : TypeId) (x : UInt32) (k : Nat) (hk : k < 32) : binOp .shl t (wd x) (.int .u64 (k : Int)) = pure (wd (x <<< UInt32.ofNat k)) := by
  have h0 : ¬ ((k : Int) < 0) := by omega
  have hm : min k 32 = k := by omega
  have hm' : k % 4294967296 % 32 = k := by omega
  simp only [wd, binOp, Op.shift, h0, if_false, Int.toNat_natCast, IntKind.bits, hm, UInt32.toNat_shiftLeft, UInt32.toNat_ofNat', hm', Nat.shiftLeft_eq, IntKind.wrap_u32]
  congr 2
theorem wd_not (x : UInt32) : Op.unary .xor (wd x) = pure (wd (~~~x)) := by
  have h := u32_xor_nat 4294967295 x.toNat (by decide) x.toNat_lt
  have e : ~~~x = 4294967295 ^^^ x := by
    apply UInt32.toBitVec_inj.1
    rw [UInt32.toBitVec_not, UInt32.toBitVec_xor, BitVec.xor_comm]
    exact BitVec.xor_allOnes.symm
  rw [e]
  simp only [wd, Op.unary, UInt32.toNat_xor]
  show Op.intBits .xor .u32 ((4294967295 : Nat) : Int) (x.toNat : Int) = _
  exact congrArg (fun z => (pure (Value.int .u32 z) : Sem Value)) h
theorem wd_mul (t : TypeId) (x : UInt32) (k : Nat) (hk : k < 4294967296) : binOp .mul t (wd x) (.int .u32 (k : Int)) = pure (wd (x * UInt32.ofNat k)) := by
  simp only [wd, binOp, Op.intArith]
  simp [IntKind.wrap_u32, Nat.mod_eq_of_lt hk]
theorem wd_quo (t : TypeId) (x : UInt32) (k : Nat) (hk : k < 32) (d : Int) (hd : d = ((2 ^ k : Nat) : Int)) : binOp .quo t (wd x) (.int .u32 d) = pure (wd (x >>> UInt32.ofNat k)) := by
  subst hd
  have hp : 0 < 2 ^ k := Nat.pow_pos (by decide)
  have h0 : ¬ (((2 ^ k : Nat) : Int) = 0) := by omega
  have hm' : k % 4294967296 % 32 = k := by omega
  have hlt := x.toNat_lt
  have hq : (((x.toNat : Int)).tdiv ((2 ^ k : Nat) : Int)) = ((x.toNat / 2 ^ k : Nat) : Int) := by rw [Int.tdiv_eq_ediv_of_nonneg (by omega)]; rfl
  have hle : x.toNat / 2 ^ k ≤ x.toNat := Nat.div_le_self _ _
  simp only [wd, binOp, Op.intDiv, h0, if_false, hq, UInt32.toNat_shiftRight, UInt32.toNat_ofNat', hm', Nat.shiftRight_eq_div_pow]
  have hq0 : (0 : Int) ≤ ((x.toNat / 2 ^ k : Nat) : Int) := Int.natCast_nonneg _
  rw [IntWalk.u32_in _ (by constructor; exact hq0; have := Int.ofNat_le.2 hle; omega)]
  simp
theorem wd_neq (t : TypeId) (x y : UInt32) : binOp .neq t (wd x) (wd y) = pure (.bool (x != y)) := by
  have h : (((x.toNat : Int)) != (y.toNat : Int)) = (x != y) := by
    rw [Bool.eq_iff_iff]
    simp only [bne_iff_ne, ne_eq, Int.natCast_inj, UInt32.toNat_inj]
  simp only [wd, binOp, Op.intCmp, h]
  simp
theorem wd_eql (t : TypeId) (x y : UInt32) : binOp .eql t (wd x) (wd y) = pure (.bool (x == y)) := by
  have h : (((x.toNat : Int)) == (y.toNat : Int)) = (x == y) := by
    rw [Bool.eq_iff_iff]
    simp only [beq_iff_eq, Int.natCast_inj, UInt32.toNat_inj]
  simp only [wd, binOp, Op.intCmp, h]
  simp
theorem byte_wd (c : UInt8) : Value.int .u32 (c.toNat : Int) = wd c.toUInt32 := by simp [wd]
theorem byte_wd' (c : UInt8) : Value.int .u32 ((c.toNat : Int) % 4294967296) = wd c.toUInt32 := by
  have := c.toNat_lt
  rw [Int.emod_eq_of_lt (by omega) (by omega)]
  exact byte_wd c
theorem wd_byte (x : UInt32) (w : World) : (convert 57 5 (wd x)).run Tryz.prog w = .ok (.int .u8 (x.toUInt8.toNat : Int)) w := by
  simp only [wd]
  go_simp
  rw [IntKind.wrap_u8]
theorem store_wd (w : World) (g i : Nat) (old : Value) (hc : w.cell? ⟨g, i, none⟩ = some old) (hf : w.frozen? ⟨g, i, none⟩ = false) (y : UInt32) : (storeCells ⟨g, i, none⟩ [wd y]).run Tryz.prog w = .ok () (w.setCell ⟨g, i, none⟩ (wd y)) := by
  unfold wd
  go_simp
theorem num_wd (k : Nat) (hk : k < 4294967296) : Value.int .u32 (k : Int) = wd (UInt32.ofNat k) := by simp [wd, Nat.mod_eq_of_lt hk]
theorem wd_inj {x y : UInt32} : wd x = wd y ↔ x = y := by
  constructor
  · intro h
    simp only [wd, Value.int.injEq, true_and] at h
    exact UInt32.toNat_inj.1 (by omega)
  · rintro rfl; rfl

/-- What a walk is handed: sums and the like of words. -/
theorem rules_w : (∀ t x y w, (binOp .add t (wd x) (wd y)).run Tryz.prog w = .ok (wd (x + y)) w) ∧ (∀ t x y w, (binOp .xor t (wd x) (wd y)).run Tryz.prog w = .ok (wd (x ^^^ y)) w) ∧
    (∀ t x y w, (binOp .and t (wd x) (wd y)).run Tryz.prog w = .ok (wd (x &&& y)) w) ∧ (∀ t x y w, (binOp .or t (wd x) (wd y)).run Tryz.prog w = .ok (wd (x ||| y)) w) ∧ (∀ x w, (Op.unary .xor (wd x)).run Tryz.prog w = .ok (wd (~~~x)) w) :=
  ⟨fun t x y w => by rw [wd_add]; rfl, fun t x y w => by rw [wd_xor]; rfl, fun t x y w => by rw [wd_and]; rfl, fun t x y w => by rw [wd_or]; rfl, fun x w => by rw [wd_not]; rfl⟩
theorem run_shr (k : Nat) (hk : k < 32) (d : Int) (hd : d = (k : Int)) (t : TypeId) (x : UInt32) (w : World) : (binOp .shr t (wd x) (.int .u64 d)).run Tryz.prog w = .ok (wd (x >>> UInt32.ofNat k)) w := by
  subst hd
  rw [wd_shr t x k hk]
  rfl
theorem run_shl (k : Nat) (hk : k < 32) (d : Int) (hd : d = (k : Int)) (t : TypeId) (x : UInt32) (w : World) : (binOp .shl t (wd x) (.int .u64 d)).run Tryz.prog w = .ok (wd (x <<< UInt32.ofNat k)) w := by
  subst hd
  rw [wd_shl t x k hk]
  rfl
theorem run_quo (k : Nat) (hk : k < 32) (d : Int) (hd : d = ((2 ^ k : Nat) : Int)) (t : TypeId) (x : UInt32) (w : World) : (binOp .quo t (wd x) (.int .u32 d)).run Tryz.prog w = .ok (wd (x >>> UInt32.ofNat k)) w := by
  rw [wd_quo t x k hk d hd]
  rfl
theorem run_mul (k : Nat) (hk : k < 4294967296) (d : Int) (hd : d = (k : Int)) (t : TypeId) (x : UInt32) (w : World) : (binOp .mul t (wd x) (.int .u32 d)).run Tryz.prog w = .ok (wd (x * UInt32.ofNat k)) w := by
  subst hd
  rw [wd_mul t x k hk]
  rfl
theorem run_eql (t : TypeId) (x y : UInt32) (w : World) : (binOp .eql t (wd x) (wd y)).run Tryz.prog w = .ok (.bool (x == y)) w := by
  rw [wd_eql]
  rfl
theorem run_neq (t : TypeId) (x y : UInt32) (w : World) : (binOp .neq t (wd x) (wd y)).run Tryz.prog w = .ok (.bool (x != y)) w := by
  rw [wd_neq]
  rfl

/-- Words as cells. -/
def wv (l : List UInt32) : Array Value := (l.map wd).toArray
theorem wv_size (l : List UInt32) : (wv l).size = l.length := by simp [wv]
theorem wv_at (l : List UInt32) (i : Nat) (x : UInt32) (h : l[i]? = some x) : (wv l)[i]? = some (wd x) := by simp [wv, h]
theorem wv_set (l : List UInt32) (i : Nat) (x : UInt32) : (wv l).setIfInBounds i (wd x) = wv (l.set i x) := by simp [wv, List.map_set]
theorem wv_one (l : List UInt32) : (wv l).all (·.oneCell') = true := by
  simp only [wv, Array.all_eq_true_iff_forall_mem]
  intro v hv
  simp at hv
  obtain ⟨x, _, rfl⟩ := hv
  rfl
end Go.Proofs.YtmnhpkdldeifgaaGreatDoor

namespace Go.Proofs.YtmnhpkdldeifgaaGreatDoor
set_option maxRecDepth 100000
open Go.RowKit

/-- A word turned round to the right. -/
def rotr (x : UInt32) (k : Nat) : UInt32 := (x >>> UInt32.ofNat k) ||| (x <<< UInt32.ofNat (32 - k))

theorem right_2 (x : UInt32) (w : World) : Calls Tryz.prog 126 #[wd x, .int .i64 2] w fun e w' => e = .returned (wd (rotr x 2)) ∧ w = w' := by
  obtain ⟨-, -, -, r4, -⟩ := rules_w
  have s1 := run_shl 30 (by decide) 30 rfl
  have s2 := run_shr 2 (by decide) 2 rfl
  have hb : bits .and .u64 (IntKind.u64.wrap (-2)) 31 = 30 := by decide
  go_enter Tryz.func126, Tryz.ntmps126
  go_wp2
  go_ret
  exact ⟨congrArg (fun z => Ending.returned (wd z)) (UInt32.or_comm _ _), rfl⟩
theorem right_6 (x : UInt32) (w : World) : Calls Tryz.prog 126 #[wd x, .int .i64 6] w fun e w' => e = .returned (wd (rotr x 6)) ∧ w = w' := by
  obtain ⟨-, -, -, r4, -⟩ := rules_w
  have s1 := run_shl 26 (by decide) 26 rfl
  have s2 := run_shr 6 (by decide) 6 rfl
  have hb : bits .and .u64 (IntKind.u64.wrap (-6)) 31 = 26 := by decide
  go_enter Tryz.func126, Tryz.ntmps126
  go_wp2
  go_ret
  exact ⟨congrArg (fun z => Ending.returned (wd z)) (UInt32.or_comm _ _), rfl⟩
theorem right_7 (x : UInt32) (w : World) : Calls Tryz.prog 126 #[wd x, .int .i64 7] w fun e w' => e = .returned (wd (rotr x 7)) ∧ w = w' := by
  obtain ⟨-, -, -, r4, -⟩ := rules_w
  have s1 := run_shl 25 (by decide) 25 rfl
  have s2 := run_shr 7 (by decide) 7 rfl
  have hb : bits .and .u64 (IntKind.u64.wrap (-7)) 31 = 25 := by decide
  go_enter Tryz.func126, Tryz.ntmps126
  go_wp2
  go_ret
  exact ⟨congrArg (fun z => Ending.returned (wd z)) (UInt32.or_comm _ _), rfl⟩
theorem right_11 (x : UInt32) (w : World) : Calls Tryz.prog 126 #[wd x, .int .i64 11] w fun e w' => e = .returned (wd (rotr x 11)) ∧ w = w' := by
  obtain ⟨-, -, -, r4, -⟩ := rules_w
  have s1 := run_shl 21 (by decide) 21 rfl
  have s2 := run_shr 11 (by decide) 11 rfl
  have hb : bits .and .u64 (IntKind.u64.wrap (-11)) 31 = 21 := by decide
  go_enter Tryz.func126, Tryz.ntmps126
  go_wp2
  go_ret
  exact ⟨congrArg (fun z => Ending.returned (wd z)) (UInt32.or_comm _ _), rfl⟩
theorem right_13 (x : UInt32) (w : World) : Calls Tryz.prog 126 #[wd x, .int .i64 13] w fun e w' => e = .returned (wd (rotr x 13)) ∧ w = w' := by
  obtain ⟨-, -, -, r4, -⟩ := rules_w
  have s1 := run_shl 19 (by decide) 19 rfl
  have s2 := run_shr 13 (by decide) 13 rfl
  have hb : bits .and .u64 (IntKind.u64.wrap (-13)) 31 = 19 := by decide
  go_enter Tryz.func126, Tryz.ntmps126
  go_wp2
  go_ret
  exact ⟨congrArg (fun z => Ending.returned (wd z)) (UInt32.or_comm _ _), rfl⟩
theorem right_17 (x : UInt32) (w : World) : Calls Tryz.prog 126 #[wd x, .int .i64 17] w fun e w' => e = .returned (wd (rotr x 17)) ∧ w = w' := by
  obtain ⟨-, -, -, r4, -⟩ := rules_w
  have s1 := run_shl 15 (by decide) 15 rfl
  have s2 := run_shr 17 (by decide) 17 rfl
  have hb : bits .and .u64 (IntKind.u64.wrap (-17)) 31 = 15 := by decide
  go_enter Tryz.func126, Tryz.ntmps126
  go_wp2
  go_ret
  exact ⟨congrArg (fun z => Ending.returned (wd z)) (UInt32.or_comm _ _), rfl⟩
theorem right_18 (x : UInt32) (w : World) : Calls Tryz.prog 126 #[wd x, .int .i64 18] w fun e w' => e = .returned (wd (rotr x 18)) ∧ w = w' := by
  obtain ⟨-, -, -, r4, -⟩ := rules_w
  have s1 := run_shl 14 (by decide) 14 rfl
  have s2 := run_shr 18 (by decide) 18 rfl
  have hb : bits .and .u64 (IntKind.u64.wrap (-18)) 31 = 14 := by decide
  go_enter Tryz.func126, Tryz.ntmps126
  go_wp2
  go_ret
  exact ⟨congrArg (fun z => Ending.returned (wd z)) (UInt32.or_comm _ _), rfl⟩
theorem right_19 (x : UInt32) (w : World) : Calls Tryz.prog 126 #[wd x, .int .i64 19] w fun e w' => e = .returned (wd (rotr x 19)) ∧ w = w' := by
  obtain ⟨-, -, -, r4, -⟩ := rules_w
  have s1 := run_shl 13 (by decide) 13 rfl
  have s2 := run_shr 19 (by decide) 19 rfl
  have hb : bits .and .u64 (IntKind.u64.wrap (-19)) 31 = 13 := by decide
  go_enter Tryz.func126, Tryz.ntmps126
  go_wp2
  go_ret
  exact ⟨congrArg (fun z => Ending.returned (wd z)) (UInt32.or_comm _ _), rfl⟩
theorem right_22 (x : UInt32) (w : World) : Calls Tryz.prog 126 #[wd x, .int .i64 22] w fun e w' => e = .returned (wd (rotr x 22)) ∧ w = w' := by
  obtain ⟨-, -, -, r4, -⟩ := rules_w
  have s1 := run_shl 10 (by decide) 10 rfl
  have s2 := run_shr 22 (by decide) 22 rfl
  have hb : bits .and .u64 (IntKind.u64.wrap (-22)) 31 = 10 := by decide
  go_enter Tryz.func126, Tryz.ntmps126
  go_wp2
  go_ret
  exact ⟨congrArg (fun z => Ending.returned (wd z)) (UInt32.or_comm _ _), rfl⟩
theorem right_25 (x : UInt32) (w : World) : Calls Tryz.prog 126 #[wd x, .int .i64 25] w fun e w' => e = .returned (wd (rotr x 25)) ∧ w = w' := by
  obtain ⟨-, -, -, r4, -⟩ := rules_w
  have s1 := run_shl 7 (by decide) 7 rfl
  have s2 := run_shr 25 (by decide) 25 rfl
  have hb : bits .and .u64 (IntKind.u64.wrap (-25)) 31 = 7 := by decide
  go_enter Tryz.func126, Tryz.ntmps126
  go_wp2
  go_ret
  exact ⟨congrArg (fun z => Ending.returned (wd z)) (UInt32.or_comm _ _), rfl⟩
theorem refRight_2 (x : UInt32) (w : World) : Calls Tryz.prog 111 #[wd x, .int .u64 2] w fun e w' => e = .returned (wd (rotr x 2)) ∧ w = w' := by
  obtain ⟨-, -, -, r4, -⟩ := rules_w
  have s1 := run_shl 30 (by decide) 30 rfl
  have s2 := run_shr 2 (by decide) 2 rfl
  go_enter Tryz.func111, Tryz.ntmps111
  go_wp2
  go_ret
  exact ⟨rfl, rfl⟩
theorem refRight_6 (x : UInt32) (w : World) : Calls Tryz.prog 111 #[wd x, .int .u64 6] w fun e w' => e = .returned (wd (rotr x 6)) ∧ w = w' := by
  obtain ⟨-, -, -, r4, -⟩ := rules_w
  have s1 := run_shl 26 (by decide) 26 rfl
  have s2 := run_shr 6 (by decide) 6 rfl
  go_enter Tryz.func111, Tryz.ntmps111
  go_wp2
  go_ret
  exact ⟨rfl, rfl⟩
theorem refRight_7 (x : UInt32) (w : World) : Calls Tryz.prog 111 #[wd x, .int .u64 7] w fun e w' => e = .returned (wd (rotr x 7)) ∧ w = w' := by
  obtain ⟨-, -, -, r4, -⟩ := rules_w
  have s1 := run_shl 25 (by decide) 25 rfl
  have s2 := run_shr 7 (by decide) 7 rfl
  go_enter Tryz.func111, Tryz.ntmps111
  go_wp2
  go_ret
  exact ⟨rfl, rfl⟩
theorem refRight_11 (x : UInt32) (w : World) : Calls Tryz.prog 111 #[wd x, .int .u64 11] w fun e w' => e = .returned (wd (rotr x 11)) ∧ w = w' := by
  obtain ⟨-, -, -, r4, -⟩ := rules_w
  have s1 := run_shl 21 (by decide) 21 rfl
  have s2 := run_shr 11 (by decide) 11 rfl
  go_enter Tryz.func111, Tryz.ntmps111
  go_wp2
  go_ret
  exact ⟨rfl, rfl⟩
theorem refRight_13 (x : UInt32) (w : World) : Calls Tryz.prog 111 #[wd x, .int .u64 13] w fun e w' => e = .returned (wd (rotr x 13)) ∧ w = w' := by
  obtain ⟨-, -, -, r4, -⟩ := rules_w
  have s1 := run_shl 19 (by decide) 19 rfl
  have s2 := run_shr 13 (by decide) 13 rfl
  go_enter Tryz.func111, Tryz.ntmps111
  go_wp2
  go_ret
  exact ⟨rfl, rfl⟩
theorem refRight_17 (x : UInt32) (w : World) : Calls Tryz.prog 111 #[wd x, .int .u64 17] w fun e w' => e = .returned (wd (rotr x 17)) ∧ w = w' := by
  obtain ⟨-, -, -, r4, -⟩ := rules_w
  have s1 := run_shl 15 (by decide) 15 rfl
  have s2 := run_shr 17 (by decide) 17 rfl
  go_enter Tryz.func111, Tryz.ntmps111
  go_wp2
  go_ret
  exact ⟨rfl, rfl⟩
theorem refRight_18 (x : UInt32) (w : World) : Calls Tryz.prog 111 #[wd x, .int .u64 18] w fun e w' => e = .returned (wd (rotr x 18)) ∧ w = w' := by
  obtain ⟨-, -, -, r4, -⟩ := rules_w
  have s1 := run_shl 14 (by decide) 14 rfl
  have s2 := run_shr 18 (by decide) 18 rfl
  go_enter Tryz.func111, Tryz.ntmps111
  go_wp2
  go_ret
  exact ⟨rfl, rfl⟩
theorem refRight_19 (x : UInt32) (w : World) : Calls Tryz.prog 111 #[wd x, .int .u64 19] w fun e w' => e = .returned (wd (rotr x 19)) ∧ w = w' := by
  obtain ⟨-, -, -, r4, -⟩ := rules_w
  have s1 := run_shl 13 (by decide) 13 rfl
  have s2 := run_shr 19 (by decide) 19 rfl
  go_enter Tryz.func111, Tryz.ntmps111
  go_wp2
  go_ret
  exact ⟨rfl, rfl⟩
theorem refRight_22 (x : UInt32) (w : World) : Calls Tryz.prog 111 #[wd x, .int .u64 22] w fun e w' => e = .returned (wd (rotr x 22)) ∧ w = w' := by
  obtain ⟨-, -, -, r4, -⟩ := rules_w
  have s1 := run_shl 10 (by decide) 10 rfl
  have s2 := run_shr 22 (by decide) 22 rfl
  go_enter Tryz.func111, Tryz.ntmps111
  go_wp2
  go_ret
  exact ⟨rfl, rfl⟩
theorem refRight_25 (x : UInt32) (w : World) : Calls Tryz.prog 111 #[wd x, .int .u64 25] w fun e w' => e = .returned (wd (rotr x 25)) ∧ w = w' := by
  obtain ⟨-, -, -, r4, -⟩ := rules_w
  have s1 := run_shl 7 (by decide) 7 rfl
  have s2 := run_shr 25 (by decide) 25 rfl
  go_enter Tryz.func111, Tryz.ntmps111
  go_wp2
  go_ret
  exact ⟨rfl, rfl⟩
end Go.Proofs.YtmnhpkdldeifgaaGreatDoor

namespace Go.Proofs.YtmnhpkdldeifgaaGreatDoor
set_option maxRecDepth 100000

/-- k0 to k63. -/
def kt : List UInt32 := [1116352408, 1899447441, 3049323471, 3921009573, 961987163, 1508970993, 2453635748, 2870763221, 3624381080, 310598401, 607225278, 1426881987, 1925078388, 2162078206, 2614888103, 3248222580, 3835390401, 4022224774, 264347078, 604807628, 770255983, 1249150122, 1555081692, 1996064986, 2554220882, 2821834349, 2952996808, 3210313671, 3336571891, 3584528711, 113926993, 338241895, 666307205, 773529912, 1294757372, 1396182291, 1695183700, 1986661051, 2177026350, 2456956037, 2730485921, 2820302411, 3259730800, 3345764771, 3516065817, 3600352804, 4094571909, 275423344, 430227734, 506948616, 659060556, 883997877, 958139571, 1322822218, 1537002063, 1747873779, 1955562222, 2024104815, 2227730452, 2361852424, 2428436474, 2756734187, 3204031479, 3329325298]
def start : List UInt32 := [1779033703, 3144134277, 1013904242, 2773480762, 1359893119, 2600822924, 528734635, 1541459225]

/-- The next word of w. -/
def nextW (l : List UInt32) : UInt32 :=
  l.getD (l.length - 16) 0 + l.getD (l.length - 7) 0 + (rotr (l.getD (l.length - 15) 0) 7 ^^^ rotr (l.getD (l.length - 15) 0) 18 ^^^ (l.getD (l.length - 15) 0) >>> 3) + (rotr (l.getD (l.length - 2) 0) 17 ^^^ rotr (l.getD (l.length - 2) 0) 19 ^^^ (l.getD (l.length - 2) 0) >>> 10)
def schedN (b : List UInt32) : Nat → List UInt32
  | 0 => b
  | n + 1 => schedN b n ++ [nextW (schedN b n)]
theorem schedN_length (b : List UInt32) (n : Nat) : (schedN b n).length = b.length + n := by
  induction n with
  | zero => rfl
  | succ n ih => simp [schedN, ih]; omega

def tX (k w e f g h : UInt32) : UInt32 := h + (rotr e 6 ^^^ rotr e 11 ^^^ rotr e 25) + (e &&& f ^^^ ~~~e &&& g) + k + w
def tY (a b c : UInt32) : UInt32 := (rotr a 2 ^^^ rotr a 13 ^^^ rotr a 22) + (a &&& b ^^^ a &&& c ^^^ b &&& c)
/-- Once round. -/
def rnd (k w : UInt32) : List UInt32 → List UInt32
  | [a, b, c, d, e, f, g, h] => [tX k w e f g h + tY a b c, a, b, c, d + tX k w e f g h, e, f, g]
  | s => s
def rounds (W s : List UInt32) : Nat → List UInt32
  | 0 => s
  | t + 1 => rnd (kt.getD t 0) (W.getD t 0) (rounds W s t)
theorem rnd_length (k w : UInt32) (s : List UInt32) : (rnd k w s).length = s.length := by
  unfold rnd
  split <;> simp
theorem rounds_length (W s : List UInt32) (t : Nat) : (rounds W s t).length = s.length := by
  induction t with
  | zero => rfl
  | succ t ih => simp [rounds, rnd_length, ih]

/-- Bytes, the highest first, as a word. -/
def word4 (l : List UInt8) : UInt32 := l.foldl (fun a c => a <<< 8 ||| c.toUInt32) 0
def words16 (l : List UInt8) : List UInt32 := (List.range 16).map fun j => word4 ((l.drop (4 * j)).take 4)
theorem words16_length (l : List UInt8) : (words16 l).length = 16 := by simp [words16]
def wordsOf (l : List UInt8) : List UInt32 := schedN (words16 l) 48
theorem wordsOf_length (l : List UInt8) : (wordsOf l).length = 64 := by rw [wordsOf, schedN_length, words16_length]
def addW (s t : List UInt32) : List UInt32 := List.zipWith (· + ·) s t
/-- What the state becomes by a block. -/
def blockS (s : List UInt32) (l : List UInt8) : List UInt32 := addW s (rounds (wordsOf l) s 64)
theorem blockS_length (s : List UInt32) (l : List UInt8) (h : s.length = 8) : (blockS s l).length = 8 := by simp [blockS, addW, rounds_length, h]
/-- By n blocks, one behind the other. -/
def blocks (s : List UInt32) (l : List UInt8) : Nat → List UInt32
  | 0 => s
  | n + 1 => blockS (blocks s l n) ((l.drop (64 * n)).take 64)
theorem blocks_length (s : List UInt32) (l : List UInt8) (n : Nat) (h : s.length = 8) : (blocks s l n).length = 8 := by
  induction n with
  | zero => exact h
  | succ n ih => exact blockS_length _ _ ih
theorem blocks_left (s : List UInt32) (a b : List UInt8) (m n : Nat) (ha : a.length = 64 * m) (hn : n ≤ m) : blocks s (a ++ b) n = blocks s a n := by
  induction n with
  | zero => rfl
  | succ n ih =>
    rw [blocks, blocks, ih (by omega), List.drop_append_of_le_length (by omega), List.take_append_of_le_length (by simp; omega)]
theorem blocks_add (s : List UInt32) (a b : List UInt8) (m n : Nat) (ha : a.length = 64 * m) : blocks s (a ++ b) (m + n) = blocks (blocks s a m) b n := by
  induction n with
  | zero => exact blocks_left s a b m m ha (Nat.le_refl _)
  | succ n ih =>
    rw [← Nat.add_assoc, blocks, blocks, ih]
    have e : 64 * (m + n) = a.length + 64 * n := by omega
    rw [e, List.drop_append, List.drop_eq_nil_of_le (by omega), List.nil_append, Nat.add_sub_cancel_left]

/-- Eight bytes, the highest first. -/
def be8 (x : Nat) : List UInt8 := (List.range 8).map fun i => UInt8.ofNat (x / 256 ^ (7 - i))
theorem be8_length (x : Nat) : (be8 x).length = 8 := by simp [be8]
def zerosFor (n : Nat) : Nat := (128 - (n % 64 + 9)) % 64
/-- What stands behind n bytes. -/
def padL (n : Nat) : List UInt8 := 128 :: (List.replicate (zerosFor n) 0 ++ be8 (n * 8))
theorem padL_length (n : Nat) : (padL n).length = 9 + zerosFor n := by simp [padL, be8_length]; omega
theorem padL_whole (n : Nat) : (n + (padL n).length) % 64 = 0 := by rw [padL_length, zerosFor]; omega
theorem padL_most (n : Nat) : 9 ≤ (padL n).length ∧ (padL n).length ≤ 72 := by rw [padL_length, zerosFor]; omega
/-- A word's four bytes, the highest first. -/
def bytes4 (x : UInt32) : List UInt8 := [(x >>> 24).toUInt8, (x >>> 16).toUInt8, (x >>> 8).toUInt8, x.toUInt8]
def stBytes (s : List UInt32) : List UInt8 := s.flatMap bytes4
theorem stBytes_length (s : List UInt32) : (stBytes s).length = 4 * s.length := by
  induction s with
  | nil => rfl
  | cons x s ih =>
    have e : stBytes (x :: s) = bytes4 x ++ stBytes s := rfl
    rw [e, List.length_append, ih]
    simp [bytes4]
    omega
def allOf (l : List UInt8) : List UInt8 := l ++ padL l.length
theorem allOf_length (l : List UInt8) : (allOf l).length = l.length + (padL l.length).length := by simp [allOf]
def sumS (l : List UInt8) : List UInt32 := blocks start (allOf l) ((allOf l).length / 64)
theorem sumS_length (l : List UInt8) : (sumS l).length = 8 := blocks_length _ _ _ rfl
/-- The sum. -/
def sumL (l : List UInt8) : List UInt8 := stBytes (sumS l)
theorem sumL_length (l : List UInt8) : (sumL l).length = 32 := by rw [sumL, stBytes_length, sumS_length]
/-- Bytes, the highest first, as a number of 64 bits. -/
def word8 (l : List UInt8) : UInt64 := l.foldl (fun a c => a <<< 8 ||| c.toUInt64) 0
def idL (l : List UInt8) : UInt64 := word8 ((sumL l).take 8)
end Go.Proofs.YtmnhpkdldeifgaaGreatDoor

namespace Go.Proofs.YtmnhpkdldeifgaaGreatDoor
set_option maxRecDepth 100000

/-- A key made 64 bytes. -/
def baseL (k : List UInt8) : List UInt8 := if k.length ≤ 64 then k else sumL k
def keyL (k : List UInt8) : List UInt8 := baseL k ++ List.replicate (64 - (baseL k).length) 0
theorem baseL_length (k : List UInt8) : (baseL k).length ≤ 64 := by
  unfold baseL
  split
  · assumption
  · rw [sumL_length]; decide
theorem keyL_length (k : List UInt8) : (keyL k).length = 64 := by
  have := baseL_length k
  simp [keyL]
  omega
def xorB (c : UInt8) (l : List UInt8) : List UInt8 := l.map (· ^^^ c)
theorem xorB_length (c : UInt8) (l : List UInt8) : (xorB c l).length = l.length := by simp [xorB]
/-- The tag. -/
def macL (k m : List UInt8) : List UInt8 := sumL (xorB 92 (keyL k) ++ sumL (xorB 54 (keyL k) ++ m))
theorem macL_length (k m : List UInt8) : (macL k m).length = 32 := sumL_length _
theorem macL_key (k k' m : List UInt8) (h : keyL k = keyL k') : macL k m = macL k' m := by rw [macL, macL, h]
theorem keyL_keyL (k : List UInt8) : keyL (keyL k) = keyL k := by
  have h : baseL (keyL k) = keyL k := by
    rw [baseL, if_pos (by rw [keyL_length]; exact Nat.le_refl _)]
  rw [keyL, h, keyL_length]
  simp
theorem keyL_zero (k : List UInt8) (h : k.length ≤ 63) : keyL (k ++ [0]) = keyL k := by
  have h1 : baseL (k ++ [0]) = k ++ [0] := by rw [baseL, if_pos (by simp; omega)]
  have h2 : baseL k = k := by rw [baseL, if_pos (by omega)]
  have e : 64 - k.length = (64 - (k ++ [0]).length) + 1 := by simp; omega
  rw [keyL, keyL, h1, h2, e, List.replicate_succ]
  simp
end Go.Proofs.YtmnhpkdldeifgaaGreatDoor

namespace Go.Proofs.YtmnhpkdldeifgaaGreatDoor
set_option maxRecDepth 100000

def extractL (salt secret : List UInt8) : List UInt8 := macL (if salt.length = 0 then List.replicate 32 0 else salt) secret
theorem extractL_length (a b : List UInt8) : (extractL a b).length = 32 := macL_length _ _
/-- t(i). -/
def exT (key info : List UInt8) : Nat → List UInt8
  | 0 => []
  | i + 1 => macL key (exT key info i ++ info ++ [UInt8.ofNat (i + 1)])
/-- t(1) to t(i), one behind the other. -/
def exOut (key info : List UInt8) : Nat → List UInt8
  | 0 => []
  | i + 1 => exOut key info i ++ exT key info (i + 1)
theorem exT_length (key info : List UInt8) (i : Nat) : (exT key info (i + 1)).length = 32 := macL_length _ _
theorem exT_most (key info : List UInt8) (i : Nat) : (exT key info i).length ≤ 32 := by
  cases i with
  | zero => simp [exT]
  | succ i => rw [exT_length]; exact Nat.le_refl _
theorem exOut_length (key info : List UInt8) (i : Nat) : (exOut key info i).length = 32 * i := by
  induction i with
  | zero => rfl
  | succ i ih => rw [exOut, List.length_append, ih, exT_length]; omega
/-- More parts go on where fewer end. -/
theorem exOut_take (key info : List UInt8) (i j n : Nat) (hij : i ≤ j) (hn : n ≤ 32 * i) : (exOut key info j).take n = (exOut key info i).take n := by
  induction j with
  | zero => obtain rfl : i = 0 := by omega
            rfl
  | succ j ih =>
    by_cases h : i = j + 1
    · rw [h]
    · rw [exOut, List.take_append_of_le_length (by rw [exOut_length]; omega)]
      exact ih (by omega)
/-- How many parts. -/
def partsFor (n : Nat) : Nat := (n + 31) / 32
def expandL (key info : List UInt8) (n : Nat) : List UInt8 := (exOut key info (partsFor n)).take n
theorem expandL_length (key info : List UInt8) (n : Nat) : (expandL key info n).length = n := by
  rw [expandL, List.length_take, exOut_length, partsFor]
  omega
theorem expandL_take (key info : List UInt8) (n m : Nat) (h : n ≤ m) : (expandL key info m).take n = expandL key info n := by
  rw [expandL, expandL, List.take_take, Nat.min_eq_left h]
  exact exOut_take key info (partsFor n) (partsFor m) n (by simp only [partsFor]; omega) (by simp only [partsFor]; omega)
theorem expandL_at (key info : List UInt8) (n i : Nat) (h : n ≤ 32 * i) (h' : 32 * i < n + 32) : (exOut key info i).take n = expandL key info n := by
  have : i = partsFor n := by simp only [partsFor]; omega
  rw [this]
  rfl
def carc : List UInt8 := [99, 97, 114, 99, 97, 110, 101, 116, 32]
def namedL (key name : List UInt8) : List UInt8 := expandL key (carc ++ name) 32
theorem namedL_length (k n : List UInt8) : (namedL k n).length = 32 := expandL_length _ _ _
end Go.Proofs.YtmnhpkdldeifgaaGreatDoor
