/- Plain mathematics of readers: what was put is read, and what was read was put. Numbers of any sign, as 64 bits. A packet's kind (layer 17), as mathematics. Words of 32 bits as values, and what the operators of the language make of them. Words turned round to the right: package digest's and the document's. -/
import Derived.Test.YtmnhpkdldeifgaaDoorGf
import Derived.Test.YtmnhpkdldeifgaaDoorGa
import Derived.Laws.BitsAllLaws
import Derived.IntWalk
namespace Go.Proofs.YtmnhpkdldeifgaaDoor
set_option maxRecDepth 100000
open Go.RowKit

theorem ofBe_from (l : List UInt8) : ∀ n : Nat, l.foldl (fun n c => n * 256 + c.toNat) n = n * 256 ^ l.length + ofBe l := by
  induction l with
  | nil => intro n; simp [ofBe]
  | cons c l ih =>
    intro n
    simp only [ofBe, List.foldl_cons, List.length_cons]
    rw [ih, ih (0 * 256 + c.toNat), Nat.pow_succ]
    have e1 : (n * 256 + c.toNat) * 256 ^ l.length = n * (256 ^ l.length * 256) + c.toNat * 256 ^ l.length := by
      rw [Nat.add_mul, Nat.mul_assoc, Nat.mul_comm 256]
    rw [e1]
    have e2 : (0 * 256 + c.toNat) * 256 ^ l.length = c.toNat * 256 ^ l.length := by rw [Nat.zero_mul, Nat.zero_add]
    rw [e2]
    omega
theorem ofBe_cons (c : UInt8) (l : List UInt8) : ofBe (c :: l) = c.toNat * 256 ^ l.length + ofBe l := by
  show (c :: l).foldl (fun n c => n * 256 + c.toNat) 0 = _
  rw [List.foldl_cons, ofBe_from, Nat.zero_mul, Nat.zero_add]
theorem ofBe_be (k x : Nat) : ofBe (be k x) = x % 256 ^ k := by
  induction k with
  | zero => simp [be, beTo, ofBe, Nat.mod_one]
  | succ k ih =>
    rw [be_succ, ofBe_cons, ih, be_length]
    have h : (UInt8.ofNat (x / 256 ^ k % 256)).toNat = x / 256 ^ k % 256 := by
      simp only [UInt8.toNat_ofNat']; omega
    rw [h, Nat.pow_succ, Nat.mod_mul, Nat.mul_comm (x / 256 ^ k % 256), Nat.add_comm]
theorem ofBe_inj (a b : List UInt8) (hl : a.length = b.length) (h : ofBe a = ofBe b) : a = b := by
  induction a generalizing b with
  | nil => exact (List.length_eq_zero_iff.1 hl.symm).symm
  | cons c a ih =>
    cases b with
    | nil => simp at hl
    | cons d b =>
      simp only [List.length_cons, Nat.add_right_cancel_iff] at hl
      rw [ofBe_cons, ofBe_cons, hl] at h
      have ha := ofBe_lt a
      rw [hl] at ha
      have hb := ofBe_lt b
      have hd : c.toNat = d.toNat := by
        have h1 : (c.toNat * 256 ^ b.length + ofBe a) / 256 ^ b.length = c.toNat := by
          rw [Nat.mul_comm, Nat.mul_add_div (Nat.pow_pos (by decide)), Nat.div_eq_of_lt ha, Nat.add_zero]
        have h2 : (d.toNat * 256 ^ b.length + ofBe b) / 256 ^ b.length = d.toNat := by
          rw [Nat.mul_comm, Nat.mul_add_div (Nat.pow_pos (by decide)), Nat.div_eq_of_lt hb, Nat.add_zero]
        rw [← h1, ← h2, h]
      have hcd : c = d := UInt8.toNat_inj.1 hd
      subst hcd
      rw [ih b hl (by omega)]
theorem be_ofBe (l : List UInt8) : be l.length (ofBe l) = l :=
  ofBe_inj _ _ (be_length _ _) (by rw [ofBe_be, Nat.mod_eq_of_lt (ofBe_lt l)])

/-- What was put is read. -/
theorem raw_put (t r : List UInt8) (n : Nat) (hn : n = t.length) : rawO ⟨t ++ r, 0⟩ n = t ∧ rawS ⟨t ++ r, 0⟩ n = ⟨r, 0⟩ := by
  subst hn
  rw [rawO_some rfl (by simp), rawS_some rfl (by simp)]
  simp
theorem num_put (k x : Nat) (r : List UInt8) (hx : x < 256 ^ k) : numO ⟨be k x ++ r, 0⟩ k = x ∧ rawS ⟨be k x ++ r, 0⟩ k = ⟨r, 0⟩ := by
  obtain ⟨h1, h2⟩ := raw_put (be k x) r k (be_length k x).symm
  exact ⟨by rw [numO, h1, ofBe_be, Nat.mod_eq_of_lt hx], h2⟩
theorem text_put (n r : List UInt8) (most : Nat) (hn : n.length ≤ most) (h16 : n.length ≤ 65535) : textO ⟨encS ⟨n.toArray⟩ ++ r, 0⟩ most = n ∧ textS ⟨encS ⟨n.toArray⟩ ++ r, 0⟩ most = ⟨r, 0⟩ := by
  have e : encS ⟨n.toArray⟩ ++ r = be 2 n.length ++ (n ++ r) := by
    show be 2 n.length ++ n.toArray.toList ++ r = _
    simp
  rw [e]
  obtain ⟨h1, h2⟩ := num_put 2 n.length (n ++ r) (by omega)
  obtain ⟨h3, h4⟩ := raw_put n r n.length rfl
  have hm : ¬ most < n.length := by omega
  constructor
  · rw [textO, h2, if_neg (by simp), h1, if_neg hm, h3]
  · rw [textS, h2, if_neg (by simp), h1, if_neg hm, h4]
/-- What was read was put. -/
theorem raw_back {s : RS} {n : Nat} (h : (rawS s n).e = 0) : s.e = 0 ∧ (rawO s n).length = n ∧ s.l = rawO s n ++ (rawS s n).l := by
  by_cases h0 : s.e = 0
  · by_cases hn : n ≤ s.l.length
    · rw [rawO_some h0 hn, rawS_some h0 hn]
      exact ⟨h0, by rw [List.length_take]; omega, (List.take_append_drop n s.l).symm⟩
    · rw [rawS_short h0 (by omega)] at h
      exact absurd h (by decide)
  · rw [rawS_met h0] at h
    exact absurd h h0
theorem num_back {s : RS} {n : Nat} (h : (rawS s n).e = 0) : s.e = 0 ∧ numO s n < 256 ^ n ∧ s.l = be n (numO s n) ++ (rawS s n).l := by
  obtain ⟨h1, h2, h3⟩ := raw_back h
  have e := be_ofBe (rawO s n)
  rw [h2] at e
  exact ⟨h1, numO_lt s n, by rw [numO, e]; exact h3⟩
theorem text_back {s : RS} {most : Nat} (h : (textS s most).e = 0) : s.e = 0 ∧ (textO s most).length ≤ most ∧ (textO s most).length ≤ 65535 ∧ s.l = encS ⟨(textO s most).toArray⟩ ++ (textS s most).l := by
  by_cases h0 : (rawS s 2).e = 0
  · obtain ⟨h1, h2, h3⟩ := num_back h0
    by_cases hm : most < numO s 2
    · rw [textS, if_neg (by simp [h0]), if_pos hm] at h
      exact absurd h (by decide)
    · have e1 : textO s most = rawO (rawS s 2) (numO s 2) := by rw [textO, if_neg (by simp [h0]), if_neg hm]
      have e2 : textS s most = rawS (rawS s 2) (numO s 2) := by rw [textS, if_neg (by simp [h0]), if_neg hm]
      rw [e2] at h
      obtain ⟨h4, h5, h6⟩ := raw_back h
      rw [e1, e2, h5]
      refine ⟨h1, by omega, numO_u16 s, ?_⟩
      rw [h3, h6]
      show _ = be 2 (rawO (rawS s 2) (numO s 2)).length ++ (rawO (rawS s 2) (numO s 2)).toArray.toList ++ _
      rw [h5]
      simp
  · rw [textS, if_pos h0] at h
    exact absurd h h0
theorem end_back {s : RS} (h : endE s = 0) : s.e = 0 ∧ s.l = [] := by
  by_cases h0 : s.e = 0
  · by_cases hl : s.l = []
    · exact ⟨h0, hl⟩
    · rw [endE, if_neg (by simp [h0]), if_neg hl] at h
      exact absurd h (by decide)
  · rw [endE, if_pos h0] at h
    exact absurd h h0
end Go.Proofs.YtmnhpkdldeifgaaDoor

namespace Go.Proofs.YtmnhpkdldeifgaaDoor
set_option maxRecDepth 100000

/-- A number of any sign, as 64 bits. -/
def uN (i : Int) : Nat := (i % 18446744073709551616).toNat
theorem uN_lt (i : Int) : uN i < 18446744073709551616 := by
  have := Int.emod_lt_of_pos i (show (0 : Int) < 18446744073709551616 by decide)
  have := Int.emod_nonneg i (show (18446744073709551616 : Int) ≠ 0 by decide)
  rw [uN]
  omega
theorem uN_wrap (i : Int) : IntKind.u64.wrap i = (uN i : Int) := by
  have := Int.emod_nonneg i (show (18446744073709551616 : Int) ≠ 0 by decide)
  rw [uN, Int.toNat_of_nonneg this]
  rfl
end Go.Proofs.YtmnhpkdldeifgaaDoor

namespace Go.Proofs.YtmnhpkdldeifgaaDoor
set_option maxRecDepth 100000

/-- A packet's kind. -/
def kindB : List UInt8 → Int
  | [] => 0
  | c :: _ => if 1 ≤ c.toNat ∧ c.toNat ≤ 4 then (c.toNat : Int) else 0
theorem kind_cons {b : List UInt8} {k : Int} (h : kindB b = k) (hk : k ≠ 0) : ∃ c r, b = c :: r ∧ (c.toNat : Int) = k := by
  cases b with
  | nil => exact absurd h.symm hk
  | cons c r =>
    refine ⟨c, r, rfl, ?_⟩
    rw [kindB] at h
    split at h
    · exact h
    · exact absurd h.symm hk

end Go.Proofs.YtmnhpkdldeifgaaDoor

namespace Go.Proofs.YtmnhpkdldeifgaaDoor
set_option maxRecDepth 100000
open Go.RowKit

/-- A word as a value. -/
def wd (x : UInt32) : Value := .int .u32 (x.toNat : Int)

theorem wd_add (t : TypeId) (x y : UInt32) : binOp .add t (wd x) (wd y) = pure (wd (x + y)) := by
  simp only [wd, binOp, Op.intArith]
  simp [IntKind.wrap_u32]
theorem wd_xor (t : TypeId) (x y : UInt32) : binOp .xor t (wd x) (wd y) = pure (wd (x ^^^ y)) := by
  have h := u32_xor_nat x.toNat y.toNat x.toNat_lt y.toNat_lt
  simp only [wd, binOp, UInt32.toNat_xor, ← h]
  rfl
theorem wd_and (t : TypeId) (x y : UInt32) : binOp .and t (wd x) (wd y) = pure (wd (x &&& y)) := by
  have h := u32_and_nat x.toNat y.toNat x.toNat_lt y.toNat_lt
  simp only [wd, binOp, UInt32.toNat_and, ← h]
  rfl
theorem wd_or (t : TypeId) (x y : UInt32) : binOp .or t (wd x) (wd y) = pure (wd (x ||| y)) := by
  have h := u32_or_nat x.toNat y.toNat x.toNat_lt y.toNat_lt
  simp only [wd, binOp, UInt32.toNat_or, ← h]
  rfl
theorem wd_shr (t : TypeId) (x : UInt32) (k : Nat) (hk : k < 32) : binOp .shr t (wd x) (.int .u64 (k : Int)) = pure (wd (x >>> UInt32.ofNat k)) := by
  have h0 : ¬ ((k : Int) < 0) := by omega
  have hm : min k 32 = k := by omega
  have hm' : k % 4294967296 % 32 = k := by omega
  simp only [wd, binOp, Op.shift, h0, if_false, Int.toNat_natCast, IntKind.bits, hm, UInt32.toNat_shiftRight, UInt32.toNat_ofNat', hm', Nat.shiftRight_eq_div_pow]
  congr 2
  rw [Int.fdiv_eq_ediv_of_nonneg _ (Int.le_of_lt (Int.pow_pos (by decide)))]
  simp
theorem wd_shl (t : TypeId) (x : UInt32) (k : Nat) (hk : k < 32) : binOp .shl t (wd x) (.int .u64 (k : Int)) = pure (wd (x <<< UInt32.ofNat k)) := by
  have h0 : ¬ ((k : Int) < 0) := by omega
  have hm : min k 32 = k := by omega
  have hm' : k % 4294967296 % 32 = k := by omega
  simp only [wd, binOp, Op.shift, h0, if_false, Int.toNat_natCast, IntKind.bits, hm, UInt32.toNat_shiftLeft, UInt32.toNat_ofNat', hm', Nat.shiftLeft_eq, IntKind.wrap_u32]
  congr 2
theorem wd_not (x : UInt32) : Op.unary .xor (wd x) = pure (wd (~~~x)) := by
  have h := u32_xor_nat 4294967295 x.toNat (by decide) x.toNat_lt
  have e : ~~~x = 4294967295 ^^^ x := by
    apply UInt32.toBitVec_inj.1
    rw [UInt32.toBitVec_not, UInt32.toBitVec_xor, BitVec.xor_comm]
    exact BitVec.xor_allOnes.symm
  rw [e]
  simp only [wd, Op.unary, UInt32.toNat_xor]
  show Op.intBits .xor .u32 ((4294967295 : Nat) : Int) (x.toNat : Int) = _
  exact congrArg (fun z => (pure (Value.int .u32 z) : Sem Value)) h
theorem wd_mul (t : TypeId) (x : UInt32) (k : Nat) (hk : k < 4294967296) : binOp .mul t (wd x) (.int .u32 (k : Int)) = pure (wd (x * UInt32.ofNat k)) := by
  simp only [wd, binOp, Op.intArith]
  simp [IntKind.wrap_u32, Nat.mod_eq_of_lt hk]
theorem wd_quo (t : TypeId) (x : UInt32) (k : Nat) (hk : k < 32) (d : Int) (hd : d = ((2 ^ k : Nat) : Int)) : binOp .quo t (wd x) (.int .u32 d) = pure (wd (x >>> UInt32.ofNat k)) := by
  subst hd
  have hp : 0 < 2 ^ k := Nat.pow_pos (by decide)
  have h0 : ¬ (((2 ^ k : Nat) : Int) = 0) := by omega
  have hm' : k % 4294967296 % 32 = k := by omega
  have hlt := x.toNat_lt
  have hq : (((x.toNat : Int)).tdiv ((2 ^ k : Nat) : Int)) = ((x.toNat / 2 ^ k : Nat) : Int) := by rw [Int.tdiv_eq_ediv_of_nonneg (by omega)]; rfl
  have hle : x.toNat / 2 ^ k ≤ x.toNat := Nat.div_le_self _ _
  simp only [wd, binOp, Op.intDiv, h0, if_false, hq, UInt32.toNat_shiftRight, UInt32.toNat_ofNat', hm', Nat.shiftRight_eq_div_pow]
  have hq0 : (0 : Int) ≤ ((x.toNat / 2 ^ k : Nat) : Int) := Int.natCast_nonneg _
  rw [IntWalk.u32_in _ (by constructor; exact hq0; have := Int.ofNat_le.2 hle; omega)]
  simp
theorem wd_neq (t : TypeId) (x y : UInt32) : binOp .neq t (wd x) (wd y) = pure (.bool (x != y)) := by
  have h : (((x.toNat : Int)) != (y.toNat : Int)) = (x != y) := by
    rw [Bool.eq_iff_iff]
    simp only [bne_iff_ne, ne_eq, Int.natCast_inj, UInt32.toNat_inj]
  simp only [wd, binOp, Op.intCmp, h]
  simp
theorem wd_eql (t : TypeId) (x y : UInt32) : binOp .eql t (wd x) (wd y) = pure (.bool (x == y)) := by
  have h : (((x.toNat : Int)) == (y.toNat : Int)) = (x == y) := by
    rw [Bool.eq_iff_iff]
    simp only [beq_iff_eq, Int.natCast_inj, UInt32.toNat_inj]
  simp only [wd, binOp, Op.intCmp, h]
  simp
theorem byte_wd (c : UInt8) : Value.int .u32 (c.toNat : Int) = wd c.toUInt32 := by simp [wd]
theorem byte_wd' (c : UInt8) : Value.int .u32 ((c.toNat : Int) % 4294967296) = wd c.toUInt32 := by
  have := c.toNat_lt
  rw [Int.emod_eq_of_lt (by omega) (by omega)]
  exact byte_wd c
theorem wd_byte (x : UInt32) (w : World) : (convert 64 5 (wd x)).run Tryd.prog w = .ok (.int .u8 (x.toUInt8.toNat : Int)) w := by
  simp only [wd]
  go_simp
  rw [IntKind.wrap_u8]
theorem store_wd (w : World) (g i : Nat) (old : Value) (hc : w.cell? ⟨g, i, none⟩ = some old) (hf : w.frozen? ⟨g, i, none⟩ = false) (y : UInt32) : (storeCells ⟨g, i, none⟩ [wd y]).run Tryd.prog w = .ok () (w.setCell ⟨g, i, none⟩ (wd y)) := by
  unfold wd
  go_simp
theorem num_wd (k : Nat) (hk : k < 4294967296) : Value.int .u32 (k : Int) = wd (UInt32.ofNat k) := by simp [wd, Nat.mod_eq_of_lt hk]
theorem wd_inj {x y : UInt32} : wd x = wd y ↔ x = y := by
  constructor
  · intro h
    simp only [wd, Value.int.injEq, true_and] at h
    exact UInt32.toNat_inj.1 (by omega)
  · rintro rfl; rfl

/-- What a walk is handed: sums and the like of words. -/
theorem rules_w : (∀ t x y w, (binOp .add t (wd x) (wd y)).run Tryd.prog w = .ok (wd (x + y)) w) ∧ (∀ t x y w, (binOp .xor t (wd x) (wd y)).run Tryd.prog w = .ok (wd (x ^^^ y)) w) ∧
    (∀ t x y w, (binOp .and t (wd x) (wd y)).run Tryd.prog w = .ok (wd (x &&& y)) w) ∧ (∀ t x y w, (binOp .or t (wd x) (wd y)).run Tryd.prog w = .ok (wd (x ||| y)) w) ∧ (∀ x w, (Op.unary .xor (wd x)).run Tryd.prog w = .ok (wd (~~~x)) w) :=
  ⟨fun t x y w => by rw [wd_add]; rfl, fun t x y w => by rw [wd_xor]; rfl, fun t x y w => by rw [wd_and]; rfl, fun t x y w => by rw [wd_or]; rfl, fun x w => by rw [wd_not]; rfl⟩
theorem run_shr (k : Nat) (hk : k < 32) (d : Int) (hd : d = (k : Int)) (t : TypeId) (x : UInt32) (w : World) : (binOp .shr t (wd x) (.int .u64 d)).run Tryd.prog w = .ok (wd (x >>> UInt32.ofNat k)) w := by
  subst hd
  rw [wd_shr t x k hk]
  rfl
theorem run_shl (k : Nat) (hk : k < 32) (d : Int) (hd : d = (k : Int)) (t : TypeId) (x : UInt32) (w : World) : (binOp .shl t (wd x) (.int .u64 d)).run Tryd.prog w = .ok (wd (x <<< UInt32.ofNat k)) w := by
  subst hd
  rw [wd_shl t x k hk]
  rfl
theorem run_quo (k : Nat) (hk : k < 32) (d : Int) (hd : d = ((2 ^ k : Nat) : Int)) (t : TypeId) (x : UInt32) (w : World) : (binOp .quo t (wd x) (.int .u32 d)).run Tryd.prog w = .ok (wd (x >>> UInt32.ofNat k)) w := by
  rw [wd_quo t x k hk d hd]
  rfl
theorem run_mul (k : Nat) (hk : k < 4294967296) (d : Int) (hd : d = (k : Int)) (t : TypeId) (x : UInt32) (w : World) : (binOp .mul t (wd x) (.int .u32 d)).run Tryd.prog w = .ok (wd (x * UInt32.ofNat k)) w := by
  subst hd
  rw [wd_mul t x k hk]
  rfl
theorem run_eql (t : TypeId) (x y : UInt32) (w : World) : (binOp .eql t (wd x) (wd y)).run Tryd.prog w = .ok (.bool (x == y)) w := by
  rw [wd_eql]
  rfl
theorem run_neq (t : TypeId) (x y : UInt32) (w : World) : (binOp .neq t (wd x) (wd y)).run Tryd.prog w = .ok (.bool (x != y)) w := by
  rw [wd_neq]
  rfl

/-- Words as cells. -/
def wv (l : List UInt32) : Array Value := (l.map wd).toArray
theorem wv_size (l : List UInt32) : (wv l).size = l.length := by simp [wv]
theorem wv_at (l : List UInt32) (i : Nat) (x : UInt32) (h : l[i]? = some x) : (wv l)[i]? = some (wd x) := by simp [wv, h]
theorem wv_set (l : List UInt32) (i : Nat) (x : UInt32) : (wv l).setIfInBounds i (wd x) = wv (l.set i x) := by simp [wv, List.map_set]
theorem wv_one (l : List UInt32) : (wv l).all (·.oneCell') = true := by
  simp only [wv, Array.all_eq_true_iff_forall_mem]
  intro v hv
  simp at hv
  obtain ⟨x, _, rfl⟩ := hv
  rfl
end Go.Proofs.YtmnhpkdldeifgaaDoor

namespace Go.Proofs.YtmnhpkdldeifgaaDoor
set_option maxRecDepth 100000
open Go.RowKit

/-- A word turned round to the right. -/
def rotr (x : UInt32) (k : Nat) : UInt32 := (x >>> UInt32.ofNat k) ||| (x <<< UInt32.ofNat (32 - k))

theorem right_2 (x : UInt32) (w : World) : Calls Tryd.prog 93 #[wd x, .int .i64 2] w fun e w' => e = .returned (wd (rotr x 2)) ∧ w = w' := by
  obtain ⟨-, -, -, r4, -⟩ := rules_w
  have s1 := run_shl 30 (by decide) 30 rfl
  have s2 := run_shr 2 (by decide) 2 rfl
  have hb : bits .and .u64 (IntKind.u64.wrap (-2)) 31 = 30 := by decide
  go_enter Tryd.func93, Tryd.ntmps93
  go_wp2
  go_ret
  exact ⟨congrArg (fun z => Ending.returned (wd z)) (UInt32.or_comm _ _), rfl⟩
theorem right_6 (x : UInt32) (w : World) : Calls Tryd.prog 93 #[wd x, .int .i64 6] w fun e w' => e = .returned (wd (rotr x 6)) ∧ w = w' := by
  obtain ⟨-, -, -, r4, -⟩ := rules_w
  have s1 := run_shl 26 (by decide) 26 rfl
  have s2 := run_shr 6 (by decide) 6 rfl
  have hb : bits .and .u64 (IntKind.u64.wrap (-6)) 31 = 26 := by decide
  go_enter Tryd.func93, Tryd.ntmps93
  go_wp2
  go_ret
  exact ⟨congrArg (fun z => Ending.returned (wd z)) (UInt32.or_comm _ _), rfl⟩
theorem right_7 (x : UInt32) (w : World) : Calls Tryd.prog 93 #[wd x, .int .i64 7] w fun e w' => e = .returned (wd (rotr x 7)) ∧ w = w' := by
  obtain ⟨-, -, -, r4, -⟩ := rules_w
  have s1 := run_shl 25 (by decide) 25 rfl
  have s2 := run_shr 7 (by decide) 7 rfl
  have hb : bits .and .u64 (IntKind.u64.wrap (-7)) 31 = 25 := by decide
  go_enter Tryd.func93, Tryd.ntmps93
  go_wp2
  go_ret
  exact ⟨congrArg (fun z => Ending.returned (wd z)) (UInt32.or_comm _ _), rfl⟩
theorem right_11 (x : UInt32) (w : World) : Calls Tryd.prog 93 #[wd x, .int .i64 11] w fun e w' => e = .returned (wd (rotr x 11)) ∧ w = w' := by
  obtain ⟨-, -, -, r4, -⟩ := rules_w
  have s1 := run_shl 21 (by decide) 21 rfl
  have s2 := run_shr 11 (by decide) 11 rfl
  have hb : bits .and .u64 (IntKind.u64.wrap (-11)) 31 = 21 := by decide
  go_enter Tryd.func93, Tryd.ntmps93
  go_wp2
  go_ret
  exact ⟨congrArg (fun z => Ending.returned (wd z)) (UInt32.or_comm _ _), rfl⟩
theorem right_13 (x : UInt32) (w : World) : Calls Tryd.prog 93 #[wd x, .int .i64 13] w fun e w' => e = .returned (wd (rotr x 13)) ∧ w = w' := by
  obtain ⟨-, -, -, r4, -⟩ := rules_w
  have s1 := run_shl 19 (by decide) 19 rfl
  have s2 := run_shr 13 (by decide) 13 rfl
  have hb : bits .and .u64 (IntKind.u64.wrap (-13)) 31 = 19 := by decide
  go_enter Tryd.func93, Tryd.ntmps93
  go_wp2
  go_ret
  exact ⟨congrArg (fun z => Ending.returned (wd z)) (UInt32.or_comm _ _), rfl⟩
theorem right_17 (x : UInt32) (w : World) : Calls Tryd.prog 93 #[wd x, .int .i64 17] w fun e w' => e = .returned (wd (rotr x 17)) ∧ w = w' := by
  obtain ⟨-, -, -, r4, -⟩ := rules_w
  have s1 := run_shl 15 (by decide) 15 rfl
  have s2 := run_shr 17 (by decide) 17 rfl
  have hb : bits .and .u64 (IntKind.u64.wrap (-17)) 31 = 15 := by decide
  go_enter Tryd.func93, Tryd.ntmps93
  go_wp2
  go_ret
  exact ⟨congrArg (fun z => Ending.returned (wd z)) (UInt32.or_comm _ _), rfl⟩
theorem right_18 (x : UInt32) (w : World) : Calls Tryd.prog 93 #[wd x, .int .i64 18] w fun e w' => e = .returned (wd (rotr x 18)) ∧ w = w' := by
  obtain ⟨-, -, -, r4, -⟩ := rules_w
  have s1 := run_shl 14 (by decide) 14 rfl
  have s2 := run_shr 18 (by decide) 18 rfl
  have hb : bits .and .u64 (IntKind.u64.wrap (-18)) 31 = 14 := by decide
  go_enter Tryd.func93, Tryd.ntmps93
  go_wp2
  go_ret
  exact ⟨congrArg (fun z => Ending.returned (wd z)) (UInt32.or_comm _ _), rfl⟩
theorem right_19 (x : UInt32) (w : World) : Calls Tryd.prog 93 #[wd x, .int .i64 19] w fun e w' => e = .returned (wd (rotr x 19)) ∧ w = w' := by
  obtain ⟨-, -, -, r4, -⟩ := rules_w
  have s1 := run_shl 13 (by decide) 13 rfl
  have s2 := run_shr 19 (by decide) 19 rfl
  have hb : bits .and .u64 (IntKind.u64.wrap (-19)) 31 = 13 := by decide
  go_enter Tryd.func93, Tryd.ntmps93
  go_wp2
  go_ret
  exact ⟨congrArg (fun z => Ending.returned (wd z)) (UInt32.or_comm _ _), rfl⟩
theorem right_22 (x : UInt32) (w : World) : Calls Tryd.prog 93 #[wd x, .int .i64 22] w fun e w' => e = .returned (wd (rotr x 22)) ∧ w = w' := by
  obtain ⟨-, -, -, r4, -⟩ := rules_w
  have s1 := run_shl 10 (by decide) 10 rfl
  have s2 := run_shr 22 (by decide) 22 rfl
  have hb : bits .and .u64 (IntKind.u64.wrap (-22)) 31 = 10 := by decide
  go_enter Tryd.func93, Tryd.ntmps93
  go_wp2
  go_ret
  exact ⟨congrArg (fun z => Ending.returned (wd z)) (UInt32.or_comm _ _), rfl⟩
theorem right_25 (x : UInt32) (w : World) : Calls Tryd.prog 93 #[wd x, .int .i64 25] w fun e w' => e = .returned (wd (rotr x 25)) ∧ w = w' := by
  obtain ⟨-, -, -, r4, -⟩ := rules_w
  have s1 := run_shl 7 (by decide) 7 rfl
  have s2 := run_shr 25 (by decide) 25 rfl
  have hb : bits .and .u64 (IntKind.u64.wrap (-25)) 31 = 7 := by decide
  go_enter Tryd.func93, Tryd.ntmps93
  go_wp2
  go_ret
  exact ⟨congrArg (fun z => Ending.returned (wd z)) (UInt32.or_comm _ _), rfl⟩
end Go.Proofs.YtmnhpkdldeifgaaDoor
