/- Entries in memory: a block that is one, read whole, stored whole, compared. Words of 32 bits as values, and what the operators of the language make of them. Words turned round to the right: package digest's and the document's. -/
import Derived.Test.YtehalcopkjfdkaaDoorGf
import Derived.StillTailTactics
import Derived.Test.YtehalcopkjfdkaaDoorGa
import Derived.Laws.BitsAllLaws
import Derived.IntWalk
namespace Go.Proofs.YtehalcopkjfdkaaDoor
set_option maxRecDepth 100000
open Go.RowKit

def Ent.cells (e : Ent) : Array Value := #[.string ⟨e.name.toArray⟩, .int .u64 (e.id : Int), .int .i64 e.since, .int .i64 e.till, .int .i64 e.index, .string ⟨e.tag.toArray⟩]
theorem Ent.val_cells (e : Ent) : e.val = .agg e.cells := rfl
theorem Ent.cells_size (e : Ent) : e.cells.size = 6 := rfl
theorem Ent.cells_one (e : Ent) : e.cells.all (·.oneCell') = true := by simp [Ent.cells, Value.oneCell']
theorem ent_size : (Tryd.prog.info? 29).map (·.size) = some 6 := by kernel_rfl

theorem ent_size' (e : Ent) : (Tryd.prog.info? 29).map (·.size) = some e.cells.size := ent_size

/-- An entry in a block. -/
def EntAt (w : World) (g : Nat) (e : Ent) : Prop := Whole w g 29 e.cells
theorem EntAt.below {w w' : World} {B g : Nat} {e : Ent} (h : EntAt w g e) (hb : Below B w w') (hg : g < B) : EntAt w' g e := Whole.below h hb hg

/-- Its six cells. -/
theorem EntAt.six {w : World} {g : Nat} {e : Ent} (h : EntAt w g e) : w.cell? ⟨g, 0, none⟩ = some (.string ⟨e.name.toArray⟩) ∧ w.cell? ⟨g, 1, none⟩ = some (.int .u64 (e.id : Int)) ∧ w.cell? ⟨g, 2, none⟩ = some (.int .i64 e.since) ∧ w.cell? ⟨g, 3, none⟩ = some (.int .i64 e.till) ∧ w.cell? ⟨g, 4, none⟩ = some (.int .i64 e.index) ∧ w.cell? ⟨g, 5, none⟩ = some (.string ⟨e.tag.toArray⟩) :=
  ⟨h.at_ 0, h.at_ 1, h.at_ 2, h.at_ 3, h.at_ 4, h.at_ 5⟩

theorem load_ent {w : World} {g : Nat} {e : Ent} (h : EntAt w g e) : (loadVar 29 ⟨g, 0, none⟩).run Tryd.prog w = .ok e.val w := by
  obtain ⟨n, i, f, u, x, t⟩ := e
  have c0 := h.at_ 0
  have c1 := h.at_ 1
  have c2 := h.at_ 2
  have c3 := h.at_ 3
  have c4 := h.at_ 4
  have c5 := h.at_ 5
  simp [Ent.cells] at c0 c1 c2 c3 c4 c5
  simp only [Ent.val, Ent.enc]
  go_simp

theorem exec_load_ent {ev : Operand → Value} {o : Oper} (x : Operand) (ho : o.op = .load 29 x) (g : Nat) (hx : ev x = .pointer (some ⟨g, 0, none⟩)) (e : Ent) (w : World) (hg : EntAt w g e) :
    (execOp ev o).run Tryd.prog w = .ok (.value e.val) w := by
  have h := load_ent hg
  unfold execOp
  simp [ho, hx, Instr.loadAt, Instr.sureAddr, h]
theorem wp_load_ent {o : Oper} {a : Act} {w : World} {K : Act → World → Prop} {Q : Exit → Act → World → Prop} (x : Operand) (ho : o.op = .load 29 x) (g : Nat) (hx : a.eval x = .pointer (some ⟨g, 0, none⟩)) (e : Ent) (hg : EntAt w g e)
    (h : K (a.put o.dst e.val) w) : o.wp Tryd.prog a w K Q := by
  have hl := load_ent hg
  unfold Oper.wp execOp
  simp only [ho, hx, Instr.loadAt, Instr.sureAddr, Sem.run_bind, Sem.run_pure, Result.andThen_ok, hl]
  exact h
theorem wpList_load_ent {ops : Array Oper} {rest : List Oper} {o : Oper} {a : Act} {w : World} {Q : Exit → Act → World → Prop} (hgd : o.guard = none) (x : Operand) (ho : o.op = .load 29 x) (g : Nat) (hx : a.eval x = .pointer (some ⟨g, 0, none⟩)) (e : Ent) (hg : EntAt w g e)
    (h : wpList Tryd.prog ops Q rest (a.put o.dst e.val) w) : wpList Tryd.prog ops Q (o :: rest) a w :=
  wpList_plain hgd fun _ hK => wp_load_ent x ho g hx e hg (hK _ _ h)

theorem wpList_load_ent_w {ops : Array Oper} {rest : List Oper} {o : Oper} {a : Act} {w : World} {Q : Exit → Act → World → Prop} (hw : Region.wanted o (yielded ops a.tmps) = true) (x : Operand) (ho : o.op = .load 29 x) (g : Nat) (hx : a.eval x = .pointer (some ⟨g, 0, none⟩)) (e : Ent) (hg : EntAt w g e)
    (h : wpList Tryd.prog ops Q rest (a.put o.dst e.val) w) : wpList Tryd.prog ops Q (o :: rest) a w :=
  wpList_step fun _ hK => by
    rw [if_pos hw]
    exact wp_load_ent x ho g hx e hg (hK _ _ h)

theorem eq_ent (a b : Ent) (t : TypeId) (w : World) (ht : t = 29) : (binOp .eql t a.val b.val).run Tryd.prog w = .ok (.bool (decide (a = b))) w := by
  subst ht
  obtain ⟨n1, i1, f1, u1, x1, t1⟩ := a
  obtain ⟨n2, i2, f2, u2, x2, t2⟩ := b
  simp only [Ent.val, Ent.enc]
  go_simp
  by_cases h1 : n1 = n2
  · by_cases h2 : i1 = i2
    · by_cases h3 : f1 = f2
      · by_cases h4 : u1 = u2
        · by_cases h5 : x1 = x2
          · by_cases h6 : t1 = t2
            · simp [h1, h2, h3, h4, h5, h6]
            · simp [h1, h2, h3, h4, h5, h6]
          · simp [h1, h2, h3, h4, h5]
        · simp [h1, h2, h3, h4]
      · simp [h1, h2, h3]
    · have h2' : ¬ ((i1 : Int) = (i2 : Int)) := by omega
      simp [h1, h2, h2']
  · simp [h1]
theorem neq_ent (a b : Ent) (t : TypeId) (w : World) (ht : t = 29) : (binOp .neq t a.val b.val).run Tryd.prog w = .ok (.bool (!decide (a = b))) w := by
  subst ht
  obtain ⟨n1, i1, f1, u1, x1, t1⟩ := a
  obtain ⟨n2, i2, f2, u2, x2, t2⟩ := b
  simp only [Ent.val, Ent.enc]
  go_simp
  by_cases h1 : n1 = n2
  · by_cases h2 : i1 = i2
    · by_cases h3 : f1 = f2
      · by_cases h4 : u1 = u2
        · by_cases h5 : x1 = x2
          · by_cases h6 : t1 = t2
            · simp [h1, h2, h3, h4, h5, h6]
            · simp [h1, h2, h3, h4, h5, h6]
          · simp [h1, h2, h3, h4, h5]
        · simp [h1, h2, h3, h4]
      · simp [h1, h2, h3]
    · have h2' : ¬ ((i1 : Int) = (i2 : Int)) := by omega
      simp [h1, h2, h2']
  · simp [h1]

theorem exec_eq_ent {ev : Operand → Value} {o : Oper} (x y : Operand) (t : TypeId) (ho : o.op = .binOp .eql 29 x y t) (a b : Ent) (hx : ev x = a.val) (hy : ev y = b.val) (q : Bool) (hq : q = decide (a = b)) (w : World) : (execOp ev o).run Tryd.prog w = .ok (.value (.bool q)) w := by
  have h := eq_ent a b 29 w rfl
  have hg : (eqGuard .eql 29 x y a.val b.val).run Tryd.prog w = .ok () w := by
    simp only [Ent.val, Ent.enc]
    go_simp
  unfold execOp
  simp [ho, hx, hy, h, hq, hg]
theorem exec_neq_ent {ev : Operand → Value} {o : Oper} (x y : Operand) (t : TypeId) (ho : o.op = .binOp .neq 29 x y t) (a b : Ent) (hx : ev x = a.val) (hy : ev y = b.val) (q : Bool) (hq : q = !decide (a = b)) (w : World) : (execOp ev o).run Tryd.prog w = .ok (.value (.bool q)) w := by
  have h := neq_ent a b 29 w rfl
  have hg : (eqGuard .neq 29 x y a.val b.val).run Tryd.prog w = .ok () w := by
    simp only [Ent.val, Ent.enc]
    go_simp
  unfold execOp
  simp [ho, hx, hy, h, hq, hg]

/-- The entry of nothing. -/
def ent0 : Ent := ⟨[], 0, 0, 0, 0, []⟩
theorem ent_zero : (Tryd.prog.info? 29).map (·.zero) = some (some ent0.val) := by kernel_rfl
theorem EntAt.name {w : World} {x : Nat} {e : Ent} (h : EntAt w x e) (n : List UInt8) : EntAt (w.setCell ⟨x, 0, none⟩ (.string ⟨n.toArray⟩)) x { e with name := n } := h.stored 0 _
theorem EntAt.id {w : World} {x : Nat} {e : Ent} (h : EntAt w x e) (n : Nat) : EntAt (w.setCell ⟨x, 1, none⟩ (.int .u64 (n : Int))) x { e with id := n } := h.stored 1 _
theorem EntAt.since {w : World} {x : Nat} {e : Ent} (h : EntAt w x e) (n : Int) : EntAt (w.setCell ⟨x, 2, none⟩ (.int .i64 n)) x { e with since := n } := h.stored 2 _
theorem EntAt.till {w : World} {x : Nat} {e : Ent} (h : EntAt w x e) (n : Int) : EntAt (w.setCell ⟨x, 3, none⟩ (.int .i64 n)) x { e with till := n } := h.stored 3 _
theorem EntAt.index {w : World} {x : Nat} {e : Ent} (h : EntAt w x e) (n : Int) : EntAt (w.setCell ⟨x, 4, none⟩ (.int .i64 n)) x { e with index := n } := h.stored 4 _
theorem EntAt.tag {w : World} {x : Nat} {e : Ent} (h : EntAt w x e) (n : List UInt8) : EntAt (w.setCell ⟨x, 5, none⟩ (.string ⟨n.toArray⟩)) x { e with tag := n } := h.stored 5 _

/-- One result: an entry in a block. -/
theorem results_ent {fn : Func} {p : Tmp} (h : fn.results = #[.cell p 29]) (tmps : Array Value) (w : World) (g : Nat) (e : Ent)
    (hp : tmps.getD p undef = .pointer (some ⟨g, 0, none⟩)) (hg : EntAt w g e) : (results fn tmps).run Tryd.prog w = .ok e.val w := by
  have hl := load_ent hg
  have hp' : tmps[p]?.getD undef = .pointer (some ⟨g, 0, none⟩) := by simpa using hp
  simp [results, h, hp', asAddr, hl]
/-- Results: an entry in a block, and one in a slot. -/
theorem results_ent_tmp {fn : Func} {p q : Tmp} (h : fn.results = #[.cell p 29, .tmp q]) (tmps : Array Value) (w : World) (g : Nat) (e : Ent)
    (hp : tmps.getD p undef = .pointer (some ⟨g, 0, none⟩)) (hg : EntAt w g e) : (results fn tmps).run Tryd.prog w = .ok (.tuple #[e.val, tmps.getD q undef]) w := by
  have hl := load_ent hg
  have hp' : tmps[p]?.getD undef = .pointer (some ⟨g, 0, none⟩) := by simpa using hp
  simp [results, h, hp', asAddr, hl]

end Go.Proofs.YtehalcopkjfdkaaDoor

namespace Go.Proofs.YtehalcopkjfdkaaDoor
set_option maxRecDepth 100000
open Go.RowKit

/-- A word as a value. -/
def wd (x : UInt32) : Value := .int .u32 (x.toNat : Int)

theorem wd_add (t : TypeId) (x y : UInt32) : binOp .add t (wd x) (wd y) = pure (wd (x + y)) := by
  simp only [wd, binOp, Op.intArith]
  simp [IntKind.wrap_u32]
theorem wd_xor (t : TypeId) (x y : UInt32) : binOp .xor t (wd x) (wd y) = pure (wd (x ^^^ y)) := by
  have h := u32_xor_nat x.toNat y.toNat x.toNat_lt y.toNat_lt
  simp only [wd, binOp, UInt32.toNat_xor, ← h]
  rfl
theorem wd_and (t : TypeId) (x y : UInt32) : binOp .and t (wd x) (wd y) = pure (wd (x &&& y)) := by
  have h := u32_and_nat x.toNat y.toNat x.toNat_lt y.toNat_lt
  simp only [wd, binOp, UInt32.toNat_and, ← h]
  rfl
theorem wd_or (t : TypeId) (x y : UInt32) : binOp .or t (wd x) (wd y) = pure (wd (x ||| y)) := by
  have h := u32_or_nat x.toNat y.toNat x.toNat_lt y.toNat_lt
  simp only [wd, binOp, UInt32.toNat_or, ← h]
  rfl
theorem wd_shr (t : TypeId) (x : UInt32) (k : Nat) (hk : k < 32) : binOp .shr t (wd x) (.int .u64 (k : Int)) = pure (wd (x >>> UInt32.ofNat k)) := by
  have h0 : ¬ ((k : Int) < 0) := by omega
  have hm : min k 32 = k := by omega
  have hm' : k % 4294967296 % 32 = k := by omega
  simp only [wd, binOp, Op.shift, h0, if_false, Int.toNat_natCast, IntKind.bits, hm, UInt32.toNat_shiftRight, UInt32.toNat_ofNat', hm', Nat.shiftRight_eq_div_pow]
  congr 2
  rw [Int.fdiv_eq_ediv_of_nonneg _ (Int.le_of_lt (Int.pow_pos (by decide)))]
  simp
theorem wd_shl (t : TypeId) (x : UInt32) (k : Nat) (hk : k < 32) : binOp .shl t (wd x) (.int .u64 (k : Int)) = pure (wd (x <<< UInt32.ofNat k)) := by
  have h0 : ¬ ((k : Int) < 0) := by omega
  have hm : min k 32 = k := by omega
  have hm' : k % 4294967296 % 32 = k := by omega
  simp only [wd, binOp, Op.shift, h0, if_false, Int.toNat_natCast, IntKind.bits, hm, UInt32.toNat_shiftLeft, UInt32.toNat_ofNat', hm', Nat.shiftLeft_eq, IntKind.wrap_u32]
  congr 2
theorem wd_not (x : UInt32) : Op.unary .xor (wd x) = pure (wd (~~~x)) := by
  have h := u32_xor_nat 4294967295 x.toNat (by decide) x.toNat_lt
  have e : ~~~x = 4294967295 ^^^ x := by
    apply UInt32.toBitVec_inj.1
    rw [UInt32.toBitVec_not, UInt32.toBitVec_xor, BitVec.xor_comm]
    exact BitVec.xor_allOnes.symm
  rw [e]
  simp only [wd, Op.unary, UInt32.toNat_xor]
  show Op.intBits .xor .u32 ((4294967295 : Nat) : Int) (x.toNat : Int) = _
  exact congrArg (fun z => (pure (Value.int .u32 z) : Sem Value)) h
theorem wd_mul (t : TypeId) (x : UInt32) (k : Nat) (hk : k < 4294967296) : binOp .mul t (wd x) (.int .u32 (k : Int)) = pure (wd (x * UInt32.ofNat k)) := by
  simp only [wd, binOp, Op.intArith]
  simp [IntKind.wrap_u32, Nat.mod_eq_of_lt hk]
theorem wd_quo (t : TypeId) (x : UInt32) (k : Nat) (hk : k < 32) (d : Int) (hd : d = ((2 ^ k : Nat) : Int)) : binOp .quo t (wd x) (.int .u32 d) = pure (wd (x >>> UInt32.ofNat k)) := by
  subst hd
  have hp : 0 < 2 ^ k := Nat.pow_pos (by decide)
  have h0 : ¬ (((2 ^ k : Nat) : Int) = 0) := by omega
  have hm' : k % 4294967296 % 32 = k := by omega
  have hlt := x.toNat_lt
  have hq : (((x.toNat : Int)).tdiv ((2 ^ k : Nat) : Int)) = ((x.toNat / 2 ^ k : Nat) : Int) := by rw [Int.tdiv_eq_ediv_of_nonneg (by omega)]; rfl
  have hle : x.toNat / 2 ^ k ≤ x.toNat := Nat.div_le_self _ _
  simp only [wd, binOp, Op.intDiv, h0, if_false, hq, UInt32.toNat_shiftRight, UInt32.toNat_ofNat', hm', Nat.shiftRight_eq_div_pow]
  have hq0 : (0 : Int) ≤ ((x.toNat / 2 ^ k : Nat) : Int) := Int.natCast_nonneg _
  rw [IntWalk.u32_in _ (by constructor; exact hq0; have := Int.ofNat_le.2 hle; omega)]
  simp
theorem wd_neq (t : TypeId) (x y : UInt32) : binOp .neq t (wd x) (wd y) = pure (.bool (x != y)) := by
  have h : (((x.toNat : Int)) != (y.toNat : Int)) = (x != y) := by
    rw [Bool.eq_iff_iff]
    simp only [bne_iff_ne, ne_eq, Int.natCast_inj, UInt32.toNat_inj]
  simp only [wd, binOp, Op.intCmp, h]
  simp
theorem wd_eql (t : TypeId) (x y : UInt32) : binOp .eql t (wd x) (wd y) = pure (.bool (x == y)) := by
  have h : (((x.toNat : Int)) == (y.toNat : Int)) = (x == y) := by
    rw [Bool.eq_iff_iff]
    simp only [beq_iff_eq, Int.natCast_inj, UInt32.toNat_inj]
  simp only [wd, binOp, Op.intCmp, h]
  simp
theorem byte_wd (c : UInt8) : Value.int .u32 (c.toNat : Int) = wd c.toUInt32 := by simp [wd]
theorem byte_wd' (c : UInt8) : Value.int .u32 ((c.toNat : Int) % 4294967296) = wd c.toUInt32 := by
  have := c.toNat_lt
  rw [Int.emod_eq_of_lt (by omega) (by omega)]
  exact byte_wd c
theorem wd_byte (x : UInt32) (w : World) : (convert 85 5 (wd x)).run Tryd.prog w = .ok (.int .u8 (x.toUInt8.toNat : Int)) w := by
  simp only [wd]
  go_simp
  rw [IntKind.wrap_u8]
theorem store_wd (w : World) (g i : Nat) (old : Value) (hc : w.cell? ⟨g, i, none⟩ = some old) (hf : w.frozen? ⟨g, i, none⟩ = false) (y : UInt32) : (storeCells ⟨g, i, none⟩ [wd y]).run Tryd.prog w = .ok () (w.setCell ⟨g, i, none⟩ (wd y)) := by
  unfold wd
  go_simp
theorem num_wd (k : Nat) (hk : k < 4294967296) : Value.int .u32 (k : Int) = wd (UInt32.ofNat k) := by simp [wd, Nat.mod_eq_of_lt hk]
theorem wd_inj {x y : UInt32} : wd x = wd y ↔ x = y := by
  constructor
  · intro h
    simp only [wd, Value.int.injEq, true_and] at h
    exact UInt32.toNat_inj.1 (by omega)
  · rintro rfl; rfl

/-- What a walk is handed: sums and the like of words. -/
theorem rules_w : (∀ t x y w, (binOp .add t (wd x) (wd y)).run Tryd.prog w = .ok (wd (x + y)) w) ∧ (∀ t x y w, (binOp .xor t (wd x) (wd y)).run Tryd.prog w = .ok (wd (x ^^^ y)) w) ∧
    (∀ t x y w, (binOp .and t (wd x) (wd y)).run Tryd.prog w = .ok (wd (x &&& y)) w) ∧ (∀ t x y w, (binOp .or t (wd x) (wd y)).run Tryd.prog w = .ok (wd (x ||| y)) w) ∧ (∀ x w, (Op.unary .xor (wd x)).run Tryd.prog w = .ok (wd (~~~x)) w) :=
  ⟨fun t x y w => by rw [wd_add]; rfl, fun t x y w => by rw [wd_xor]; rfl, fun t x y w => by rw [wd_and]; rfl, fun t x y w => by rw [wd_or]; rfl, fun x w => by rw [wd_not]; rfl⟩
theorem run_shr (k : Nat) (hk : k < 32) (d : Int) (hd : d = (k : Int)) (t : TypeId) (x : UInt32) (w : World) : (binOp .shr t (wd x) (.int .u64 d)).run Tryd.prog w = .ok (wd (x >>> UInt32.ofNat k)) w := by
  subst hd
  rw [wd_shr t x k hk]
  rfl
theorem run_shl (k : Nat) (hk : k < 32) (d : Int) (hd : d = (k : Int)) (t : TypeId) (x : UInt32) (w : World) : (binOp .shl t (wd x) (.int .u64 d)).run Tryd.prog w = .ok (wd (x <<< UInt32.ofNat k)) w := by
  subst hd
  rw [wd_shl t x k hk]
  rfl
theorem run_quo (k : Nat) (hk : k < 32) (d : Int) (hd : d = ((2 ^ k : Nat) : Int)) (t : TypeId) (x : UInt32) (w : World) : (binOp .quo t (wd x) (.int .u32 d)).run Tryd.prog w = .ok (wd (x >>> UInt32.ofNat k)) w := by
  rw [wd_quo t x k hk d hd]
  rfl
theorem run_mul (k : Nat) (hk : k < 4294967296) (d : Int) (hd : d = (k : Int)) (t : TypeId) (x : UInt32) (w : World) : (binOp .mul t (wd x) (.int .u32 d)).run Tryd.prog w = .ok (wd (x * UInt32.ofNat k)) w := by
  subst hd
  rw [wd_mul t x k hk]
  rfl
theorem run_eql (t : TypeId) (x y : UInt32) (w : World) : (binOp .eql t (wd x) (wd y)).run Tryd.prog w = .ok (.bool (x == y)) w := by
  rw [wd_eql]
  rfl
theorem run_neq (t : TypeId) (x y : UInt32) (w : World) : (binOp .neq t (wd x) (wd y)).run Tryd.prog w = .ok (.bool (x != y)) w := by
  rw [wd_neq]
  rfl

/-- Words as cells. -/
def wv (l : List UInt32) : Array Value := (l.map wd).toArray
theorem wv_size (l : List UInt32) : (wv l).size = l.length := by simp [wv]
theorem wv_at (l : List UInt32) (i : Nat) (x : UInt32) (h : l[i]? = some x) : (wv l)[i]? = some (wd x) := by simp [wv, h]
theorem wv_set (l : List UInt32) (i : Nat) (x : UInt32) : (wv l).setIfInBounds i (wd x) = wv (l.set i x) := by simp [wv, List.map_set]
theorem wv_one (l : List UInt32) : (wv l).all (·.oneCell') = true := by
  simp only [wv, Array.all_eq_true_iff_forall_mem]
  intro v hv
  simp at hv
  obtain ⟨x, _, rfl⟩ := hv
  rfl
end Go.Proofs.YtehalcopkjfdkaaDoor

namespace Go.Proofs.YtehalcopkjfdkaaDoor
set_option maxRecDepth 100000
open Go.RowKit

/-- A word turned round to the right. -/
def rotr (x : UInt32) (k : Nat) : UInt32 := (x >>> UInt32.ofNat k) ||| (x <<< UInt32.ofNat (32 - k))

theorem right_2 (x : UInt32) (w : World) : Calls Tryd.prog 75 #[wd x, .int .i64 2] w fun e w' => e = .returned (wd (rotr x 2)) ∧ w = w' := by
  obtain ⟨-, -, -, r4, -⟩ := rules_w
  have s1 := run_shl 30 (by decide) 30 rfl
  have s2 := run_shr 2 (by decide) 2 rfl
  have hb : bits .and .u64 (IntKind.u64.wrap (-2)) 31 = 30 := by decide
  go_enter Tryd.func75, Tryd.ntmps75
  go_wp2
  go_ret
  exact ⟨congrArg (fun z => Ending.returned (wd z)) (UInt32.or_comm _ _), rfl⟩
theorem right_6 (x : UInt32) (w : World) : Calls Tryd.prog 75 #[wd x, .int .i64 6] w fun e w' => e = .returned (wd (rotr x 6)) ∧ w = w' := by
  obtain ⟨-, -, -, r4, -⟩ := rules_w
  have s1 := run_shl 26 (by decide) 26 rfl
  have s2 := run_shr 6 (by decide) 6 rfl
  have hb : bits .and .u64 (IntKind.u64.wrap (-6)) 31 = 26 := by decide
  go_enter Tryd.func75, Tryd.ntmps75
  go_wp2
  go_ret
  exact ⟨congrArg (fun z => Ending.returned (wd z)) (UInt32.or_comm _ _), rfl⟩
theorem right_7 (x : UInt32) (w : World) : Calls Tryd.prog 75 #[wd x, .int .i64 7] w fun e w' => e = .returned (wd (rotr x 7)) ∧ w = w' := by
  obtain ⟨-, -, -, r4, -⟩ := rules_w
  have s1 := run_shl 25 (by decide) 25 rfl
  have s2 := run_shr 7 (by decide) 7 rfl
  have hb : bits .and .u64 (IntKind.u64.wrap (-7)) 31 = 25 := by decide
  go_enter Tryd.func75, Tryd.ntmps75
  go_wp2
  go_ret
  exact ⟨congrArg (fun z => Ending.returned (wd z)) (UInt32.or_comm _ _), rfl⟩
theorem right_11 (x : UInt32) (w : World) : Calls Tryd.prog 75 #[wd x, .int .i64 11] w fun e w' => e = .returned (wd (rotr x 11)) ∧ w = w' := by
  obtain ⟨-, -, -, r4, -⟩ := rules_w
  have s1 := run_shl 21 (by decide) 21 rfl
  have s2 := run_shr 11 (by decide) 11 rfl
  have hb : bits .and .u64 (IntKind.u64.wrap (-11)) 31 = 21 := by decide
  go_enter Tryd.func75, Tryd.ntmps75
  go_wp2
  go_ret
  exact ⟨congrArg (fun z => Ending.returned (wd z)) (UInt32.or_comm _ _), rfl⟩
theorem right_13 (x : UInt32) (w : World) : Calls Tryd.prog 75 #[wd x, .int .i64 13] w fun e w' => e = .returned (wd (rotr x 13)) ∧ w = w' := by
  obtain ⟨-, -, -, r4, -⟩ := rules_w
  have s1 := run_shl 19 (by decide) 19 rfl
  have s2 := run_shr 13 (by decide) 13 rfl
  have hb : bits .and .u64 (IntKind.u64.wrap (-13)) 31 = 19 := by decide
  go_enter Tryd.func75, Tryd.ntmps75
  go_wp2
  go_ret
  exact ⟨congrArg (fun z => Ending.returned (wd z)) (UInt32.or_comm _ _), rfl⟩
theorem right_17 (x : UInt32) (w : World) : Calls Tryd.prog 75 #[wd x, .int .i64 17] w fun e w' => e = .returned (wd (rotr x 17)) ∧ w = w' := by
  obtain ⟨-, -, -, r4, -⟩ := rules_w
  have s1 := run_shl 15 (by decide) 15 rfl
  have s2 := run_shr 17 (by decide) 17 rfl
  have hb : bits .and .u64 (IntKind.u64.wrap (-17)) 31 = 15 := by decide
  go_enter Tryd.func75, Tryd.ntmps75
  go_wp2
  go_ret
  exact ⟨congrArg (fun z => Ending.returned (wd z)) (UInt32.or_comm _ _), rfl⟩
theorem right_18 (x : UInt32) (w : World) : Calls Tryd.prog 75 #[wd x, .int .i64 18] w fun e w' => e = .returned (wd (rotr x 18)) ∧ w = w' := by
  obtain ⟨-, -, -, r4, -⟩ := rules_w
  have s1 := run_shl 14 (by decide) 14 rfl
  have s2 := run_shr 18 (by decide) 18 rfl
  have hb : bits .and .u64 (IntKind.u64.wrap (-18)) 31 = 14 := by decide
  go_enter Tryd.func75, Tryd.ntmps75
  go_wp2
  go_ret
  exact ⟨congrArg (fun z => Ending.returned (wd z)) (UInt32.or_comm _ _), rfl⟩
theorem right_19 (x : UInt32) (w : World) : Calls Tryd.prog 75 #[wd x, .int .i64 19] w fun e w' => e = .returned (wd (rotr x 19)) ∧ w = w' := by
  obtain ⟨-, -, -, r4, -⟩ := rules_w
  have s1 := run_shl 13 (by decide) 13 rfl
  have s2 := run_shr 19 (by decide) 19 rfl
  have hb : bits .and .u64 (IntKind.u64.wrap (-19)) 31 = 13 := by decide
  go_enter Tryd.func75, Tryd.ntmps75
  go_wp2
  go_ret
  exact ⟨congrArg (fun z => Ending.returned (wd z)) (UInt32.or_comm _ _), rfl⟩
theorem right_22 (x : UInt32) (w : World) : Calls Tryd.prog 75 #[wd x, .int .i64 22] w fun e w' => e = .returned (wd (rotr x 22)) ∧ w = w' := by
  obtain ⟨-, -, -, r4, -⟩ := rules_w
  have s1 := run_shl 10 (by decide) 10 rfl
  have s2 := run_shr 22 (by decide) 22 rfl
  have hb : bits .and .u64 (IntKind.u64.wrap (-22)) 31 = 10 := by decide
  go_enter Tryd.func75, Tryd.ntmps75
  go_wp2
  go_ret
  exact ⟨congrArg (fun z => Ending.returned (wd z)) (UInt32.or_comm _ _), rfl⟩
theorem right_25 (x : UInt32) (w : World) : Calls Tryd.prog 75 #[wd x, .int .i64 25] w fun e w' => e = .returned (wd (rotr x 25)) ∧ w = w' := by
  obtain ⟨-, -, -, r4, -⟩ := rules_w
  have s1 := run_shl 7 (by decide) 7 rfl
  have s2 := run_shr 25 (by decide) 25 rfl
  have hb : bits .and .u64 (IntKind.u64.wrap (-25)) 31 = 7 := by decide
  go_enter Tryd.func75, Tryd.ntmps75
  go_wp2
  go_ret
  exact ⟨congrArg (fun z => Ending.returned (wd z)) (UInt32.or_comm _ _), rfl⟩
theorem refRight_2 (x : UInt32) (w : World) : Calls Tryd.prog 72 #[wd x, .int .u64 2] w fun e w' => e = .returned (wd (rotr x 2)) ∧ w = w' := by
  obtain ⟨-, -, -, r4, -⟩ := rules_w
  have s1 := run_shl 30 (by decide) 30 rfl
  have s2 := run_shr 2 (by decide) 2 rfl
  go_enter Tryd.func72, Tryd.ntmps72
  go_wp2
  go_ret
  exact ⟨rfl, rfl⟩
theorem refRight_6 (x : UInt32) (w : World) : Calls Tryd.prog 72 #[wd x, .int .u64 6] w fun e w' => e = .returned (wd (rotr x 6)) ∧ w = w' := by
  obtain ⟨-, -, -, r4, -⟩ := rules_w
  have s1 := run_shl 26 (by decide) 26 rfl
  have s2 := run_shr 6 (by decide) 6 rfl
  go_enter Tryd.func72, Tryd.ntmps72
  go_wp2
  go_ret
  exact ⟨rfl, rfl⟩
theorem refRight_7 (x : UInt32) (w : World) : Calls Tryd.prog 72 #[wd x, .int .u64 7] w fun e w' => e = .returned (wd (rotr x 7)) ∧ w = w' := by
  obtain ⟨-, -, -, r4, -⟩ := rules_w
  have s1 := run_shl 25 (by decide) 25 rfl
  have s2 := run_shr 7 (by decide) 7 rfl
  go_enter Tryd.func72, Tryd.ntmps72
  go_wp2
  go_ret
  exact ⟨rfl, rfl⟩
theorem refRight_11 (x : UInt32) (w : World) : Calls Tryd.prog 72 #[wd x, .int .u64 11] w fun e w' => e = .returned (wd (rotr x 11)) ∧ w = w' := by
  obtain ⟨-, -, -, r4, -⟩ := rules_w
  have s1 := run_shl 21 (by decide) 21 rfl
  have s2 := run_shr 11 (by decide) 11 rfl
  go_enter Tryd.func72, Tryd.ntmps72
  go_wp2
  go_ret
  exact ⟨rfl, rfl⟩
theorem refRight_13 (x : UInt32) (w : World) : Calls Tryd.prog 72 #[wd x, .int .u64 13] w fun e w' => e = .returned (wd (rotr x 13)) ∧ w = w' := by
  obtain ⟨-, -, -, r4, -⟩ := rules_w
  have s1 := run_shl 19 (by decide) 19 rfl
  have s2 := run_shr 13 (by decide) 13 rfl
  go_enter Tryd.func72, Tryd.ntmps72
  go_wp2
  go_ret
  exact ⟨rfl, rfl⟩
theorem refRight_17 (x : UInt32) (w : World) : Calls Tryd.prog 72 #[wd x, .int .u64 17] w fun e w' => e = .returned (wd (rotr x 17)) ∧ w = w' := by
  obtain ⟨-, -, -, r4, -⟩ := rules_w
  have s1 := run_shl 15 (by decide) 15 rfl
  have s2 := run_shr 17 (by decide) 17 rfl
  go_enter Tryd.func72, Tryd.ntmps72
  go_wp2
  go_ret
  exact ⟨rfl, rfl⟩
theorem refRight_18 (x : UInt32) (w : World) : Calls Tryd.prog 72 #[wd x, .int .u64 18] w fun e w' => e = .returned (wd (rotr x 18)) ∧ w = w' := by
  obtain ⟨-, -, -, r4, -⟩ := rules_w
  have s1 := run_shl 14 (by decide) 14 rfl
  have s2 := run_shr 18 (by decide) 18 rfl
  go_enter Tryd.func72, Tryd.ntmps72
  go_wp2
  go_ret
  exact ⟨rfl, rfl⟩
theorem refRight_19 (x : UInt32) (w : World) : Calls Tryd.prog 72 #[wd x, .int .u64 19] w fun e w' => e = .returned (wd (rotr x 19)) ∧ w = w' := by
  obtain ⟨-, -, -, r4, -⟩ := rules_w
  have s1 := run_shl 13 (by decide) 13 rfl
  have s2 := run_shr 19 (by decide) 19 rfl
  go_enter Tryd.func72, Tryd.ntmps72
  go_wp2
  go_ret
  exact ⟨rfl, rfl⟩
theorem refRight_22 (x : UInt32) (w : World) : Calls Tryd.prog 72 #[wd x, .int .u64 22] w fun e w' => e = .returned (wd (rotr x 22)) ∧ w = w' := by
  obtain ⟨-, -, -, r4, -⟩ := rules_w
  have s1 := run_shl 10 (by decide) 10 rfl
  have s2 := run_shr 22 (by decide) 22 rfl
  go_enter Tryd.func72, Tryd.ntmps72
  go_wp2
  go_ret
  exact ⟨rfl, rfl⟩
theorem refRight_25 (x : UInt32) (w : World) : Calls Tryd.prog 72 #[wd x, .int .u64 25] w fun e w' => e = .returned (wd (rotr x 25)) ∧ w = w' := by
  obtain ⟨-, -, -, r4, -⟩ := rules_w
  have s1 := run_shl 7 (by decide) 7 rfl
  have s2 := run_shr 25 (by decide) 25 rfl
  go_enter Tryd.func72, Tryd.ntmps72
  go_wp2
  go_ret
  exact ⟨rfl, rfl⟩
end Go.Proofs.YtehalcopkjfdkaaDoor
