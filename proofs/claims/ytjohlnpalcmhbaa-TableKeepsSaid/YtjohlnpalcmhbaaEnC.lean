/- Entries in memory: a block that is one, read whole, stored whole, compared. -/
import Derived.Test.YtjohlnpalcmhbaaEnV
import Derived.StillTailTactics
namespace Go.Proofs.Ytjohlnpalcmhbaa
set_option maxRecDepth 100000
open Go.RowKit

def Ent.cells (e : Ent) : Array Value := #[.string ⟨e.name.toArray⟩, .int .u64 (e.id : Int), .int .i64 e.since, .int .i64 e.till, .int .i64 e.index, .string ⟨e.tag.toArray⟩]
theorem Ent.val_cells (e : Ent) : e.val = .agg e.cells := rfl
theorem Ent.cells_size (e : Ent) : e.cells.size = 6 := rfl
theorem Ent.cells_one (e : Ent) : e.cells.all (·.oneCell') = true := by simp [Ent.cells, Value.oneCell']
theorem ent_size : (Try.prog.info? 25).map (·.size) = some 6 := by kernel_rfl

theorem ent_size' (e : Ent) : (Try.prog.info? 25).map (·.size) = some e.cells.size := ent_size

/-- An entry in a block. -/
def EntAt (w : World) (g : Nat) (e : Ent) : Prop := Whole w g 25 e.cells
theorem EntAt.below {w w' : World} {B g : Nat} {e : Ent} (h : EntAt w g e) (hb : Below B w w') (hg : g < B) : EntAt w' g e := Whole.below h hb hg

/-- Its six cells. -/
theorem EntAt.six {w : World} {g : Nat} {e : Ent} (h : EntAt w g e) : w.cell? ⟨g, 0, none⟩ = some (.string ⟨e.name.toArray⟩) ∧ w.cell? ⟨g, 1, none⟩ = some (.int .u64 (e.id : Int)) ∧ w.cell? ⟨g, 2, none⟩ = some (.int .i64 e.since) ∧ w.cell? ⟨g, 3, none⟩ = some (.int .i64 e.till) ∧ w.cell? ⟨g, 4, none⟩ = some (.int .i64 e.index) ∧ w.cell? ⟨g, 5, none⟩ = some (.string ⟨e.tag.toArray⟩) :=
  ⟨h.at_ 0, h.at_ 1, h.at_ 2, h.at_ 3, h.at_ 4, h.at_ 5⟩

theorem load_ent {w : World} {g : Nat} {e : Ent} (h : EntAt w g e) : (loadVar 25 ⟨g, 0, none⟩).run Try.prog w = .ok e.val w := by
  obtain ⟨n, i, f, u, x, t⟩ := e
  have c0 := h.at_ 0
  have c1 := h.at_ 1
  have c2 := h.at_ 2
  have c3 := h.at_ 3
  have c4 := h.at_ 4
  have c5 := h.at_ 5
  simp [Ent.cells] at c0 c1 c2 c3 c4 c5
  simp only [Ent.val, Ent.enc]
  go_simp

theorem exec_load_ent {ev : Operand → Value} {o : Oper} (x : Operand) (ho : o.op = .load 25 x) (g : Nat) (hx : ev x = .pointer (some ⟨g, 0, none⟩)) (e : Ent) (w : World) (hg : EntAt w g e) :
    (execOp ev o).run Try.prog w = .ok (.value e.val) w := by
  have h := load_ent hg
  unfold execOp
  simp [ho, hx, Instr.loadAt, Instr.sureAddr, h]
theorem wp_load_ent {o : Oper} {a : Act} {w : World} {K : Act → World → Prop} {Q : Exit → Act → World → Prop} (x : Operand) (ho : o.op = .load 25 x) (g : Nat) (hx : a.eval x = .pointer (some ⟨g, 0, none⟩)) (e : Ent) (hg : EntAt w g e)
    (h : K (a.put o.dst e.val) w) : o.wp Try.prog a w K Q := by
  have hl := load_ent hg
  unfold Oper.wp execOp
  simp only [ho, hx, Instr.loadAt, Instr.sureAddr, Sem.run_bind, Sem.run_pure, Result.andThen_ok, hl]
  exact h
theorem wpList_load_ent {ops : Array Oper} {rest : List Oper} {o : Oper} {a : Act} {w : World} {Q : Exit → Act → World → Prop} (hgd : o.guard = none) (x : Operand) (ho : o.op = .load 25 x) (g : Nat) (hx : a.eval x = .pointer (some ⟨g, 0, none⟩)) (e : Ent) (hg : EntAt w g e)
    (h : wpList Try.prog ops Q rest (a.put o.dst e.val) w) : wpList Try.prog ops Q (o :: rest) a w :=
  wpList_plain hgd fun _ hK => wp_load_ent x ho g hx e hg (hK _ _ h)

theorem wpList_load_ent_w {ops : Array Oper} {rest : List Oper} {o : Oper} {a : Act} {w : World} {Q : Exit → Act → World → Prop} (hw : Region.wanted o (yielded ops a.tmps) = true) (x : Operand) (ho : o.op = .load 25 x) (g : Nat) (hx : a.eval x = .pointer (some ⟨g, 0, none⟩)) (e : Ent) (hg : EntAt w g e)
    (h : wpList Try.prog ops Q rest (a.put o.dst e.val) w) : wpList Try.prog ops Q (o :: rest) a w :=
  wpList_step fun _ hK => by
    rw [if_pos hw]
    exact wp_load_ent x ho g hx e hg (hK _ _ h)

theorem eq_ent (a b : Ent) (t : TypeId) (w : World) (ht : t = 25) : (binOp .eql t a.val b.val).run Try.prog w = .ok (.bool (decide (a = b))) w := by
  subst ht
  obtain ⟨n1, i1, f1, u1, x1, t1⟩ := a
  obtain ⟨n2, i2, f2, u2, x2, t2⟩ := b
  simp only [Ent.val, Ent.enc]
  go_simp
  by_cases h1 : n1 = n2
  · by_cases h2 : i1 = i2
    · by_cases h3 : f1 = f2
      · by_cases h4 : u1 = u2
        · by_cases h5 : x1 = x2
          · by_cases h6 : t1 = t2
            · simp [h1, h2, h3, h4, h5, h6]
            · simp [h1, h2, h3, h4, h5, h6]
          · simp [h1, h2, h3, h4, h5]
        · simp [h1, h2, h3, h4]
      · simp [h1, h2, h3]
    · have h2' : ¬ ((i1 : Int) = (i2 : Int)) := by omega
      simp [h1, h2, h2']
  · simp [h1]
theorem neq_ent (a b : Ent) (t : TypeId) (w : World) (ht : t = 25) : (binOp .neq t a.val b.val).run Try.prog w = .ok (.bool (!decide (a = b))) w := by
  subst ht
  obtain ⟨n1, i1, f1, u1, x1, t1⟩ := a
  obtain ⟨n2, i2, f2, u2, x2, t2⟩ := b
  simp only [Ent.val, Ent.enc]
  go_simp
  by_cases h1 : n1 = n2
  · by_cases h2 : i1 = i2
    · by_cases h3 : f1 = f2
      · by_cases h4 : u1 = u2
        · by_cases h5 : x1 = x2
          · by_cases h6 : t1 = t2
            · simp [h1, h2, h3, h4, h5, h6]
            · simp [h1, h2, h3, h4, h5, h6]
          · simp [h1, h2, h3, h4, h5]
        · simp [h1, h2, h3, h4]
      · simp [h1, h2, h3]
    · have h2' : ¬ ((i1 : Int) = (i2 : Int)) := by omega
      simp [h1, h2, h2']
  · simp [h1]

theorem exec_eq_ent {ev : Operand → Value} {o : Oper} (x y : Operand) (t : TypeId) (ho : o.op = .binOp .eql 25 x y t) (a b : Ent) (hx : ev x = a.val) (hy : ev y = b.val) (q : Bool) (hq : q = decide (a = b)) (w : World) : (execOp ev o).run Try.prog w = .ok (.value (.bool q)) w := by
  have h := eq_ent a b 25 w rfl
  have hg : (eqGuard .eql 25 x y a.val b.val).run Try.prog w = .ok () w := by
    simp only [Ent.val, Ent.enc]
    go_simp
  unfold execOp
  simp [ho, hx, hy, h, hq, hg]
theorem exec_neq_ent {ev : Operand → Value} {o : Oper} (x y : Operand) (t : TypeId) (ho : o.op = .binOp .neq 25 x y t) (a b : Ent) (hx : ev x = a.val) (hy : ev y = b.val) (q : Bool) (hq : q = !decide (a = b)) (w : World) : (execOp ev o).run Try.prog w = .ok (.value (.bool q)) w := by
  have h := neq_ent a b 25 w rfl
  have hg : (eqGuard .neq 25 x y a.val b.val).run Try.prog w = .ok () w := by
    simp only [Ent.val, Ent.enc]
    go_simp
  unfold execOp
  simp [ho, hx, hy, h, hq, hg]

/-- The entry of nothing. -/
def ent0 : Ent := ⟨[], 0, 0, 0, 0, []⟩
theorem ent_zero : (Try.prog.info? 25).map (·.zero) = some (some ent0.val) := by kernel_rfl
theorem EntAt.name {w : World} {x : Nat} {e : Ent} (h : EntAt w x e) (n : List UInt8) : EntAt (w.setCell ⟨x, 0, none⟩ (.string ⟨n.toArray⟩)) x { e with name := n } := h.stored 0 _
theorem EntAt.id {w : World} {x : Nat} {e : Ent} (h : EntAt w x e) (n : Nat) : EntAt (w.setCell ⟨x, 1, none⟩ (.int .u64 (n : Int))) x { e with id := n } := h.stored 1 _
theorem EntAt.since {w : World} {x : Nat} {e : Ent} (h : EntAt w x e) (n : Int) : EntAt (w.setCell ⟨x, 2, none⟩ (.int .i64 n)) x { e with since := n } := h.stored 2 _
theorem EntAt.till {w : World} {x : Nat} {e : Ent} (h : EntAt w x e) (n : Int) : EntAt (w.setCell ⟨x, 3, none⟩ (.int .i64 n)) x { e with till := n } := h.stored 3 _
theorem EntAt.index {w : World} {x : Nat} {e : Ent} (h : EntAt w x e) (n : Int) : EntAt (w.setCell ⟨x, 4, none⟩ (.int .i64 n)) x { e with index := n } := h.stored 4 _
theorem EntAt.tag {w : World} {x : Nat} {e : Ent} (h : EntAt w x e) (n : List UInt8) : EntAt (w.setCell ⟨x, 5, none⟩ (.string ⟨n.toArray⟩)) x { e with tag := n } := h.stored 5 _

/-- One result: an entry in a block. -/
theorem results_ent {fn : Func} {p : Tmp} (h : fn.results = #[.cell p 25]) (tmps : Array Value) (w : World) (g : Nat) (e : Ent)
    (hp : tmps.getD p undef = .pointer (some ⟨g, 0, none⟩)) (hg : EntAt w g e) : (results fn tmps).run Try.prog w = .ok e.val w := by
  have hl := load_ent hg
  have hp' : tmps[p]?.getD undef = .pointer (some ⟨g, 0, none⟩) := by simpa using hp
  simp [results, h, hp', asAddr, hl]
/-- Results: an entry in a block, and one in a slot. -/
theorem results_ent_tmp {fn : Func} {p q : Tmp} (h : fn.results = #[.cell p 25, .tmp q]) (tmps : Array Value) (w : World) (g : Nat) (e : Ent)
    (hp : tmps.getD p undef = .pointer (some ⟨g, 0, none⟩)) (hg : EntAt w g e) : (results fn tmps).run Try.prog w = .ok (.tuple #[e.val, tmps.getD q undef]) w := by
  have hl := load_ent hg
  have hp' : tmps[p]?.getD undef = .pointer (some ⟨g, 0, none⟩) := by simpa using hp
  simp [results, h, hp', asAddr, hl]

end Go.Proofs.Ytjohlnpalcmhbaa
