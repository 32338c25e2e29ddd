/- General: closures and their captured variables; parts of rows of structs, of one's own and of others. (The words of stage 23, for whatever program.) -/
import Derived.Test.YtjohlnpalcmhbaaRwS
import Derived.Test.YtjohlnpalcmhbaaFoot
import Derived.Test.YtjohlnpalcmhbaaGenS
import Derived.Test.YtjohlnpalcmhbaaGenT
import Derived.Lib.AppendZerosOnto
import Derived.Deep.DeepCutAuto
import Derived.Deep.LoopGhost
namespace Go.Proofs.Ytjohlnpalcmhbaa
set_option maxRecDepth 100000
open Go.RowKit

/-- A function with a body is entered. -/
theorem enter_of {P : Program} {F : FuncId} {fn : Func} (hf : P.funcs[F]? = some fn) (hn : decide (fn.name = "runtime.NumGoroutine") = false) (hb : fn.body.isNone = false) (args : Array Value) (w : World) : (callFunc F args).run P w = .ok (.enter F args) w := by
  have h1 : ¬ fn.name = "runtime.NumGoroutine" := by simpa using hn
  have h2 : ¬ fn.body = none := fun e => by rw [e] at hb; cases hb
  simp [callFunc, go_sem, hf, h1, h2]
/-- A variable of one cell, as a closure has it. -/
structure CellAt (w : World) (g : Nat) (v : Value) : Prop where
  lt : g < w.heap.size
  cell : w.cell? ⟨g, 0, none⟩ = some v
theorem CellAt.below {w w' : World} {g : Nat} {v : Value} (h : CellAt w g v) (b : Below w.heap.size w w') : CellAt w' g v := ⟨Nat.lt_of_lt_of_le h.lt b.size, (b.cell (p := ⟨g, 0, none⟩) h.lt).trans h.cell⟩
theorem CellAt.far {w w' : World} {g : Nat} {v : Value} (h : CellAt w g v) {k : Option Nat} (q : w.grownBy w' k) (hk : some g ≠ k) : CellAt w' g v := ⟨Nat.lt_of_lt_of_le h.lt q.size, (World.cell?_of_block (q.block g h.lt hk)).trans h.cell⟩
theorem CellAt.new (w : World) (t : TypeId) (v : Value) : CellAt (w.alloc (.cells #[v] t)) w.heap.size v := ⟨(Whole.new w t #[v]).lt, (Whole.new w t #[v]).at_ 0⟩
theorem wpList_box_one {P : Program} {ops : Array Oper} {rest : List Oper} {o : Oper} {a : Act} {w : World} {Q : Exit → Act → World → Prop} (hgd : o.guard = none) (t : TypeId) (x : Operand) (ho : o.op = .box t x) (v : Value) (hv : v.cells = #[v]) (hx : a.eval x = v)
    (h : ∀ w', Below w.heap.size w w' → CellAt w' w.heap.size v → w'.heap.size = w.heap.size + 1 → wpList P ops Q rest (a.put o.dst (.pointer (some ⟨w.heap.size, 0, none⟩))) w') : wpList P ops Q (o :: rest) a w :=
  wpList_plain hgd fun _ hK => by
    have q := hK _ _ (h (w.alloc (.cells #[v] t)) ((Below.refl _ _).alloc (Nat.le_refl _) _) (CellAt.new w t v) (by simp))
    unfold Oper.wp execOp
    simpa [ho, hx, Instr.box, newVar, newRow, hv, Oper.upon] using q
/-! ### rows of one's own -/
theorem OwnRows.spot {w : World} {base k n cap : Nat} {e : TypeId} {A : Option Addr} {L : List (List Value)} (h : OwnRows w base e k (.slice A n cap) L) (hl : L ≠ []) : ∃ g, A = some ⟨g, 0, none⟩ := by
  rcases h.1.2 with ⟨h1, hn⟩ | ⟨g, cap', cur, h1, -⟩
  · rw [List.length_eq_zero_iff] at hn; exact absurd hn hl
  · injection h1 with h1; exact ⟨g, h1⟩
theorem OwnRows.eqL {w : World} {base k : Nat} {e : TypeId} {v : Value} {L M : List (List Value)} (h : OwnRows w base e k v L) (he : L = M) : OwnRows w base e k v M := he ▸ h
/-- The first of them. -/
theorem RowsAt.firsts {w : World} {A : Option Addr} {n cap k i : Nat} {L : List (List Value)} (h : RowsAt w (.slice A n cap) k L) (hi : i ≤ n) : RowsAt w (.slice A i cap) k (L.take i) := by
  obtain ⟨hn, hc⟩ := h.size
  obtain ⟨A', cap', e, -, hcell⟩ := h
  injection e with e1 e2 e3
  subst e1 e3
  refine ⟨A, cap, by rw [List.length_take]; congr 1; omega, by rw [List.length_take]; omega, fun hl => ?_⟩
  obtain ⟨ad, rfl, hx⟩ := hcell (by rintro rfl; simp at hl)
  refine ⟨ad, rfl, fun j c hj u z hz => ?_⟩
  rw [List.getElem?_take] at hj
  split at hj
  · exact hx j c hj u z hz
  · cases hj
/-- All but the first of them. -/
theorem RowsAt.suffix {w : World} {b off n cap k i : Nat} {L : List (List Value)} (h : RowsAt w (.slice (some ⟨b, off, none⟩) n cap) k L) (hi : i ≤ n) (A : Addr) (hA : i < n → A = ⟨b, off + i * k, none⟩) : RowsAt w (.slice (some A) (n - i) (cap - i)) k (L.drop i) := by
  obtain ⟨hn, hc⟩ := h.size
  obtain ⟨A', cap', e, -, hcell⟩ := h
  injection e with e1 e2 e3
  subst e1 e3
  refine ⟨some A, cap - i, by rw [List.length_drop, ← hn], by rw [List.length_drop]; omega, fun hl => ⟨A, rfl, fun j c hj u z hz => ?_⟩⟩
  have hlt : i < n := by
    rcases Nat.lt_or_ge i n with q | q
    · exact q
    · exact absurd (List.drop_eq_nil_of_le (by omega)) hl
  obtain ⟨ad, e4, hx⟩ := hcell (by rintro rfl; simp at hl)
  injection e4 with e4
  subst e4
  rw [hA hlt]
  rw [List.getElem?_drop] at hj
  have q := hx (i + j) c hj u z hz
  have e5 : (⟨b, off, none⟩ : Addr).add ((i + j) * k + u) = (⟨b, off + i * k, none⟩ : Addr).add (j * k + u) := by
    have e6 := Nat.add_mul i j k
    unfold Addr.add
    by_cases z1 : (i + j) * k + u = 0
    · rw [if_pos z1, if_pos (by omega), show i * k = 0 by omega, Nat.add_zero]
    · rw [if_neg z1]
      by_cases z2 : j * k + u = 0
      · rw [if_pos z2, show (i + j) * k + u = i * k by omega]
      · rw [if_neg z2, show off + ((i + j) * k + u) = off + i * k + (j * k + u) by omega]
  rw [← e5]
  exact q

/-- Where what is behind the first of a slice of structs of N cells lies. -/
def sufK (N b off cap i : Nat) : Addr := if cap = i then ⟨b, off, none⟩ else (⟨b, off, none⟩ : Addr).add (i * N)
theorem sufK_is {N b off cap i n : Nat} (h : i < n) (hn : n ≤ cap) : sufK N b off cap i = ⟨b, off + i * N, none⟩ := by
  rw [sufK, if_neg (by omega)]
  unfold Addr.add
  by_cases z : i * N = 0
  · rw [if_pos z, z, Nat.add_zero]
  · rw [if_neg z]
/-- .. of whatever slice. -/
def sufO (N : Nat) (A : Option Addr) (cap i : Nat) : Option Addr := A.map fun a => if cap = i then a else a.add (i * N)
theorem RowsAt.suffixO {w : World} {A : Option Addr} {n cap k i : Nat} {L : List (List Value)} (h : RowsAt w (.slice A n cap) k L) (hk : ∀ c ∈ L, c.length = k) (h0 : 0 < k) (hi : i ≤ n) : RowsAt w (.slice (sufO k A cap i) (n - i) (cap - i)) k (L.drop i) := by
  obtain ⟨hn, hc⟩ := h.size
  rcases Nat.lt_or_ge i n with q | q
  · obtain ⟨x, hx⟩ : ∃ x, L[i]? = some x := ⟨_, List.getElem?_eq_getElem (by omega)⟩
    obtain ⟨b, off, rfl, -, -⟩ := h.row hk h0 hx
    have e : sufO k (some ⟨b, off, none⟩) cap i = some (sufK k b off cap i) := by simp [sufO, sufK]
    rw [e]
    exact h.suffix hi _ fun q => sufK_is q hc
  · have e : L.drop i = [] := List.drop_eq_nil_of_le (by omega)
    have e2 : n - i = 0 := by omega
    rw [e, e2]
    exact ⟨sufO k A cap i, cap - i, rfl, Nat.zero_le _, fun h => absurd rfl h⟩
section
variable {w : World}
theorem wpList_exec {P : Program} {ops : Array Oper} {rest : List Oper} {o : Oper} {a : Act} {Q : Exit → Act → World → Prop} (hgd : o.guard = none) (v : Value) (hy : (execOp a.eval o).run P w = .ok (.value v) w) (h : wpList P ops Q rest (a.put o.dst v) w) : wpList P ops Q (o :: rest) a w :=
  wpList_plain hgd fun _ hK => by
    have q := hK _ _ h
    unfold Oper.wp
    rw [hy]
    exact q
end
end Go.Proofs.Ytjohlnpalcmhbaa
