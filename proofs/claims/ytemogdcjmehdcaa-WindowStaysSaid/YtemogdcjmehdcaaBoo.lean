/- Rows of truths that a call makes for itself: made, appended to, stored into, read. -/
import Derived.Test.YtemogdcjmehdcaaGenS
import Derived.Test.YtemogdcjmehdcaaGenT
import Derived.IntWalk
namespace Go.Proofs.Ytemogdcjmehdcaa
set_option maxRecDepth 100000
open Go.RowKit

/-- Truths as cells. -/
def bo (l : List Bool) : List Value := l.map fun (b : Bool) => Value.bool b
theorem bo_length (l : List Bool) : (bo l).length = l.length := by simp [bo]
theorem bo_at (l : List Bool) (i : Nat) (x : Bool) (h : l[i]? = some x) : (bo l)[i]? = some (.bool x) := by simp [bo, h]
theorem bo_set (l : List Bool) (i : Nat) (x : Bool) : (bo l).set i (.bool x) = bo (l.set i x) := by simp [bo, List.map_set]
theorem bool_info : (Try.prog.info? 4).map (fun i => (i.zero, i.size, i.bytes)) = some (some (.bool false), 1, 1) := by kernel_rfl
/-- The slice is just these numbers, in a row of one's own. -/
abbrev Bools (w : World) (B : Nat) (v : Value) (n : Nat) (l : List Bool) : Prop := w.ownsRow B 4 1 v n (bo l)
theorem Bools.len {w : World} {B n : Nat} {v : Value} {l : List Bool} (h : Bools w B v n l) : l.length = n := by
  have := h.1
  simpa [bo] using this
theorem Bools.form {w : World} {B n : Nat} {v : Value} {l : List Bool} (h : Bools w B v n l) (hn : 0 < n) : ∃ g cap, v = .slice (some ⟨g, 0, none⟩) n cap ∧ n ≤ cap := by
  rcases h.2 with ⟨-, h0⟩ | ⟨g, cap, cur, rfl, _, _, hc, _⟩
  · omega
  · exact ⟨g, cap, rfl, hc⟩
theorem Bools.cell {w : World} {B n g cap : Nat} {l : List Bool} (h : Bools w B (.slice (some ⟨g, 0, none⟩) n cap) n l) (i : Nat) (x : Bool) (hx : l[i]? = some x) : w.cell? ⟨g, i, none⟩ = some (.bool x) := by
  have hi : i < n := by rw [← h.len]; exact (List.getElem?_eq_some_iff.1 hx).1
  exact (h.cellAt i (by omega)).trans (bo_at _ _ _ hx)
theorem Bools.first {w : World} {B n g cap : Nat} {l : List Bool} (h : Bools w B (.slice (some ⟨g, 0, none⟩) n cap) n l) (m : Nat) (hm : m ≤ n) : Bools w B (.slice (some ⟨g, 0, none⟩) m cap) m (l.take m) := by
  have hl := h.len
  rcases h.2 with ⟨h1, -⟩ | ⟨g', cap', cur, h1, h2, h3, h4, h5, h6, h7⟩
  · simp at h1
  · injection h1 with e1 _ e2
    injection e1 with e1
    injection e1 with e1
    subst e1 e2
    refine ⟨by simp [bo]; omega, .inr ⟨g, cap, cur, rfl, h2, h3, by omega, h5, h6, ?_⟩⟩
    have e : bo (l.take m) = (bo l).take m := by simp [bo]
    rw [e, ← h7, List.take_take]
    congr 1
    omega
theorem bools_empty (w : World) : Bools (w.alloc (.cells #[] 4)) w.heap.size (.slice (some ⟨w.heap.size, 0, none⟩) 0 0) 0 [] :=
  ⟨rfl, .inr ⟨w.heap.size, 0, #[], rfl, Nat.le_refl _, heap_alloc_new w _, Nat.le_refl _, by decide, rfl, rfl⟩⟩
theorem store_bo (w : World) (g i : Nat) (old : Value) (hc : w.cell? ⟨g, i, none⟩ = some old) (hf : w.frozen? ⟨g, i, none⟩ = false) (z : Bool) : (storeCells ⟨g, i, none⟩ [.bool z]).run Try.prog w = .ok () (w.setCell ⟨g, i, none⟩ (.bool z)) := by
  go_simp
theorem made_bools (n : Nat) : (madeCells #[Value.bool false] n).toList = bo (List.replicate n false) := by
  rw [toList_madeCells_one]
  simp [bo]

section
variable {ops : Array Oper} {rest : List Oper} {o : Oper} {a : Act} {w : World} {Q : Exit → Act → World → Prop}
/-- Numbers 0 are made. -/
theorem wpList_make_bools (hgd : o.guard = none) (l c : Operand) (ho : o.op = .makeSlice 39 l c) (n : Nat) (hl : a.eval l = .int .i64 (n : Int)) (hc : a.eval c = .int .i64 (n : Int)) (hn : n ≤ 10000000)
    (h : ∀ w', Bools w' w.heap.size (.slice (some ⟨w.heap.size, 0, none⟩) n n) n (List.replicate n false) → Below w.heap.size w w' → w.heap.size < w'.heap.size → wpList Try.prog ops Q rest (a.put o.dst (.slice (some ⟨w.heap.size, 0, none⟩) n n)) w') : wpList Try.prog ops Q (o :: rest) a w := by
  refine wpList_plain hgd fun K hK => ?_
  obtain ⟨i0, hi0, hz0, hz1, hz2⟩ := info_parts bool_info
  obtain ⟨w', hrun, r1, r2⟩ := run_make_full (P := Try.prog) w w.heap.size 39 4 i0 (.bool false) 1 Try.underlying39 hi0 hz0 hz1 .i64 .i64 n (by rw [hz2]; omega) (by simp only [maxLen]; omega) (Nat.le_refl _)
  have e : (madeCells (Value.bool false).cells (n * 1)).toList = bo (List.replicate n false) := by rw [Nat.mul_one]; exact made_bools n
  rw [e] at r1
  have hb : Below w.heap.size w w' := (Below.refl w.heap.size w).grown r2 (Nat.le_refl _) (fun k hk => by cases hk)
  have q := hK _ _ (h w' r1 hb (r1.lt _ rfl).2)
  unfold Oper.wp execOp
  simp [ho, hl, hc, hrun, Result.andThen, Oper.upon]
  exact q
/-- A number stored into a row of one's own. -/
theorem wpList_put_bool (hgd : o.guard = none) (x y : Operand) (ho : o.op = .store 4 x y)
    (base g i n cap : Nat) (hx : a.eval x = .pointer (some ⟨g, i, none⟩)) (z : Bool) (hy : a.eval y = .bool z) (l : List Bool) (hown : Bools w base (.slice (some ⟨g, 0, none⟩) n cap) n l) (hi : i < n)
    (h : ∀ w', w.grownBy w' (some g) → Bools w' base (.slice (some ⟨g, 0, none⟩) n cap) n (l.set i z) → w'.heap.size = w.heap.size → wpList Try.prog ops Q rest (a.put o.dst undef) w') : wpList Try.prog ops Q (o :: rest) a w := by
  refine wpList_plain hgd fun K hK => ?_
  have hl := hown.len
  have c1 : w.cell? ⟨g, i, none⟩ = some (.bool (l[i]'(by omega))) := hown.cell i _ (List.getElem?_eq_getElem (by omega))
  have q := (hown.stored i (.bool z)).1
  rw [bo_set] at q
  have hh := hK _ _ (h _ (grown_store w g i (.bool z)) q (by simp))
  have hz : (sizeOf 4).run Try.prog w = .ok 1 w := by kernel_rfl
  unfold Oper.wp execOp
  have hc : (Value.bool z).cells = #[.bool z] := rfl
  simp only [ho, hx, hy, Instr.storeAt, Instr.sureAddr, storeVar, hc, Sem.run_bind, Sem.run_pure, Result.andThen_ok, hz, List.size_toArray, List.length_cons, List.length_nil, ne_eq, not_true_eq_false, if_false, store_bo w g i _ c1 (hown.frozenAt i), Oper.upon]
  exact hh
/-- Numbers behind numbers of one's own. -/
theorem wpList_append_bools (hgd : o.guard = none) (s x : Operand) (ho : o.op = .call { callee := .builtin .append, args := #[s, x], argTypes := #[39, 39] })
    (base : Nat) (v : Value) (n : Nat) (l : List Bool) (hv : a.eval s = v) (hown : Bools w base v n l) (B g m cap : Nat) (l' : List Bool) (hx : a.eval x = .slice (some ⟨g, 0, none⟩) m cap) (hs : Bools w B (.slice (some ⟨g, 0, none⟩) m cap) m l') (hlen : n + m ≤ 1000000) (hbase : base ≤ w.heap.size)
    (h : ∀ v' w', Bools w' base v' (n + m) (l ++ l') → w.grownBy w' v.ownBlock → wpList Try.prog ops Q rest (a.put o.dst v') w') : wpList Try.prog ops Q (o :: rest) a w := by
  refine wpList_plain hgd fun K hK => ?_
  have hl := hs.len
  obtain ⟨i0, hi0, hz0, hz1, hz2⟩ := info_parts bool_info
  obtain ⟨v', w', hr, h2, h3, _⟩ := run_append_own (P := Try.prog) w base 39 o.type 4 i0 (.bool false) 1 1 Try.underlying39 hi0 hz0 hz1 hz2 rfl (by decide) v n (bo l) hown ⟨g, 0, none⟩ m cap (bo l') (by simp [bo, hl]) (fun j u hu => by
      have ha : (⟨g, 0, none⟩ : Addr).add j = ⟨g, j, none⟩ := by unfold Addr.add; split <;> simp_all
      rw [ha]
      simp only [bo, List.getElem?_map, Option.map_eq_some_iff] at hu
      obtain ⟨x, hx, rfl⟩ := hu
      exact hs.cell j x hx) (fun u hu => by
      simp only [bo, List.mem_map] at hu
      obtain ⟨x, _, rfl⟩ := hu
      rfl) (by simp only [maxLen]; omega) (by omega) hbase
  have e : bo l ++ bo l' = bo (l ++ l') := by simp [bo]
  rw [e] at h2
  have q := hK _ _ (h v' w' h2 h3)
  unfold Oper.wp execOp
  simp only [ho, resolve, invoke, builtin, Sem.run_bind, Sem.run_pure, Result.andThen_ok, List.map_toArray, List.map_cons, List.map_nil, hv, hx, hr]
  exact q
end
end Go.Proofs.Ytemogdcjmehdcaa
