/- Rows of numbers of type int that a call makes for itself: made, appended to, stored into, read. -/
import Derived.Test.YtbdcligpbogkjaaGenS
import Derived.Test.YtbdcligpbogkjaaGenT
import Derived.IntWalk
namespace Go.Proofs.Ytbdcligpbogkjaa
open Go.RowKit

/-- Numbers as cells. -/
def iv (l : List Nat) : List Value := l.map fun (n : Nat) => Value.int .i64 (n : Int)
theorem iv_length (l : List Nat) : (iv l).length = l.length := by simp [iv]
theorem iv_at (l : List Nat) (i x : Nat) (h : l[i]? = some x) : (iv l)[i]? = some (.int .i64 (x : Int)) := by simp [iv, h]
theorem iv_set (l : List Nat) (i x : Nat) : (iv l).set i (.int .i64 (x : Int)) = iv (l.set i x) := by simp [iv, List.map_set]
theorem int_info : (Try.prog.info? 3).map (fun i => (i.zero, i.size, i.bytes)) = some (some (.int .i64 0), 1, 8) := by kernel_rfl
/-- The slice is just these numbers, in a row of one's own. -/
abbrev Ints (w : World) (B : Nat) (v : Value) (n : Nat) (l : List Nat) : Prop := w.ownsRow B 3 1 v n (iv l)
theorem Ints.len {w : World} {B n : Nat} {v : Value} {l : List Nat} (h : Ints w B v n l) : l.length = n := by
  have := h.1
  simpa [iv] using this
theorem Ints.form {w : World} {B n : Nat} {v : Value} {l : List Nat} (h : Ints w B v n l) (hn : 0 < n) : ∃ g cap, v = .slice (some ⟨g, 0, none⟩) n cap ∧ n ≤ cap := by
  rcases h.2 with ⟨-, h0⟩ | ⟨g, cap, cur, rfl, _, _, hc, _⟩
  · omega
  · exact ⟨g, cap, rfl, hc⟩
theorem Ints.cell {w : World} {B n g cap : Nat} {l : List Nat} (h : Ints w B (.slice (some ⟨g, 0, none⟩) n cap) n l) (i x : Nat) (hx : l[i]? = some x) : w.cell? ⟨g, i, none⟩ = some (.int .i64 (x : Int)) := by
  have hi : i < n := by rw [← h.len]; exact (List.getElem?_eq_some_iff.1 hx).1
  exact (h.cellAt i (by omega)).trans (iv_at _ _ _ hx)
theorem Ints.first {w : World} {B n g cap : Nat} {l : List Nat} (h : Ints w B (.slice (some ⟨g, 0, none⟩) n cap) n l) (m : Nat) (hm : m ≤ n) : Ints w B (.slice (some ⟨g, 0, none⟩) m cap) m (l.take m) := by
  have hl := h.len
  rcases h.2 with ⟨h1, -⟩ | ⟨g', cap', cur, h1, h2, h3, h4, h5, h6, h7⟩
  · simp at h1
  · injection h1 with e1 _ e2
    injection e1 with e1
    injection e1 with e1
    subst e1 e2
    refine ⟨by simp [iv]; omega, .inr ⟨g, cap, cur, rfl, h2, h3, by omega, h5, h6, ?_⟩⟩
    have e : iv (l.take m) = (iv l).take m := by simp [iv]
    rw [e, ← h7, List.take_take]
    congr 1
    omega
theorem ints_empty (w : World) : Ints (w.alloc (.cells #[] 3)) w.heap.size (.slice (some ⟨w.heap.size, 0, none⟩) 0 0) 0 [] :=
  ⟨rfl, .inr ⟨w.heap.size, 0, #[], rfl, Nat.le_refl _, heap_alloc_new w _, Nat.le_refl _, by decide, rfl, rfl⟩⟩
theorem store_in (w : World) (g i : Nat) (old : Value) (hc : w.cell? ⟨g, i, none⟩ = some old) (hf : w.frozen? ⟨g, i, none⟩ = false) (z : Int) : (storeCells ⟨g, i, none⟩ [.int .i64 z]).run Try.prog w = .ok () (w.setCell ⟨g, i, none⟩ (.int .i64 z)) := by
  go_simp
theorem made_ints (n : Nat) : (madeCells #[Value.int .i64 0] n).toList = iv (List.replicate n 0) := by
  rw [toList_madeCells_one]
  simp [iv]

section
variable {ops : Array Oper} {rest : List Oper} {o : Oper} {a : Act} {w : World} {Q : Exit → Act → World → Prop}
/-- Numbers 0 are made. -/
theorem wpList_make_ints (hgd : o.guard = none) (l c : Operand) (ho : o.op = .makeSlice 43 l c) (n : Nat) (hl : a.eval l = .int .i64 (n : Int)) (hc : a.eval c = .int .i64 (n : Int)) (hn : n ≤ 10000000)
    (h : ∀ w', Ints w' w.heap.size (.slice (some ⟨w.heap.size, 0, none⟩) n n) n (List.replicate n 0) → Below w.heap.size w w' → w.heap.size < w'.heap.size → wpList Try.prog ops Q rest (a.put o.dst (.slice (some ⟨w.heap.size, 0, none⟩) n n)) w') : wpList Try.prog ops Q (o :: rest) a w := by
  refine wpList_plain hgd fun K hK => ?_
  obtain ⟨i0, hi0, hz0, hz1, hz2⟩ := info_parts int_info
  obtain ⟨w', hrun, r1, r2⟩ := run_make_full (P := Try.prog) w w.heap.size 43 3 i0 (.int .i64 0) 1 Try.underlying43 hi0 hz0 hz1 .i64 .i64 n (by rw [hz2]; omega) (by simp only [maxLen]; omega) (Nat.le_refl _)
  have e : (madeCells (Value.int .i64 0).cells (n * 1)).toList = iv (List.replicate n 0) := by rw [Nat.mul_one]; exact made_ints n
  rw [e] at r1
  have hb : Below w.heap.size w w' := (Below.refl w.heap.size w).grown r2 (Nat.le_refl _) (fun k hk => by cases hk)
  have q := hK _ _ (h w' r1 hb (r1.lt _ rfl).2)
  unfold Oper.wp execOp
  simp [ho, hl, hc, hrun, Result.andThen, Oper.upon]
  exact q
/-- A number stored into a row of one's own. -/
theorem wpList_put_int (hgd : o.guard = none) (x y : Operand) (ho : o.op = .store 3 x y)
    (base g i n cap : Nat) (hx : a.eval x = .pointer (some ⟨g, i, none⟩)) (z : Nat) (hy : a.eval y = .int .i64 (z : Int)) (l : List Nat) (hown : Ints w base (.slice (some ⟨g, 0, none⟩) n cap) n l) (hi : i < n)
    (h : ∀ w', w.grownBy w' (some g) → Ints w' base (.slice (some ⟨g, 0, none⟩) n cap) n (l.set i z) → w'.heap.size = w.heap.size → wpList Try.prog ops Q rest (a.put o.dst undef) w') : wpList Try.prog ops Q (o :: rest) a w := by
  refine wpList_plain hgd fun K hK => ?_
  have hl := hown.len
  have c1 : w.cell? ⟨g, i, none⟩ = some (.int .i64 ((l[i]'(by omega) : Nat) : Int)) := hown.cell i _ (List.getElem?_eq_getElem (by omega))
  have q := (hown.stored i (.int .i64 (z : Int))).1
  rw [iv_set] at q
  have hh := hK _ _ (h _ (grown_store w g i (.int .i64 (z : Int))) q (by simp))
  have hz : (sizeOf 3).run Try.prog w = .ok 1 w := by kernel_rfl
  unfold Oper.wp execOp
  have hc : (Value.int .i64 (z : Int)).cells = #[.int .i64 (z : Int)] := rfl
  simp only [ho, hx, hy, Instr.storeAt, Instr.sureAddr, storeVar, hc, Sem.run_bind, Sem.run_pure, Result.andThen_ok, hz, List.size_toArray, List.length_cons, List.length_nil, ne_eq, not_true_eq_false, if_false, store_in w g i _ c1 (hown.frozenAt i), Oper.upon]
  exact hh
/-- Numbers behind numbers of one's own. -/
theorem wpList_append_ints (hgd : o.guard = none) (s x : Operand) (ho : o.op = .call { callee := .builtin .append, args := #[s, x], argTypes := #[43, 43] })
    (base : Nat) (v : Value) (n : Nat) (l : List Nat) (hv : a.eval s = v) (hown : Ints w base v n l) (B g m cap : Nat) (l' : List Nat) (hx : a.eval x = .slice (some ⟨g, 0, none⟩) m cap) (hs : Ints w B (.slice (some ⟨g, 0, none⟩) m cap) m l') (hlen : n + m ≤ 1000000) (hbase : base ≤ w.heap.size)
    (h : ∀ v' w', Ints w' base v' (n + m) (l ++ l') → w.grownBy w' v.ownBlock → wpList Try.prog ops Q rest (a.put o.dst v') w') : wpList Try.prog ops Q (o :: rest) a w := by
  refine wpList_plain hgd fun K hK => ?_
  have hl := hs.len
  obtain ⟨i0, hi0, hz0, hz1, hz2⟩ := info_parts int_info
  obtain ⟨v', w', hr, h2, h3, _⟩ := run_append_own (P := Try.prog) w base 43 o.type 3 i0 (.int .i64 0) 1 8 Try.underlying43 hi0 hz0 hz1 hz2 rfl (by decide) v n (iv l) hown ⟨g, 0, none⟩ m cap (iv l') (by simp [iv, hl]) (fun j u hu => by
      have ha : (⟨g, 0, none⟩ : Addr).add j = ⟨g, j, none⟩ := by unfold Addr.add; split <;> simp_all
      rw [ha]
      simp only [iv, List.getElem?_map, Option.map_eq_some_iff] at hu
      obtain ⟨x, hx, rfl⟩ := hu
      exact hs.cell j x hx) (fun u hu => by
      simp only [iv, List.mem_map] at hu
      obtain ⟨x, _, rfl⟩ := hu
      rfl) (by simp only [maxLen]; omega) (by omega) hbase
  have e : iv l ++ iv l' = iv (l ++ l') := by simp [iv]
  rw [e] at h2
  have q := hK _ _ (h v' w' h2 h3)
  unfold Oper.wp execOp
  simp only [ho, resolve, invoke, builtin, Sem.run_bind, Sem.run_pure, Result.andThen_ok, List.map_toArray, List.map_cons, List.map_nil, hv, hx, hr]
  exact q
end
end Go.Proofs.Ytbdcligpbogkjaa
