/- Slices of numbers of 64 bits in a block of the call's own: made, copied into (builtin copy). (The words of XRow and XCpy, for uint64.) -/
import Derived.Test.YtknccbdcfpncnaaUs
import Derived.Laws.CopyRow
import Derived.Laws.IdiomCopy
namespace Go.Proofs.Ytknccbdcfpncnaa
set_option maxRecDepth 100000
open Go.RowKit

theorem block_us {w : World} {g : Nat} {t : TypeId} {l : List Nat} {n cap : Nat} (h : Whole w g t (us l).toArray) (hn : n = l.length) (hc : n ≤ cap) : UsAt w (.slice (some ⟨g, 0, none⟩) n cap) l := by
  subst hn
  refine ⟨_, _, rfl, hc, fun _ => ⟨_, rfl, fun j c hj => ?_⟩⟩
  have ha : (⟨g, 0, none⟩ : Addr).add j = ⟨g, j, none⟩ := by unfold Addr.add; split <;> simp_all
  rw [ha, h.at_ j]
  simp [us, hj]
theorem block_own_us {w : World} {base g n : Nat} {xs : List Value} (h : w.ownsRow base 22 1 (.slice (some ⟨g, 0, none⟩) n n) n xs) : Whole w g 22 xs.toArray := by
  rcases h.2 with ⟨h1, -⟩ | ⟨g', cap, cur, h1, -, h3, -, -, h6, h7⟩
  · cases h1
  · injection h1 with h1 _ h2
    injection h1 with h1
    injection h1 with h1
    subst h1 h2
    rw [Whole, h3, ← h7, List.take_of_length_le (by simp; omega)]
theorem grown_same_us (w : World) (g : Nat) : w.grownBy w (some g) := ⟨rfl, rfl, rfl, Nat.le_refl _, fun _ _ _ => rfl⟩
/-- Numbers copied into a block. -/
theorem run_copy_in_us (w : World) (ty : TypeId) (g n cap : Nat) (t : TypeId) (L : List Nat) (src : Value) (l : List Nat) (hg : Whole w g t (us L).toArray) (hL : L.length = n) (hs : UsAt w src l) (m : Nat) (hmn : m = min l.length n) :
    ∃ w', (Builtin.copy_ #[57, 57] ty #[.slice (some ⟨g, 0, none⟩) n cap, src]).run Try.prog w = .ok (goInt (m : Int)) w' ∧ Whole w' g t (us (l.take n ++ L.drop m)).toArray ∧ w.grownBy w' (some g) ∧ w'.heap.size = w.heap.size := by
  have bs : (Try.prog.info? 22).map (·.size) = some 1 := by kernel_rfl
  subst hmn
  obtain ⟨A, c, rfl, -, hc⟩ := hs
  by_cases h0 : min l.length n = 0
  · have q := run_copy_none (P := Try.prog) w 57 57 ty 22 (some ⟨g, 0, none⟩) A n cap l.length c Try.underlying57 bs h0
    have e : l.take n ++ L.drop (min l.length n) = L := by
      rw [h0]
      have : l.take n = [] := by
        apply List.eq_nil_of_length_eq_zero
        rw [List.length_take]
        omega
      rw [this]
      rfl
    refine ⟨w, ?_, by rw [e]; exact hg, grown_same_us w g, rfl⟩
    rw [h0]
    exact q
  · obtain ⟨ad, rfl, hcell⟩ := hc (by intro e; subst e; simp at h0)
    have hm : (us (l.take n)).length = Nat.min l.length n := by rw [us_length, List.length_take, Nat.min_comm]
    have q := run_copy_row (P := Try.prog) w 57 57 ty 22 g 0 n cap ad l.length c (us L).toArray t (us (l.take n)) Try.underlying57 bs hg hm (fun j v hj => by
      simp only [us, List.getElem?_map, Option.map_eq_some_iff] at hj
      obtain ⟨x, hx, rfl⟩ := hj
      have hjn : j < n := by
        have := (List.getElem?_eq_some_iff.1 hx).1
        rw [List.length_take] at this
        omega
      rw [List.getElem?_take_of_lt hjn] at hx
      exact hcell j x hx) (by simp [us_length]; omega) (us_one _)
    rw [hm] at q
    refine ⟨_, q, ?_, grown_setRow w g _, by simp⟩
    have q2 := hg.setRow (cs := ((us L).toArray.toList.take 0 ++ us (l.take n) ++ (us L).toArray.toList.drop (0 + Nat.min l.length n)).toArray)
    have e : us (l.take n ++ L.drop (min l.length n)) = (us L).toArray.toList.take 0 ++ us (l.take n) ++ (us L).toArray.toList.drop (0 + Nat.min l.length n) := by
      rw [us_append, List.take_zero, List.nil_append, Nat.zero_add]
      simp only [us, List.map_drop]
    rw [e]
    exact q2
theorem made_us (n : Nat) : (madeCells #[Value.int .u64 0] n).toList = us (List.replicate n 0) := by
  rw [toList_madeCells_one]
  simp [us]

section
variable {ops : Array Oper} {rest : List Oper} {o : Oper} {a : Act} {w : World} {Q : Exit → Act → World → Prop}
/-- Numbers 0 are made: a block of one's own. -/
theorem wpList_make_us (hgd : o.guard = none) (l c : Operand) (ho : o.op = .makeSlice 57 l c) (n : Nat) (hl : a.eval l = .int .i64 (n : Int)) (hc : a.eval c = .int .i64 (n : Int)) (hn : n ≤ 10000000)
    (h : ∀ w', Whole w' w.heap.size 22 (us (List.replicate n 0)).toArray → Below w.heap.size w w' → w.heap.size < w'.heap.size → wpList Try.prog ops Q rest (a.put o.dst (.slice (some ⟨w.heap.size, 0, none⟩) n n)) w') : wpList Try.prog ops Q (o :: rest) a w := by
  refine wpList_plain hgd fun K hK => ?_
  obtain ⟨i0, hi0, hz0, hz1, hz2⟩ := info_parts u64_info
  obtain ⟨w', hrun, r1, r2⟩ := run_make_full (P := Try.prog) w w.heap.size 57 22 i0 (.int .u64 0) 1 Try.underlying57 hi0 hz0 hz1 .i64 .i64 n (by rw [hz2]; omega) (by simp only [maxLen]; omega) (Nat.le_refl _)
  have e : (madeCells (Value.int .u64 0).cells (n * 1)).toList = us (List.replicate n 0) := by rw [Nat.mul_one]; exact made_us n
  rw [e] at r1
  have hb : Below w.heap.size w w' := (Below.refl w.heap.size w).grown r2 (Nat.le_refl _) (fun k hk => by cases hk)
  have q := hK _ _ (h w' (block_own_us r1) hb (r1.lt _ rfl).2)
  unfold Oper.wp execOp
  simp [ho, hl, hc, hrun, Result.andThen, Oper.upon]
  exact q
/-- Numbers are copied into it. -/
theorem wpList_copy_us (hgd : o.guard = none) (x y : Operand) (ho : o.op = .call { callee := .builtin .copy, args := #[x, y], argTypes := #[57, 57] })
    (g n cap : Nat) (hx : a.eval x = .slice (some ⟨g, 0, none⟩) n cap) (t : TypeId) (L : List Nat) (hg : Whole w g t (us L).toArray) (hL : L.length = n) (src : Value) (l : List Nat) (hy : a.eval y = src) (hs : UsAt w src l) (hl : l.length = n)
    (h : ∀ w', Whole w' g t (us l).toArray → w.grownBy w' (some g) → w'.heap.size = w.heap.size → wpList Try.prog ops Q rest (a.put o.dst (.int .i64 (n : Int))) w') : wpList Try.prog ops Q (o :: rest) a w := by
  refine wpList_plain hgd fun K hK => ?_
  obtain ⟨w', hr, h2, h3, h4⟩ := run_copy_in_us w o.type g n cap t L src l hg hL hs n (by omega)
  have e : l.take n ++ L.drop n = l := by rw [List.take_of_length_le (by omega), List.drop_eq_nil_of_le (by omega), List.append_nil]
  rw [e] at h2
  have q := hK _ _ (h w' h2 h3 h4)
  unfold Oper.wp execOp
  simp only [ho, resolve, invoke, builtin, Sem.run_bind, Sem.run_pure, Result.andThen_ok, List.map_toArray, List.map_cons, List.map_nil, hx, hy, hr]
  exact q
end
end Go.Proofs.Ytknccbdcfpncnaa
