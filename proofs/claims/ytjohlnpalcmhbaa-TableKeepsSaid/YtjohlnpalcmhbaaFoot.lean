/- Objects that live in memory between calls: which blocks they are made of, what a call may change. Rows of one's own: append that says where the new one lies, a struct stored at a place, a slice made and copied. -/
import Derived.Test.YtjohlnpalcmhbaaRwS
import Derived.Laws.CopyRow
import Derived.Laws.OwnMore
namespace Go.Proofs.Ytjohlnpalcmhbaa
set_option maxRecDepth 100000
open Go.RowKit

/-- But for the blocks F, and new ones, the world is as it was. -/
structure Keeps (F : Nat → Prop) (w w' : World) : Prop where
  os : w'.os = w.os
  tape : w'.tape = w.tape
  output : w'.output = w.output
  size : w.heap.size ≤ w'.heap.size
  block : ∀ i, i < w.heap.size → ¬ F i → w'.heap[i]? = w.heap[i]?
/-- .. and what was made of the blocks F is made of those of F', which are of F or new. -/
structure Moves (F F' : Nat → Prop) (w w' : World) : Prop where
  keeps : Keeps F w w'
  foot : ∀ i, F' i → F i ∨ w.heap.size ≤ i

section
variable {F F' F2 : Nat → Prop} {w w' w1 w2 : World}
theorem Keeps.refl (F : Nat → Prop) (w : World) : Keeps F w w := ⟨rfl, rfl, rfl, Nat.le_refl _, fun _ _ _ => rfl⟩
theorem Keeps.of_below (h : Below w.heap.size w w') : Keeps F w w' := ⟨h.os, h.tape, h.output, h.size, fun i hi _ => h.block i hi⟩
theorem Keeps.of_grown {row : Option Nat} (h : w.grownBy w' row) (hr : ∀ k, row = some k → F k ∨ w.heap.size ≤ k) : Keeps F w w' :=
  ⟨h.os, h.tape, h.output, h.size, fun i hi hn => h.block i hi (fun e => (hr i e.symm).elim hn (fun k => by omega))⟩
theorem Keeps.trans (h : Keeps F w w1) (k : Keeps F w1 w2) : Keeps F w w2 :=
  ⟨k.os.trans h.os, k.tape.trans h.tape, k.output.trans h.output, Nat.le_trans h.size k.size, fun i hi hn => (k.block i (Nat.lt_of_lt_of_le hi h.size) hn).trans (h.block i hi hn)⟩
theorem Keeps.then {G : Nat → Prop} (h : Keeps F w w1) (k : Keeps G w1 w2) (hG : ∀ i, G i → F i ∨ w.heap.size ≤ i) : Keeps F w w2 :=
  ⟨k.os.trans h.os, k.tape.trans h.tape, k.output.trans h.output, Nat.le_trans h.size k.size, fun i hi hn => (k.block i (Nat.lt_of_lt_of_le hi h.size) (fun g => (hG i g).elim hn (fun k => by omega))).trans (h.block i hi hn)⟩
theorem Keeps.below {B : Nat} (h : Keeps F w w') (hF : ∀ i, F i → B ≤ i) (hB : B ≤ w.heap.size) : Below B w w' :=
  ⟨h.os, h.tape, h.output, h.size, fun i hi => h.block i (by omega) (fun k => by have := hF i k; omega)⟩
theorem Keeps.mono {G : Nat → Prop} (h : Keeps F w w') (hG : ∀ i, F i → G i) : Keeps G w w' := ⟨h.os, h.tape, h.output, h.size, fun i hi hn => h.block i hi (fun k => hn (hG i k))⟩
theorem Moves.of_below (F : Nat → Prop) (h : Below w.heap.size w w') : Moves F F w w' := ⟨Keeps.of_below h, fun _ h => .inl h⟩
theorem Moves.refl (F : Nat → Prop) (w : World) : Moves F F w w := Moves.of_below F (Below.refl _ _)
theorem Moves.trans (h : Moves F F' w w1) (k : Moves F' F2 w1 w2) : Moves F F2 w w2 :=
  ⟨h.keeps.then k.keeps h.foot, fun i hi => (k.foot i hi).elim (h.foot i) (fun q => .inr (Nat.le_trans h.keeps.size q))⟩
/-- What lies elsewhere stays. -/
theorem Whole.keeps {g : Nat} {t : TypeId} {cs : Array Value} (h : Whole w g t cs) (k : Keeps F w w') (hn : ¬ F g) : Whole w' g t cs := (k.block g h.lt hn).trans h
theorem own_keeps {base : Nat} {e : TypeId} {s n : Nat} {v : Value} {xs : List Value} (h : w.ownsRow base e s v n xs) (k : Keeps F w w') (hn : ∀ g, v.ownBlock = some g → ¬ F g) : w'.ownsRow base e s v n xs := by
  refine ⟨h.1, ?_⟩
  rcases h.2 with q | ⟨g, cap, cur, rfl, hb, hg, rest⟩
  · exact .inl q
  · exact .inr ⟨g, cap, cur, rfl, hb, (k.block g (Array.getElem?_eq_some_iff.1 hg).1 (hn g rfl)).trans hg, rest⟩
theorem OwnRows.keeps {base k : Nat} {e : TypeId} {v : Value} {L : List (List Value)} (h : OwnRows w base e k v L) (q : Keeps F w w') (hn : ∀ g, v.ownBlock = some g → ¬ F g) : OwnRows w' base e k v L := ⟨own_keeps h.1 q hn, h.2⟩
theorem RowsAt.keeps {k : Nat} {v : Value} {L : List (List Value)} (h : RowsAt w v k L) (q : Keeps F w w') (hn : ∀ g, v.ownBlock = some g → ¬ F g) : RowsAt w' v k L := h.keep fun _ g hg hv => q.block g hg (hn g hv)
end

/-! ### rows -/
/-- What is asked of an element type of k cells. -/
structure ElemZ (P : Program) (t e : TypeId) (k : Nat) : Prop where
  slice : P.underlying t = some (.slice e)
  pos : 0 < k
  zero : ∃ i z, P.info? e = some i ∧ i.zero = some z ∧ i.size = k ∧ z.cells.size = k ∧ i.bytes ≤ 8000
section
variable {P : Program} {t e : TypeId} {w w' : World} {base k : Nat} {v : Value} {L : List (List Value)}
theorem Elem.z {ks : List CK} (E : Elem P t e ks) : ElemZ P t e ks.length := ⟨E.slice, E.pos, E.zero⟩
theorem run_append_rows_at (E : ElemZ P t e k) (ty : TypeId) (hown : OwnRows w base e k v L) (src : Value) (M : List (List Value)) (hs : RowsAt w src k M) (hM : ∀ c ∈ M, c.length = k ∧ ∀ u ∈ c, u.oneCell' = true)
    (hlen : L.length + M.length ≤ 10000000) (hbase : base ≤ w.heap.size) :
    ∃ v' w', (Builtin.append_ #[t, t] ty #[v, src]).run P w = .ok v' w' ∧ OwnRows w' base e k v' (L ++ M) ∧ w.grownBy w' v.ownBlock ∧ (v'.ownBlock = v.ownBlock ∨ v'.ownBlock = some w.heap.size) := by
  obtain ⟨i0, z, hi0, hz, hsz, hzs, hby⟩ := E.zero
  have hMk : ∀ c ∈ M, c.length = k := fun c hc => (hM c hc).1
  obtain ⟨A, cap, rfl, -, hc⟩ := hs
  have hall : ∀ c ∈ L ++ M, c.length = k := fun c hc => by
    rcases List.mem_append.1 hc with h | h
    · exact hown.2 c h
    · exact hMk c h
  cases A with
  | none =>
    have hM0 : M = [] := by
      by_cases e : M = []
      · exact e
      · obtain ⟨ad, h, _⟩ := hc e
        cases h
    subst hM0
    rw [List.append_nil]
    exact ⟨v, w, run_append_nothing w base _ ty _ i0 k E.slice hi0 v _ _ hown.1 cap, hown, World.grownBy.refl w _, .inl rfl⟩
  | some ad =>
    have hcells : ∀ j u, M.flatten[j]? = some u → w.cell? (ad.add j) = some u := fun j u hj => by
      have hM0 : M ≠ [] := by rintro rfl; simp at hj
      obtain ⟨ad', e', hcell⟩ := hc hM0
      injection e' with e'
      subst e'
      have hjl := (List.getElem?_eq_some_iff.1 hj).1
      rw [flat_len hMk] at hjl
      have hq : j / k < M.length := Nat.div_lt_of_lt_mul (by rw [Nat.mul_comm]; exact hjl)
      have h1 : M[j / k]? = some M[j / k] := List.getElem?_eq_getElem hq
      have hl : (M[j / k]).length = k := hMk _ (List.getElem_mem hq)
      have hr : j % k < (M[j / k]).length := by rw [hl]; exact Nat.mod_lt _ E.pos
      have h2 : (M[j / k])[j % k]? = some (M[j / k])[j % k] := List.getElem?_eq_getElem hr
      have h3 := flat_at hMk _ _ h1 _ _ h2
      have hdm : j / k * k + j % k = j := by rw [Nat.mul_comm]; exact Nat.div_add_mod j k
      rw [hdm] at h3
      rw [h3] at hj
      have h4 := hcell _ _ h1 _ _ h2
      rw [hdm] at h4
      rw [h4]
      exact hj
    have hone : ∀ u ∈ M.flatten, u.oneCell' = true := fun u hu => by
      obtain ⟨c, hc, huc⟩ := List.mem_flatten.1 hu
      exact (hM c hc).2 u huc
    have hb1 : (L.length + M.length) * i0.bytes ≤ 10000000 * 8000 := Nat.mul_le_mul hlen hby
    have hb2 : (L.length + M.length) * i0.bytes ≤ 140737488355328 := by generalize (L.length + M.length) * i0.bytes = q at *; omega
    have hb3 : L.length + M.length ≤ maxLen := by simp only [maxLen]; omega
    obtain ⟨v', w', hr, ho, hg, _, hat⟩ := run_append_own_at (P := P) w base t ty e i0 z k i0.bytes E.slice hi0 hz hsz rfl hzs E.pos v _ _ hown.1 ad M.length cap M.flatten (flat_len hMk) hcells hone hb3 hb2 hbase
    rw [← List.flatten_append, ← List.length_append] at ho
    exact ⟨v', w', hr, ⟨ho, hall⟩, hg, hat⟩
theorem wp_append_rows_at (E : ElemZ P t e k) {o : Oper} {a : Act} {K : Act → World → Prop} {Q : Exit → Act → World → Prop} (s x : Operand)
    (ho : o.op = .call { callee := .builtin .append, args := #[s, x], argTypes := #[t, t] }) (v : Value) (hv : a.eval s = v) (hown : OwnRows w base e k v L) (src : Value) (M : List (List Value)) (hx : a.eval x = src) (hs : RowsAt w src k M) (hM : ∀ c ∈ M, c.length = k ∧ ∀ u ∈ c, u.oneCell' = true)
    (hlen : L.length + M.length ≤ 10000000) (hbase : base ≤ w.heap.size)
    (h : ∀ v' w', OwnRows w' base e k v' (L ++ M) → w.grownBy w' v.ownBlock → (v'.ownBlock = v.ownBlock ∨ v'.ownBlock = some w.heap.size) → K (a.put o.dst v') w') : o.wp P a w K Q := by
  obtain ⟨v', w', hr, h2, h3, h4⟩ := run_append_rows_at E o.type hown src M hs hM hlen hbase
  unfold Oper.wp execOp
  simp only [ho, resolve, invoke, builtin, Sem.run_bind, Sem.run_pure, Result.andThen_ok, List.map_toArray, List.map_cons, List.map_nil, hv, hx, hr]
  exact h v' w' h2 h3 h4
theorem wpList_append_rows_at (E : ElemZ P t e k) {ops : Array Oper} {rest : List Oper} {o : Oper} {a : Act} {Q : Exit → Act → World → Prop} (hgd : o.guard = none) (s x : Operand)
    (ho : o.op = .call { callee := .builtin .append, args := #[s, x], argTypes := #[t, t] }) (v : Value) (hv : a.eval s = v) (hown : OwnRows w base e k v L) (src : Value) (M : List (List Value)) (hx : a.eval x = src) (hs : RowsAt w src k M) (hM : ∀ c ∈ M, c.length = k ∧ ∀ u ∈ c, u.oneCell' = true)
    (hlen : L.length + M.length ≤ 10000000) (hbase : base ≤ w.heap.size)
    (h : ∀ v' w', OwnRows w' base e k v' (L ++ M) → w.grownBy w' v.ownBlock → (v'.ownBlock = v.ownBlock ∨ v'.ownBlock = some w.heap.size) → wpList P ops Q rest (a.put o.dst v') w') : wpList P ops Q (o :: rest) a w :=
  wpList_plain hgd fun _ hK => wp_append_rows_at E s x ho v hv hown src M hx hs hM hlen hbase fun v' w' h2 h3 h4 => hK _ _ (h v' w' h2 h3 h4)
theorem flat_set (hk : ∀ c ∈ L, c.length = k) {i : Nat} {cs : List Value} (hi : i < L.length) : (L.set i cs).flatten = L.flatten.take (i * k) ++ cs ++ L.flatten.drop (i * k + k) := by
  induction L generalizing i with
  | nil => simp at hi
  | cons c r ih =>
    have h1 := hk c (List.mem_cons_self ..)
    cases i with
    | zero =>
      rw [List.set_cons_zero, List.flatten_cons, List.flatten_cons, Nat.zero_mul, List.take_zero, List.nil_append, Nat.zero_add, List.drop_left' h1]
    | succ i =>
      have hlt : i < r.length := by simpa using hi
      have e1 : (i + 1) * k = c.length + i * k := by rw [Nat.succ_mul, h1]; omega
      have e2 : (i + 1) * k + k = c.length + (i * k + k) := by rw [Nat.succ_mul, h1]; omega
      rw [List.set_cons_succ, List.flatten_cons, List.flatten_cons, ih (fun c hc => hk c (List.mem_cons_of_mem _ hc)) hlt, e2, e1, List.take_length_add_append, List.drop_length_add_append]
      simp [List.append_assoc]
/-- A struct stored at a place of a row of one's own. -/
theorem wp_put_row {o : Oper} {a : Act} {K : Act → World → Prop} {Q : Exit → Act → World → Prop} (x y : Operand) (ho : o.op = .store e x y) (hi : (P.info? e).map (·.size) = some k) (A : Option Addr) (n cap i g : Nat)
    (hown : OwnRows w base e k (.slice A n cap) L) (hil : i < L.length) (hA : A = some ⟨g, 0, none⟩) (hx : a.eval x = .pointer (some ⟨g, i * k, none⟩)) (cs : List Value) (hy : a.eval y = .agg cs.toArray) (hc : cs.length = k) (hone : ∀ u ∈ cs, u.oneCell' = true)
    (h : ∀ w', OwnRows w' base e k (.slice A n cap) (L.set i cs) → w.grownBy w' (some g) → w'.heap.size = w.heap.size → K (a.put o.dst undef) w') : o.wp P a w K Q := by
  subst hA
  obtain ⟨hown, hk⟩ := hown
  obtain ⟨hl, hr⟩ := hown
  rcases hr with ⟨h1, -⟩ | ⟨g', cap', cur, h1, hb, hg, hnc, hcm, hcs, htake⟩
  · cases h1
  injection h1 with h1 h2 h3
  injection h1 with h1
  injection h1 with h1
  subst h1 h2 h3
  have hf := flat_len hk
  have hik : i * k + k ≤ L.length * k := by rw [← Nat.succ_mul]; exact Nat.mul_le_mul_right _ hil
  have hnk : L.length * k ≤ cap * k := Nat.mul_le_mul_right _ hnc
  have hfit : i * k + 0 + cs.length ≤ cur.size := by rw [hc, hcs]; omega
  have hst := run_storeCells_at P g (i * k) e cs 0 cur w hg hfit hone
  have hcur : cur.toList = L.flatten ++ cur.toList.drop (L.length * k) := by rw [← htake, List.take_append_drop]
  have hset := flat_set (cs := cs) hk hil
  have hnew : cur.toList.take (i * k + 0) ++ cs ++ cur.toList.drop (i * k + 0 + cs.length) = (L.set i cs).flatten ++ cur.toList.drop (L.length * k) := by
    rw [hset, hc, Nat.add_zero]
    have t1 : cur.toList.take (i * k) = L.flatten.take (i * k) := by rw [← htake, List.take_take, Nat.min_eq_left (by omega)]
    have t2 : cur.toList.drop (i * k + k) = L.flatten.drop (i * k + k) ++ cur.toList.drop (L.length * k) := by
      conv => lhs; rw [hcur]
      rw [List.drop_append_of_le_length (by rw [hf]; exact hik)]
    rw [t1, t2]
    simp [List.append_assoc]
  have hall : ∀ c ∈ L.set i cs, c.length = k := fun c hcm => (List.mem_or_eq_of_mem_set hcm).elim (hk c) (fun e => e ▸ hc)
  have hfl : (L.set i cs).flatten.length = L.length * k := by rw [flat_len hall, List.length_set]
  rw [hnew] at hst
  have hsz : cs.length = ((P.info? e).map (·.size)).getD 0 := by rw [hi, hc]; rfl
  have q := h (w.setRow g ((L.set i cs).flatten ++ cur.toList.drop (L.length * k)).toArray) ⟨⟨by rw [hfl, List.length_set], .inr ⟨g, cap, _, by rw [List.length_set], hb, setRow_heap w g cur _ e _ hg, by rw [List.length_set]; exact hnc, hcm, by
    simp only [List.size_toArray, List.length_append, List.length_drop, hfl, Array.length_toList, hcs]
    omega, by rw [List.length_set, List.take_left' hfl]⟩⟩, hall⟩ (grown_setRow w g _) (by simp)
  cases hq : P.info? e with
  | none => rw [hq] at hi; cases hi
  | some i0 =>
    have hs : i0.size = cs.length := by rw [hq] at hsz; exact hsz.symm
    have hz : (sizeOf e).run P w = .ok cs.length w := by simp [sizeOf, typeInfo, hq, hs]
    unfold Oper.wp execOp
    simp only [ho, hx, hy, Instr.storeAt, Instr.sureAddr, storeVar, hz, Value.cells, Sem.run_bind, Sem.run_pure, Result.andThen_ok, List.size_toArray, ne_eq, not_true_eq_false, if_false, hst, Oper.upon]
    exact q
theorem wpList_put_row {ops : Array Oper} {rest : List Oper} {o : Oper} {a : Act} {Q : Exit → Act → World → Prop} (hgd : o.guard = none) (x y : Operand) (ho : o.op = .store e x y) (hi : (P.info? e).map (·.size) = some k) (A : Option Addr) (n cap i g : Nat)
    (hown : OwnRows w base e k (.slice A n cap) L) (hil : i < L.length) (hA : A = some ⟨g, 0, none⟩) (hx : a.eval x = .pointer (some ⟨g, i * k, none⟩)) (cs : List Value) (hy : a.eval y = .agg cs.toArray) (hc : cs.length = k) (hone : ∀ u ∈ cs, u.oneCell' = true)
    (h : ∀ w', OwnRows w' base e k (.slice A n cap) (L.set i cs) → w.grownBy w' (some g) → w'.heap.size = w.heap.size → wpList P ops Q rest (a.put o.dst undef) w') : wpList P ops Q (o :: rest) a w :=
  wpList_plain hgd fun _ hK => wp_put_row x y ho hi A n cap i g hown hil hA hx cs hy hc hone fun w' p q r => hK _ _ (h w' p q r)
/-- A row is made. -/
theorem wpList_make_rows (E : ElemZ P t e k) {ops : Array Oper} {rest : List Oper} {o : Oper} {a : Act} {Q : Exit → Act → World → Prop} (hgd : o.guard = none) (l c : Operand) (ho : o.op = .makeSlice t l c) (n : Nat) (hl : a.eval l = .int .i64 (n : Int)) (hc : a.eval c = .int .i64 (n : Int)) (hn : n ≤ 10000000)
    (h : ∀ w' xs, w'.ownsRow w.heap.size e k (.slice (some ⟨w.heap.size, 0, none⟩) n n) n xs → Below w.heap.size w w' → w.heap.size < w'.heap.size → wpList P ops Q rest (a.put o.dst (.slice (some ⟨w.heap.size, 0, none⟩) n n)) w') : wpList P ops Q (o :: rest) a w := by
  refine wpList_plain hgd fun K hK => ?_
  obtain ⟨i0, z, hi0, hz, hsz, hzs, hby⟩ := E.zero
  have hb1 : i0.bytes * n ≤ 8000 * 10000000 := Nat.mul_le_mul hby hn
  have hb2 : i0.bytes * n ≤ 281474976710656 := by generalize i0.bytes * n = q at *; omega
  obtain ⟨w', hrun, r1, r2⟩ := run_make_full (P := P) w w.heap.size t e i0 z k E.slice hi0 hz hsz .i64 .i64 n hb2 (by simp only [maxLen]; omega) (Nat.le_refl _)
  have hb : Below w.heap.size w w' := (Below.refl w.heap.size w).grown r2 (Nat.le_refl _) (fun k hk => by cases hk)
  have q := hK _ _ (h w' _ r1 hb (r1.lt _ rfl).2)
  unfold Oper.wp execOp
  simp [ho, hl, hc, hrun, Result.andThen, Oper.upon]
  exact q
/-- Rows are copied into one of as many. -/
theorem run_copy_rows (E : ElemZ P t e k) (ty : TypeId) (g n cap : Nat) (xs : List Value) (hown : w.ownsRow base e k (.slice (some ⟨g, 0, none⟩) n cap) n xs) (src : Value) (M : List (List Value)) (hs : RowsAt w src k M) (hM : ∀ c ∈ M, c.length = k ∧ ∀ u ∈ c, u.oneCell' = true) (hn : n = M.length) :
    ∃ w', (Builtin.copy_ #[t, t] ty #[.slice (some ⟨g, 0, none⟩) n cap, src]).run P w = .ok (goInt (n : Int)) w' ∧ OwnRows w' base e k (.slice (some ⟨g, 0, none⟩) n cap) M ∧ w.grownBy w' (some g) ∧ w'.heap.size = w.heap.size := by
  subst hn
  obtain ⟨i0, z, hi0, hz, hsz, hzs, hby⟩ := E.zero
  have hMk : ∀ c ∈ M, c.length = k := fun c hc => (hM c hc).1
  have hone : ∀ u ∈ M.flatten, u.oneCell' = true := fun u hu => by
    obtain ⟨c, hc, huc⟩ := List.mem_flatten.1 hu
    exact (hM c hc).2 u huc
  have hfl := flat_len hMk
  obtain ⟨A, scap, rfl, -, hc⟩ := hs
  have hfirst : (Builtin.firstCells k M.length (.slice A M.length scap)).run P w = .ok M.flatten.toArray w := by
    cases A with
    | none =>
      have hM0 : M = [] := by
        by_cases e : M = []
        · exact e
        · obtain ⟨ad, h, _⟩ := hc e
          cases h
      subst hM0
      rfl
    | some ad =>
      have hcells : ∀ j u, M.flatten[j]? = some u → w.cell? (ad.add j) = some u := fun j u hj => by
        have hM0 : M ≠ [] := by rintro rfl; simp at hj
        obtain ⟨ad', e', hcell⟩ := hc hM0
        injection e' with e'
        subst e'
        have hjl := (List.getElem?_eq_some_iff.1 hj).1
        rw [hfl] at hjl
        have hq : j / k < M.length := Nat.div_lt_of_lt_mul (by rw [Nat.mul_comm]; exact hjl)
        have h1 : M[j / k]? = some M[j / k] := List.getElem?_eq_getElem hq
        have hl : (M[j / k]).length = k := hMk _ (List.getElem_mem hq)
        have hr : j % k < (M[j / k]).length := by rw [hl]; exact Nat.mod_lt _ E.pos
        have h2 : (M[j / k])[j % k]? = some (M[j / k])[j % k] := List.getElem?_eq_getElem hr
        have h3 := flat_at hMk _ _ h1 _ _ h2
        have hdm : j / k * k + j % k = j := by rw [Nat.mul_comm]; exact Nat.div_add_mod j k
        rw [hdm] at h3
        rw [h3] at hj
        have h4 := hcell _ _ h1 _ _ h2
        rw [hdm] at h4
        rw [h4]
        exact hj
      have q := run_loadCells_list (P := P) w ad M.flatten hcells
      rw [hfl] at q
      exact q
  obtain ⟨hl, hr⟩ := hown
  rcases hr with ⟨h1, -⟩ | ⟨g', cap', cur, h1, hb, hg, hnc, hcm, hcs, htake⟩
  · cases h1
  injection h1 with h1 h2 h3
  injection h1 with h1
  injection h1 with h1
  subst h1 h3
  have hnk : M.length * k ≤ cap * k := Nat.mul_le_mul_right _ hnc
  have hst := run_storeCells_at P g 0 e M.flatten 0 cur w hg (by rw [hfl, hcs]; omega) hone
  simp only [Nat.zero_add, List.take_zero, List.nil_append, hfl] at hst
  refine ⟨w.setRow g (M.flatten ++ cur.toList.drop (M.length * k)).toArray, ?_, ⟨⟨hfl, .inr ⟨g, cap, _, rfl, hb, setRow_heap w g cur _ e _ hg, hnc, hcm, ?_, List.take_left' hfl⟩⟩, hMk⟩, grown_setRow w g _, by simp⟩
  · subst hsz
    simp [Builtin.copy_, run_underlying E.slice, Builtin.lenOf, sizeOf, typeInfo, hi0, hfirst, hst]
  · simp only [List.size_toArray, List.length_append, List.length_drop, hfl, Array.length_toList, hcs]
    omega
theorem wpList_copy_rows (E : ElemZ P t e k) {ops : Array Oper} {rest : List Oper} {o : Oper} {a : Act} {Q : Exit → Act → World → Prop} (hgd : o.guard = none) (x y : Operand) (ho : o.op = .call { callee := .builtin .copy, args := #[x, y], argTypes := #[t, t] })
    (g n cap : Nat) (hx : a.eval x = .slice (some ⟨g, 0, none⟩) n cap) (xs : List Value) (hown : w.ownsRow base e k (.slice (some ⟨g, 0, none⟩) n cap) n xs) (src : Value) (M : List (List Value)) (hy : a.eval y = src) (hs : RowsAt w src k M) (hM : ∀ c ∈ M, c.length = k ∧ ∀ u ∈ c, u.oneCell' = true) (hn : n = M.length)
    (h : ∀ w', OwnRows w' base e k (.slice (some ⟨g, 0, none⟩) n cap) M → w.grownBy w' (some g) → w'.heap.size = w.heap.size → wpList P ops Q rest (a.put o.dst (.int .i64 (n : Int))) w') : wpList P ops Q (o :: rest) a w := by
  refine wpList_plain hgd fun K hK => ?_
  obtain ⟨w', hr, h2, h3, h4⟩ := run_copy_rows E o.type g n cap xs hown src M hs hM hn
  have q := hK _ _ (h w' h2 h3 h4)
  unfold Oper.wp execOp
  simp only [ho, resolve, invoke, builtin, Sem.run_bind, Sem.run_pure, Result.andThen_ok, List.map_toArray, List.map_cons, List.map_nil, hx, hy, hr]
  exact q
end
end Go.Proofs.Ytjohlnpalcmhbaa
