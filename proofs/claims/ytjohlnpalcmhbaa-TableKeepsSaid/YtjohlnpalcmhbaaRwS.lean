/- Slices of structs of plain cells (XFlat): rows of the call's own, append. -/
import Derived.Test.YtjohlnpalcmhbaaFlat
namespace Go.Proofs.Ytjohlnpalcmhbaa
set_option maxRecDepth 100000
open Go.RowKit

section
variable {P : Program} {w w' : World} {base k n : Nat} {e : TypeId} {v : Value} {L : List (List Value)}
theorem flat_len (hk : ∀ c ∈ L, c.length = k) : L.flatten.length = L.length * k := by
  induction L with
  | nil => simp
  | cons c r ih =>
    rw [List.flatten_cons, List.length_append, ih (fun c hc => hk c (List.mem_cons_of_mem _ hc)), hk c (List.mem_cons_self ..), List.length_cons, Nat.succ_mul, Nat.add_comm]
theorem flat_at (hk : ∀ c ∈ L, c.length = k) : ∀ i c, L[i]? = some c → ∀ j u, c[j]? = some u → L.flatten[i * k + j]? = some u := by
  induction L with
  | nil => intro i c h; simp at h
  | cons d r ih =>
    intro i c h j u hj
    have hd := hk d (List.mem_cons_self ..)
    rw [List.flatten_cons]
    cases i with
    | zero =>
      simp only [List.getElem?_cons_zero, Option.some.injEq] at h
      subst h
      have hjl := (List.getElem?_eq_some_iff.1 hj).1
      rw [Nat.zero_mul, Nat.zero_add, List.getElem?_append_left hjl]
      exact hj
    | succ i =>
      rw [List.getElem?_cons_succ] at h
      rw [List.getElem?_append_right (by rw [hd, Nat.succ_mul]; omega), hd, show (i + 1) * k + j - k = i * k + j by rw [Nat.succ_mul]; omega]
      exact ih (fun c hc => hk c (List.mem_cons_of_mem _ hc)) i c h j u hj

theorem Whole.grown_own {row : Option Nat} {g : Nat} {t : TypeId} {cs : Array Value} (h : Whole w g t cs) (q : w.grownBy w' row) (hne : row ≠ some g) : Whole w' g t cs := by
  have e := q.block g h.lt (fun e => hne e.symm)
  rw [Whole, e]
  exact h
/-- Rows of structs of the call's own. -/
def OwnRows (w : World) (base : Nat) (e : TypeId) (k : Nat) (v : Value) (L : List (List Value)) : Prop := w.ownsRow base e k v L.length L.flatten ∧ ∀ c ∈ L, c.length = k
theorem OwnRows.nil (w : World) (base : Nat) (e : TypeId) (k : Nat) : OwnRows w base e k (.slice none 0 0) [] := ⟨World.ownsRow_nil w base e k, fun c hc => by cases hc⟩
theorem OwnRows.rows (h : OwnRows w base e k v L) : RowsAt w v k L := by
  obtain ⟨h, hk⟩ := h
  have hc := @World.ownsRow.cells _ _ _ _ _ _ _ h
  rcases h.2 with ⟨rfl, hn⟩ | ⟨g, cap, cur, rfl, _, _, hcap, _⟩
  · rw [List.length_eq_zero_iff] at hn
    subst hn
    exact ⟨none, 0, rfl, Nat.le_refl _, fun h => absurd rfl h⟩
  · exact ⟨_, cap, rfl, hcap, fun _ => ⟨_, rfl, fun i c hi j u hj => hc (g := g) rfl _ _ (flat_at hk i c hi j u hj)⟩⟩
theorem OwnRows.less {base' : Nat} (h : OwnRows w base e k v L) (hb : base' ≤ base) : OwnRows w base' e k v L := ⟨own_less h.1 hb, h.2⟩
theorem OwnRows.below {C : Nat} (h : OwnRows w base e k v L) (hb : Below C w w') (hc : C = w.heap.size) : OwnRows w' base e k v L := ⟨kept_below h.1 hb hc, h.2⟩
theorem OwnRows.lt (h : OwnRows w base e k v L) : ∀ g, v.ownBlock = some g → base ≤ g ∧ g < w.heap.size := World.ownsRow.lt h.1
theorem OwnRows.form (h : OwnRows w base e k v L) : ∃ A cap, v = .slice A L.length cap := own_form h.1
/-- Another block is written. -/
theorem OwnRows.far {g : Nat} (h : OwnRows w base e k v L) (q : w.grownBy w' (some g)) (hne : v.ownBlock ≠ some g) : OwnRows w' base e k v L := ⟨World.ownsRow.kept h.1 q (.inr hne), h.2⟩

/-- What is asked of an element type. -/
structure Elem (P : Program) (t e : TypeId) (ks : List CK) : Prop where
  isRec : Rec P e ks
  slice : P.underlying t = some (.slice e)
  pos : 0 < ks.length
  zero : ∃ i z, P.info? e = some i ∧ i.zero = some z ∧ i.size = ks.length ∧ z.cells.size = ks.length ∧ i.bytes ≤ 8000

/-- What a slice of such structs is filled with, element by element. -/
def filled (k n : Nat) (z : Array Value) (parts : List (Nat × Value)) : Option (Array Value) := Instr.fill (fun i => some (i * k, k)) ((Array.range (n * k)).map fun x => z[x % z.size]!) parts
theorem run_buildSlice {t : TypeId} {i : TypeInfo} {z : Value} (hu : P.underlying t = some (.slice e)) (hi : P.info? e = some i) (hz : i.zero = some z) (n : Nat) (hn : n * i.size ≤ 16777216) (h0 : n * i.size ≠ 0) (parts : Array (Nat × Value)) (cells : Array Value) (hf : filled i.size n z.cells parts.toList = some cells) :
    (Instr.buildSlice t n parts).run P w = .ok (.slice (some ⟨w.heap.size, 0, none⟩) n n) (w.alloc (.cells cells e)) := by
  have hn' : ¬ (n * i.size > 2 ^ 24) := by omega
  unfold filled at hf
  simp [Instr.buildSlice, run_underlying hu, sizeOf, typeInfo, zeroValue, hi, hz, hn', h0, hf, newRow, newObj]
  rfl
theorem wpList_buildSlice {t : TypeId} {i : TypeInfo} {z : Value} {ops : Array Oper} {rest : List Oper} {o : Oper} {a : Act} {Q : Exit → Act → World → Prop} (hgd : o.guard = none) (hu : P.underlying t = some (.slice e)) (hi : P.info? e = some i) (hz : i.zero = some z) (n : Nat) (hn : n * i.size ≤ 16777216) (h0 : n * i.size ≠ 0) (parts : Array (Nat × Operand)) (ho : o.op = .buildSlice t n parts)
    (vs : Array (Nat × Value)) (hv : (parts.map fun x => (x.1, a.eval x.2)) = vs) (cells : Array Value) (hf : filled i.size n z.cells vs.toList = some cells)
    (h : ∀ w', Below w.heap.size w w' → Whole w' w.heap.size e cells → w'.heap.size = w.heap.size + 1 → wpList P ops Q rest (a.put o.dst (.slice (some ⟨w.heap.size, 0, none⟩) n n)) w') : wpList P ops Q (o :: rest) a w :=
  wpList_plain hgd fun _ hK => by
    have hr := run_buildSlice (P := P) (w := w) hu hi hz n hn h0 vs cells hf
    have q := hK _ _ (h (w.alloc (.cells cells e)) ((Below.refl _ _).alloc (Nat.le_refl _) _) (Whole.new w e cells) (by simp))
    unfold Oper.wp execOp
    simp only [ho, hv, hr, Sem.run_bind, Sem.run_pure, Result.andThen_ok, Oper.upon]
    exact q
theorem run_append_rows {ks : List CK} {t : TypeId} (E : Elem P t e ks) (ty : TypeId) (hown : OwnRows w base e ks.length v L) (src : Value) (M : List (List Value)) (hs : RowsAt w src ks.length M) (hM : ∀ c ∈ M, Fits ks c)
    (hlen : L.length + M.length ≤ 10000000) (hbase : base ≤ w.heap.size) :
    ∃ v' w', (Builtin.append_ #[t, t] ty #[v, src]).run P w = .ok v' w' ∧ OwnRows w' base e ks.length v' (L ++ M) ∧ w.grownBy w' v.ownBlock := by
  obtain ⟨i0, z, hi0, hz, hsz, hzs, hby⟩ := E.zero
  have hMk : ∀ c ∈ M, c.length = ks.length := fun c hc => (hM c hc).len
  obtain ⟨A, cap, rfl, -, hc⟩ := hs
  have hall : ∀ c ∈ L ++ M, c.length = ks.length := fun c hc => by
    rcases List.mem_append.1 hc with h | h
    · exact hown.2 c h
    · exact hMk c h
  cases A with
  | none =>
    have hM0 : M = [] := by
      by_cases e : M = []
      · exact e
      · obtain ⟨ad, h, _⟩ := hc e
        cases h
    subst hM0
    rw [List.append_nil]
    exact ⟨v, w, run_append_nothing w base _ ty _ i0 ks.length E.slice hi0 v _ _ hown.1 cap, hown, World.grownBy.refl w _⟩
  | some ad =>
    have hcells : ∀ j u, M.flatten[j]? = some u → w.cell? (ad.add j) = some u := fun j u hj => by
      have hM0 : M ≠ [] := by rintro rfl; simp at hj
      obtain ⟨ad', e', hcell⟩ := hc hM0
      injection e' with e'
      subst e'
      have hjl := (List.getElem?_eq_some_iff.1 hj).1
      rw [flat_len hMk] at hjl
      have hq : j / ks.length < M.length := Nat.div_lt_of_lt_mul (by rw [Nat.mul_comm]; exact hjl)
      have h1 : M[j / ks.length]? = some M[j / ks.length] := List.getElem?_eq_getElem hq
      have hl : (M[j / ks.length]).length = ks.length := hMk _ (List.getElem_mem hq)
      have hr : j % ks.length < (M[j / ks.length]).length := by rw [hl]; exact Nat.mod_lt _ E.pos
      have h2 : (M[j / ks.length])[j % ks.length]? = some (M[j / ks.length])[j % ks.length] := List.getElem?_eq_getElem hr
      have h3 := flat_at hMk _ _ h1 _ _ h2
      have hdm : j / ks.length * ks.length + j % ks.length = j := by rw [Nat.mul_comm]; exact Nat.div_add_mod j ks.length
      rw [hdm] at h3
      rw [h3] at hj
      have h4 := hcell _ _ h1 _ _ h2
      rw [hdm] at h4
      rw [h4]
      exact hj
    have hone : ∀ u ∈ M.flatten, u.oneCell' = true := fun u hu => by
      obtain ⟨c, hc, huc⟩ := List.mem_flatten.1 hu
      exact (hM c hc).one u huc
    have hb1 : (L.length + M.length) * i0.bytes ≤ 10000000 * 8000 := Nat.mul_le_mul hlen hby
    have hb2 : (L.length + M.length) * i0.bytes ≤ 140737488355328 := by generalize (L.length + M.length) * i0.bytes = q at *; omega
    have hb3 : L.length + M.length ≤ maxLen := by simp only [maxLen]; omega
    obtain ⟨v', w', hr, ho, hg, _⟩ := run_append_own (P := P) w base t ty e i0 z ks.length i0.bytes E.slice hi0 hz hsz rfl hzs E.pos v _ _ hown.1 ad M.length cap M.flatten (flat_len hMk) hcells hone hb3 hb2 hbase
    rw [← List.flatten_append, ← List.length_append] at ho
    exact ⟨v', w', hr, ⟨ho, hall⟩, hg⟩
theorem wp_append_rows {ks : List CK} {t : TypeId} (E : Elem P t e ks) {o : Oper} {a : Act} {K : Act → World → Prop} {Q : Exit → Act → World → Prop} (s x : Operand)
    (ho : o.op = .call { callee := .builtin .append, args := #[s, x], argTypes := #[t, t] }) (v : Value) (hv : a.eval s = v) (hown : OwnRows w base e ks.length v L) (src : Value) (M : List (List Value)) (hx : a.eval x = src) (hs : RowsAt w src ks.length M) (hM : ∀ c ∈ M, Fits ks c)
    (hlen : L.length + M.length ≤ 10000000) (hbase : base ≤ w.heap.size)
    (h : ∀ v' w', OwnRows w' base e ks.length v' (L ++ M) → w.grownBy w' v.ownBlock → K (a.put o.dst v') w') : o.wp P a w K Q := by
  obtain ⟨v', w', hr, h2, h3⟩ := run_append_rows E o.type hown src M hs hM hlen hbase
  unfold Oper.wp execOp
  simp only [ho, resolve, invoke, builtin, Sem.run_bind, Sem.run_pure, Result.andThen_ok, List.map_toArray, List.map_cons, List.map_nil, hv, hx, hr]
  exact h v' w' h2 h3
theorem wpList_append_rows {ks : List CK} {t : TypeId} (E : Elem P t e ks) {ops : Array Oper} {rest : List Oper} {o : Oper} {a : Act} {Q : Exit → Act → World → Prop} (hgd : o.guard = none) (s x : Operand)
    (ho : o.op = .call { callee := .builtin .append, args := #[s, x], argTypes := #[t, t] }) (v : Value) (hv : a.eval s = v) (hown : OwnRows w base e ks.length v L) (src : Value) (M : List (List Value)) (hx : a.eval x = src) (hs : RowsAt w src ks.length M) (hM : ∀ c ∈ M, Fits ks c)
    (hlen : L.length + M.length ≤ 10000000) (hbase : base ≤ w.heap.size)
    (h : ∀ v' w', OwnRows w' base e ks.length v' (L ++ M) → w.grownBy w' v.ownBlock → wpList P ops Q rest (a.put o.dst v') w') : wpList P ops Q (o :: rest) a w :=
  wpList_plain hgd fun _ hK => wp_append_rows E s x ho v hv hown src M hx hs hM hlen hbase fun v' w' h2 h3 => hK _ _ (h v' w' h2 h3)
/-- A block that is one struct, as a slice of one. -/
theorem rows_one {g : Nat} {t : TypeId} {cs : List Value} (h : Whole w g t cs.toArray) {cap : Nat} (hcap : 1 ≤ cap) : RowsAt w (.slice (some ⟨g, 0, none⟩) 1 cap) k [cs] :=
  ⟨_, cap, rfl, hcap, fun _ => ⟨_, rfl, fun i c hi j u hj => by
    have hi0 : i = 0 := by have := (List.getElem?_eq_some_iff.1 hi).1; simp at this; omega
    subst hi0
    simp only [List.getElem?_cons_zero, Option.some.injEq] at hi
    subst hi
    have ha : (⟨g, 0, none⟩ : Addr).add (0 * k + j) = ⟨g, j, none⟩ := by unfold Addr.add; split <;> simp_all
    rw [ha]
    exact (h.at_ j).trans (by simpa using hj)⟩⟩
/-- The cells of one of them. -/
theorem RowsAt.row {A : Option Addr} {cap : Nat} (h : RowsAt w (.slice A n cap) k L) (hk : ∀ c ∈ L, c.length = k) (hp : 0 < k) {i : Nat} {c : List Value} (hi : L[i]? = some c) :
    ∃ g off, A = some ⟨g, off, none⟩ ∧ g < w.heap.size ∧ ∀ j u, c[j]? = some u → w.cell? ⟨g, off + i * k + j, none⟩ = some u := by
  have hl : L ≠ [] := by rintro rfl; simp at hi
  obtain ⟨g, off, rfl, hlt, hc⟩ := h.spots hl (fun c hc e => by have := hk c hc; rw [e] at this; simp at this; omega)
  exact ⟨g, off, rfl, hlt, fun j u hj => hc i c hi j u hj⟩
end
end Go.Proofs.Ytjohlnpalcmhbaa
