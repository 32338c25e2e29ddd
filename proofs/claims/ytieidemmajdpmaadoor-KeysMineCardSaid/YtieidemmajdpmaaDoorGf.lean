/- Slices of structs of plain cells (XFlat): rows of the call's own, append. api.Entry as a structure: its cells, opened, in a block. (Written by tools/mkrec.py.) Entries as values. -/
import Derived.Test.YtieidemmajdpmaaDoorGe
import Derived.Test.YtieidemmajdpmaaDoorGc
import Derived.Test.YtieidemmajdpmaaDoorGd
namespace Go.Proofs.YtieidemmajdpmaaDoor
set_option maxRecDepth 100000
open Go.RowKit

section
variable {P : Program} {w w' : World} {base k n : Nat} {e : TypeId} {v : Value} {L : List (List Value)}
theorem flat_len (hk : ∀ c ∈ L, c.length = k) : L.flatten.length = L.length * k := by
  induction L with
  | nil => simp
  | cons c r ih =>
    rw [List.flatten_cons, List.length_append, ih (fun c hc => hk c (List.mem_cons_of_mem _ hc)), hk c (List.mem_cons_self ..), List.length_cons, Nat.succ_mul, Nat.add_comm]
theorem flat_at (hk : ∀ c ∈ L, c.length = k) : ∀ i c, L[i]? = some c → ∀ j u, c[j]? = some u → L.flatten[i * k + j]? = some u := by
  induction L with
  | nil => intro i c h; simp at h
  | cons d r ih =>
    intro i c h j u hj
    have hd := hk d (List.mem_cons_self ..)
    rw [List.flatten_cons]
    cases i with
    | zero =>
      simp only [List.getElem?_cons_zero, Option.some.injEq] at h
      subst h
      have hjl := (List.getElem?_eq_some_iff.1 hj).1
      rw [Nat.zero_mul, Nat.zero_add, List.getElem?_append_left hjl]
      exact hj
    | succ i =>
      rw [List.getElem?_cons_succ] at h
      rw [List.getElem?_append_right (by rw [hd, Nat.succ_mul]; omega), hd, show (i + 1) * k + j - k = i * k + j by rw [Nat.succ_mul]; omega]
      exact ih (fun c hc => hk c (List.mem_cons_of_mem _ hc)) i c h j u hj

theorem Whole.grown_own {row : Option Nat} {g : Nat} {t : TypeId} {cs : Array Value} (h : Whole w g t cs) (q : w.grownBy w' row) (hne : row ≠ some g) : Whole w' g t cs := by
  have e := q.block g h.lt (fun e => hne e.symm)
  rw [Whole, e]
  exact h
/-- Rows of structs of the call's own. -/
def OwnRows (w : World) (base : Nat) (e : TypeId) (k : Nat) (v : Value) (L : List (List Value)) : Prop := w.ownsRow base e k v L.length L.flatten ∧ ∀ c ∈ L, c.length = k
theorem OwnRows.nil (w : World) (base : Nat) (e : TypeId) (k : Nat) : OwnRows w base e k (.slice none 0 0) [] := ⟨World.ownsRow_nil w base e k, fun c hc => by cases hc⟩
theorem OwnRows.rows (h : OwnRows w base e k v L) : RowsAt w v k L := by
  obtain ⟨h, hk⟩ := h
  have hc := @World.ownsRow.cells _ _ _ _ _ _ _ h
  rcases h.2 with ⟨rfl, hn⟩ | ⟨g, cap, cur, rfl, _, _, hcap, _⟩
  · rw [List.length_eq_zero_iff] at hn
    subst hn
    exact ⟨none, 0, rfl, Nat.le_refl _, fun h => absurd rfl h⟩
  · exact ⟨_, cap, rfl, hcap, fun _ => ⟨_, rfl, fun i c hi j u hj => hc (g := g) rfl _ _ (flat_at hk i c hi j u hj)⟩⟩
theorem OwnRows.less {base' : Nat} (h : OwnRows w base e k v L) (hb : base' ≤ base) : OwnRows w base' e k v L := ⟨own_less h.1 hb, h.2⟩
theorem OwnRows.below {C : Nat} (h : OwnRows w base e k v L) (hb : Below C w w') (hc : C = w.heap.size) : OwnRows w' base e k v L := ⟨kept_below h.1 hb hc, h.2⟩
theorem OwnRows.lt (h : OwnRows w base e k v L) : ∀ g, v.ownBlock = some g → base ≤ g ∧ g < w.heap.size := World.ownsRow.lt h.1
theorem OwnRows.form (h : OwnRows w base e k v L) : ∃ A cap, v = .slice A L.length cap := own_form h.1
/-- Another block is written. -/
theorem OwnRows.far {g : Nat} (h : OwnRows w base e k v L) (q : w.grownBy w' (some g)) (hne : v.ownBlock ≠ some g) : OwnRows w' base e k v L := ⟨World.ownsRow.kept h.1 q (.inr hne), h.2⟩

/-- What is asked of an element type. -/
structure Elem (P : Program) (t e : TypeId) (ks : List CK) : Prop where
  isRec : Rec P e ks
  slice : P.underlying t = some (.slice e)
  pos : 0 < ks.length
  zero : ∃ i z, P.info? e = some i ∧ i.zero = some z ∧ i.size = ks.length ∧ z.cells.size = ks.length ∧ i.bytes ≤ 8000

/-- What a slice of such structs is filled with, element by element. -/
def filled (k n : Nat) (z : Array Value) (parts : List (Nat × Value)) : Option (Array Value) := Instr.fill (fun i => some (i * k, k)) ((Array.range (n * k)).map fun x => z[x % z.size]!) parts
theorem run_buildSlice {t : TypeId} {i : TypeInfo} {z : Value} (hu : P.underlying t = some (.slice e)) (hi : P.info? e = some i) (hz : i.zero = some z) (n : Nat) (hn : n * i.size ≤ 16777216) (h0 : n * i.size ≠ 0) (parts : Array (Nat × Value)) (cells : Array Value) (hf : filled i.size n z.cells parts.toList = some cells) :
    (Instr.buildSlice t n parts).run P w = .ok (.slice (some ⟨w.heap.size, 0, none⟩) n n) (w.alloc (.cells cells e)) := by
  have hn' : ¬ (n * i.size > 2 ^ 24) := by omega
  unfold filled at hf
  simp [Instr.buildSlice, run_underlying hu, sizeOf, typeInfo, zeroValue, hi, hz, hn', h0, hf, newRow, newObj]
  rfl
theorem wpList_buildSlice {t : TypeId} {i : TypeInfo} {z : Value} {ops : Array Oper} {rest : List Oper} {o : Oper} {a : Act} {Q : Exit → Act → World → Prop} (hgd : o.guard = none) (hu : P.underlying t = some (.slice e)) (hi : P.info? e = some i) (hz : i.zero = some z) (n : Nat) (hn : n * i.size ≤ 16777216) (h0 : n * i.size ≠ 0) (parts : Array (Nat × Operand)) (ho : o.op = .buildSlice t n parts)
    (vs : Array (Nat × Value)) (hv : (parts.map fun x => (x.1, a.eval x.2)) = vs) (cells : Array Value) (hf : filled i.size n z.cells vs.toList = some cells)
    (h : ∀ w', Below w.heap.size w w' → Whole w' w.heap.size e cells → w'.heap.size = w.heap.size + 1 → wpList P ops Q rest (a.put o.dst (.slice (some ⟨w.heap.size, 0, none⟩) n n)) w') : wpList P ops Q (o :: rest) a w :=
  wpList_plain hgd fun _ hK => by
    have hr := run_buildSlice (P := P) (w := w) hu hi hz n hn h0 vs cells hf
    have q := hK _ _ (h (w.alloc (.cells cells e)) ((Below.refl _ _).alloc (Nat.le_refl _) _) (Whole.new w e cells) (by simp))
    unfold Oper.wp execOp
    simp only [ho, hv, hr, Sem.run_bind, Sem.run_pure, Result.andThen_ok, Oper.upon]
    exact q
theorem run_append_rows {ks : List CK} {t : TypeId} (E : Elem P t e ks) (ty : TypeId) (hown : OwnRows w base e ks.length v L) (src : Value) (M : List (List Value)) (hs : RowsAt w src ks.length M) (hM : ∀ c ∈ M, Fits ks c)
    (hlen : L.length + M.length ≤ 10000000) (hbase : base ≤ w.heap.size) :
    ∃ v' w', (Builtin.append_ #[t, t] ty #[v, src]).run P w = .ok v' w' ∧ OwnRows w' base e ks.length v' (L ++ M) ∧ w.grownBy w' v.ownBlock := by
  obtain ⟨i0, z, hi0, hz, hsz, hzs, hby⟩ := E.zero
  have hMk : ∀ c ∈ M, c.length = ks.length := fun c hc => (hM c hc).len
  obtain ⟨A, cap, rfl, -, hc⟩ := hs
  have hall : ∀ c ∈ L ++ M, c.length = ks.length := fun c hc => by
    rcases List.mem_append.1 hc with h | h
    · exact hown.2 c h
    · exact hMk c h
  cases A with
  | none =>
    have hM0 : M = [] := by
      by_cases e : M = []
      · exact e
      · obtain ⟨ad, h, _⟩ := hc e
        cases h
    subst hM0
    rw [List.append_nil]
    exact ⟨v, w, run_append_nothing w base _ ty _ i0 ks.length E.slice hi0 v _ _ hown.1 cap, hown, World.grownBy.refl w _⟩
  | some ad =>
    have hcells : ∀ j u, M.flatten[j]? = some u → w.cell? (ad.add j) = some u := fun j u hj => by
      have hM0 : M ≠ [] := by rintro rfl; simp at hj
      obtain ⟨ad', e', hcell⟩ := hc hM0
      injection e' with e'
      subst e'
      have hjl := (List.getElem?_eq_some_iff.1 hj).1
      rw [flat_len hMk] at hjl
      have hq : j / ks.length < M.length := Nat.div_lt_of_lt_mul (by rw [Nat.mul_comm]; exact hjl)
      have h1 : M[j / ks.length]? = some M[j / ks.length] := List.getElem?_eq_getElem hq
      have hl : (M[j / ks.length]).length = ks.length := hMk _ (List.getElem_mem hq)
      have hr : j % ks.length < (M[j / ks.length]).length := by rw [hl]; exact Nat.mod_lt _ E.pos
      have h2 : (M[j / ks.length])[j % ks.length]? = some (M[j / ks.length])[j % ks.length] := List.getElem?_eq_getElem hr
      have h3 := flat_at hMk _ _ h1 _ _ h2
      have hdm : j / ks.length * ks.length + j % ks.length = j := by rw [Nat.mul_comm]; exact Nat.div_add_mod j ks.length
      rw [hdm] at h3
      rw [h3] at hj
      have h4 := hcell _ _ h1 _ _ h2
      rw [hdm] at h4
      rw [h4]
      exact hj
    have hone : ∀ u ∈ M.flatten, u.oneCell' = true := fun u hu => by
      obtain ⟨c, hc, huc⟩ := List.mem_flatten.1 hu
      exact (hM c hc).one u huc
    have hb1 : (L.length + M.length) * i0.bytes ≤ 10000000 * 8000 := Nat.mul_le_mul hlen hby
    have hb2 : (L.length + M.length) * i0.bytes ≤ 140737488355328 := by generalize (L.length + M.length) * i0.bytes = q at *; omega
    have hb3 : L.length + M.length ≤ maxLen := by simp only [maxLen]; omega
    obtain ⟨v', w', hr, ho, hg, _⟩ := run_append_own (P := P) w base t ty e i0 z ks.length i0.bytes E.slice hi0 hz hsz rfl hzs E.pos v _ _ hown.1 ad M.length cap M.flatten (flat_len hMk) hcells hone hb3 hb2 hbase
    rw [← List.flatten_append, ← List.length_append] at ho
    exact ⟨v', w', hr, ⟨ho, hall⟩, hg⟩
theorem wp_append_rows {ks : List CK} {t : TypeId} (E : Elem P t e ks) {o : Oper} {a : Act} {K : Act → World → Prop} {Q : Exit → Act → World → Prop} (s x : Operand)
    (ho : o.op = .call { callee := .builtin .append, args := #[s, x], argTypes := #[t, t] }) (v : Value) (hv : a.eval s = v) (hown : OwnRows w base e ks.length v L) (src : Value) (M : List (List Value)) (hx : a.eval x = src) (hs : RowsAt w src ks.length M) (hM : ∀ c ∈ M, Fits ks c)
    (hlen : L.length + M.length ≤ 10000000) (hbase : base ≤ w.heap.size)
    (h : ∀ v' w', OwnRows w' base e ks.length v' (L ++ M) → w.grownBy w' v.ownBlock → K (a.put o.dst v') w') : o.wp P a w K Q := by
  obtain ⟨v', w', hr, h2, h3⟩ := run_append_rows E o.type hown src M hs hM hlen hbase
  unfold Oper.wp execOp
  simp only [ho, resolve, invoke, builtin, Sem.run_bind, Sem.run_pure, Result.andThen_ok, List.map_toArray, List.map_cons, List.map_nil, hv, hx, hr]
  exact h v' w' h2 h3
theorem wpList_append_rows {ks : List CK} {t : TypeId} (E : Elem P t e ks) {ops : Array Oper} {rest : List Oper} {o : Oper} {a : Act} {Q : Exit → Act → World → Prop} (hgd : o.guard = none) (s x : Operand)
    (ho : o.op = .call { callee := .builtin .append, args := #[s, x], argTypes := #[t, t] }) (v : Value) (hv : a.eval s = v) (hown : OwnRows w base e ks.length v L) (src : Value) (M : List (List Value)) (hx : a.eval x = src) (hs : RowsAt w src ks.length M) (hM : ∀ c ∈ M, Fits ks c)
    (hlen : L.length + M.length ≤ 10000000) (hbase : base ≤ w.heap.size)
    (h : ∀ v' w', OwnRows w' base e ks.length v' (L ++ M) → w.grownBy w' v.ownBlock → wpList P ops Q rest (a.put o.dst v') w') : wpList P ops Q (o :: rest) a w :=
  wpList_plain hgd fun _ hK => wp_append_rows E s x ho v hv hown src M hx hs hM hlen hbase fun v' w' h2 h3 => hK _ _ (h v' w' h2 h3)
/-- A block that is one struct, as a slice of one. -/
theorem rows_one {g : Nat} {t : TypeId} {cs : List Value} (h : Whole w g t cs.toArray) {cap : Nat} (hcap : 1 ≤ cap) : RowsAt w (.slice (some ⟨g, 0, none⟩) 1 cap) k [cs] :=
  ⟨_, cap, rfl, hcap, fun _ => ⟨_, rfl, fun i c hi j u hj => by
    have hi0 : i = 0 := by have := (List.getElem?_eq_some_iff.1 hi).1; simp at this; omega
    subst hi0
    simp only [List.getElem?_cons_zero, Option.some.injEq] at hi
    subst hi
    have ha : (⟨g, 0, none⟩ : Addr).add (0 * k + j) = ⟨g, j, none⟩ := by unfold Addr.add; split <;> simp_all
    rw [ha]
    exact (h.at_ j).trans (by simpa using hj)⟩⟩
/-- The cells of one of them. -/
theorem RowsAt.row {A : Option Addr} {cap : Nat} (h : RowsAt w (.slice A n cap) k L) (hk : ∀ c ∈ L, c.length = k) (hp : 0 < k) {i : Nat} {c : List Value} (hi : L[i]? = some c) :
    ∃ g off, A = some ⟨g, off, none⟩ ∧ g < w.heap.size ∧ ∀ j u, c[j]? = some u → w.cell? ⟨g, off + i * k + j, none⟩ = some u := by
  have hl : L ≠ [] := by rintro rfl; simp at hi
  obtain ⟨g, off, rfl, hlt, hc⟩ := h.spots hl (fun c hc e => by have := hk c hc; rw [e] at this; simp at this; omega)
  exact ⟨g, off, rfl, hlt, fun j u hj => hc i c hi j u hj⟩
end
end Go.Proofs.YtieidemmajdpmaaDoor

namespace Go.Proofs.YtieidemmajdpmaaDoor
set_option maxRecDepth 100000
open Go.RowKit Go.ChangeShapes Go.WideShapes Go.ChangeAt

structure Ent where
  name : List UInt8
  id : Nat
  since : Int
  till : Int
  index : Int
  tag : List UInt8
deriving DecidableEq
namespace Ent
def enc (x : Ent) : List Value := [.string ⟨x.name.toArray⟩, .int .u64 (x.id : Int), .int .i64 x.since, .int .i64 x.till, .int .i64 x.index, .string ⟨x.tag.toArray⟩]
def ks : List CK := [.str, .int .u64, .int .i64, .int .i64, .int .i64, .str]
abbrev val (x : Ent) : Value := .agg x.enc.toArray
theorem len (x : Ent) : x.enc.length = 6 := rfl
theorem fits (x : Ent) : Fits ks x.enc := ⟨⟨_, rfl⟩, ⟨_, rfl⟩, ⟨_, rfl⟩, ⟨_, rfl⟩, ⟨_, rfl⟩, ⟨_, rfl⟩, trivial⟩
theorem one (x : Ent) : x.enc.toArray.all (·.oneCell') = true := by simp [enc, Value.oneCell']
theorem isRec : Rec Tryd.prog 24 ks := ⟨by kernel_rfl, by kernel_rfl, by kernel_rfl⟩
theorem size (x : Ent) : (Tryd.prog.info? 24).map (·.size) = some x.enc.toArray.size := by
  have h : (Tryd.prog.info? 24).map (·.size) = some 6 := by kernel_rfl
  exact h
def zero : Ent := ⟨[], 0, 0, 0, 0, []⟩
theorem zero_is : (Tryd.prog.info? 24).map (·.zero) = some (some (.agg zero.enc.toArray)) := by kernel_rfl
/-- Its numbers are of their types. -/
structure Ok (x : Ent) : Prop where
  id_ok : x.id < 18446744073709551616
  since_ok : -9223372036854775808 ≤ x.since ∧ x.since ≤ 9223372036854775807
  till_ok : -9223372036854775808 ≤ x.till ∧ x.till ≤ 9223372036854775807
  index_ok : -9223372036854775808 ≤ x.index ∧ x.index ≤ 9223372036854775807
theorem of_fits {cs : List Value} (h : FitsW ks cs) : ∃ x : Ent, cs = x.enc ∧ x.Ok := by
  obtain ⟨_, r0, rfl, ⟨z0, rfl⟩, q0⟩ := FitsW.uncons h
  obtain ⟨_, r1, rfl, ⟨z1, rfl, w1⟩, q1⟩ := FitsW.uncons q0
  obtain ⟨_, r2, rfl, ⟨z2, rfl, w2⟩, q2⟩ := FitsW.uncons q1
  obtain ⟨_, r3, rfl, ⟨z3, rfl, w3⟩, q3⟩ := FitsW.uncons q2
  obtain ⟨_, r4, rfl, ⟨z4, rfl, w4⟩, q4⟩ := FitsW.uncons q3
  obtain ⟨_, r5, rfl, ⟨z5, rfl⟩, q5⟩ := FitsW.uncons q4
  have hn := FitsW.nil q5
  subst hn
  have b1 := bounds_u64 w1
  obtain ⟨n1, rfl⟩ := Int.eq_ofNat_of_zero_le b1.1
  have b2 := bounds_i64 w2
  have b3 := bounds_i64 w3
  have b4 := bounds_i64 w4
  exact ⟨⟨z0, n1, z2, z3, z4, z5⟩, rfl, ⟨(by show (n1 : Nat) < 18446744073709551616; have := b1.2; omega), b2, b3, b4⟩⟩
theorem opened {H : Type} {en : TypeId × Value → H} {W : World} {b base : Nat} {sp : Nat → Bool} {hd : Bool} {v : Value} {d : DataW H} {p : List MemPlace} (hv : Value.okWide Tryd.prog W .any base 24 v) (h : DataW.Trod en Tryd.prog W b sp hd 24 v d p) : ∃ x : Ent, v = x.val ∧ x.Ok := by
  obtain ⟨cs, rfl, hf⟩ := open_rec isRec hv h
  obtain ⟨x, rfl, hx⟩ := of_fits hf
  exact ⟨x, rfl, hx⟩
theorem isElem : Elem Tryd.prog 46 24 ks := ⟨isRec, Tryd.underlying46, by decide, by
  have h : ((Tryd.prog.info? 24).map fun i => (i.zero, i.size, decide (i.bytes ≤ 8000))) = some (some (.agg zero.enc.toArray), 6, true) := by kernel_rfl
  cases hi : Tryd.prog.info? 24 with
  | none => rw [hi] at h; cases h
  | some i =>
    rw [hi] at h
    simp only [Option.map_some, Option.some.injEq, Prod.mk.injEq, decide_eq_true_eq] at h
    exact ⟨i, _, rfl, h.1, h.2.1, rfl, h.2.2⟩⟩
/-- A slice of one. -/
theorem build_one (x : Ent) : filled 6 1 zero.enc.toArray [(0, x.val)] = some x.enc.toArray := by kernel_rfl
theorem info : ∃ i, Tryd.prog.info? 24 = some i ∧ i.zero = some (.agg zero.enc.toArray) ∧ i.size = 6 := by
  obtain ⟨i, z, h1, h2, h3, -, -⟩ := isElem.zero
  have h := zero_is
  rw [h1, Option.map_some, h2] at h
  injection h with h
  injection h with h
  exact ⟨i, h1, by rw [h2, h], h3⟩
theorem wpList_one {ops : Array Oper} {rest : List Oper} {o : Oper} {a : Act} {w : World} {Q : Exit → Act → World → Prop} (hgd : o.guard = none) (y : Operand) (ho : o.op = .buildSlice 46 1 #[(0, y)]) (x : Ent) (hy : a.eval y = x.val)
    (h : ∀ w', Below w.heap.size w w' → RowsAt w' (.slice (some ⟨w.heap.size, 0, none⟩) 1 1) 6 [x.enc] → w'.heap.size = w.heap.size + 1 → wpList Tryd.prog ops Q rest (a.put o.dst (.slice (some ⟨w.heap.size, 0, none⟩) 1 1)) w') : wpList Tryd.prog ops Q (o :: rest) a w := by
  obtain ⟨i, h1, h2, h3⟩ := info
  exact wpList_buildSlice hgd Tryd.underlying46 h1 h2 1 (by rw [h3]; decide) (by rw [h3]; decide) _ ho #[(0, x.val)] (by simp [hy]) x.enc.toArray (by rw [h3]; exact build_one x) fun w' b q z => h w' b (rows_one q (Nat.le_refl _)) z
theorem opened_all {H : Type} {en : TypeId × Value → H} {W : World} {b : Nat} {sp : Nat → Bool} {hd : Bool} {a : Option Addr} {len cap : Nat} {d : DataW H} {p : List MemPlace} (h : DataW.Trod en Tryd.prog W b sp hd 46 (.slice a len cap) d p) : ∃ l : List Ent, RowsAt W (.slice a len cap) 6 (l.map enc) ∧ ∀ x ∈ l, x.Ok := by
  obtain ⟨L, hL, hf⟩ := open_rows Tryd.underlying46 isRec h
  have hex : ∀ L : List (List Value), (∀ c ∈ L, FitsW ks c) → ∃ l : List Ent, L = l.map enc ∧ ∀ x ∈ l, x.Ok := by
    intro L
    induction L with
    | nil => exact fun _ => ⟨[], rfl, fun x hx => by cases hx⟩
    | cons c r ih =>
      intro hf
      obtain ⟨x, rfl, ox⟩ := of_fits (hf c (List.mem_cons_self ..))
      obtain ⟨l, rfl, ol⟩ := ih fun c hc => hf c (List.mem_cons_of_mem _ hc)
      exact ⟨x :: l, rfl, fun y hy => by rcases List.mem_cons.1 hy with rfl | h
                                         · exact ox
                                         · exact ol y h⟩
  obtain ⟨l, rfl, ol⟩ := hex L hf
  exact ⟨l, hL, ol⟩
theorem same (x y : Ent) : eqCells x.enc y.enc = decide (x = y) := by
  rw [Bool.eq_iff_iff, decide_eq_true_eq]
  constructor
  · intro h
    simp only [enc, eqCells, cellEq, Bool.and_eq_true, beq_iff_eq, Bool.and_true, ba_list] at h
    obtain ⟨h0, h1, h2, h3, h4, h5⟩ := h
    obtain ⟨a1, a2, a3, a4, a5, a6⟩ := x
    obtain ⟨b7, b8, b9, b10, b11, b12⟩ := y
    simp only at h0 h1 h2 h3 h4 h5
    have h1 := Int.ofNat.inj h1
    subst h0 h1 h2 h3 h4 h5
    rfl
  · rintro rfl
    exact eqCells_refl x.fits
theorem eq_run (x y : Ent) (w : World) : (binOp .eql 24 x.val y.val).run Tryd.prog w = .ok (.bool (decide (x = y))) w := by
  rw [← same]
  exact run_eq_rec isRec _ _ x.fits y.fits w
/-- In a block. -/
abbrev At (w : World) (g : Nat) (x : Ent) : Prop := Whole w g 24 x.enc.toArray
theorem At.cells {w : World} {g : Nat} {x : Ent} (h : At w g x) : w.cell? ⟨g, 0, none⟩ = some (.string ⟨x.name.toArray⟩) ∧ w.cell? ⟨g, 1, none⟩ = some (.int .u64 (x.id : Int)) ∧ w.cell? ⟨g, 2, none⟩ = some (.int .i64 x.since) ∧ w.cell? ⟨g, 3, none⟩ = some (.int .i64 x.till) ∧ w.cell? ⟨g, 4, none⟩ = some (.int .i64 x.index) ∧ w.cell? ⟨g, 5, none⟩ = some (.string ⟨x.tag.toArray⟩) :=
  ⟨h.at_ 0, h.at_ 1, h.at_ 2, h.at_ 3, h.at_ 4, h.at_ 5⟩
theorem At.at_name {w : World} {g : Nat} {x : Ent} (h : At w g x) : w.cell? ⟨g, 0, none⟩ = some (.string ⟨x.name.toArray⟩) := h.at_ 0
theorem At.at_id {w : World} {g : Nat} {x : Ent} (h : At w g x) : w.cell? ⟨g, 1, none⟩ = some (.int .u64 (x.id : Int)) := h.at_ 1
theorem At.at_since {w : World} {g : Nat} {x : Ent} (h : At w g x) : w.cell? ⟨g, 2, none⟩ = some (.int .i64 x.since) := h.at_ 2
theorem At.at_till {w : World} {g : Nat} {x : Ent} (h : At w g x) : w.cell? ⟨g, 3, none⟩ = some (.int .i64 x.till) := h.at_ 3
theorem At.at_index {w : World} {g : Nat} {x : Ent} (h : At w g x) : w.cell? ⟨g, 4, none⟩ = some (.int .i64 x.index) := h.at_ 4
theorem At.at_tag {w : World} {g : Nat} {x : Ent} (h : At w g x) : w.cell? ⟨g, 5, none⟩ = some (.string ⟨x.tag.toArray⟩) := h.at_ 5
theorem At.set_name {w : World} {g : Nat} {x : Ent} (h : At w g x) (v : List UInt8) : At (w.setCell ⟨g, 0, none⟩ (.string ⟨v.toArray⟩)) g { x with name := v } := h.stored 0 _
theorem At.set_id {w : World} {g : Nat} {x : Ent} (h : At w g x) (v : Nat) : At (w.setCell ⟨g, 1, none⟩ (.int .u64 (v : Int))) g { x with id := v } := h.stored 1 _
theorem At.set_since {w : World} {g : Nat} {x : Ent} (h : At w g x) (v : Int) : At (w.setCell ⟨g, 2, none⟩ (.int .i64 v)) g { x with since := v } := h.stored 2 _
theorem At.set_till {w : World} {g : Nat} {x : Ent} (h : At w g x) (v : Int) : At (w.setCell ⟨g, 3, none⟩ (.int .i64 v)) g { x with till := v } := h.stored 3 _
theorem At.set_index {w : World} {g : Nat} {x : Ent} (h : At w g x) (v : Int) : At (w.setCell ⟨g, 4, none⟩ (.int .i64 v)) g { x with index := v } := h.stored 4 _
theorem At.set_tag {w : World} {g : Nat} {x : Ent} (h : At w g x) (v : List UInt8) : At (w.setCell ⟨g, 5, none⟩ (.string ⟨v.toArray⟩)) g { x with tag := v } := h.stored 5 _
end Ent
end Go.Proofs.YtieidemmajdpmaaDoor

namespace Go.Proofs.YtieidemmajdpmaaDoor
set_option maxRecDepth 100000
open Go.RowKit

def entW (a b : Ent) : Bool := decide (a.name = b.name) && decide (a.id = b.id)

end Go.Proofs.YtieidemmajdpmaaDoor
