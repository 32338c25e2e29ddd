/- Structs whose cells are numbers, texts and truths alone, nested or not: read out of memory, held against one another, opened. For whatever program: it names nothing of this one. -/
import Derived.Test.YtjohlnpalcmhbaaGenS
import Derived.Test.YtjohlnpalcmhbaaGenT
import Derived.Laws.StructEq
import Derived.Laws.Cells
import Derived.ChangeArms
import Derived.ChangeKeysEq
import Derived.Deep.Slices
namespace Go.Proofs.Ytjohlnpalcmhbaa
set_option maxRecDepth 100000
open Go.RowKit Go.ChangeShapes Go.WideShapes Go.ChangeAt

/-- What a cell is. -/
inductive CK where
  | int (k : IntKind)
  | str
  | bool
deriving DecidableEq
def cellIs : CK → Value → Prop
  | .int k, v => ∃ z, v = .int k z
  | .str, v => ∃ s, v = .string s
  | .bool, v => ∃ b, v = .bool b
/-- .. of a value that came in. -/
def cellW : CK → Value → Prop
  | .int k, v => ∃ z, v = .int k z ∧ (Lit.int k z).wf = true
  | .str, v => ∃ l : List UInt8, v = .string ⟨l.toArray⟩
  | .bool, v => ∃ b, v = .bool b
def Fits : List CK → List Value → Prop
  | [], [] => True
  | k :: ks, c :: cs => cellIs k c ∧ Fits ks cs
  | _, _ => False
def FitsW : List CK → List Value → Prop
  | [], [] => True
  | k :: ks, c :: cs => cellW k c ∧ FitsW ks cs
  | _, _ => False
theorem Fits.len {ks : List CK} {cs : List Value} (h : Fits ks cs) : cs.length = ks.length := by
  induction ks generalizing cs with
  | nil => cases cs with
    | nil => rfl
    | cons c cs => exact h.elim
  | cons k ks ih => cases cs with
    | nil => exact h.elim
    | cons c cs => simp [ih h.2]
theorem FitsW.len {ks : List CK} {cs : List Value} (h : FitsW ks cs) : cs.length = ks.length := by
  induction ks generalizing cs with
  | nil => cases cs with
    | nil => rfl
    | cons c cs => exact h.elim
  | cons k ks ih => cases cs with
    | nil => exact h.elim
    | cons c cs => simp [ih h.2]
theorem Fits.lone {k : CK} {cs : List Value} (h : Fits [k] cs) : ∃ c, cs = [c] ∧ cellIs k c := by
  cases cs with
  | nil => exact h.elim
  | cons c cs => cases cs with
    | nil => exact ⟨c, rfl, h.1⟩
    | cons d ds => exact h.2.elim
theorem FitsW.uncons {k : CK} {ks : List CK} {cs : List Value} (h : FitsW (k :: ks) cs) : ∃ c r, cs = c :: r ∧ cellW k c ∧ FitsW ks r := by
  cases cs with
  | nil => exact h.elim
  | cons c r => exact ⟨c, r, rfl, h.1, h.2⟩
theorem FitsW.nil {cs : List Value} (h : FitsW [] cs) : cs = [] := by
  cases cs with
  | nil => rfl
  | cons c r => exact h.elim
theorem Fits.split {k1 k2 : List CK} {cs : List Value} (h : Fits (k1 ++ k2) cs) : Fits k1 (cs.take k1.length) ∧ Fits k2 (cs.drop k1.length) := by
  induction k1 generalizing cs with
  | nil => exact ⟨by simp [Fits], by simpa using h⟩
  | cons k ks ih => cases cs with
    | nil => exact h.elim
    | cons c cs =>
      obtain ⟨h1, h2⟩ := ih h.2
      exact ⟨⟨h.1, by simpa using h1⟩, by simpa using h2⟩
theorem FitsW.join {k1 k2 : List CK} {a b : List Value} (h1 : FitsW k1 a) (h2 : FitsW k2 b) : FitsW (k1 ++ k2) (a ++ b) := by
  induction k1 generalizing a with
  | nil => cases a with
    | nil => exact h2
    | cons c cs => exact h1.elim
  | cons k ks ih => cases a with
    | nil => exact h1.elim
    | cons c cs => exact ⟨h1.1, ih h1.2⟩
theorem Fits.one {ks : List CK} {cs : List Value} (h : Fits ks cs) : ∀ v ∈ cs, v.oneCell' = true := by
  induction ks generalizing cs with
  | nil => cases cs with
    | nil => intro v hv; cases hv
    | cons c cs => exact h.elim
  | cons k ks ih => cases cs with
    | nil => exact h.elim
    | cons c cs =>
      intro v hv
      rcases List.mem_cons.1 hv with rfl | hv
      · cases k with
        | int k => obtain ⟨z, rfl⟩ := h.1; rfl
        | str => obtain ⟨s, rfl⟩ := h.1; rfl
        | bool => obtain ⟨b, rfl⟩ := h.1; rfl
      · exact ih h.2 v hv

/-- The cells of a struct's fields, one behind the other. -/
def flatFs (g : TypeId → Option (List CK)) : List Field → Nat → Option (List CK)
  | [], _ => some []
  | f :: fs, off => if f.name = "_" ∨ f.offset ≠ off then none else match g f.type with
    | none => none
    | some ks => match flatFs g fs (off + ks.length) with
      | none => none
      | some r => some (ks ++ r)
/-- The cells of a type. -/
def flatT (P : Program) : Nat → TypeId → Option (List CK)
  | 0, _ => none
  | n + 1, t => match (match P.underlying t with
    | some (.int k) => some [CK.int k]
    | some .string => some [.str]
    | some .bool => some [.bool]
    | some (.struct fs) => if P.stoodInHeld t then none else flatFs (flatT P n) fs.toList 0
    | _ => none) with
    | none => none
    | some ks => if P.cellsOf t = ks.length ∧ (P.info? t).isSome then some ks else none
def isSt (P : Program) (t : TypeId) : Bool := match P.underlying t with
  | some (.struct _) => true
  | _ => false
/-- A value of these cells. -/
def asVal (P : Program) (t : TypeId) (cs : List Value) : Value := if isSt P t then .agg cs.toArray else cs.headD undef

section
variable {P : Program}
theorem flat_cells {n : Nat} {t : TypeId} {ks : List CK} (h : flatT P n t = some ks) : P.cellsOf t = ks.length ∧ ∃ i, P.info? t = some i := by
  cases n with
  | zero => cases h
  | succ n =>
    rw [flatT] at h
    split at h
    · cases h
    · split at h
      · rename_i hc
        injection h with h
        subst h
        exact ⟨hc.1, Option.isSome_iff_exists.1 hc.2⟩
      · cases h
theorem flat_ways {n : Nat} {t : TypeId} {ks : List CK} (h : flatT P (n + 1) t = some ks) :
    (∃ k, P.underlying t = some (.int k) ∧ ks = [.int k]) ∨ (P.underlying t = some .string ∧ ks = [.str]) ∨ (P.underlying t = some .bool ∧ ks = [.bool]) ∨
    ∃ fs, P.underlying t = some (.struct fs) ∧ P.stoodInHeld t = false ∧ flatFs (flatT P n) fs.toList 0 = some ks := by
  rw [flatT] at h
  split at h
  · cases h
  · rename_i ks' hk
    split at h
    · injection h with h
      subst h
      split at hk
      · rename_i k hu
        injection hk with hk
        exact .inl ⟨k, hu, hk.symm⟩
      · rename_i hu
        injection hk with hk
        exact .inr (.inl ⟨hu, hk.symm⟩)
      · rename_i hu
        injection hk with hk
        exact .inr (.inr (.inl ⟨hu, hk.symm⟩))
      · rename_i fs hu
        split at hk
        · cases hk
        · rename_i hs
          exact .inr (.inr (.inr ⟨fs, hu, by simpa using hs, hk⟩))
      · cases hk
    · cases h
theorem flatFs_cons {g : TypeId → Option (List CK)} {f : Field} {fs : List Field} {off : Nat} {ks : List CK} (h : flatFs g (f :: fs) off = some ks) :
    f.name ≠ "_" ∧ f.offset = off ∧ ∃ k1 k2, g f.type = some k1 ∧ flatFs g fs (off + k1.length) = some k2 ∧ ks = k1 ++ k2 := by
  rw [flatFs] at h
  split at h
  · cases h
  · rename_i hn
    rw [not_or, Decidable.not_not] at hn
    split at h
    · cases h
    · rename_i k1 h1
      split at h
      · cases h
      · rename_i k2 h2
        injection h with h
        exact ⟨hn.1, hn.2, k1, k2, h1, h2, h.symm⟩
theorem isSt_agg {t : TypeId} {fs : Array Field} (h : P.underlying t = some (.struct fs)) (w : World) : isSt P t = true ∧ (isAgg t).run P w = .ok true w := by
  constructor
  · rw [isSt, h]
  · simp [isAgg, run_underlying h]
theorem size_run {t : TypeId} {n : Nat} (h : P.cellsOf t = n ∧ ∃ i, P.info? t = some i) (w : World) : (sizeOf t).run P w = .ok n w := by
  obtain ⟨h1, i, h2⟩ := h
  rw [run_sizeOf w h2, h1]
/-- A part of a value. -/
theorem part_flat {n : Nat} {t : TypeId} {ks : List CK} (h : flatT P n t = some ks) (cs : List Value) (off : Nat) (hk : off + ks.length ≤ cs.length) (w : World) :
    (part t cs.toArray off).run P w = .ok (asVal P t ((cs.drop off).take ks.length)) w := by
  cases n with
  | zero => cases h
  | succ n =>
    have hone : ∀ (hks : ks.length = 1) (hst : isSt P t = false) (ha : (isAgg t).run P w = .ok false w), (part t cs.toArray off).run P w = .ok (asVal P t ((cs.drop off).take ks.length)) w := by
      intro hks hst ha
      have hlt : off < cs.length := by omega
      simp only [part, Sem.run_bind, ha, Result.andThen_ok, Bool.false_eq_true, if_false]
      rw [asVal, hst]
      have e : cs.toArray[off]? = some cs[off] := by simp [hlt]
      rw [e]
      have e2 : (cs.drop off).take ks.length = [cs[off]] := by rw [hks, List.drop_eq_getElem_cons hlt]; rfl
      rw [e2]
      simp
    rcases flat_ways h with ⟨k, hu, rfl⟩ | ⟨hu, rfl⟩ | ⟨hu, rfl⟩ | ⟨fs, hu, _, _⟩
    · exact hone rfl (by rw [isSt, hu]) (by simp [isAgg, run_underlying hu])
    · exact hone rfl (by rw [isSt, hu]) (by simp [isAgg, run_underlying hu])
    · exact hone rfl (by rw [isSt, hu]) (by simp [isAgg, run_underlying hu])
    · obtain ⟨h1, h2⟩ := isSt_agg hu w
      simp only [part, Sem.run_bind, h2, Result.andThen_ok, if_true, size_run (flat_cells h) w, Sem.run_pure]
      rw [asVal, h1, if_pos rfl]
      congr 2
      apply Array.ext'
      simp [List.take_drop]

def cellEq : Value → Value → Bool
  | .int _ a, .int _ b => a == b
  | .string a, .string b => a.toList == b.toList
  | .bool a, .bool b => a == b
  | _, _ => false
def eqCells : List Value → List Value → Bool
  | x :: xs, y :: ys => cellEq x y && eqCells xs ys
  | _, _ => true
theorem ba_list (l : List UInt8) : ByteArray.toList ⟨l.toArray⟩ = l := by rw [ByteArray.toList_eq]
theorem cellEq_refl {k : CK} {c : Value} (h : cellIs k c) : cellEq c c = true := by
  cases k with
  | int k => obtain ⟨z, rfl⟩ := h; simp [cellEq]
  | str => obtain ⟨s, rfl⟩ := h; simp [cellEq]
  | bool => obtain ⟨b, rfl⟩ := h; simp [cellEq]
theorem eqCells_refl {ks : List CK} {cs : List Value} (h : Fits ks cs) : eqCells cs cs = true := by
  induction ks generalizing cs with
  | nil => cases cs with
    | nil => rfl
    | cons c cs => exact h.elim
  | cons k ks ih => cases cs with
    | nil => exact h.elim
    | cons c cs => simp [eqCells, cellEq_refl h.1, ih h.2]
theorem eqCells_append (a b a' b' : List Value) (h : a.length = a'.length) : eqCells (a ++ b) (a' ++ b') = (eqCells a a' && eqCells b b') := by
  induction a generalizing a' with
  | nil => cases a' with
    | nil => simp [eqCells]
    | cons x xs => simp at h
  | cons x xs ih => cases a' with
    | nil => simp at h
    | cons y ys =>
      simp only [List.length_cons, Nat.add_right_cancel_iff] at h
      simp [eqCells, ih ys h, Bool.and_assoc]
theorem equal_fields (w : World) (n d : Nat) (ih : ∀ t ks, flatT P n t = some ks → ∀ xs ys, Fits ks xs → Fits ks ys → (Op.equalIn d t (asVal P t xs) (asVal P t ys)).run P w = .ok (eqCells xs ys) w)
    (fs : List Field) (off : Nat) (ks : List CK) (h : flatFs (flatT P n) fs off = some ks) (xs ys : List Value) (hox : off ≤ xs.length) (hoy : off ≤ ys.length) (hx : Fits ks (xs.drop off)) (hy : Fits ks (ys.drop off)) :
    (Op.eqFields d xs.toArray ys.toArray fs).run P w = .ok (eqCells (xs.drop off) (ys.drop off)) w := by
  induction fs generalizing off ks with
  | nil =>
    rw [flatFs] at h
    injection h with h
    subst h
    have e : xs.drop off = [] := List.length_eq_zero_iff.1 hx.len
    rw [e]
    simp [Op.eqFields, eqCells]
  | cons f fs ihf =>
    obtain ⟨hn, ho, k1, k2, g1, g2, rfl⟩ := flatFs_cons h
    obtain ⟨x1, x2⟩ := hx.split
    obtain ⟨y1, y2⟩ := hy.split
    have lx := hx.len
    have ly := hy.len
    simp only [List.length_append, List.length_drop] at lx ly
    have px := part_flat g1 xs off (by omega) w
    have py := part_flat g1 ys off (by omega) w
    have he := ih _ _ g1 _ _ x1 y1
    have hr := ihf (off + k1.length) k2 g2 (by omega) (by omega) (by rw [← List.drop_drop]; exact x2) (by rw [← List.drop_drop]; exact y2)
    have ex : xs.drop off = (xs.drop off).take k1.length ++ xs.drop (off + k1.length) := by rw [← List.drop_drop, List.take_append_drop]
    have ey : ys.drop off = (ys.drop off).take k1.length ++ ys.drop (off + k1.length) := by rw [← List.drop_drop, List.take_append_drop]
    simp only [Op.eqFields, if_pos hn, Sem.run_bind, ho, px, py, Result.andThen_ok, he]
    rw [ex, ey, eqCells_append _ _ _ _ (by simp; omega)]
    rw [← ex, ← ey]
    cases eqCells ((xs.drop off).take k1.length) ((ys.drop off).take k1.length) with
    | true => simpa using hr
    | false => simp
/-- What == answers. -/
theorem equal_flat (w : World) : ∀ (n : Nat) (t : TypeId) (ks : List CK), flatT P n t = some ks → ∀ d, n ≤ d → ∀ xs ys, Fits ks xs → Fits ks ys → (Op.equalIn d t (asVal P t xs) (asVal P t ys)).run P w = .ok (eqCells xs ys) w := by
  intro n
  induction n with
  | zero => intro t ks h; cases h
  | succ n ih =>
    intro t ks h d hd xs ys hx hy
    obtain ⟨d, rfl⟩ : ∃ e, d = e + 1 := ⟨d - 1, by omega⟩
    rcases flat_ways h with ⟨k, hu, rfl⟩ | ⟨hu, rfl⟩ | ⟨hu, rfl⟩ | ⟨fs, hu, hp, hf⟩
    · have hst : isSt P t = false := by rw [isSt, hu]
      obtain ⟨x, rfl, a, rfl⟩ := hx.lone
      obtain ⟨y, rfl, b, rfl⟩ := hy.lone
      rw [asVal, asVal, hst]
      simp [run_equalIn_int w d t k k a b hu, eqCells, cellEq]
    · have hst : isSt P t = false := by rw [isSt, hu]
      obtain ⟨x, rfl, a, rfl⟩ := hx.lone
      obtain ⟨y, rfl, b, rfl⟩ := hy.lone
      rw [asVal, asVal, hst]
      simp [run_equalIn_string w d t a b hu, eqCells, cellEq]
    · have hst : isSt P t = false := by rw [isSt, hu]
      obtain ⟨x, rfl, a, rfl⟩ := hx.lone
      obtain ⟨y, rfl, b, rfl⟩ := hy.lone
      rw [asVal, asVal, hst]
      simp [run_equalIn_bool' w d t a b hu, eqCells, cellEq]
    · obtain ⟨h1, _⟩ := isSt_agg hu w
      have hfs : P.fieldsOf t = fs := by rw [Program.fieldsOf, hu]
      rw [asVal, asVal, h1, if_pos rfl, if_pos rfl, run_equalIn_agg w d t _ _ (by rw [hfs]; exact hu) hp, hfs]
      have q := equal_fields w n d (fun t ks ht xs ys hx hy => ih t ks ht d (by omega) xs ys hx hy) fs.toList 0 ks hf xs ys (Nat.zero_le _) (Nat.zero_le _) (by simpa using hx) (by simpa using hy)
      simpa using q

/-- The struct t has these cells. -/
structure Rec (P : Program) (t : TypeId) (ks : List CK) : Prop where
  flat : flatT P 8 t = some ks
  st : isSt P t = true
  guard : P.eqGuardType P.depth t = false
theorem Rec.agg {t : TypeId} {ks : List CK} (R : Rec P t ks) : ∃ fs, P.underlying t = some (.struct fs) := by
  have := R.st
  rw [isSt] at this
  split at this
  · rename_i fs h
    exact ⟨fs, h⟩
  · cases this
theorem Rec.size {t : TypeId} {ks : List CK} (R : Rec P t ks) (cs : Array Value) (h : cs.size = ks.length) : (P.info? t).map (·.size) = some cs.size := by
  obtain ⟨h1, i, h2⟩ := flat_cells R.flat
  rw [Program.cellsOf, h2] at h1
  rw [h2, h, ← h1]
  rfl
theorem run_eq_rec {t : TypeId} {ks : List CK} (R : Rec P t ks) (xs ys : List Value) (hx : Fits ks xs) (hy : Fits ks ys) (w : World) : (binOp .eql t (.agg xs.toArray) (.agg ys.toArray)).run P w = .ok (.bool (eqCells xs ys)) w := by
  have q := equal_flat w 8 t ks R.flat 10000 (by decide) xs ys hx hy
  rw [asVal, asVal, R.st, if_pos rfl, if_pos rfl] at q
  rw [run_eql_struct, q]
  rfl
theorem run_neq_rec {t : TypeId} {ks : List CK} (R : Rec P t ks) (xs ys : List Value) (hx : Fits ks xs) (hy : Fits ks ys) (w : World) : (binOp .neq t (.agg xs.toArray) (.agg ys.toArray)).run P w = .ok (.bool (!eqCells xs ys)) w := by
  have q := equal_flat w 8 t ks R.flat 10000 (by decide) xs ys hx hy
  rw [asVal, asVal, R.st, if_pos rfl, if_pos rfl] at q
  rw [run_neq_struct, q]
  rfl
theorem exec_eq_rec {ev : Operand → Value} {o : Oper} {t : TypeId} {ks : List CK} (R : Rec P t ks) (x y : Operand) (r : TypeId) (ho : o.op = .binOp .eql t x y r) (xs ys : List Value) (hxs : Fits ks xs) (hys : Fits ks ys) (hx : ev x = .agg xs.toArray) (hy : ev y = .agg ys.toArray) (q : Bool) (hq : q = eqCells xs ys) (w : World) :
    (execOp ev o).run P w = .ok (.value (.bool q)) w := by
  have h := run_eq_rec R xs ys hxs hys w
  have hg := run_eqGuard_agg w .eql t x y xs.toArray ys.toArray R.guard
  unfold execOp
  simp [ho, hx, hy, h, hq, hg]
theorem exec_neq_rec {ev : Operand → Value} {o : Oper} {t : TypeId} {ks : List CK} (R : Rec P t ks) (x y : Operand) (r : TypeId) (ho : o.op = .binOp .neq t x y r) (xs ys : List Value) (hxs : Fits ks xs) (hys : Fits ks ys) (hx : ev x = .agg xs.toArray) (hy : ev y = .agg ys.toArray) (q : Bool) (hq : q = !eqCells xs ys) (w : World) :
    (execOp ev o).run P w = .ok (.value (.bool q)) w := by
  have h := run_neq_rec R xs ys hxs hys w
  have hg := run_eqGuard_agg w .neq t x y xs.toArray ys.toArray R.guard
  unfold execOp
  simp [ho, hx, hy, h, hq, hg]

/-- Read out of memory, wherever it lies. -/
theorem load_rec {t : TypeId} {ks : List CK} (R : Rec P t ks) {w : World} {g off : Nat} (cs : List Value) (hl : cs.length = ks.length) (hc : ∀ j v, cs[j]? = some v → w.cell? ⟨g, off + j, none⟩ = some v) : (loadVar t ⟨g, off, none⟩).run P w = .ok (.agg cs.toArray) w := by
  obtain ⟨fs, hu⟩ := R.agg
  have q := run_loadCells_list (P := P) (w := w) ⟨g, off, none⟩ cs (fun j v hj => by
    have ha : (⟨g, off, none⟩ : Addr).add j = ⟨g, off + j, none⟩ := by unfold Addr.add; split <;> simp_all
    rw [ha]
    exact hc j v hj)
  simp only [loadVar, Sem.run_bind, (isSt_agg hu w).2, Result.andThen_ok, if_true, size_run (flat_cells R.flat) w, ← hl, q, Sem.run_pure]
theorem load_whole {t : TypeId} {ks : List CK} (R : Rec P t ks) {w : World} {g : Nat} {T : TypeId} (cs : List Value) (hl : cs.length = ks.length) (hg : Whole w g T cs.toArray) : (loadVar t ⟨g, 0, none⟩).run P w = .ok (.agg cs.toArray) w :=
  load_rec R cs hl fun j v hj => by rw [hg.at_]; simpa using hj
theorem exec_load_rec {ev : Operand → Value} {o : Oper} {t : TypeId} {ks : List CK} (R : Rec P t ks) (x : Operand) (ho : o.op = .load t x) (g off : Nat) (hx : ev x = .pointer (some ⟨g, off, none⟩)) (cs : List Value) (hl : cs.length = ks.length) (w : World) (hc : ∀ j v, cs[j]? = some v → w.cell? ⟨g, off + j, none⟩ = some v) :
    (execOp ev o).run P w = .ok (.value (.agg cs.toArray)) w := by
  have h := load_rec R cs hl hc
  unfold execOp
  simp [ho, hx, Instr.loadAt, Instr.sureAddr, h]
theorem exec_load_whole {ev : Operand → Value} {o : Oper} {t : TypeId} {ks : List CK} (R : Rec P t ks) (x : Operand) (ho : o.op = .load t x) (g : Nat) (hx : ev x = .pointer (some ⟨g, 0, none⟩)) (T : TypeId) (cs : List Value) (hl : cs.length = ks.length) (w : World) (hg : Whole w g T cs.toArray) :
    (execOp ev o).run P w = .ok (.value (.agg cs.toArray)) w :=
  exec_load_rec R x ho g 0 hx cs hl w fun j v hj => by rw [Nat.zero_add, hg.at_]; simpa using hj
theorem wp_load_rec {o : Oper} {a : Act} {w : World} {K : Act → World → Prop} {Q : Exit → Act → World → Prop} {t : TypeId} {ks : List CK} (R : Rec P t ks) (x : Operand) (ho : o.op = .load t x) (g off : Nat) (hx : a.eval x = .pointer (some ⟨g, off, none⟩)) (cs : List Value) (hl : cs.length = ks.length) (hc : ∀ j v, cs[j]? = some v → w.cell? ⟨g, off + j, none⟩ = some v)
    (h : K (a.put o.dst (.agg cs.toArray)) w) : o.wp P a w K Q := by
  have q := load_rec R cs hl hc
  unfold Oper.wp execOp
  simp only [ho, hx, Instr.loadAt, Instr.sureAddr, Sem.run_bind, Sem.run_pure, Result.andThen_ok, q]
  exact h
theorem wpList_load_rec {ops : Array Oper} {rest : List Oper} {o : Oper} {a : Act} {w : World} {Q : Exit → Act → World → Prop} {t : TypeId} {ks : List CK} (R : Rec P t ks) (hgd : o.guard = none) (x : Operand) (ho : o.op = .load t x) (g off : Nat) (hx : a.eval x = .pointer (some ⟨g, off, none⟩)) (cs : List Value) (hl : cs.length = ks.length) (hc : ∀ j v, cs[j]? = some v → w.cell? ⟨g, off + j, none⟩ = some v)
    (h : wpList P ops Q rest (a.put o.dst (.agg cs.toArray)) w) : wpList P ops Q (o :: rest) a w :=
  wpList_plain hgd fun _ hK => wp_load_rec R x ho g off hx cs hl hc (hK _ _ h)
theorem wpList_load_rec_w {ops : Array Oper} {rest : List Oper} {o : Oper} {a : Act} {w : World} {Q : Exit → Act → World → Prop} {t : TypeId} {ks : List CK} (R : Rec P t ks) (hw : Region.wanted o (yielded ops a.tmps) = true) (x : Operand) (ho : o.op = .load t x) (g off : Nat) (hx : a.eval x = .pointer (some ⟨g, off, none⟩)) (cs : List Value) (hl : cs.length = ks.length) (hc : ∀ j v, cs[j]? = some v → w.cell? ⟨g, off + j, none⟩ = some v)
    (h : wpList P ops Q rest (a.put o.dst (.agg cs.toArray)) w) : wpList P ops Q (o :: rest) a w :=
  wpList_step fun _ hK => by
    rw [if_pos hw]
    exact wp_load_rec R x ho g off hx cs hl hc (hK _ _ h)
theorem wpList_load_whole {ops : Array Oper} {rest : List Oper} {o : Oper} {a : Act} {w : World} {Q : Exit → Act → World → Prop} {t : TypeId} {ks : List CK} (R : Rec P t ks) (hgd : o.guard = none) (x : Operand) (ho : o.op = .load t x) (g : Nat) (hx : a.eval x = .pointer (some ⟨g, 0, none⟩)) (T : TypeId) (cs : List Value) (hl : cs.length = ks.length) (hg : Whole w g T cs.toArray)
    (h : wpList P ops Q rest (a.put o.dst (.agg cs.toArray)) w) : wpList P ops Q (o :: rest) a w :=
  wpList_load_rec R hgd x ho g 0 hx cs hl (fun j v hj => by rw [Nat.zero_add, hg.at_]; simpa using hj) h
theorem wpList_load_whole_w {ops : Array Oper} {rest : List Oper} {o : Oper} {a : Act} {w : World} {Q : Exit → Act → World → Prop} {t : TypeId} {ks : List CK} (R : Rec P t ks) (hw : Region.wanted o (yielded ops a.tmps) = true) (x : Operand) (ho : o.op = .load t x) (g : Nat) (hx : a.eval x = .pointer (some ⟨g, 0, none⟩)) (T : TypeId) (cs : List Value) (hl : cs.length = ks.length) (hg : Whole w g T cs.toArray)
    (h : wpList P ops Q rest (a.put o.dst (.agg cs.toArray)) w) : wpList P ops Q (o :: rest) a w :=
  wpList_step fun _ hK => by
    rw [if_pos hw]
    exact wp_load_rec R x ho g 0 hx cs hl (fun j v hj => by rw [Nat.zero_add, hg.at_]; simpa using hj) (hK _ _ h)
/-- Two such structs compared. -/
theorem wpList_eq_rec {ops : Array Oper} {rest : List Oper} {o : Oper} {a : Act} {w : World} {Q : Exit → Act → World → Prop} {t : TypeId} {ks : List CK} (R : Rec P t ks) (hgd : o.guard = none) (x y : Operand) {r : TypeId} (ho : o.op = .binOp .eql t x y r) (xs ys : List Value) (hxs : Fits ks xs) (hys : Fits ks ys) (hx : a.eval x = .agg xs.toArray) (hy : a.eval y = .agg ys.toArray) (q : Bool) (hq : q = eqCells xs ys)
    (h : wpList P ops Q rest (a.put o.dst (.bool q)) w) : wpList P ops Q (o :: rest) a w :=
  wpList_plain hgd fun K hK => by
    have e := exec_eq_rec (o := o) (ev := a.eval) R x y r ho xs ys hxs hys hx hy q hq w
    have q' := hK _ _ h
    unfold Oper.wp
    rw [e]
    exact q'
theorem wpList_neq_rec {ops : Array Oper} {rest : List Oper} {o : Oper} {a : Act} {w : World} {Q : Exit → Act → World → Prop} {t : TypeId} {ks : List CK} (R : Rec P t ks) (hgd : o.guard = none) (x y : Operand) {r : TypeId} (ho : o.op = .binOp .neq t x y r) (xs ys : List Value) (hxs : Fits ks xs) (hys : Fits ks ys) (hx : a.eval x = .agg xs.toArray) (hy : a.eval y = .agg ys.toArray) (q : Bool) (hq : q = !eqCells xs ys)
    (h : wpList P ops Q rest (a.put o.dst (.bool q)) w) : wpList P ops Q (o :: rest) a w :=
  wpList_plain hgd fun K hK => by
    have e := exec_neq_rec (o := o) (ev := a.eval) R x y r ho xs ys hxs hys hx hy q hq w
    have q' := hK _ _ h
    unfold Oper.wp
    rw [e]
    exact q'
theorem wpList_eq_rec_w {ops : Array Oper} {rest : List Oper} {o : Oper} {a : Act} {w : World} {Q : Exit → Act → World → Prop} {t : TypeId} {ks : List CK} (R : Rec P t ks) (hw : Region.wanted o (yielded ops a.tmps) = true) (x y : Operand) {r : TypeId} (ho : o.op = .binOp .eql t x y r) (xs ys : List Value) (hxs : Fits ks xs) (hys : Fits ks ys) (hx : a.eval x = .agg xs.toArray) (hy : a.eval y = .agg ys.toArray) (q : Bool) (hq : q = eqCells xs ys)
    (h : wpList P ops Q rest (a.put o.dst (.bool q)) w) : wpList P ops Q (o :: rest) a w :=
  wpList_step fun K hK => by
    have e := exec_eq_rec (o := o) (ev := a.eval) R x y r ho xs ys hxs hys hx hy q hq w
    have q' := hK _ _ h
    rw [if_pos hw]
    unfold Oper.wp
    rw [e]
    exact q'
theorem wpList_neq_rec_w {ops : Array Oper} {rest : List Oper} {o : Oper} {a : Act} {w : World} {Q : Exit → Act → World → Prop} {t : TypeId} {ks : List CK} (R : Rec P t ks) (hw : Region.wanted o (yielded ops a.tmps) = true) (x y : Operand) {r : TypeId} (ho : o.op = .binOp .neq t x y r) (xs ys : List Value) (hxs : Fits ks xs) (hys : Fits ks ys) (hx : a.eval x = .agg xs.toArray) (hy : a.eval y = .agg ys.toArray) (q : Bool) (hq : q = !eqCells xs ys)
    (h : wpList P ops Q rest (a.put o.dst (.bool q)) w) : wpList P ops Q (o :: rest) a w :=
  wpList_step fun K hK => by
    have e := exec_neq_rec (o := o) (ev := a.eval) R x y r ho xs ys hxs hys hx hy q hq w
    have q' := hK _ _ h
    rw [if_pos hw]
    unfold Oper.wp
    rw [e]
    exact q'
/-- A struct within one. -/
theorem Whole.part {w : World} {g : Nat} {T : TypeId} {a b c : List Value} (h : Whole w g T (a ++ b ++ c).toArray) : ∀ j v, b[j]? = some v → w.cell? ⟨g, a.length + j, none⟩ = some v := fun j v hj => by
  rw [h.at_]
  have hl := (List.getElem?_eq_some_iff.1 hj).1
  rw [List.getElem?_toArray, List.append_assoc, List.getElem?_append_right (Nat.le_add_right _ _), Nat.add_sub_cancel_left, List.getElem?_append_left hl]
  exact hj
/-- In a statement that leaves its order open and changes no memory. -/
theorem still_load_rec {ops : Array Oper} {w : World} {Q : Act → Prop} {a : Act} {o : Oper} {rest : List Oper} {t : TypeId} {ks : List CK} (R : Rec P t ks) (hw : Region.wanted o (yielded ops a.tmps) = true) (x : Operand) (ho : o.op = .load t x) (g off : Nat) (hx : a.eval x = .pointer (some ⟨g, off, none⟩)) (cs : List Value) (hl : cs.length = ks.length)
    (hc : ∀ j v, cs[j]? = some v → w.cell? ⟨g, off + j, none⟩ = some v) (h : wpStill P ops w Q rest (a.put o.dst (.agg cs.toArray))) : wpStill P ops w Q (o :: rest) a := by
  refine wpStill_step fun K hK => ?_
  have q := hK _ h
  have e := exec_load_rec (o := o) (ev := a.eval) R x ho g off hx cs hl w hc
  rw [if_pos hw]
  unfold Oper.still
  rw [e]
  exact ⟨rfl, q⟩
theorem still_load_whole {ops : Array Oper} {w : World} {Q : Act → Prop} {a : Act} {o : Oper} {rest : List Oper} {t : TypeId} {ks : List CK} (R : Rec P t ks) (hw : Region.wanted o (yielded ops a.tmps) = true) (x : Operand) (ho : o.op = .load t x) (g : Nat) (hx : a.eval x = .pointer (some ⟨g, 0, none⟩)) (T : TypeId) (cs : List Value) (hl : cs.length = ks.length)
    (hg : Whole w g T cs.toArray) (h : wpStill P ops w Q rest (a.put o.dst (.agg cs.toArray))) : wpStill P ops w Q (o :: rest) a :=
  still_load_rec R hw x ho g 0 hx cs hl (fun j v hj => by rw [Nat.zero_add, hg.at_]; simpa using hj) h
theorem still_eq_rec {ops : Array Oper} {w : World} {Q : Act → Prop} {a : Act} {o : Oper} {rest : List Oper} {t : TypeId} {ks : List CK} (R : Rec P t ks) (hw : Region.wanted o (yielded ops a.tmps) = true) (x y : Operand) {r : TypeId} (ho : o.op = .binOp .eql t x y r) (xs ys : List Value) (hxs : Fits ks xs) (hys : Fits ks ys) (hx : a.eval x = .agg xs.toArray) (hy : a.eval y = .agg ys.toArray) (q : Bool) (hq : q = eqCells xs ys)
    (h : wpStill P ops w Q rest (a.put o.dst (.bool q))) : wpStill P ops w Q (o :: rest) a := by
  refine wpStill_step fun K hK => ?_
  have q' := hK _ h
  have e := exec_eq_rec (o := o) (ev := a.eval) R x y r ho xs ys hxs hys hx hy q hq w
  rw [if_pos hw]
  unfold Oper.still
  rw [e]
  exact ⟨rfl, q'⟩
theorem still_neq_rec {ops : Array Oper} {w : World} {Q : Act → Prop} {a : Act} {o : Oper} {rest : List Oper} {t : TypeId} {ks : List CK} (R : Rec P t ks) (hw : Region.wanted o (yielded ops a.tmps) = true) (x y : Operand) {r : TypeId} (ho : o.op = .binOp .neq t x y r) (xs ys : List Value) (hxs : Fits ks xs) (hys : Fits ks ys) (hx : a.eval x = .agg xs.toArray) (hy : a.eval y = .agg ys.toArray) (q : Bool) (hq : q = !eqCells xs ys)
    (h : wpStill P ops w Q rest (a.put o.dst (.bool q))) : wpStill P ops w Q (o :: rest) a := by
  refine wpStill_step fun K hK => ?_
  have q' := hK _ h
  have e := exec_neq_rec (o := o) (ev := a.eval) R x y r ho xs ys hxs hys hx hy q hq w
  rw [if_pos hw]
  unfold Oper.still
  rw [e]
  exact ⟨rfl, q'⟩
/-- A struct built of its parts. -/
theorem wp_build_rec {o : Oper} {a : Act} {w : World} {K : Act → World → Prop} {Q : Exit → Act → World → Prop} (t : TypeId) (parts : Array (Nat × Operand)) (ho : o.op = .build t parts) (vs : Array (Nat × Value)) (hv : (parts.map fun x => (x.1, a.eval x.2)) = vs) (cells : Array Value) (hb : P.built t vs.toList = some cells)
    (h : K (a.put o.dst (.agg cells)) w) : o.wp P a w K Q := by
  have e := run_build (P := P) w t vs cells hb
  unfold Oper.wp execOp
  simp only [ho, hv, e, Sem.run_bind, Sem.run_pure, Result.andThen_ok, Oper.upon]
  exact h
theorem wpList_build_rec {ops : Array Oper} {rest : List Oper} {o : Oper} {a : Act} {w : World} {Q : Exit → Act → World → Prop} (hgd : o.guard = none) (t : TypeId) (parts : Array (Nat × Operand)) (ho : o.op = .build t parts) (vs : Array (Nat × Value)) (hv : (parts.map fun x => (x.1, a.eval x.2)) = vs) (cells : Array Value) (hb : P.built t vs.toList = some cells)
    (h : wpList P ops Q rest (a.put o.dst (.agg cells)) w) : wpList P ops Q (o :: rest) a w :=
  wpList_plain hgd fun _ hK => wp_build_rec t parts ho vs hv cells hb (hK _ _ h)
/-- What is known of another block stays when one is written. -/
theorem grown_far {w w' : World} {g h : Nat} {t : TypeId} {cs : Array Value} (k : Whole w g t cs) (q : w.grownBy w' (some h)) (hne : g ≠ h) : Whole w' g t cs := by
  have e := q.block g k.lt (fun e => hne (by injection e))
  rw [Whole, e]
  exact k
/-- One cell stored into a block that is known. -/
theorem wp_put_cell {o : Oper} {a : Act} {w : World} {K : Act → World → Prop} {Q : Exit → Act → World → Prop} (t : TypeId) (hs : P.cellsOf t = 1 ∧ (P.info? t).isSome = true) (x y : Operand) (ho : o.op = .store t x y) (g i : Nat) (hx : a.eval x = .pointer (some ⟨g, i, none⟩)) (v : Value) (hy : a.eval y = v) (hv : v.cells = #[v]) (hone : v.oneCell' = true)
    (T : TypeId) (cs : Array Value) (hg : Whole w g T cs) (old : Value) (hi : cs[i]? = some old) (h : ∀ w', w.grownBy w' (some g) → Whole w' g T (cs.setIfInBounds i v) → w'.heap.size = w.heap.size → K (a.put o.dst undef) w') : o.wp P a w K Q := by
  have hz := size_run (P := P) (t := t) ⟨hs.1, Option.isSome_iff_exists.1 hs.2⟩ w
  have c1 : w.cell? ⟨g, i, none⟩ = some old := (hg.at_ i).trans hi
  have f1 := hg.free i
  have hst : (storeCells ⟨g, i, none⟩ [v]).run P w = .ok () (w.setCell ⟨g, i, none⟩ v) := by
    have := run_storeCells_cells (P := P) g i [v] 0 w (by intro j hj; simp only [List.length_singleton] at hj; obtain rfl : j = 0 := by omega
                                                          simp [c1]) (by intro j hj; simp only [List.length_singleton] at hj; obtain rfl : j = 0 := by omega
                                                                         simpa using f1) (by intro u hu; rw [List.mem_singleton] at hu; rw [hu]; exact hone)
    simpa [World.setCells] using this
  have q := h _ (grown_store w g i v) (hg.stored i _) (by simp)
  unfold Oper.wp execOp
  simp only [ho, hx, hy, Instr.storeAt, Instr.sureAddr, storeVar, hv, Sem.run_bind, Sem.run_pure, Result.andThen_ok, hz, List.size_toArray, List.length_cons, List.length_nil, ne_eq, not_true_eq_false, if_false, hst, Oper.upon]
  exact q
theorem wpList_put_cell {ops : Array Oper} {rest : List Oper} {o : Oper} {a : Act} {w : World} {Q : Exit → Act → World → Prop} (t : TypeId) (hs : P.cellsOf t = 1 ∧ (P.info? t).isSome = true) (hgd : o.guard = none) (x y : Operand) (ho : o.op = .store t x y) (g i : Nat) (hx : a.eval x = .pointer (some ⟨g, i, none⟩)) (v : Value) (hy : a.eval y = v) (hv : v.cells = #[v]) (hone : v.oneCell' = true)
    (T : TypeId) (cs : Array Value) (hg : Whole w g T cs) (old : Value) (hi : cs[i]? = some old) (h : ∀ w', w.grownBy w' (some g) → Whole w' g T (cs.setIfInBounds i v) → w'.heap.size = w.heap.size → wpList P ops Q rest (a.put o.dst undef) w') : wpList P ops Q (o :: rest) a w :=
  wpList_plain hgd fun _ hK => wp_put_cell t hs x y ho g i hx v hy hv hone T cs hg old hi fun w' p q r => hK _ _ (h w' p q r)
/-- Results: such a struct in a block, and one in a slot. -/
theorem results_rec {fn : Func} {p : Tmp} {t : TypeId} {ks : List CK} (R : Rec P t ks) (h : fn.results = #[.cell p t]) (tmps : Array Value) (w : World) (g : Nat) (T : TypeId) (cs : List Value) (hl : cs.length = ks.length)
    (hp : tmps.getD p undef = .pointer (some ⟨g, 0, none⟩)) (hg : Whole w g T cs.toArray) : (results fn tmps).run P w = .ok (.agg cs.toArray) w := by
  have q := load_whole R cs hl hg
  have hp' : tmps[p]?.getD undef = .pointer (some ⟨g, 0, none⟩) := by simpa using hp
  simp [results, h, hp', asAddr, q]
theorem results_rec_tmp {fn : Func} {p r : Tmp} {t : TypeId} {ks : List CK} (R : Rec P t ks) (h : fn.results = #[.cell p t, .tmp r]) (tmps : Array Value) (w : World) (g : Nat) (T : TypeId) (cs : List Value) (hl : cs.length = ks.length)
    (hp : tmps.getD p undef = .pointer (some ⟨g, 0, none⟩)) (hg : Whole w g T cs.toArray) : (results fn tmps).run P w = .ok (.tuple #[.agg cs.toArray, tmps.getD r undef]) w := by
  have q := load_whole R cs hl hg
  have hp' : tmps[p]?.getD undef = .pointer (some ⟨g, 0, none⟩) := by simpa using hp
  simp [results, h, hp', asAddr, q]

section
variable {H : Type} {enc : TypeId × Value → H} {W : World} {b base : Nat} {sp : Nat → Bool} {hd : Bool}
theorem fields_trod (n m : Nat) (ih : ∀ t ks, flatT P n t = some ks → ∀ cs x, DataW.trod enc P W b sp hd m t cs = some x → FitsW ks cs) (fs : List Field) (off : Nat) (ks : List CK) (h : flatFs (flatT P n) fs off = some ks) (cs : List Value) (hlen : cs.length = off + ks.length)
    (hf : ∀ (i : Nat) (f : Field), fs[i]? = some f → ∃ x, DataW.trod enc P W b sp hd m f.type ((cs.drop f.offset).take (P.cellsOf f.type)) = some x) : FitsW ks (cs.drop off) := by
  induction fs generalizing off ks with
  | nil =>
    rw [flatFs] at h
    injection h with h
    subst h
    have e : cs.drop off = [] := List.drop_eq_nil_of_le (by simp at hlen; omega)
    rw [e]
    trivial
  | cons f fs ihf =>
    obtain ⟨_, ho, k1, k2, g1, g2, rfl⟩ := flatFs_cons h
    obtain ⟨x, hx⟩ := hf 0 f rfl
    rw [(flat_cells g1).1, ho] at hx
    have q1 := ih _ _ g1 _ _ hx
    have q2 := ihf (off + k1.length) k2 g2 (by simp at hlen; omega) (fun i f' hi => hf (i + 1) f' hi)
    have e : cs.drop off = (cs.drop off).take k1.length ++ cs.drop (off + k1.length) := by rw [← List.drop_drop, List.take_append_drop]
    rw [e]
    exact q1.join q2
/-- What came in fits. -/
theorem flat_trod : ∀ (n : Nat) (t : TypeId) (ks : List CK), flatT P n t = some ks → ∀ fuel cs x, DataW.trod enc P W b sp hd fuel t cs = some x → FitsW ks cs := by
  intro n
  induction n with
  | zero => intro t ks h; cases h
  | succ n ih =>
    intro t ks h fuel cs x hx
    rcases flat_ways h with ⟨k, hu, rfl⟩ | ⟨hu, rfl⟩ | ⟨hu, rfl⟩ | ⟨fs, hu, _, hf⟩
    · obtain ⟨z, rfl, _, hz⟩ := DataW.trod_int hu hx
      exact ⟨⟨z, rfl, hz⟩, trivial⟩
    · obtain ⟨s, rfl, _, _⟩ := DataW.trod_string hu hx
      exact ⟨⟨s.data.toList, by rw [Array.toArray_toList]⟩, trivial⟩
    · obtain ⟨z, rfl, _⟩ := DataW.trod_bool hu hx
      exact ⟨⟨z, rfl⟩, trivial⟩
    · obtain ⟨xs, m, _, _, hl, hxl, hg⟩ := DataW.trod_struct hu hx
      rw [(flat_cells h).1] at hl
      have q := fields_trod n m (fun t ks ht cs x hx => ih t ks ht m cs x hx) fs.toList 0 ks hf cs (by omega) (fun i f hi => by
        have hi2 : fs[i]? = some f := by simpa using hi
        have hlt : i < xs.length := by
          rw [hxl]
          exact (Array.getElem?_eq_some_iff.1 hi2).1
        exact ⟨xs[i], by rw [hg i f hi2, List.getElem?_eq_getElem hlt]⟩)
      simpa using q
theorem open_rec {t : TypeId} {ks : List CK} (R : Rec P t ks) {v : Value} {d : DataW H} {p : List MemPlace} (hv : Value.okWide P W .any base t v) (h : DataW.Trod enc P W b sp hd t v d p) : ∃ cs, v = .agg cs.toArray ∧ FitsW ks cs := by
  obtain ⟨fs, hu⟩ := R.agg
  obtain ⟨cs, rfl, _⟩ := okWide_struct hu hv
  obtain ⟨fuel, hf⟩ := h
  exact ⟨cs.toList, by simp, flat_trod 8 t ks R.flat fuel _ _ hf⟩
end

/-- A slice of such structs, each by its cells. -/
def RowsAt (w : World) (v : Value) (k : Nat) (L : List (List Value)) : Prop :=
  ∃ A cap, v = .slice A L.length cap ∧ L.length ≤ cap ∧ (L ≠ [] → ∃ ad : Addr, A = some ad ∧ ∀ i c, L[i]? = some c → ∀ j u, c[j]? = some u → w.cell? (ad.add (i * k + j)) = some u)
theorem RowsAt.keep {w w' : World} {v : Value} {k : Nat} {L : List (List Value)} (h : RowsAt w v k L) (hk : L ≠ [] → ∀ g, g < w.heap.size → v.ownBlock = some g → w'.heap[g]? = w.heap[g]?) : RowsAt w' v k L := by
  obtain ⟨A, cap, rfl, hcap, hc⟩ := h
  refine ⟨A, cap, rfl, hcap, fun hl => ?_⟩
  obtain ⟨ad, rfl, hcell⟩ := hc hl
  refine ⟨ad, rfl, fun i c hi j u hj => ?_⟩
  have h1 := hcell i c hi j u hj
  have hlt := World.block_lt_of_cell? w _ h1
  rw [add_block] at hlt
  rw [← h1]
  exact World.cell?_of_block (by rw [add_block]; exact hk hl ad.block hlt rfl)
theorem RowsAt.below {w w' : World} {v : Value} {k : Nat} {L : List (List Value)} (h : RowsAt w v k L) (hb : Below w.heap.size w w') : RowsAt w' v k L := h.keep fun _ g hg _ => hb.block g hg
theorem RowsAt.size {w : World} {A : Option Addr} {n cap k : Nat} {L : List (List Value)} (h : RowsAt w (.slice A n cap) k L) : n = L.length ∧ n ≤ cap := by
  obtain ⟨A', cap', e, hc, -⟩ := h
  injection e with e1 e2 e3
  subst e2 e3
  exact ⟨rfl, hc⟩
theorem RowsAt.spots {w : World} {A : Option Addr} {n cap k : Nat} {L : List (List Value)} (h : RowsAt w (.slice A n cap) k L) (hl : L ≠ []) (hk : ∀ c ∈ L, c ≠ []) :
    ∃ g off, A = some ⟨g, off, none⟩ ∧ g < w.heap.size ∧ ∀ i c, L[i]? = some c → ∀ j u, c[j]? = some u → w.cell? ⟨g, off + i * k + j, none⟩ = some u := by
  obtain ⟨A', cap', e, -, hc⟩ := h
  injection e with e1 e2 e3
  subst e1
  obtain ⟨ad, rfl, hcell⟩ := hc hl
  have h0 : L[0]? = some (L.head hl) := by rw [← List.head?_eq_getElem?]; exact List.head?_eq_some_head hl
  have hne := hk _ (List.head_mem hl)
  have h00 : (L.head hl)[0]? = some ((L.head hl).head hne) := by rw [← List.head?_eq_getElem?]; exact List.head?_eq_some_head hne
  have hz := hcell 0 _ h0 0 _ h00
  have hlt := World.block_lt_of_cell? w _ hz
  rw [add_block] at hlt
  obtain ⟨g, off, spot⟩ := ad
  have hspot : spot = none := by simpa [Addr.add] using World.cell?_spot hz
  subst hspot
  refine ⟨g, off, rfl, hlt, fun i c hi j u hj => ?_⟩
  have ha : ∀ m, (⟨g, off, none⟩ : Addr).add m = ⟨g, off + m, none⟩ := by intro m; unfold Addr.add; split <;> simp_all
  rw [Nat.add_assoc, ← ha]
  exact hcell i c hi j u hj
theorem open_rows {H : Type} {enc : TypeId × Value → H} {W : World} {b : Nat} {sp : Nat → Bool} {hd : Bool} {t e : TypeId} {ks : List CK} (hu : P.underlying t = some (.slice e)) (R : Rec P e ks) {a : Option Addr} {len cap : Nat} {d : DataW H} {p : List MemPlace}
    (h : DataW.Trod enc P W b sp hd t (.slice a len cap) d p) : ∃ L, RowsAt W (.slice a len cap) ks.length L ∧ ∀ c ∈ L, FitsW ks c := by
  obtain ⟨fuel, hf⟩ := h
  rcases Go.Deep.open_slice hu hf with ⟨hcs, _⟩ | ⟨x, n, c, m, k, D, Pl, hcs, _, hl, _, hm, _, hel⟩
  · simp [Value.cells] at hcs
    obtain ⟨rfl, rfl, rfl⟩ := hcs
    exact ⟨[], ⟨none, 0, rfl, Nat.le_refl _, fun h => absurd rfl h⟩, fun x hx => by cases hx⟩
  · simp [Value.cells] at hcs
    obtain ⟨rfl, rfl, rfl⟩ := hcs
    have hck := (flat_cells R.flat).1
    have hlm : len ≤ m := by rw [hm]; split <;> omega
    have hex : ∀ i, ∃ c : List Value, i < len → FitsW ks c ∧ ∀ j u, c[j]? = some u → W.cell? (x.add (i * ks.length + j)) = some u := fun i => by
      by_cases hi : i < len
      · obtain ⟨cs', hcs, ht⟩ := hel i (by omega)
        have hfit := flat_trod 8 e ks R.flat k _ _ ht
        rw [hck] at hcs
        obtain ⟨_, _, hat⟩ := World.cells?_some hcs
        refine ⟨cs', fun _ => ⟨hfit, fun j u hj => ?_⟩⟩
        have hjk : j < ks.length := by
          have := (List.getElem?_eq_some_iff.1 hj).1
          rw [hfit.len] at this
          exact this
        have q := hat j hjk
        rw [Go.Deep.add_add] at q
        rw [q]
        exact hj
      · exact ⟨[], fun h => absurd h hi⟩
    let E : Nat → List Value := fun i => Classical.choose (hex i)
    have hE : ∀ i, i < len → FitsW ks (E i) ∧ ∀ j u, (E i)[j]? = some u → W.cell? (x.add (i * ks.length + j)) = some u := fun i => Classical.choose_spec (hex i)
    refine ⟨(List.range len).map E, ⟨some x, cap, by simp, by simp; omega, fun _ => ⟨x, rfl, fun i c hi j u hj => ?_⟩⟩, fun c hc => ?_⟩
    · simp only [List.getElem?_map, Option.map_eq_some_iff] at hi
      obtain ⟨i', hi', rfl⟩ := hi
      obtain ⟨hlt, rfl⟩ := List.getElem?_eq_some_iff.1 hi'
      rw [List.length_range] at hlt
      rw [List.getElem_range] at hj
      exact (hE i hlt).2 j u hj
    · simp only [List.mem_map, List.mem_range] at hc
      obtain ⟨i, hi, rfl⟩ := hc
      exact (hE i hi).1
end
end Go.Proofs.Ytjohlnpalcmhbaa
