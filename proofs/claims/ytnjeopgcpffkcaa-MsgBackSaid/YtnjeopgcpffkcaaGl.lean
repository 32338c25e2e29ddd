/- Messages: plain mathematics. Which fields a kind has, what may be, how a message is written and read. Structs of any cells: read out of memory, whole. For whatever program. api.Msg as a structure whose cells are not all flat: its cells, in a block. (Written by tools/mkrec.py.) -/
import Derived.Test.YtnjeopgcpffkcaaGk
import Derived.Test.YtnjeopgcpffkcaaGi
namespace Go.Proofs.Ytnjeopgcpffkcaa
set_option maxRecDepth 100000
open Go.RowKit

structure Mg where
  kind : Int
  rid : Int
  ver : Int
  error : Int
  id : Nat
  has : Bool
  gone : Bool
  key : List UInt8
  val : List UInt8
  es : List Ent
  its : List Item
deriving DecidableEq
def Mg.zero : Mg := ⟨0, 0, 0, 0, 0, false, false, [], [], [], []⟩

/-- A kind's fields, in order: 0 Error, 1 Has, 2 Gone, 3 Id, 4 Ver, 5 Key, 6 Val, 7 Entries, 8 Items. -/
def fldK (k : Int) : List Nat :=
  if k = 4 then [1, 7] else if k = 6 then [3] else if k = 7 then [7] else if k = 8 then [2, 5, 6] else if k = 9 then [0, 4] else if k = 10 then [5]
  else if k = 11 then [0, 1, 2, 4, 6] else if k = 12 then [8] else if k = 13 then [0] else if k = 14 then [3] else if k = 15 then [0, 8] else []
def inK (k : Int) (f : Nat) : Bool := decide (f ∈ fldK k)
def knownK (k : Int) : Bool := decide (1 ≤ k) && decide (k ≤ 16)
/-- A kind is one of the sixteen, or has no fields. -/
theorem kinds (k : Int) : k = 1 ∨ k = 2 ∨ k = 3 ∨ k = 4 ∨ k = 5 ∨ k = 6 ∨ k = 7 ∨ k = 8 ∨ k = 9 ∨ k = 10 ∨ k = 11 ∨ k = 12 ∨ k = 13 ∨ k = 14 ∨ k = 15 ∨ k = 16 ∨ (k < 1 ∨ 16 < k) := by omega
theorem fld_out {k : Int} (h : k < 1 ∨ 16 < k) : fldK k = [] := by
  simp only [fldK]
  repeat rw [if_neg (by omega)]
theorem fld_lt {k : Int} {f : Nat} (h : f ∈ fldK k) : f < 9 := by
  rcases kinds k with rfl | rfl | rfl | rfl | rfl | rfl | rfl | rfl | rfl | rfl | rfl | rfl | rfl | rfl | rfl | rfl | hk
  all_goals first | (rw [fld_out hk] at h; cases h) | (simp [fldK] at h; try omega)

/-- A message without what its kind does not have. -/
def bareM (m : Mg) : Mg :=
  ⟨m.kind, m.rid, if inK m.kind 4 then m.ver else 0, if inK m.kind 0 then m.error else 0, if inK m.kind 3 then m.id else 0, if inK m.kind 1 then m.has else false, if inK m.kind 2 then m.gone else false,
   if inK m.kind 5 then m.key else [], if inK m.kind 6 then m.val else [], if inK m.kind 7 then m.es else [], if inK m.kind 8 then m.its else []⟩
/-- One field is kept. -/
def keepM (t m : Mg) (f : Nat) : Mg :=
  match f with
  | 0 => { t with error := m.error }
  | 1 => { t with has := m.has }
  | 2 => { t with gone := m.gone }
  | 3 => { t with id := m.id }
  | 4 => { t with ver := m.ver }
  | 5 => { t with key := m.key }
  | 6 => { t with val := m.val }
  | 7 => { t with es := m.es }
  | 8 => { t with its := m.its }
  | _ => t
def headM (k r : Int) : Mg := { Mg.zero with kind := k, rid := r }
theorem bare_fold (m : Mg) : (fldK m.kind).foldl (fun t f => keepM t m f) (headM m.kind m.rid) = bareM m := by
  obtain ⟨k, r, v, e, i, h, g, ky, vl, es, its⟩ := m
  rcases kinds k with rfl | rfl | rfl | rfl | rfl | rfl | rfl | rfl | rfl | rfl | rfl | rfl | rfl | rfl | rfl | rfl | hk
  all_goals first | (simp only [bareM, inK, fld_out hk]; simp [headM, Mg.zero]) | simp [bareM, inK, fldK, keepM, headM, Mg.zero]

/-- May an item be? -/
def itemB (i : Item) : Bool := keyB i.key && decide (i.text.length ≤ 32) && decide (1 ≤ i.ver) && decide (i.ver ≤ 1073741824)
/-- May a message be? -/
structure RightM (m : Mg) : Prop where
  k1 : 1 ≤ m.kind
  k2 : m.kind ≤ 16
  r1 : 0 ≤ m.rid
  r2 : m.rid ≤ 1073741824
  bare : m = bareM m
  e1 : 0 ≤ m.error
  e2 : m.error ≤ 99
  v1 : 0 ≤ m.ver
  v2 : m.ver ≤ 1073741824
  key : inK m.kind 5 = true → keyB m.key = true
  val : m.val.length ≤ 32
  one : m.kind = 7 → m.es.length = 1
  many : m.es.length ≤ 8
  items : m.its.length ≤ 16
  es : ∀ e ∈ m.es, entR e = true
  its : ∀ i ∈ m.its, itemB i = true
instance (m : Mg) : Decidable (RightM m) :=
  decidable_of_iff (1 ≤ m.kind ∧ m.kind ≤ 16 ∧ 0 ≤ m.rid ∧ m.rid ≤ 1073741824 ∧ m = bareM m ∧ 0 ≤ m.error ∧ m.error ≤ 99 ∧ 0 ≤ m.ver ∧ m.ver ≤ 1073741824 ∧ (inK m.kind 5 = true → keyB m.key = true) ∧ m.val.length ≤ 32 ∧ (m.kind = 7 → m.es.length = 1) ∧ m.es.length ≤ 8 ∧ m.its.length ≤ 16 ∧ (∀ e ∈ m.es, entR e = true) ∧ ∀ i ∈ m.its, itemB i = true)
    ⟨fun ⟨a, b, c, d, e, f, g, h, i, j, k, l, m, n, o, p⟩ => ⟨a, b, c, d, e, f, g, h, i, j, k, l, m, n, o, p⟩, fun h => ⟨h.1, h.2, h.3, h.4, h.5, h.6, h.7, h.8, h.9, h.10, h.11, h.12, h.13, h.14, h.15, h.16⟩⟩
def rightM (m : Mg) : Bool := decide (RightM m)

/-! ### written -/
def flagL (b : Bool) : List UInt8 := be 1 (if b then 1 else 0)
def entsL (l : List Ent) : List UInt8 := l.flatMap fun e => encS ⟨(bytesE e).toArray⟩
def itemL (i : Item) : List UInt8 := encS ⟨i.key.toArray⟩ ++ encS ⟨i.text.toArray⟩ ++ be 4 (uN i.ver) ++ flagL i.gone
def itemsL (l : List Item) : List UInt8 := l.flatMap itemL
def putF (m : Mg) (f : Nat) : List UInt8 :=
  match f with
  | 0 => be 2 (uN m.error)
  | 1 => flagL m.has
  | 2 => flagL m.gone
  | 3 => be 8 m.id
  | 4 => be 4 (uN m.ver)
  | 5 => encS ⟨m.key.toArray⟩
  | 6 => encS ⟨m.val.toArray⟩
  | 7 => be 1 m.es.length ++ entsL m.es
  | 8 => be 1 m.its.length ++ itemsL m.its
  | _ => []
def putB (m : Mg) : List UInt8 := be 1 (uN m.kind) ++ be 4 (uN m.rid) ++ (fldK m.kind).flatMap (putF m)

/-! ### read -/
/-- What is read: the reader, the message, whether a form is wrong, whether a list is too long. -/
structure Tk where
  r : RS
  m : Mg
  bad : Bool
  big : Bool
def truthB (r : RS) : Bool := decide (numO r 1 = 1)
def truthX (r : RS) : Bool := decide (1 < numO r 1)
def manyN (r : RS) (most : Nat) : Nat := if most < numO r 1 then 0 else numO r 1
def manyX (r : RS) (most : Nat) : Bool := decide (most < numO r 1)
/-- So many entries. -/
def entsT : Nat → RS → Bool → List Ent → RS × Bool × List Ent
  | 0, r, x, l => (r, x, l)
  | n + 1, r, x, l => entsT n (textS r 128) (x || decide (readX (textO r 128) ≠ 0)) (l ++ [readE (textO r 128)])
def item1 (r : RS) : Item := ⟨textO r 24, textO (textS r 24) 32, (numO (textS (textS r 24) 32) 4 : Int), truthB (rawS (textS (textS r 24) 32) 4)⟩
def itemX (r : RS) : Bool := truthX (rawS (textS (textS r 24) 32) 4)
def itemS (r : RS) : RS := rawS (rawS (textS (textS r 24) 32) 4) 1
def itemsT : Nat → RS → Bool → List Item → RS × Bool × List Item
  | 0, r, x, l => (r, x, l)
  | n + 1, r, x, l => itemsT n (itemS r) (x || itemX r) (l ++ [item1 r])
def takeF (t : Tk) (f : Nat) : Tk :=
  match f with
  | 0 => ⟨rawS t.r 2, { t.m with error := (numO t.r 2 : Int) }, t.bad, t.big⟩
  | 1 => ⟨rawS t.r 1, { t.m with has := truthB t.r }, t.bad || truthX t.r, t.big⟩
  | 2 => ⟨rawS t.r 1, { t.m with gone := truthB t.r }, t.bad || truthX t.r, t.big⟩
  | 3 => ⟨rawS t.r 8, { t.m with id := numO t.r 8 }, t.bad, t.big⟩
  | 4 => ⟨rawS t.r 4, { t.m with ver := (numO t.r 4 : Int) }, t.bad, t.big⟩
  | 5 => ⟨textS t.r 24, { t.m with key := textO t.r 24 }, t.bad, t.big⟩
  | 6 => ⟨textS t.r 32, { t.m with val := textO t.r 32 }, t.bad, t.big⟩
  | 7 => ⟨(entsT (manyN t.r 8) (rawS t.r 1) t.bad []).1, { t.m with es := (entsT (manyN t.r 8) (rawS t.r 1) t.bad []).2.2 }, (entsT (manyN t.r 8) (rawS t.r 1) t.bad []).2.1, t.big || manyX t.r 8⟩
  | 8 => ⟨(itemsT (manyN t.r 16) (rawS t.r 1) t.bad []).1, { t.m with its := (itemsT (manyN t.r 16) (rawS t.r 1) t.bad []).2.2 }, (itemsT (manyN t.r 16) (rawS t.r 1) t.bad []).2.1, t.big || manyX t.r 16⟩
  | _ => t
/-- All of a kind's fields. -/
def takeT (t : Tk) (l : List Nat) : Tk := l.foldl takeF t
def take0 (c : UInt8) (r : List UInt8) : Tk := ⟨rawS ⟨r, 0⟩ 4, headM (c.toNat : Int) (numO ⟨r, 0⟩ 4 : Int), false, false⟩
/-- What is told behind the last field. -/
def takeE (t : Tk) : Mg × Int := if t.big = true then (Mg.zero, 3) else if endE t.r ≠ 0 then (Mg.zero, endE t.r) else if t.bad = true ∨ rightM t.m = false then (Mg.zero, 11) else (t.m, 0)
def takeM (b : List UInt8) : Mg × Int :=
  match b with
  | [] => (Mg.zero, 10)
  | c :: r => if knownK (c.toNat : Int) = false then (Mg.zero, 13) else takeE (takeT (take0 c r) (fldK (c.toNat : Int)))
def answerK (k : Int) : Int :=
  if k = 1 ∨ k = 5 ∨ k = 16 then 2 else if k = 3 then 4 else if k = 6 then 7 else if k = 8 then 9 else if k = 10 then 11 else if k = 12 then 13 else if k = 14 then 15 else 0

end Go.Proofs.Ytnjeopgcpffkcaa

namespace Go.Proofs.Ytnjeopgcpffkcaa
set_option maxRecDepth 100000
open Go.RowKit

/-- A slice, by its parts. -/
structure Row where
  a : Option Addr
  n : Nat
  c : Nat
abbrev Row.v (r : Row) : Value := .slice r.a r.n r.c

/-- The struct t has n cells. -/
structure St (P : Program) (t : TypeId) (n : Nat) : Prop where
  st : isSt P t = true
  cells : P.cellsOf t = n
  info : (P.info? t).isSome = true
section
variable {P : Program} {t : TypeId} {n : Nat}
theorem St.agg (R : St P t n) : ∃ fs, P.underlying t = some (.struct fs) := by
  have := R.st
  rw [isSt] at this
  split at this
  · rename_i fs h
    exact ⟨fs, h⟩
  · cases this
/-- Read out of memory, wherever it lies. -/
theorem load_rec_st (R : St P t n) {w : World} {g off : Nat} (cs : List Value) (hl : cs.length = n) (hc : ∀ j v, cs[j]? = some v → w.cell? ⟨g, off + j, none⟩ = some v) : (loadVar t ⟨g, off, none⟩).run P w = .ok (.agg cs.toArray) w := by
  obtain ⟨fs, hu⟩ := R.agg
  have q := run_loadCells_list (P := P) (w := w) ⟨g, off, none⟩ cs (fun j v hj => by
    have ha : (⟨g, off, none⟩ : Addr).add j = ⟨g, off + j, none⟩ := by unfold Addr.add; split <;> simp_all
    rw [ha]
    exact hc j v hj)
  simp only [loadVar, Sem.run_bind, (isSt_agg hu w).2, Result.andThen_ok, if_true, size_run ⟨R.cells, Option.isSome_iff_exists.1 R.info⟩ w, ← hl, q, Sem.run_pure]
theorem load_whole_st (R : St P t n) {w : World} {g : Nat} {T : TypeId} (cs : List Value) (hl : cs.length = n) (hg : Whole w g T cs.toArray) : (loadVar t ⟨g, 0, none⟩).run P w = .ok (.agg cs.toArray) w :=
  load_rec_st R cs hl fun j v hj => by rw [Nat.zero_add, hg.at_]; simpa using hj
theorem exec_load_rec_st {ev : Operand → Value} {o : Oper} (R : St P t n) (x : Operand) (ho : o.op = .load t x) (g off : Nat) (hx : ev x = .pointer (some ⟨g, off, none⟩)) (cs : List Value) (hl : cs.length = n) (w : World) (hc : ∀ j v, cs[j]? = some v → w.cell? ⟨g, off + j, none⟩ = some v) :
    (execOp ev o).run P w = .ok (.value (.agg cs.toArray)) w := by
  have h := load_rec_st R cs hl hc
  unfold execOp
  simp [ho, hx, Instr.loadAt, Instr.sureAddr, h]
theorem exec_load_whole_st {ev : Operand → Value} {o : Oper} (R : St P t n) (x : Operand) (ho : o.op = .load t x) (g : Nat) (hx : ev x = .pointer (some ⟨g, 0, none⟩)) (T : TypeId) (cs : List Value) (hl : cs.length = n) (w : World) (hg : Whole w g T cs.toArray) :
    (execOp ev o).run P w = .ok (.value (.agg cs.toArray)) w :=
  exec_load_rec_st R x ho g 0 hx cs hl w fun j v hj => by rw [Nat.zero_add, hg.at_]; simpa using hj
theorem wp_load_rec_st {o : Oper} {a : Act} {w : World} {K : Act → World → Prop} {Q : Exit → Act → World → Prop} (R : St P t n) (x : Operand) (ho : o.op = .load t x) (g off : Nat) (hx : a.eval x = .pointer (some ⟨g, off, none⟩)) (cs : List Value) (hl : cs.length = n) (hc : ∀ j v, cs[j]? = some v → w.cell? ⟨g, off + j, none⟩ = some v)
    (h : K (a.put o.dst (.agg cs.toArray)) w) : o.wp P a w K Q := by
  have q := load_rec_st R cs hl hc
  unfold Oper.wp execOp
  simp only [ho, hx, Instr.loadAt, Instr.sureAddr, Sem.run_bind, Sem.run_pure, Result.andThen_ok, q]
  exact h
theorem wpList_load_rec_st {ops : Array Oper} {rest : List Oper} {o : Oper} {a : Act} {w : World} {Q : Exit → Act → World → Prop} (R : St P t n) (hgd : o.guard = none) (x : Operand) (ho : o.op = .load t x) (g off : Nat) (hx : a.eval x = .pointer (some ⟨g, off, none⟩)) (cs : List Value) (hl : cs.length = n) (hc : ∀ j v, cs[j]? = some v → w.cell? ⟨g, off + j, none⟩ = some v)
    (h : wpList P ops Q rest (a.put o.dst (.agg cs.toArray)) w) : wpList P ops Q (o :: rest) a w :=
  wpList_plain hgd fun _ hK => wp_load_rec_st R x ho g off hx cs hl hc (hK _ _ h)
theorem wpList_load_whole_st {ops : Array Oper} {rest : List Oper} {o : Oper} {a : Act} {w : World} {Q : Exit → Act → World → Prop} (R : St P t n) (hgd : o.guard = none) (x : Operand) (ho : o.op = .load t x) (g : Nat) (hx : a.eval x = .pointer (some ⟨g, 0, none⟩)) (T : TypeId) (cs : List Value) (hl : cs.length = n) (hg : Whole w g T cs.toArray)
    (h : wpList P ops Q rest (a.put o.dst (.agg cs.toArray)) w) : wpList P ops Q (o :: rest) a w :=
  wpList_load_rec_st R hgd x ho g 0 hx cs hl (fun j v hj => by rw [Nat.zero_add, hg.at_]; simpa using hj) h
theorem wpList_load_whole_w_st {ops : Array Oper} {rest : List Oper} {o : Oper} {a : Act} {w : World} {Q : Exit → Act → World → Prop} (R : St P t n) (hw : Region.wanted o (yielded ops a.tmps) = true) (x : Operand) (ho : o.op = .load t x) (g : Nat) (hx : a.eval x = .pointer (some ⟨g, 0, none⟩)) (T : TypeId) (cs : List Value) (hl : cs.length = n) (hg : Whole w g T cs.toArray)
    (h : wpList P ops Q rest (a.put o.dst (.agg cs.toArray)) w) : wpList P ops Q (o :: rest) a w :=
  wpList_step fun _ hK => by
    rw [if_pos hw]
    exact wp_load_rec_st R x ho g 0 hx cs hl (fun j v hj => by rw [Nat.zero_add, hg.at_]; simpa using hj) (hK _ _ h)
theorem still_load_rec_st {ops : Array Oper} {w : World} {Q : Act → Prop} {a : Act} {o : Oper} {rest : List Oper} (R : St P t n) (hw : Region.wanted o (yielded ops a.tmps) = true) (x : Operand) (ho : o.op = .load t x) (g off : Nat) (hx : a.eval x = .pointer (some ⟨g, off, none⟩)) (cs : List Value) (hl : cs.length = n)
    (hc : ∀ j v, cs[j]? = some v → w.cell? ⟨g, off + j, none⟩ = some v) (h : wpStill P ops w Q rest (a.put o.dst (.agg cs.toArray))) : wpStill P ops w Q (o :: rest) a := by
  refine wpStill_step fun K hK => ?_
  have q := hK _ h
  have e := exec_load_rec_st (o := o) (ev := a.eval) R x ho g off hx cs hl w hc
  rw [if_pos hw]
  unfold Oper.still
  rw [e]
  exact ⟨rfl, q⟩
theorem still_load_whole_st {ops : Array Oper} {w : World} {Q : Act → Prop} {a : Act} {o : Oper} {rest : List Oper} (R : St P t n) (hw : Region.wanted o (yielded ops a.tmps) = true) (x : Operand) (ho : o.op = .load t x) (g : Nat) (hx : a.eval x = .pointer (some ⟨g, 0, none⟩)) (T : TypeId) (cs : List Value) (hl : cs.length = n)
    (hg : Whole w g T cs.toArray) (h : wpStill P ops w Q rest (a.put o.dst (.agg cs.toArray))) : wpStill P ops w Q (o :: rest) a :=
  still_load_rec_st R hw x ho g 0 hx cs hl (fun j v hj => by rw [Nat.zero_add, hg.at_]; simpa using hj) h
/-- Results: such a struct in a block, and one in a slot. -/
theorem results_st {fn : Func} {p : Tmp} (R : St P t n) (h : fn.results = #[.cell p t]) (tmps : Array Value) (w : World) (g : Nat) (T : TypeId) (cs : List Value) (hl : cs.length = n)
    (hp : tmps.getD p undef = .pointer (some ⟨g, 0, none⟩)) (hg : Whole w g T cs.toArray) : (results fn tmps).run P w = .ok (.agg cs.toArray) w := by
  have q := load_whole_st R cs hl hg
  have hp' : tmps[p]?.getD undef = .pointer (some ⟨g, 0, none⟩) := by simpa using hp
  simp [results, h, hp', asAddr, q]
theorem results_st_tmp {fn : Func} {p r : Tmp} (R : St P t n) (h : fn.results = #[.cell p t, .tmp r]) (tmps : Array Value) (w : World) (g : Nat) (T : TypeId) (cs : List Value) (hl : cs.length = n)
    (hp : tmps.getD p undef = .pointer (some ⟨g, 0, none⟩)) (hg : Whole w g T cs.toArray) : (results fn tmps).run P w = .ok (.tuple #[.agg cs.toArray, tmps.getD r undef]) w := by
  have q := load_whole_st R cs hl hg
  have hp' : tmps[p]?.getD undef = .pointer (some ⟨g, 0, none⟩) := by simpa using hp
  simp [results, h, hp', asAddr, q]
end
end Go.Proofs.Ytnjeopgcpffkcaa

namespace Go.Proofs.Ytnjeopgcpffkcaa
set_option maxRecDepth 100000
open Go.RowKit

structure Mr where
  kind : Int
  rid : Int
  ver : Int
  error : Int
  id : Nat
  has : Bool
  gone : Bool
  key : List UInt8
  text : List UInt8
  es : Row
  its : Row
namespace Mr
def enc (x : Mr) : List Value := [.int .i64 x.kind, .int .i64 x.rid, .int .i64 x.ver, .int .i64 x.error, .int .u64 (x.id : Int), .bool x.has, .bool x.gone, .string ⟨x.key.toArray⟩, .string ⟨x.text.toArray⟩, x.es.v, x.its.v]
abbrev val (x : Mr) : Value := .agg x.enc.toArray
theorem len (x : Mr) : x.enc.length = 11 := rfl
theorem one (x : Mr) : x.enc.toArray.all (·.oneCell') = true := by simp [enc, Row.v, Value.oneCell']
theorem isRec : St Try.prog 27 11 := ⟨by kernel_rfl, by kernel_rfl, by kernel_rfl⟩
theorem size (x : Mr) : (Try.prog.info? 27).map (·.size) = some x.enc.toArray.size := by
  have h : (Try.prog.info? 27).map (·.size) = some 11 := by kernel_rfl
  exact h
def zero : Mr := ⟨0, 0, 0, 0, 0, false, false, [], [], ⟨none, 0, 0⟩, ⟨none, 0, 0⟩⟩
theorem zero_is : (Try.prog.info? 27).map (·.zero) = some (some (.agg zero.enc.toArray)) := by kernel_rfl
/-- In a block. -/
abbrev At (w : World) (g : Nat) (x : Mr) : Prop := Whole w g 27 x.enc.toArray
theorem At.at_kind {w : World} {g : Nat} {x : Mr} (h : At w g x) : w.cell? ⟨g, 0, none⟩ = some (.int .i64 x.kind) := h.at_ 0
theorem At.at_rid {w : World} {g : Nat} {x : Mr} (h : At w g x) : w.cell? ⟨g, 1, none⟩ = some (.int .i64 x.rid) := h.at_ 1
theorem At.at_ver {w : World} {g : Nat} {x : Mr} (h : At w g x) : w.cell? ⟨g, 2, none⟩ = some (.int .i64 x.ver) := h.at_ 2
theorem At.at_error {w : World} {g : Nat} {x : Mr} (h : At w g x) : w.cell? ⟨g, 3, none⟩ = some (.int .i64 x.error) := h.at_ 3
theorem At.at_id {w : World} {g : Nat} {x : Mr} (h : At w g x) : w.cell? ⟨g, 4, none⟩ = some (.int .u64 (x.id : Int)) := h.at_ 4
theorem At.at_has {w : World} {g : Nat} {x : Mr} (h : At w g x) : w.cell? ⟨g, 5, none⟩ = some (.bool x.has) := h.at_ 5
theorem At.at_gone {w : World} {g : Nat} {x : Mr} (h : At w g x) : w.cell? ⟨g, 6, none⟩ = some (.bool x.gone) := h.at_ 6
theorem At.at_key {w : World} {g : Nat} {x : Mr} (h : At w g x) : w.cell? ⟨g, 7, none⟩ = some (.string ⟨x.key.toArray⟩) := h.at_ 7
theorem At.at_text {w : World} {g : Nat} {x : Mr} (h : At w g x) : w.cell? ⟨g, 8, none⟩ = some (.string ⟨x.text.toArray⟩) := h.at_ 8
theorem At.at_es {w : World} {g : Nat} {x : Mr} (h : At w g x) : w.cell? ⟨g, 9, none⟩ = some (x.es.v) := h.at_ 9
theorem At.at_its {w : World} {g : Nat} {x : Mr} (h : At w g x) : w.cell? ⟨g, 10, none⟩ = some (x.its.v) := h.at_ 10
theorem At.set_kind {w : World} {g : Nat} {x : Mr} (h : At w g x) (v : Int) : At (w.setCell ⟨g, 0, none⟩ (.int .i64 v)) g { x with kind := v } := h.stored 0 _
theorem At.set_rid {w : World} {g : Nat} {x : Mr} (h : At w g x) (v : Int) : At (w.setCell ⟨g, 1, none⟩ (.int .i64 v)) g { x with rid := v } := h.stored 1 _
theorem At.set_ver {w : World} {g : Nat} {x : Mr} (h : At w g x) (v : Int) : At (w.setCell ⟨g, 2, none⟩ (.int .i64 v)) g { x with ver := v } := h.stored 2 _
theorem At.set_error {w : World} {g : Nat} {x : Mr} (h : At w g x) (v : Int) : At (w.setCell ⟨g, 3, none⟩ (.int .i64 v)) g { x with error := v } := h.stored 3 _
theorem At.set_id {w : World} {g : Nat} {x : Mr} (h : At w g x) (v : Nat) : At (w.setCell ⟨g, 4, none⟩ (.int .u64 (v : Int))) g { x with id := v } := h.stored 4 _
theorem At.set_has {w : World} {g : Nat} {x : Mr} (h : At w g x) (v : Bool) : At (w.setCell ⟨g, 5, none⟩ (.bool v)) g { x with has := v } := h.stored 5 _
theorem At.set_gone {w : World} {g : Nat} {x : Mr} (h : At w g x) (v : Bool) : At (w.setCell ⟨g, 6, none⟩ (.bool v)) g { x with gone := v } := h.stored 6 _
theorem At.set_key {w : World} {g : Nat} {x : Mr} (h : At w g x) (v : List UInt8) : At (w.setCell ⟨g, 7, none⟩ (.string ⟨v.toArray⟩)) g { x with key := v } := h.stored 7 _
theorem At.set_text {w : World} {g : Nat} {x : Mr} (h : At w g x) (v : List UInt8) : At (w.setCell ⟨g, 8, none⟩ (.string ⟨v.toArray⟩)) g { x with text := v } := h.stored 8 _
theorem At.set_es {w : World} {g : Nat} {x : Mr} (h : At w g x) (v : Row) : At (w.setCell ⟨g, 9, none⟩ (v.v)) g { x with es := v } := h.stored 9 _
theorem At.set_its {w : World} {g : Nat} {x : Mr} (h : At w g x) (v : Row) : At (w.setCell ⟨g, 10, none⟩ (v.v)) g { x with its := v } := h.stored 10 _
end Mr
end Go.Proofs.Ytnjeopgcpffkcaa
