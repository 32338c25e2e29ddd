/- api.Peer as a structure: its cells, opened, in a block. (Written by tools/mkrec.py.) api.Gate as a structure: its cells, opened, in a block. (Written by tools/mkrec.py.) Plain mathematics of package label: digits, numbers and bytes as digits, names and keys. It speaks of no program. Strings as lists of bytes. -/
import Derived.Test.YtehalcopkjfdkaaDoorGd
import Derived.Test.YtehalcopkjfdkaaDoorGa
namespace Go.Proofs.YtehalcopkjfdkaaDoor
set_option maxRecDepth 100000
open Go.RowKit Go.ChangeShapes Go.WideShapes Go.ChangeAt

structure Peer where
  entry : Ent
  since : Int
  under : Int
deriving DecidableEq
namespace Peer
def enc (x : Peer) : List Value := [.string ⟨x.entry.name.toArray⟩, .int .u64 (x.entry.id : Int), .int .i64 x.entry.since, .int .i64 x.entry.till, .int .i64 x.entry.index, .string ⟨x.entry.tag.toArray⟩, .int .i64 x.since, .int .i64 x.under]
def ks : List CK := [.str, .int .u64, .int .i64, .int .i64, .int .i64, .str, .int .i64, .int .i64]
abbrev val (x : Peer) : Value := .agg x.enc.toArray
theorem len (x : Peer) : x.enc.length = 8 := rfl
theorem fits (x : Peer) : Fits ks x.enc := ⟨⟨_, rfl⟩, ⟨_, rfl⟩, ⟨_, rfl⟩, ⟨_, rfl⟩, ⟨_, rfl⟩, ⟨_, rfl⟩, ⟨_, rfl⟩, ⟨_, rfl⟩, trivial⟩
theorem one (x : Peer) : x.enc.toArray.all (·.oneCell') = true := by simp [enc, Value.oneCell']
theorem isRec : Rec Tryd.prog 31 ks := ⟨by kernel_rfl, by kernel_rfl, by kernel_rfl⟩
theorem size (x : Peer) : (Tryd.prog.info? 31).map (·.size) = some x.enc.toArray.size := by
  have h : (Tryd.prog.info? 31).map (·.size) = some 8 := by kernel_rfl
  exact h
def zero : Peer := ⟨Ent.zero, 0, 0⟩
theorem zero_is : (Tryd.prog.info? 31).map (·.zero) = some (some (.agg zero.enc.toArray)) := by kernel_rfl
/-- Its numbers are of their types. -/
structure Ok (x : Peer) : Prop where
  entry_id_ok : x.entry.id < 18446744073709551616
  entry_since_ok : -9223372036854775808 ≤ x.entry.since ∧ x.entry.since ≤ 9223372036854775807
  entry_till_ok : -9223372036854775808 ≤ x.entry.till ∧ x.entry.till ≤ 9223372036854775807
  entry_index_ok : -9223372036854775808 ≤ x.entry.index ∧ x.entry.index ≤ 9223372036854775807
  since_ok : -9223372036854775808 ≤ x.since ∧ x.since ≤ 9223372036854775807
  under_ok : -9223372036854775808 ≤ x.under ∧ x.under ≤ 9223372036854775807
theorem of_fits {cs : List Value} (h : FitsW ks cs) : ∃ x : Peer, cs = x.enc ∧ x.Ok := by
  obtain ⟨_, r0, rfl, ⟨z0, rfl⟩, q0⟩ := FitsW.uncons h
  obtain ⟨_, r1, rfl, ⟨z1, rfl, w1⟩, q1⟩ := FitsW.uncons q0
  obtain ⟨_, r2, rfl, ⟨z2, rfl, w2⟩, q2⟩ := FitsW.uncons q1
  obtain ⟨_, r3, rfl, ⟨z3, rfl, w3⟩, q3⟩ := FitsW.uncons q2
  obtain ⟨_, r4, rfl, ⟨z4, rfl, w4⟩, q4⟩ := FitsW.uncons q3
  obtain ⟨_, r5, rfl, ⟨z5, rfl⟩, q5⟩ := FitsW.uncons q4
  obtain ⟨_, r6, rfl, ⟨z6, rfl, w6⟩, q6⟩ := FitsW.uncons q5
  obtain ⟨_, r7, rfl, ⟨z7, rfl, w7⟩, q7⟩ := FitsW.uncons q6
  have hn := FitsW.nil q7
  subst hn
  have b1 := bounds_u64 w1
  obtain ⟨n1, rfl⟩ := Int.eq_ofNat_of_zero_le b1.1
  have b2 := bounds_i64 w2
  have b3 := bounds_i64 w3
  have b4 := bounds_i64 w4
  have b6 := bounds_i64 w6
  have b7 := bounds_i64 w7
  exact ⟨⟨⟨z0, n1, z2, z3, z4, z5⟩, z6, z7⟩, rfl, ⟨(by show (n1 : Nat) < 18446744073709551616; have := b1.2; omega), b2, b3, b4, b6, b7⟩⟩
theorem opened {H : Type} {en : TypeId × Value → H} {W : World} {b base : Nat} {sp : Nat → Bool} {hd : Bool} {v : Value} {d : DataW H} {p : List MemPlace} (hv : Value.okWide Tryd.prog W .any base 31 v) (h : DataW.Trod en Tryd.prog W b sp hd 31 v d p) : ∃ x : Peer, v = x.val ∧ x.Ok := by
  obtain ⟨cs, rfl, hf⟩ := open_rec isRec hv h
  obtain ⟨x, rfl, hx⟩ := of_fits hf
  exact ⟨x, rfl, hx⟩
theorem isElem : Elem Tryd.prog 38 31 ks := ⟨isRec, Tryd.underlying38, by decide, by
  have h : ((Tryd.prog.info? 31).map fun i => (i.zero, i.size, decide (i.bytes ≤ 8000))) = some (some (.agg zero.enc.toArray), 8, true) := by kernel_rfl
  cases hi : Tryd.prog.info? 31 with
  | none => rw [hi] at h; cases h
  | some i =>
    rw [hi] at h
    simp only [Option.map_some, Option.some.injEq, Prod.mk.injEq, decide_eq_true_eq] at h
    exact ⟨i, _, rfl, h.1, h.2.1, rfl, h.2.2⟩⟩
/-- A slice of one. -/
theorem build_one (x : Peer) : filled 8 1 zero.enc.toArray [(0, x.val)] = some x.enc.toArray := by kernel_rfl
theorem info : ∃ i, Tryd.prog.info? 31 = some i ∧ i.zero = some (.agg zero.enc.toArray) ∧ i.size = 8 := by
  obtain ⟨i, z, h1, h2, h3, -, -⟩ := isElem.zero
  have h := zero_is
  rw [h1, Option.map_some, h2] at h
  injection h with h
  injection h with h
  exact ⟨i, h1, by rw [h2, h], h3⟩
theorem wpList_one {ops : Array Oper} {rest : List Oper} {o : Oper} {a : Act} {w : World} {Q : Exit → Act → World → Prop} (hgd : o.guard = none) (y : Operand) (ho : o.op = .buildSlice 38 1 #[(0, y)]) (x : Peer) (hy : a.eval y = x.val)
    (h : ∀ w', Below w.heap.size w w' → RowsAt w' (.slice (some ⟨w.heap.size, 0, none⟩) 1 1) 8 [x.enc] → w'.heap.size = w.heap.size + 1 → wpList Tryd.prog ops Q rest (a.put o.dst (.slice (some ⟨w.heap.size, 0, none⟩) 1 1)) w') : wpList Tryd.prog ops Q (o :: rest) a w := by
  obtain ⟨i, h1, h2, h3⟩ := info
  exact wpList_buildSlice hgd Tryd.underlying38 h1 h2 1 (by rw [h3]; decide) (by rw [h3]; decide) _ ho #[(0, x.val)] (by simp [hy]) x.enc.toArray (by rw [h3]; exact build_one x) fun w' b q z => h w' b (rows_one q (Nat.le_refl _)) z
theorem opened_all {H : Type} {en : TypeId × Value → H} {W : World} {b : Nat} {sp : Nat → Bool} {hd : Bool} {a : Option Addr} {len cap : Nat} {d : DataW H} {p : List MemPlace} (h : DataW.Trod en Tryd.prog W b sp hd 38 (.slice a len cap) d p) : ∃ l : List Peer, RowsAt W (.slice a len cap) 8 (l.map enc) ∧ ∀ x ∈ l, x.Ok := by
  obtain ⟨L, hL, hf⟩ := open_rows Tryd.underlying38 isRec h
  have hex : ∀ L : List (List Value), (∀ c ∈ L, FitsW ks c) → ∃ l : List Peer, L = l.map enc ∧ ∀ x ∈ l, x.Ok := by
    intro L
    induction L with
    | nil => exact fun _ => ⟨[], rfl, fun x hx => by cases hx⟩
    | cons c r ih =>
      intro hf
      obtain ⟨x, rfl, ox⟩ := of_fits (hf c (List.mem_cons_self ..))
      obtain ⟨l, rfl, ol⟩ := ih fun c hc => hf c (List.mem_cons_of_mem _ hc)
      exact ⟨x :: l, rfl, fun y hy => by rcases List.mem_cons.1 hy with rfl | h
                                         · exact ox
                                         · exact ol y h⟩
  obtain ⟨l, rfl, ol⟩ := hex L hf
  exact ⟨l, hL, ol⟩
theorem same (x y : Peer) : eqCells x.enc y.enc = decide (x = y) := by
  rw [Bool.eq_iff_iff, decide_eq_true_eq]
  constructor
  · intro h
    simp only [enc, eqCells, cellEq, Bool.and_eq_true, beq_iff_eq, Bool.and_true, ba_list] at h
    obtain ⟨h0, h1, h2, h3, h4, h5, h6, h7⟩ := h
    obtain ⟨⟨a59, a60, a61, a62, a63, a64⟩, a65, a66⟩ := x
    obtain ⟨⟨b67, b68, b69, b70, b71, b72⟩, b73, b74⟩ := y
    simp only at h0 h1 h2 h3 h4 h5 h6 h7
    have h1 := Int.ofNat.inj h1
    subst h0 h1 h2 h3 h4 h5 h6 h7
    rfl
  · rintro rfl
    exact eqCells_refl x.fits
theorem eq_run (x y : Peer) (w : World) : (binOp .eql 31 x.val y.val).run Tryd.prog w = .ok (.bool (decide (x = y))) w := by
  rw [← same]
  exact run_eq_rec isRec _ _ x.fits y.fits w
/-- In a block. -/
abbrev At (w : World) (g : Nat) (x : Peer) : Prop := Whole w g 31 x.enc.toArray
theorem At.cells {w : World} {g : Nat} {x : Peer} (h : At w g x) : w.cell? ⟨g, 0, none⟩ = some (.string ⟨x.entry.name.toArray⟩) ∧ w.cell? ⟨g, 1, none⟩ = some (.int .u64 (x.entry.id : Int)) ∧ w.cell? ⟨g, 2, none⟩ = some (.int .i64 x.entry.since) ∧ w.cell? ⟨g, 3, none⟩ = some (.int .i64 x.entry.till) ∧ w.cell? ⟨g, 4, none⟩ = some (.int .i64 x.entry.index) ∧ w.cell? ⟨g, 5, none⟩ = some (.string ⟨x.entry.tag.toArray⟩) ∧ w.cell? ⟨g, 6, none⟩ = some (.int .i64 x.since) ∧ w.cell? ⟨g, 7, none⟩ = some (.int .i64 x.under) :=
  ⟨h.at_ 0, h.at_ 1, h.at_ 2, h.at_ 3, h.at_ 4, h.at_ 5, h.at_ 6, h.at_ 7⟩
theorem At.at_entry_name {w : World} {g : Nat} {x : Peer} (h : At w g x) : w.cell? ⟨g, 0, none⟩ = some (.string ⟨x.entry.name.toArray⟩) := h.at_ 0
theorem At.at_entry_id {w : World} {g : Nat} {x : Peer} (h : At w g x) : w.cell? ⟨g, 1, none⟩ = some (.int .u64 (x.entry.id : Int)) := h.at_ 1
theorem At.at_entry_since {w : World} {g : Nat} {x : Peer} (h : At w g x) : w.cell? ⟨g, 2, none⟩ = some (.int .i64 x.entry.since) := h.at_ 2
theorem At.at_entry_till {w : World} {g : Nat} {x : Peer} (h : At w g x) : w.cell? ⟨g, 3, none⟩ = some (.int .i64 x.entry.till) := h.at_ 3
theorem At.at_entry_index {w : World} {g : Nat} {x : Peer} (h : At w g x) : w.cell? ⟨g, 4, none⟩ = some (.int .i64 x.entry.index) := h.at_ 4
theorem At.at_entry_tag {w : World} {g : Nat} {x : Peer} (h : At w g x) : w.cell? ⟨g, 5, none⟩ = some (.string ⟨x.entry.tag.toArray⟩) := h.at_ 5
theorem At.at_since {w : World} {g : Nat} {x : Peer} (h : At w g x) : w.cell? ⟨g, 6, none⟩ = some (.int .i64 x.since) := h.at_ 6
theorem At.at_under {w : World} {g : Nat} {x : Peer} (h : At w g x) : w.cell? ⟨g, 7, none⟩ = some (.int .i64 x.under) := h.at_ 7
theorem At.part_entry {w : World} {g : Nat} {x : Peer} (h : At w g x) : ∀ j v, x.entry.enc[j]? = some v → w.cell? ⟨g, 0 + j, none⟩ = some v := Whole.part (a := []) (b := x.entry.enc) (c := [.int .i64 x.since, .int .i64 x.under]) h
theorem At.set_entry_name {w : World} {g : Nat} {x : Peer} (h : At w g x) (v : List UInt8) : At (w.setCell ⟨g, 0, none⟩ (.string ⟨v.toArray⟩)) g { x with entry := { x.entry with name := v } } := h.stored 0 _
theorem At.set_entry_id {w : World} {g : Nat} {x : Peer} (h : At w g x) (v : Nat) : At (w.setCell ⟨g, 1, none⟩ (.int .u64 (v : Int))) g { x with entry := { x.entry with id := v } } := h.stored 1 _
theorem At.set_entry_since {w : World} {g : Nat} {x : Peer} (h : At w g x) (v : Int) : At (w.setCell ⟨g, 2, none⟩ (.int .i64 v)) g { x with entry := { x.entry with since := v } } := h.stored 2 _
theorem At.set_entry_till {w : World} {g : Nat} {x : Peer} (h : At w g x) (v : Int) : At (w.setCell ⟨g, 3, none⟩ (.int .i64 v)) g { x with entry := { x.entry with till := v } } := h.stored 3 _
theorem At.set_entry_index {w : World} {g : Nat} {x : Peer} (h : At w g x) (v : Int) : At (w.setCell ⟨g, 4, none⟩ (.int .i64 v)) g { x with entry := { x.entry with index := v } } := h.stored 4 _
theorem At.set_entry_tag {w : World} {g : Nat} {x : Peer} (h : At w g x) (v : List UInt8) : At (w.setCell ⟨g, 5, none⟩ (.string ⟨v.toArray⟩)) g { x with entry := { x.entry with tag := v } } := h.stored 5 _
theorem At.set_since {w : World} {g : Nat} {x : Peer} (h : At w g x) (v : Int) : At (w.setCell ⟨g, 6, none⟩ (.int .i64 v)) g { x with since := v } := h.stored 6 _
theorem At.set_under {w : World} {g : Nat} {x : Peer} (h : At w g x) (v : Int) : At (w.setCell ⟨g, 7, none⟩ (.int .i64 v)) g { x with under := v } := h.stored 7 _
end Peer
end Go.Proofs.YtehalcopkjfdkaaDoor

namespace Go.Proofs.YtehalcopkjfdkaaDoor
set_option maxRecDepth 100000
open Go.RowKit Go.ChangeShapes Go.WideShapes Go.ChangeAt

structure Gate where
  index : Int
  key : List UInt8
deriving DecidableEq
namespace Gate
def enc (x : Gate) : List Value := [.int .i64 x.index, .string ⟨x.key.toArray⟩]
def ks : List CK := [.int .i64, .str]
abbrev val (x : Gate) : Value := .agg x.enc.toArray
theorem len (x : Gate) : x.enc.length = 2 := rfl
theorem fits (x : Gate) : Fits ks x.enc := ⟨⟨_, rfl⟩, ⟨_, rfl⟩, trivial⟩
theorem one (x : Gate) : x.enc.toArray.all (·.oneCell') = true := by simp [enc, Value.oneCell']
theorem isRec : Rec Tryd.prog 23 ks := ⟨by kernel_rfl, by kernel_rfl, by kernel_rfl⟩
theorem size (x : Gate) : (Tryd.prog.info? 23).map (·.size) = some x.enc.toArray.size := by
  have h : (Tryd.prog.info? 23).map (·.size) = some 2 := by kernel_rfl
  exact h
def zero : Gate := ⟨0, []⟩
theorem zero_is : (Tryd.prog.info? 23).map (·.zero) = some (some (.agg zero.enc.toArray)) := by kernel_rfl
/-- Its numbers are of their types. -/
structure Ok (x : Gate) : Prop where
  index_ok : -9223372036854775808 ≤ x.index ∧ x.index ≤ 9223372036854775807
theorem of_fits {cs : List Value} (h : FitsW ks cs) : ∃ x : Gate, cs = x.enc ∧ x.Ok := by
  obtain ⟨_, r0, rfl, ⟨z0, rfl, w0⟩, q0⟩ := FitsW.uncons h
  obtain ⟨_, r1, rfl, ⟨z1, rfl⟩, q1⟩ := FitsW.uncons q0
  have hn := FitsW.nil q1
  subst hn
  have b0 := bounds_i64 w0
  exact ⟨⟨z0, z1⟩, rfl, ⟨b0⟩⟩
theorem opened {H : Type} {en : TypeId × Value → H} {W : World} {b base : Nat} {sp : Nat → Bool} {hd : Bool} {v : Value} {d : DataW H} {p : List MemPlace} (hv : Value.okWide Tryd.prog W .any base 23 v) (h : DataW.Trod en Tryd.prog W b sp hd 23 v d p) : ∃ x : Gate, v = x.val ∧ x.Ok := by
  obtain ⟨cs, rfl, hf⟩ := open_rec isRec hv h
  obtain ⟨x, rfl, hx⟩ := of_fits hf
  exact ⟨x, rfl, hx⟩
theorem same (x y : Gate) : eqCells x.enc y.enc = decide (x = y) := by
  rw [Bool.eq_iff_iff, decide_eq_true_eq]
  constructor
  · intro h
    simp only [enc, eqCells, cellEq, Bool.and_eq_true, beq_iff_eq, Bool.and_true, ba_list] at h
    obtain ⟨h0, h1⟩ := h
    obtain ⟨a75, a76⟩ := x
    obtain ⟨b77, b78⟩ := y
    simp only at h0 h1
    subst h0 h1
    rfl
  · rintro rfl
    exact eqCells_refl x.fits
theorem eq_run (x y : Gate) (w : World) : (binOp .eql 23 x.val y.val).run Tryd.prog w = .ok (.bool (decide (x = y))) w := by
  rw [← same]
  exact run_eq_rec isRec _ _ x.fits y.fits w
/-- In a block. -/
abbrev At (w : World) (g : Nat) (x : Gate) : Prop := Whole w g 23 x.enc.toArray
theorem At.cells {w : World} {g : Nat} {x : Gate} (h : At w g x) : w.cell? ⟨g, 0, none⟩ = some (.int .i64 x.index) ∧ w.cell? ⟨g, 1, none⟩ = some (.string ⟨x.key.toArray⟩) :=
  ⟨h.at_ 0, h.at_ 1⟩
theorem At.at_index {w : World} {g : Nat} {x : Gate} (h : At w g x) : w.cell? ⟨g, 0, none⟩ = some (.int .i64 x.index) := h.at_ 0
theorem At.at_key {w : World} {g : Nat} {x : Gate} (h : At w g x) : w.cell? ⟨g, 1, none⟩ = some (.string ⟨x.key.toArray⟩) := h.at_ 1
theorem At.set_index {w : World} {g : Nat} {x : Gate} (h : At w g x) (v : Int) : At (w.setCell ⟨g, 0, none⟩ (.int .i64 v)) g { x with index := v } := h.stored 0 _
theorem At.set_key {w : World} {g : Nat} {x : Gate} (h : At w g x) (v : List UInt8) : At (w.setCell ⟨g, 1, none⟩ (.string ⟨v.toArray⟩)) g { x with key := v } := h.stored 1 _
end Gate
end Go.Proofs.YtehalcopkjfdkaaDoor

namespace Go.Proofs.YtehalcopkjfdkaaDoor
set_option maxRecDepth 100000

def hexD : List UInt8 := [48, 49, 50, 51, 52, 53, 54, 55, 56, 57, 97, 98, 99, 100, 101, 102]
def hexC (d : Nat) : UInt8 := hexD.getD d 0
/-- A digit's number; 16: none. -/
def digN (c : UInt8) : Nat := hexD.findIdx (· == c)
theorem digN_le (c : UInt8) : digN c ≤ 16 := List.findIdx_le_length
theorem digN_hexC (d : Nat) (h : d < 16) : digN (hexC d) = d := by
  have : ∀ d : Fin 16, digN (hexC d.val) = d.val := by decide
  exact this ⟨d, h⟩
theorem hexC_digN (c : UInt8) (h : digN c < 16) : hexC (digN c) = c := by
  have h1 := List.findIdx_getElem (w := (show hexD.findIdx (· == c) < hexD.length from h))
  have h2 : hexD[hexD.findIdx (· == c)]'(show hexD.findIdx (· == c) < hexD.length from h) = c := by simpa using h1
  rw [hexC, digN, List.getD, List.getElem?_eq_getElem (show hexD.findIdx (· == c) < hexD.length from h), h2]
  rfl

/-- The last k digits of a number. -/
def hexTo (n : Nat) : Nat → List UInt8
  | 0 => []
  | k + 1 => hexC (n / 16 ^ k % 16) :: hexTo n k
theorem hexTo_length (n k : Nat) : (hexTo n k).length = k := by
  induction k with
  | zero => rfl
  | succ k ih => rw [hexTo, List.length_cons, ih]
def hexL (n : Nat) : List UInt8 := hexTo n 16
theorem hexL_length (n : Nat) : (hexL n).length = 16 := hexTo_length n 16

/-- The number that digits are. -/
def ofHex (l : List UInt8) : Nat := l.foldl (fun n c => n * 16 + digN c) 0
theorem ofHex_snoc (l : List UInt8) (c : UInt8) : ofHex (l ++ [c]) = ofHex l * 16 + digN c := by simp [ofHex]
theorem ofHex_take (l : List UInt8) (k : Nat) (c : UInt8) (h : l[k]? = some c) : ofHex (l.take (k + 1)) = ofHex (l.take k) * 16 + digN c := by
  rw [take_at h, ofHex_snoc]
def allHex (l : List UInt8) : Bool := l.all fun c => decide (digN c < 16)
theorem allHex_take (l : List UInt8) (k : Nat) (c : UInt8) (h : l[k]? = some c) : allHex (l.take (k + 1)) = (allHex (l.take k) && decide (digN c < 16)) := by
  rw [take_at h]
  simp [allHex]
theorem allHex_not (l : List UInt8) (k : Nat) (c : UInt8) (h : l[k]? = some c) (hc : digN c = 16) : allHex l = false := by
  rw [allHex, List.all_eq_false]
  exact ⟨c, List.mem_of_getElem? h, by simp [hc]⟩
theorem ofHex_lt (l : List UInt8) (h : allHex l = true) : ofHex l < 16 ^ l.length := by
  have key : ∀ (l : List UInt8) (n : Nat), (∀ c ∈ l, digN c < 16) → l.foldl (fun n c => n * 16 + digN c) n < (n + 1) * 16 ^ l.length := by
    intro l
    induction l with
    | nil => intro n _; simp
    | cons c l ih =>
      intro n hl
      have h1 := ih (n * 16 + digN c) fun d hd => hl d (by simp [hd])
      have h2 := hl c (by simp)
      simp only [List.foldl_cons, List.length_cons, Nat.pow_succ]
      have h3 : (n * 16 + digN c + 1) * 16 ^ l.length ≤ ((n + 1) * 16) * 16 ^ l.length := Nat.mul_le_mul_right _ (by omega)
      have h4 : ((n + 1) * 16) * 16 ^ l.length = (n + 1) * (16 ^ l.length * 16) := by rw [Nat.mul_assoc, Nat.mul_comm 16]
      omega
  have := key l 0 (by simpa [allHex] using h)
  simpa [ofHex] using this
/-- ReadHex's answers. -/
def rhB (l : List UInt8) : Bool := decide (l.length = 16) && allHex l
def rhA (l : List UInt8) : Nat := if rhB l = true then ofHex l else 0
theorem hexTo_all (n k : Nat) : allHex (hexTo n k) = true := by
  induction k with
  | zero => rfl
  | succ k ih =>
    rw [hexTo]
    have h : digN (hexC (n / 16 ^ k % 16)) < 16 := by rw [digN_hexC _ (Nat.mod_lt _ (by decide))]; exact Nat.mod_lt _ (by decide)
    simp only [allHex, List.all_cons, decide_eq_true h, Bool.true_and] at ih ⊢
    exact ih
theorem foldHex_hexTo (n k a : Nat) : (hexTo n k).foldl (fun n c => n * 16 + digN c) a = a * 16 ^ k + n % 16 ^ k := by
  induction k generalizing a with
  | zero => simp [hexTo, Nat.mod_one]
  | succ k ih =>
    rw [hexTo, List.foldl_cons, ih, digN_hexC _ (Nat.mod_lt _ (by decide)), Nat.pow_succ, Nat.mod_mul]
    have e1 : (a * 16 + n / 16 ^ k % 16) * 16 ^ k = a * (16 ^ k * 16) + 16 ^ k * (n / 16 ^ k % 16) := by rw [Nat.add_mul, Nat.mul_assoc, Nat.mul_comm 16, Nat.mul_comm (n / 16 ^ k % 16)]
    rw [e1]
    omega
theorem read_hex (n : Nat) (h : n < 18446744073709551616) : rhB (hexL n) = true ∧ rhA (hexL n) = n := by
  have hb : rhB (hexL n) = true := by rw [rhB, hexL_length, hexL, hexTo_all]; rfl
  refine ⟨hb, ?_⟩
  rw [rhA, if_pos hb, ofHex, hexL, foldHex_hexTo, Nat.zero_mul, Nat.zero_add]
  exact Nat.mod_eq_of_lt h

/-- Bytes' digits. -/
def pairC (c : UInt8) : List UInt8 := [hexC (c.toNat / 16), hexC (c.toNat % 16)]
def pairsC (b : List UInt8) : List UInt8 := b.flatMap pairC
theorem pairsC_length (b : List UInt8) : (pairsC b).length = 2 * b.length := by
  induction b with
  | nil => rfl
  | cons c b ih =>
    have e : pairsC (c :: b) = pairC c ++ pairsC b := rfl
    rw [e, List.length_append, ih, List.length_cons]
    simp [pairC]
    omega
theorem pairsC_snoc (b : List UInt8) (c : UInt8) : pairsC (b ++ [c]) = pairsC b ++ pairC c := by simp [pairsC]
def bytesL (b : List UInt8) : List UInt8 := if b = [] then [45] else pairsC b
/-- The bytes that digits are. -/
def unpair : List UInt8 → Option (List UInt8)
  | [] => some []
  | [_] => none
  | a :: b :: l => if digN a = 16 ∨ digN b = 16 then none else (unpair l).map fun t => UInt8.ofNat (16 * digN a + digN b) :: t
theorem unpair_pairs (b : List UInt8) : unpair (pairsC b) = some b := by
  induction b with
  | nil => rfl
  | cons c b ih =>
    have e : pairsC (c :: b) = hexC (c.toNat / 16) :: hexC (c.toNat % 16) :: pairsC b := rfl
    have hc := c.toNat_lt
    rw [e, unpair, digN_hexC _ (by omega), digN_hexC _ (by omega), if_neg (by omega), ih]
    simp only [Option.map_some]
    congr 2
    rw [show 16 * (c.toNat / 16) + c.toNat % 16 = c.toNat by omega]
    simp
theorem unpair_snoc (p out : List UInt8) (a b : UInt8) (h : unpair p = some out) : unpair (p ++ [a, b]) = if digN a = 16 ∨ digN b = 16 then none else some (out ++ [UInt8.ofNat (16 * digN a + digN b)]) := by
  induction p using unpair.induct generalizing out with
  | case1 =>
    injection h with h
    subst h
    rw [List.nil_append, unpair]
    split
    · rfl
    · rfl
  | case2 x => simp [unpair] at h
  | case3 x y l hxy => simp [unpair, hxy] at h
  | case4 x y l hxy ih =>
    rw [unpair, if_neg hxy] at h
    cases hl : unpair l with
    | none => rw [hl] at h; simp at h
    | some t =>
      rw [hl] at h
      simp only [Option.map_some] at h
      injection h with h
      subst h
      have e : x :: y :: l ++ [a, b] = x :: y :: (l ++ [a, b]) := rfl
      rw [e, unpair, if_neg hxy, ih t hl]
      split
      · rfl
      · rfl
theorem unpair_none (p q out : List UInt8) (a b : UInt8) (h : unpair p = some out) (hab : digN a = 16 ∨ digN b = 16) : unpair (p ++ a :: b :: q) = none := by
  induction p using unpair.induct generalizing out with
  | case1 => rw [List.nil_append, unpair, if_pos hab]
  | case2 x => simp [unpair] at h
  | case3 x y l hxy => simp [unpair, hxy] at h
  | case4 x y l hxy ih =>
    rw [unpair, if_neg hxy] at h
    cases hl : unpair l with
    | none => rw [hl] at h; simp at h
    | some t =>
      have e : x :: y :: l ++ a :: b :: q = x :: y :: (l ++ a :: b :: q) := rfl
      rw [e, unpair, if_neg hxy, ih t hl]
      rfl
/-- ReadBytes' answer, if it is one. -/
def rbO (l : List UInt8) : Option (List UInt8) := if l = [45] then some [] else if l.length = 0 ∨ l.length % 2 = 1 ∨ 8192 < l.length then none else unpair l
def rbB (l : List UInt8) : Bool := (rbO l).isSome
def rbA (l : List UInt8) : List UInt8 := (rbO l).getD []
theorem read_bytes (b : List UInt8) (h : b.length ≤ 4096) : rbO (bytesL b) = some b := by
  rw [bytesL]
  by_cases hb : b = []
  · rw [if_pos hb, hb]
    rfl
  · have hl := pairsC_length b
    have h0 : 0 < b.length := List.length_pos_iff.2 hb
    rw [if_neg hb, rbO, if_neg (fun e => by rw [e] at hl; simp at hl; omega), if_neg (by omega), unpair_pairs]

/-- A number's digits, by ten. -/
def decL (n : Nat) : List UInt8 := if n < 10 then [hexC n] else decL (n / 10) ++ [hexC (n % 10)]
termination_by n
decreasing_by omega
theorem decL_lt (n : Nat) (h : n < 10) : decL n = [hexC n] := by rw [decL, if_pos h]
theorem decL_ge (n : Nat) (h : ¬ n < 10) : decL n = decL (n / 10) ++ [hexC (n % 10)] := by rw [decL, if_neg h]
/-- Number's answer. -/
def numL (i : Int) : List UInt8 := if i < 0 then 45 :: decL i.natAbs else decL i.toNat
theorem decL_length (n k : Nat) (h : n < 10 ^ k) (hk : 0 < k) : (decL n).length ≤ k := by
  induction k generalizing n with
  | zero => omega
  | succ k ih =>
    by_cases h1 : n < 10
    · rw [decL_lt n h1]
      simp
    · rw [decL_ge n h1, List.length_append, List.length_singleton]
      have : 0 < k := by
        rcases Nat.eq_zero_or_pos k with rfl | h
        · omega
        · exact h
      have h2 : n / 10 < 10 ^ k := by rw [Nat.pow_succ] at h; omega
      have := ih (n / 10) h2 this
      omega
/-- Is it one of them? -/
def inB (l : List UInt8) (c : UInt8) : Bool := l.contains c
theorem inB_true (l : List UInt8) (c : UInt8) (h : c ∈ l) : inB l c = true := List.contains_iff_mem.2 h
theorem inB_mem (l : List UInt8) (c : UInt8) (h : inB l c = true) : c ∈ l := List.contains_iff_mem.1 h

/-- Small letters; and digits, and the hyphen. -/
def lowL : List UInt8 := [97, 98, 99, 100, 101, 102, 103, 104, 105, 106, 107, 108, 109, 110, 111, 112, 113, 114, 115, 116, 117, 118, 119, 120, 121, 122]
def nameC : List UInt8 := [97, 98, 99, 100, 101, 102, 103, 104, 105, 106, 107, 108, 109, 110, 111, 112, 113, 114, 115, 116, 117, 118, 119, 120, 121, 122, 48, 49, 50, 51, 52, 53, 54, 55, 56, 57, 45]
/-- Name's answer. -/
def nameB (l : List UInt8) : Bool := decide (1 ≤ l.length) && decide (l.length ≤ 16) && l.head?.any (inB lowL) && l.all (inB nameC)
/-- Key's answer. -/
def keyC (c : UInt8) : Bool := decide (32 < c.toNat) && decide (c.toNat < 127)
def keyB (l : List UInt8) : Bool := decide (1 ≤ l.length) && decide (l.length ≤ 24) && l.all keyC

theorem all_take {α : Type} (p : α → Bool) (l : List α) (k : Nat) (c : α) (h : l[k]? = some c) : (l.take (k + 1)).all p = ((l.take k).all p && p c) := by
  rw [take_at h]
  simp
theorem all_not {α : Type} (p : α → Bool) (l : List α) (k : Nat) (c : α) (h : l[k]? = some c) (hc : p c = false) : l.all p = false := by
  rw [List.all_eq_false]
  exact ⟨c, List.mem_of_getElem? h, by simp [hc]⟩
end Go.Proofs.YtehalcopkjfdkaaDoor

namespace Go.Proofs.YtehalcopkjfdkaaDoor
set_option maxRecDepth 100000
open Go.RowKit

theorem str_cons (c : UInt8) (l : List UInt8) : (⟨#[c]⟩ : ByteArray) ++ ⟨l.toArray⟩ = ⟨(c :: l).toArray⟩ := by
  apply ByteArray.ext
  simp
theorem str_snoc (l : List UInt8) (c : UInt8) : (⟨l.toArray⟩ : ByteArray) ++ ⟨#[c]⟩ = ⟨(l ++ [c]).toArray⟩ := by
  apply ByteArray.ext
  simp
theorem str_plus (a b : List UInt8) : (⟨a.toArray⟩ : ByteArray) ++ ⟨b.toArray⟩ = ⟨(a ++ b).toArray⟩ := by
  apply ByteArray.ext
  simp

theorem str_at (l : List UInt8) (k : Nat) (c : UInt8) (hc : l[k]? = some c) (h : k < (⟨l.toArray⟩ : ByteArray).size) : (⟨l.toArray⟩ : ByteArray)[k]'h = c := by
  obtain ⟨h1, rfl⟩ := List.getElem?_eq_some_iff.1 hc
  rfl
end Go.Proofs.YtehalcopkjfdkaaDoor
