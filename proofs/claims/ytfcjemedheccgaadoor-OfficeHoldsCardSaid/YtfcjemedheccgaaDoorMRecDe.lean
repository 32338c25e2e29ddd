/- api.Deed as a structure: its cells, opened, in a block. (Written by tools/mkrec.py.) -/
import Derived.Test.YtfcjemedheccgaaDoorGd
namespace Go.Proofs.YtfcjemedheccgaaDoor
set_option maxRecDepth 100000
open Go.RowKit Go.ChangeShapes Go.WideShapes Go.ChangeAt

structure Deed where
  kind : Int
  name : List UInt8
  id : Nat
  since : Int
  till : Int
deriving DecidableEq
namespace Deed
def enc (x : Deed) : List Value := [.int .i64 x.kind, .string ⟨x.name.toArray⟩, .int .u64 (x.id : Int), .int .i64 x.since, .int .i64 x.till]
def ks : List CK := [.int .i64, .str, .int .u64, .int .i64, .int .i64]
abbrev val (x : Deed) : Value := .agg x.enc.toArray
theorem len (x : Deed) : x.enc.length = 5 := rfl
theorem fits (x : Deed) : Fits ks x.enc := ⟨⟨_, rfl⟩, ⟨_, rfl⟩, ⟨_, rfl⟩, ⟨_, rfl⟩, ⟨_, rfl⟩, trivial⟩
theorem one (x : Deed) : x.enc.toArray.all (·.oneCell') = true := by simp [enc, Value.oneCell']
theorem isRec : Rec Tryd.prog 35 ks := ⟨by kernel_rfl, by kernel_rfl, by kernel_rfl⟩
theorem size (x : Deed) : (Tryd.prog.info? 35).map (·.size) = some x.enc.toArray.size := by
  have h : (Tryd.prog.info? 35).map (·.size) = some 5 := by kernel_rfl
  exact h
def zero : Deed := ⟨0, [], 0, 0, 0⟩
theorem zero_is : (Tryd.prog.info? 35).map (·.zero) = some (some (.agg zero.enc.toArray)) := by kernel_rfl
/-- Its numbers are of their types. -/
structure Ok (x : Deed) : Prop where
  kind_ok : -9223372036854775808 ≤ x.kind ∧ x.kind ≤ 9223372036854775807
  id_ok : x.id < 18446744073709551616
  since_ok : -9223372036854775808 ≤ x.since ∧ x.since ≤ 9223372036854775807
  till_ok : -9223372036854775808 ≤ x.till ∧ x.till ≤ 9223372036854775807
theorem of_fits {cs : List Value} (h : FitsW ks cs) : ∃ x : Deed, cs = x.enc ∧ x.Ok := by
  obtain ⟨_, r0, rfl, ⟨z0, rfl, w0⟩, q0⟩ := FitsW.uncons h
  obtain ⟨_, r1, rfl, ⟨z1, rfl⟩, q1⟩ := FitsW.uncons q0
  obtain ⟨_, r2, rfl, ⟨z2, rfl, w2⟩, q2⟩ := FitsW.uncons q1
  obtain ⟨_, r3, rfl, ⟨z3, rfl, w3⟩, q3⟩ := FitsW.uncons q2
  obtain ⟨_, r4, rfl, ⟨z4, rfl, w4⟩, q4⟩ := FitsW.uncons q3
  have hn := FitsW.nil q4
  subst hn
  have b0 := bounds_i64 w0
  have b2 := bounds_u64 w2
  obtain ⟨n2, rfl⟩ := Int.eq_ofNat_of_zero_le b2.1
  have b3 := bounds_i64 w3
  have b4 := bounds_i64 w4
  exact ⟨⟨z0, z1, n2, z3, z4⟩, rfl, ⟨b0, (by show (n2 : Nat) < 18446744073709551616; have := b2.2; omega), b3, b4⟩⟩
theorem opened {H : Type} {en : TypeId × Value → H} {W : World} {b base : Nat} {sp : Nat → Bool} {hd : Bool} {v : Value} {d : DataW H} {p : List MemPlace} (hv : Value.okWide Tryd.prog W .any base 35 v) (h : DataW.Trod en Tryd.prog W b sp hd 35 v d p) : ∃ x : Deed, v = x.val ∧ x.Ok := by
  obtain ⟨cs, rfl, hf⟩ := open_rec isRec hv h
  obtain ⟨x, rfl, hx⟩ := of_fits hf
  exact ⟨x, rfl, hx⟩
theorem isElem : Elem Tryd.prog 22 35 ks := ⟨isRec, Tryd.underlying22, by decide, by
  have h : ((Tryd.prog.info? 35).map fun i => (i.zero, i.size, decide (i.bytes ≤ 8000))) = some (some (.agg zero.enc.toArray), 5, true) := by kernel_rfl
  cases hi : Tryd.prog.info? 35 with
  | none => rw [hi] at h; cases h
  | some i =>
    rw [hi] at h
    simp only [Option.map_some, Option.some.injEq, Prod.mk.injEq, decide_eq_true_eq] at h
    exact ⟨i, _, rfl, h.1, h.2.1, rfl, h.2.2⟩⟩
/-- A slice of one. -/
theorem build_one (x : Deed) : filled 5 1 zero.enc.toArray [(0, x.val)] = some x.enc.toArray := by kernel_rfl
theorem info : ∃ i, Tryd.prog.info? 35 = some i ∧ i.zero = some (.agg zero.enc.toArray) ∧ i.size = 5 := by
  obtain ⟨i, z, h1, h2, h3, -, -⟩ := isElem.zero
  have h := zero_is
  rw [h1, Option.map_some, h2] at h
  injection h with h
  injection h with h
  exact ⟨i, h1, by rw [h2, h], h3⟩
theorem wpList_one {ops : Array Oper} {rest : List Oper} {o : Oper} {a : Act} {w : World} {Q : Exit → Act → World → Prop} (hgd : o.guard = none) (y : Operand) (ho : o.op = .buildSlice 22 1 #[(0, y)]) (x : Deed) (hy : a.eval y = x.val)
    (h : ∀ w', Below w.heap.size w w' → RowsAt w' (.slice (some ⟨w.heap.size, 0, none⟩) 1 1) 5 [x.enc] → w'.heap.size = w.heap.size + 1 → wpList Tryd.prog ops Q rest (a.put o.dst (.slice (some ⟨w.heap.size, 0, none⟩) 1 1)) w') : wpList Tryd.prog ops Q (o :: rest) a w := by
  obtain ⟨i, h1, h2, h3⟩ := info
  exact wpList_buildSlice hgd Tryd.underlying22 h1 h2 1 (by rw [h3]; decide) (by rw [h3]; decide) _ ho #[(0, x.val)] (by simp [hy]) x.enc.toArray (by rw [h3]; exact build_one x) fun w' b q z => h w' b (rows_one q (Nat.le_refl _)) z
theorem opened_all {H : Type} {en : TypeId × Value → H} {W : World} {b : Nat} {sp : Nat → Bool} {hd : Bool} {a : Option Addr} {len cap : Nat} {d : DataW H} {p : List MemPlace} (h : DataW.Trod en Tryd.prog W b sp hd 22 (.slice a len cap) d p) : ∃ l : List Deed, RowsAt W (.slice a len cap) 5 (l.map enc) ∧ ∀ x ∈ l, x.Ok := by
  obtain ⟨L, hL, hf⟩ := open_rows Tryd.underlying22 isRec h
  have hex : ∀ L : List (List Value), (∀ c ∈ L, FitsW ks c) → ∃ l : List Deed, L = l.map enc ∧ ∀ x ∈ l, x.Ok := by
    intro L
    induction L with
    | nil => exact fun _ => ⟨[], rfl, fun x hx => by cases hx⟩
    | cons c r ih =>
      intro hf
      obtain ⟨x, rfl, ox⟩ := of_fits (hf c (List.mem_cons_self ..))
      obtain ⟨l, rfl, ol⟩ := ih fun c hc => hf c (List.mem_cons_of_mem _ hc)
      exact ⟨x :: l, rfl, fun y hy => by rcases List.mem_cons.1 hy with rfl | h
                                         · exact ox
                                         · exact ol y h⟩
  obtain ⟨l, rfl, ol⟩ := hex L hf
  exact ⟨l, hL, ol⟩
theorem same (x y : Deed) : eqCells x.enc y.enc = decide (x = y) := by
  rw [Bool.eq_iff_iff, decide_eq_true_eq]
  constructor
  · intro h
    simp only [enc, eqCells, cellEq, Bool.and_eq_true, beq_iff_eq, Bool.and_true, ba_list] at h
    obtain ⟨h0, h1, h2, h3, h4⟩ := h
    obtain ⟨a1, a2, a3, a4, a5⟩ := x
    obtain ⟨b6, b7, b8, b9, b10⟩ := y
    simp only at h0 h1 h2 h3 h4
    have h2 := Int.ofNat.inj h2
    subst h0 h1 h2 h3 h4
    rfl
  · rintro rfl
    exact eqCells_refl x.fits
theorem eq_run (x y : Deed) (w : World) : (binOp .eql 35 x.val y.val).run Tryd.prog w = .ok (.bool (decide (x = y))) w := by
  rw [← same]
  exact run_eq_rec isRec _ _ x.fits y.fits w
/-- In a block. -/
abbrev At (w : World) (g : Nat) (x : Deed) : Prop := Whole w g 35 x.enc.toArray
theorem At.cells {w : World} {g : Nat} {x : Deed} (h : At w g x) : w.cell? ⟨g, 0, none⟩ = some (.int .i64 x.kind) ∧ w.cell? ⟨g, 1, none⟩ = some (.string ⟨x.name.toArray⟩) ∧ w.cell? ⟨g, 2, none⟩ = some (.int .u64 (x.id : Int)) ∧ w.cell? ⟨g, 3, none⟩ = some (.int .i64 x.since) ∧ w.cell? ⟨g, 4, none⟩ = some (.int .i64 x.till) :=
  ⟨h.at_ 0, h.at_ 1, h.at_ 2, h.at_ 3, h.at_ 4⟩
theorem At.at_kind {w : World} {g : Nat} {x : Deed} (h : At w g x) : w.cell? ⟨g, 0, none⟩ = some (.int .i64 x.kind) := h.at_ 0
theorem At.at_name {w : World} {g : Nat} {x : Deed} (h : At w g x) : w.cell? ⟨g, 1, none⟩ = some (.string ⟨x.name.toArray⟩) := h.at_ 1
theorem At.at_id {w : World} {g : Nat} {x : Deed} (h : At w g x) : w.cell? ⟨g, 2, none⟩ = some (.int .u64 (x.id : Int)) := h.at_ 2
theorem At.at_since {w : World} {g : Nat} {x : Deed} (h : At w g x) : w.cell? ⟨g, 3, none⟩ = some (.int .i64 x.since) := h.at_ 3
theorem At.at_till {w : World} {g : Nat} {x : Deed} (h : At w g x) : w.cell? ⟨g, 4, none⟩ = some (.int .i64 x.till) := h.at_ 4
theorem At.set_kind {w : World} {g : Nat} {x : Deed} (h : At w g x) (v : Int) : At (w.setCell ⟨g, 0, none⟩ (.int .i64 v)) g { x with kind := v } := h.stored 0 _
theorem At.set_name {w : World} {g : Nat} {x : Deed} (h : At w g x) (v : List UInt8) : At (w.setCell ⟨g, 1, none⟩ (.string ⟨v.toArray⟩)) g { x with name := v } := h.stored 1 _
theorem At.set_id {w : World} {g : Nat} {x : Deed} (h : At w g x) (v : Nat) : At (w.setCell ⟨g, 2, none⟩ (.int .u64 (v : Int))) g { x with id := v } := h.stored 2 _
theorem At.set_since {w : World} {g : Nat} {x : Deed} (h : At w g x) (v : Int) : At (w.setCell ⟨g, 3, none⟩ (.int .i64 v)) g { x with since := v } := h.stored 3 _
theorem At.set_till {w : World} {g : Nat} {x : Deed} (h : At w g x) (v : Int) : At (w.setCell ⟨g, 4, none⟩ (.int .i64 v)) g { x with till := v } := h.stored 4 _
end Deed
end Go.Proofs.YtfcjemedheccgaaDoor
