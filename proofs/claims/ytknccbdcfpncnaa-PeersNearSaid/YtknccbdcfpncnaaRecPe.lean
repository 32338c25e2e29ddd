/- api.Peer as a structure: its cells, opened, in a block. (Written by tools/mkrec.py.) -/
import Derived.Test.YtknccbdcfpncnaaRwS
import Derived.Test.YtknccbdcfpncnaaRecEn
namespace Go.Proofs.Ytknccbdcfpncnaa
set_option maxRecDepth 100000
open Go.RowKit Go.ChangeShapes Go.WideShapes Go.ChangeAt

structure Peer where
  entry : Ent
  since : Int
  under : Int
deriving DecidableEq
namespace Peer
def enc (x : Peer) : List Value := [.string ⟨x.entry.name.toArray⟩, .int .u64 (x.entry.id : Int), .int .i64 x.entry.since, .int .i64 x.entry.till, .int .i64 x.entry.index, .string ⟨x.entry.tag.toArray⟩, .int .i64 x.since, .int .i64 x.under]
def ks : List CK := [.str, .int .u64, .int .i64, .int .i64, .int .i64, .str, .int .i64, .int .i64]
abbrev val (x : Peer) : Value := .agg x.enc.toArray
theorem len (x : Peer) : x.enc.length = 8 := rfl
theorem fits (x : Peer) : Fits ks x.enc := ⟨⟨_, rfl⟩, ⟨_, rfl⟩, ⟨_, rfl⟩, ⟨_, rfl⟩, ⟨_, rfl⟩, ⟨_, rfl⟩, ⟨_, rfl⟩, ⟨_, rfl⟩, trivial⟩
theorem one (x : Peer) : x.enc.toArray.all (·.oneCell') = true := by simp [enc, Value.oneCell']
theorem isRec : Rec Try.prog 27 ks := ⟨by kernel_rfl, by kernel_rfl, by kernel_rfl⟩
theorem size (x : Peer) : (Try.prog.info? 27).map (·.size) = some x.enc.toArray.size := by
  have h : (Try.prog.info? 27).map (·.size) = some 8 := by kernel_rfl
  exact h
def zero : Peer := ⟨Ent.zero, 0, 0⟩
theorem zero_is : (Try.prog.info? 27).map (·.zero) = some (some (.agg zero.enc.toArray)) := by kernel_rfl
/-- Its numbers are of their types. -/
structure Ok (x : Peer) : Prop where
  entry_id_ok : x.entry.id < 18446744073709551616
  entry_since_ok : -9223372036854775808 ≤ x.entry.since ∧ x.entry.since ≤ 9223372036854775807
  entry_till_ok : -9223372036854775808 ≤ x.entry.till ∧ x.entry.till ≤ 9223372036854775807
  entry_index_ok : -9223372036854775808 ≤ x.entry.index ∧ x.entry.index ≤ 9223372036854775807
  since_ok : -9223372036854775808 ≤ x.since ∧ x.since ≤ 9223372036854775807
  under_ok : -9223372036854775808 ≤ x.under ∧ x.under ≤ 9223372036854775807
theorem of_fits {cs : List Value} (h : FitsW ks cs) : ∃ x : Peer, cs = x.enc ∧ x.Ok := by
  obtain ⟨_, r0, rfl, ⟨z0, rfl⟩, q0⟩ := FitsW.uncons h
  obtain ⟨_, r1, rfl, ⟨z1, rfl, w1⟩, q1⟩ := FitsW.uncons q0
  obtain ⟨_, r2, rfl, ⟨z2, rfl, w2⟩, q2⟩ := FitsW.uncons q1
  obtain ⟨_, r3, rfl, ⟨z3, rfl, w3⟩, q3⟩ := FitsW.uncons q2
  obtain ⟨_, r4, rfl, ⟨z4, rfl, w4⟩, q4⟩ := FitsW.uncons q3
  obtain ⟨_, r5, rfl, ⟨z5, rfl⟩, q5⟩ := FitsW.uncons q4
  obtain ⟨_, r6, rfl, ⟨z6, rfl, w6⟩, q6⟩ := FitsW.uncons q5
  obtain ⟨_, r7, rfl, ⟨z7, rfl, w7⟩, q7⟩ := FitsW.uncons q6
  have hn := FitsW.nil q7
  subst hn
  have b1 := bounds_u64 w1
  obtain ⟨n1, rfl⟩ := Int.eq_ofNat_of_zero_le b1.1
  have b2 := bounds_i64 w2
  have b3 := bounds_i64 w3
  have b4 := bounds_i64 w4
  have b6 := bounds_i64 w6
  have b7 := bounds_i64 w7
  exact ⟨⟨⟨z0, n1, z2, z3, z4, z5⟩, z6, z7⟩, rfl, ⟨(by show (n1 : Nat) < 18446744073709551616; have := b1.2; omega), b2, b3, b4, b6, b7⟩⟩
theorem opened {H : Type} {en : TypeId × Value → H} {W : World} {b base : Nat} {sp : Nat → Bool} {hd : Bool} {v : Value} {d : DataW H} {p : List MemPlace} (hv : Value.okWide Try.prog W .any base 27 v) (h : DataW.Trod en Try.prog W b sp hd 27 v d p) : ∃ x : Peer, v = x.val ∧ x.Ok := by
  obtain ⟨cs, rfl, hf⟩ := open_rec isRec hv h
  obtain ⟨x, rfl, hx⟩ := of_fits hf
  exact ⟨x, rfl, hx⟩
theorem isElem : Elem Try.prog 25 27 ks := ⟨isRec, Try.underlying25, by decide, by
  have h : ((Try.prog.info? 27).map fun i => (i.zero, i.size, decide (i.bytes ≤ 8000))) = some (some (.agg zero.enc.toArray), 8, true) := by kernel_rfl
  cases hi : Try.prog.info? 27 with
  | none => rw [hi] at h; cases h
  | some i =>
    rw [hi] at h
    simp only [Option.map_some, Option.some.injEq, Prod.mk.injEq, decide_eq_true_eq] at h
    exact ⟨i, _, rfl, h.1, h.2.1, rfl, h.2.2⟩⟩
/-- A slice of one. -/
theorem build_one (x : Peer) : filled 8 1 zero.enc.toArray [(0, x.val)] = some x.enc.toArray := by kernel_rfl
theorem info : ∃ i, Try.prog.info? 27 = some i ∧ i.zero = some (.agg zero.enc.toArray) ∧ i.size = 8 := by
  obtain ⟨i, z, h1, h2, h3, -, -⟩ := isElem.zero
  have h := zero_is
  rw [h1, Option.map_some, h2] at h
  injection h with h
  injection h with h
  exact ⟨i, h1, by rw [h2, h], h3⟩
theorem wpList_one {ops : Array Oper} {rest : List Oper} {o : Oper} {a : Act} {w : World} {Q : Exit → Act → World → Prop} (hgd : o.guard = none) (y : Operand) (ho : o.op = .buildSlice 25 1 #[(0, y)]) (x : Peer) (hy : a.eval y = x.val)
    (h : ∀ w', Below w.heap.size w w' → RowsAt w' (.slice (some ⟨w.heap.size, 0, none⟩) 1 1) 8 [x.enc] → w'.heap.size = w.heap.size + 1 → wpList Try.prog ops Q rest (a.put o.dst (.slice (some ⟨w.heap.size, 0, none⟩) 1 1)) w') : wpList Try.prog ops Q (o :: rest) a w := by
  obtain ⟨i, h1, h2, h3⟩ := info
  exact wpList_buildSlice hgd Try.underlying25 h1 h2 1 (by rw [h3]; decide) (by rw [h3]; decide) _ ho #[(0, x.val)] (by simp [hy]) x.enc.toArray (by rw [h3]; exact build_one x) fun w' b q z => h w' b (rows_one q (Nat.le_refl _)) z
theorem opened_all {H : Type} {en : TypeId × Value → H} {W : World} {b : Nat} {sp : Nat → Bool} {hd : Bool} {a : Option Addr} {len cap : Nat} {d : DataW H} {p : List MemPlace} (h : DataW.Trod en Try.prog W b sp hd 25 (.slice a len cap) d p) : ∃ l : List Peer, RowsAt W (.slice a len cap) 8 (l.map enc) ∧ ∀ x ∈ l, x.Ok := by
  obtain ⟨L, hL, hf⟩ := open_rows Try.underlying25 isRec h
  have hex : ∀ L : List (List Value), (∀ c ∈ L, FitsW ks c) → ∃ l : List Peer, L = l.map enc ∧ ∀ x ∈ l, x.Ok := by
    intro L
    induction L with
    | nil => exact fun _ => ⟨[], rfl, fun x hx => by cases hx⟩
    | cons c r ih =>
      intro hf
      obtain ⟨x, rfl, ox⟩ := of_fits (hf c (List.mem_cons_self ..))
      obtain ⟨l, rfl, ol⟩ := ih fun c hc => hf c (List.mem_cons_of_mem _ hc)
      exact ⟨x :: l, rfl, fun y hy => by rcases List.mem_cons.1 hy with rfl | h
                                         · exact ox
                                         · exact ol y h⟩
  obtain ⟨l, rfl, ol⟩ := hex L hf
  exact ⟨l, hL, ol⟩
theorem same (x y : Peer) : eqCells x.enc y.enc = decide (x = y) := by
  rw [Bool.eq_iff_iff, decide_eq_true_eq]
  constructor
  · intro h
    simp only [enc, eqCells, cellEq, Bool.and_eq_true, beq_iff_eq, Bool.and_true, ba_list] at h
    obtain ⟨h0, h1, h2, h3, h4, h5, h6, h7⟩ := h
    obtain ⟨⟨a59, a60, a61, a62, a63, a64⟩, a65, a66⟩ := x
    obtain ⟨⟨b67, b68, b69, b70, b71, b72⟩, b73, b74⟩ := y
    simp only at h0 h1 h2 h3 h4 h5 h6 h7
    have h1 := Int.ofNat.inj h1
    subst h0 h1 h2 h3 h4 h5 h6 h7
    rfl
  · rintro rfl
    exact eqCells_refl x.fits
theorem eq_run (x y : Peer) (w : World) : (binOp .eql 27 x.val y.val).run Try.prog w = .ok (.bool (decide (x = y))) w := by
  rw [← same]
  exact run_eq_rec isRec _ _ x.fits y.fits w
/-- In a block. -/
abbrev At (w : World) (g : Nat) (x : Peer) : Prop := Whole w g 27 x.enc.toArray
theorem At.cells {w : World} {g : Nat} {x : Peer} (h : At w g x) : w.cell? ⟨g, 0, none⟩ = some (.string ⟨x.entry.name.toArray⟩) ∧ w.cell? ⟨g, 1, none⟩ = some (.int .u64 (x.entry.id : Int)) ∧ w.cell? ⟨g, 2, none⟩ = some (.int .i64 x.entry.since) ∧ w.cell? ⟨g, 3, none⟩ = some (.int .i64 x.entry.till) ∧ w.cell? ⟨g, 4, none⟩ = some (.int .i64 x.entry.index) ∧ w.cell? ⟨g, 5, none⟩ = some (.string ⟨x.entry.tag.toArray⟩) ∧ w.cell? ⟨g, 6, none⟩ = some (.int .i64 x.since) ∧ w.cell? ⟨g, 7, none⟩ = some (.int .i64 x.under) :=
  ⟨h.at_ 0, h.at_ 1, h.at_ 2, h.at_ 3, h.at_ 4, h.at_ 5, h.at_ 6, h.at_ 7⟩
theorem At.at_entry_name {w : World} {g : Nat} {x : Peer} (h : At w g x) : w.cell? ⟨g, 0, none⟩ = some (.string ⟨x.entry.name.toArray⟩) := h.at_ 0
theorem At.at_entry_id {w : World} {g : Nat} {x : Peer} (h : At w g x) : w.cell? ⟨g, 1, none⟩ = some (.int .u64 (x.entry.id : Int)) := h.at_ 1
theorem At.at_entry_since {w : World} {g : Nat} {x : Peer} (h : At w g x) : w.cell? ⟨g, 2, none⟩ = some (.int .i64 x.entry.since) := h.at_ 2
theorem At.at_entry_till {w : World} {g : Nat} {x : Peer} (h : At w g x) : w.cell? ⟨g, 3, none⟩ = some (.int .i64 x.entry.till) := h.at_ 3
theorem At.at_entry_index {w : World} {g : Nat} {x : Peer} (h : At w g x) : w.cell? ⟨g, 4, none⟩ = some (.int .i64 x.entry.index) := h.at_ 4
theorem At.at_entry_tag {w : World} {g : Nat} {x : Peer} (h : At w g x) : w.cell? ⟨g, 5, none⟩ = some (.string ⟨x.entry.tag.toArray⟩) := h.at_ 5
theorem At.at_since {w : World} {g : Nat} {x : Peer} (h : At w g x) : w.cell? ⟨g, 6, none⟩ = some (.int .i64 x.since) := h.at_ 6
theorem At.at_under {w : World} {g : Nat} {x : Peer} (h : At w g x) : w.cell? ⟨g, 7, none⟩ = some (.int .i64 x.under) := h.at_ 7
theorem At.part_entry {w : World} {g : Nat} {x : Peer} (h : At w g x) : ∀ j v, x.entry.enc[j]? = some v → w.cell? ⟨g, 0 + j, none⟩ = some v := Whole.part (a := []) (b := x.entry.enc) (c := [.int .i64 x.since, .int .i64 x.under]) h
theorem At.set_entry_name {w : World} {g : Nat} {x : Peer} (h : At w g x) (v : List UInt8) : At (w.setCell ⟨g, 0, none⟩ (.string ⟨v.toArray⟩)) g { x with entry := { x.entry with name := v } } := h.stored 0 _
theorem At.set_entry_id {w : World} {g : Nat} {x : Peer} (h : At w g x) (v : Nat) : At (w.setCell ⟨g, 1, none⟩ (.int .u64 (v : Int))) g { x with entry := { x.entry with id := v } } := h.stored 1 _
theorem At.set_entry_since {w : World} {g : Nat} {x : Peer} (h : At w g x) (v : Int) : At (w.setCell ⟨g, 2, none⟩ (.int .i64 v)) g { x with entry := { x.entry with since := v } } := h.stored 2 _
theorem At.set_entry_till {w : World} {g : Nat} {x : Peer} (h : At w g x) (v : Int) : At (w.setCell ⟨g, 3, none⟩ (.int .i64 v)) g { x with entry := { x.entry with till := v } } := h.stored 3 _
theorem At.set_entry_index {w : World} {g : Nat} {x : Peer} (h : At w g x) (v : Int) : At (w.setCell ⟨g, 4, none⟩ (.int .i64 v)) g { x with entry := { x.entry with index := v } } := h.stored 4 _
theorem At.set_entry_tag {w : World} {g : Nat} {x : Peer} (h : At w g x) (v : List UInt8) : At (w.setCell ⟨g, 5, none⟩ (.string ⟨v.toArray⟩)) g { x with entry := { x.entry with tag := v } } := h.stored 5 _
theorem At.set_since {w : World} {g : Nat} {x : Peer} (h : At w g x) (v : Int) : At (w.setCell ⟨g, 6, none⟩ (.int .i64 v)) g { x with since := v } := h.stored 6 _
theorem At.set_under {w : World} {g : Nat} {x : Peer} (h : At w g x) (v : Int) : At (w.setCell ⟨g, 7, none⟩ (.int .i64 v)) g { x with under := v } := h.stored 7 _
end Peer
end Go.Proofs.Ytknccbdcfpncnaa
