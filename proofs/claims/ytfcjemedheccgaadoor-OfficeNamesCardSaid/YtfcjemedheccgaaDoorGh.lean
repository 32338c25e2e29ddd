/- api.Entry as a structure: its cells, opened, in a block. (Written by tools/mkrec.py.) Entries as values. What the document's in of layer 10 answers. What the document's Name of layer 10 answers. The document's Right. -/
import Derived.Test.YtfcjemedheccgaaDoorGe
import Derived.Test.YtfcjemedheccgaaDoorGg
import Derived.Test.YtfcjemedheccgaaDoorGb
import Derived.Test.YtfcjemedheccgaaDoorGc
namespace Go.Proofs.YtfcjemedheccgaaDoor
set_option maxRecDepth 100000
open Go.RowKit Go.ChangeShapes Go.WideShapes Go.ChangeAt

structure Ent where
  name : List UInt8
  id : Nat
  since : Int
  till : Int
  index : Int
  tag : List UInt8
deriving DecidableEq
namespace Ent
def enc (x : Ent) : List Value := [.string ⟨x.name.toArray⟩, .int .u64 (x.id : Int), .int .i64 x.since, .int .i64 x.till, .int .i64 x.index, .string ⟨x.tag.toArray⟩]
def ks : List CK := [.str, .int .u64, .int .i64, .int .i64, .int .i64, .str]
abbrev val (x : Ent) : Value := .agg x.enc.toArray
theorem len (x : Ent) : x.enc.length = 6 := rfl
theorem fits (x : Ent) : Fits ks x.enc := ⟨⟨_, rfl⟩, ⟨_, rfl⟩, ⟨_, rfl⟩, ⟨_, rfl⟩, ⟨_, rfl⟩, ⟨_, rfl⟩, trivial⟩
theorem one (x : Ent) : x.enc.toArray.all (·.oneCell') = true := by simp [enc, Value.oneCell']
theorem isRec : Rec Tryd.prog 48 ks := ⟨by kernel_rfl, by kernel_rfl, by kernel_rfl⟩
theorem size (x : Ent) : (Tryd.prog.info? 48).map (·.size) = some x.enc.toArray.size := by
  have h : (Tryd.prog.info? 48).map (·.size) = some 6 := by kernel_rfl
  exact h
def zero : Ent := ⟨[], 0, 0, 0, 0, []⟩
theorem zero_is : (Tryd.prog.info? 48).map (·.zero) = some (some (.agg zero.enc.toArray)) := by kernel_rfl
/-- Its numbers are of their types. -/
structure Ok (x : Ent) : Prop where
  id_ok : x.id < 18446744073709551616
  since_ok : -9223372036854775808 ≤ x.since ∧ x.since ≤ 9223372036854775807
  till_ok : -9223372036854775808 ≤ x.till ∧ x.till ≤ 9223372036854775807
  index_ok : -9223372036854775808 ≤ x.index ∧ x.index ≤ 9223372036854775807
theorem of_fits {cs : List Value} (h : FitsW ks cs) : ∃ x : Ent, cs = x.enc ∧ x.Ok := by
  obtain ⟨_, r0, rfl, ⟨z0, rfl⟩, q0⟩ := FitsW.uncons h
  obtain ⟨_, r1, rfl, ⟨z1, rfl, w1⟩, q1⟩ := FitsW.uncons q0
  obtain ⟨_, r2, rfl, ⟨z2, rfl, w2⟩, q2⟩ := FitsW.uncons q1
  obtain ⟨_, r3, rfl, ⟨z3, rfl, w3⟩, q3⟩ := FitsW.uncons q2
  obtain ⟨_, r4, rfl, ⟨z4, rfl, w4⟩, q4⟩ := FitsW.uncons q3
  obtain ⟨_, r5, rfl, ⟨z5, rfl⟩, q5⟩ := FitsW.uncons q4
  have hn := FitsW.nil q5
  subst hn
  have b1 := bounds_u64 w1
  obtain ⟨n1, rfl⟩ := Int.eq_ofNat_of_zero_le b1.1
  have b2 := bounds_i64 w2
  have b3 := bounds_i64 w3
  have b4 := bounds_i64 w4
  exact ⟨⟨z0, n1, z2, z3, z4, z5⟩, rfl, ⟨(by show (n1 : Nat) < 18446744073709551616; have := b1.2; omega), b2, b3, b4⟩⟩
theorem opened {H : Type} {en : TypeId × Value → H} {W : World} {b base : Nat} {sp : Nat → Bool} {hd : Bool} {v : Value} {d : DataW H} {p : List MemPlace} (hv : Value.okWide Tryd.prog W .any base 48 v) (h : DataW.Trod en Tryd.prog W b sp hd 48 v d p) : ∃ x : Ent, v = x.val ∧ x.Ok := by
  obtain ⟨cs, rfl, hf⟩ := open_rec isRec hv h
  obtain ⟨x, rfl, hx⟩ := of_fits hf
  exact ⟨x, rfl, hx⟩
theorem isElem : Elem Tryd.prog 40 48 ks := ⟨isRec, Tryd.underlying40, by decide, by
  have h : ((Tryd.prog.info? 48).map fun i => (i.zero, i.size, decide (i.bytes ≤ 8000))) = some (some (.agg zero.enc.toArray), 6, true) := by kernel_rfl
  cases hi : Tryd.prog.info? 48 with
  | none => rw [hi] at h; cases h
  | some i =>
    rw [hi] at h
    simp only [Option.map_some, Option.some.injEq, Prod.mk.injEq, decide_eq_true_eq] at h
    exact ⟨i, _, rfl, h.1, h.2.1, rfl, h.2.2⟩⟩
/-- A slice of one. -/
theorem build_one (x : Ent) : filled 6 1 zero.enc.toArray [(0, x.val)] = some x.enc.toArray := by kernel_rfl
theorem info : ∃ i, Tryd.prog.info? 48 = some i ∧ i.zero = some (.agg zero.enc.toArray) ∧ i.size = 6 := by
  obtain ⟨i, z, h1, h2, h3, -, -⟩ := isElem.zero
  have h := zero_is
  rw [h1, Option.map_some, h2] at h
  injection h with h
  injection h with h
  exact ⟨i, h1, by rw [h2, h], h3⟩
theorem wpList_one {ops : Array Oper} {rest : List Oper} {o : Oper} {a : Act} {w : World} {Q : Exit → Act → World → Prop} (hgd : o.guard = none) (y : Operand) (ho : o.op = .buildSlice 40 1 #[(0, y)]) (x : Ent) (hy : a.eval y = x.val)
    (h : ∀ w', Below w.heap.size w w' → RowsAt w' (.slice (some ⟨w.heap.size, 0, none⟩) 1 1) 6 [x.enc] → w'.heap.size = w.heap.size + 1 → wpList Tryd.prog ops Q rest (a.put o.dst (.slice (some ⟨w.heap.size, 0, none⟩) 1 1)) w') : wpList Tryd.prog ops Q (o :: rest) a w := by
  obtain ⟨i, h1, h2, h3⟩ := info
  exact wpList_buildSlice hgd Tryd.underlying40 h1 h2 1 (by rw [h3]; decide) (by rw [h3]; decide) _ ho #[(0, x.val)] (by simp [hy]) x.enc.toArray (by rw [h3]; exact build_one x) fun w' b q z => h w' b (rows_one q (Nat.le_refl _)) z
theorem opened_all {H : Type} {en : TypeId × Value → H} {W : World} {b : Nat} {sp : Nat → Bool} {hd : Bool} {a : Option Addr} {len cap : Nat} {d : DataW H} {p : List MemPlace} (h : DataW.Trod en Tryd.prog W b sp hd 40 (.slice a len cap) d p) : ∃ l : List Ent, RowsAt W (.slice a len cap) 6 (l.map enc) ∧ ∀ x ∈ l, x.Ok := by
  obtain ⟨L, hL, hf⟩ := open_rows Tryd.underlying40 isRec h
  have hex : ∀ L : List (List Value), (∀ c ∈ L, FitsW ks c) → ∃ l : List Ent, L = l.map enc ∧ ∀ x ∈ l, x.Ok := by
    intro L
    induction L with
    | nil => exact fun _ => ⟨[], rfl, fun x hx => by cases hx⟩
    | cons c r ih =>
      intro hf
      obtain ⟨x, rfl, ox⟩ := of_fits (hf c (List.mem_cons_self ..))
      obtain ⟨l, rfl, ol⟩ := ih fun c hc => hf c (List.mem_cons_of_mem _ hc)
      exact ⟨x :: l, rfl, fun y hy => by rcases List.mem_cons.1 hy with rfl | h
                                         · exact ox
                                         · exact ol y h⟩
  obtain ⟨l, rfl, ol⟩ := hex L hf
  exact ⟨l, hL, ol⟩
theorem same (x y : Ent) : eqCells x.enc y.enc = decide (x = y) := by
  rw [Bool.eq_iff_iff, decide_eq_true_eq]
  constructor
  · intro h
    simp only [enc, eqCells, cellEq, Bool.and_eq_true, beq_iff_eq, Bool.and_true, ba_list] at h
    obtain ⟨h0, h1, h2, h3, h4, h5⟩ := h
    obtain ⟨a1, a2, a3, a4, a5, a6⟩ := x
    obtain ⟨b7, b8, b9, b10, b11, b12⟩ := y
    simp only at h0 h1 h2 h3 h4 h5
    have h1 := Int.ofNat.inj h1
    subst h0 h1 h2 h3 h4 h5
    rfl
  · rintro rfl
    exact eqCells_refl x.fits
theorem eq_run (x y : Ent) (w : World) : (binOp .eql 48 x.val y.val).run Tryd.prog w = .ok (.bool (decide (x = y))) w := by
  rw [← same]
  exact run_eq_rec isRec _ _ x.fits y.fits w
/-- In a block. -/
abbrev At (w : World) (g : Nat) (x : Ent) : Prop := Whole w g 48 x.enc.toArray
theorem At.cells {w : World} {g : Nat} {x : Ent} (h : At w g x) : w.cell? ⟨g, 0, none⟩ = some (.string ⟨x.name.toArray⟩) ∧ w.cell? ⟨g, 1, none⟩ = some (.int .u64 (x.id : Int)) ∧ w.cell? ⟨g, 2, none⟩ = some (.int .i64 x.since) ∧ w.cell? ⟨g, 3, none⟩ = some (.int .i64 x.till) ∧ w.cell? ⟨g, 4, none⟩ = some (.int .i64 x.index) ∧ w.cell? ⟨g, 5, none⟩ = some (.string ⟨x.tag.toArray⟩) :=
  ⟨h.at_ 0, h.at_ 1, h.at_ 2, h.at_ 3, h.at_ 4, h.at_ 5⟩
theorem At.at_name {w : World} {g : Nat} {x : Ent} (h : At w g x) : w.cell? ⟨g, 0, none⟩ = some (.string ⟨x.name.toArray⟩) := h.at_ 0
theorem At.at_id {w : World} {g : Nat} {x : Ent} (h : At w g x) : w.cell? ⟨g, 1, none⟩ = some (.int .u64 (x.id : Int)) := h.at_ 1
theorem At.at_since {w : World} {g : Nat} {x : Ent} (h : At w g x) : w.cell? ⟨g, 2, none⟩ = some (.int .i64 x.since) := h.at_ 2
theorem At.at_till {w : World} {g : Nat} {x : Ent} (h : At w g x) : w.cell? ⟨g, 3, none⟩ = some (.int .i64 x.till) := h.at_ 3
theorem At.at_index {w : World} {g : Nat} {x : Ent} (h : At w g x) : w.cell? ⟨g, 4, none⟩ = some (.int .i64 x.index) := h.at_ 4
theorem At.at_tag {w : World} {g : Nat} {x : Ent} (h : At w g x) : w.cell? ⟨g, 5, none⟩ = some (.string ⟨x.tag.toArray⟩) := h.at_ 5
theorem At.set_name {w : World} {g : Nat} {x : Ent} (h : At w g x) (v : List UInt8) : At (w.setCell ⟨g, 0, none⟩ (.string ⟨v.toArray⟩)) g { x with name := v } := h.stored 0 _
theorem At.set_id {w : World} {g : Nat} {x : Ent} (h : At w g x) (v : Nat) : At (w.setCell ⟨g, 1, none⟩ (.int .u64 (v : Int))) g { x with id := v } := h.stored 1 _
theorem At.set_since {w : World} {g : Nat} {x : Ent} (h : At w g x) (v : Int) : At (w.setCell ⟨g, 2, none⟩ (.int .i64 v)) g { x with since := v } := h.stored 2 _
theorem At.set_till {w : World} {g : Nat} {x : Ent} (h : At w g x) (v : Int) : At (w.setCell ⟨g, 3, none⟩ (.int .i64 v)) g { x with till := v } := h.stored 3 _
theorem At.set_index {w : World} {g : Nat} {x : Ent} (h : At w g x) (v : Int) : At (w.setCell ⟨g, 4, none⟩ (.int .i64 v)) g { x with index := v } := h.stored 4 _
theorem At.set_tag {w : World} {g : Nat} {x : Ent} (h : At w g x) (v : List UInt8) : At (w.setCell ⟨g, 5, none⟩ (.string ⟨v.toArray⟩)) g { x with tag := v } := h.stored 5 _
end Ent
end Go.Proofs.YtfcjemedheccgaaDoor

namespace Go.Proofs.YtfcjemedheccgaaDoor
set_option maxRecDepth 100000
open Go.RowKit

def entW (a b : Ent) : Bool := decide (a.name = b.name) && decide (a.id = b.id)

end Go.Proofs.YtfcjemedheccgaaDoor

namespace Go.Proofs.YtfcjemedheccgaaDoor
set_option maxRecDepth 100000
open Go.RowKit

set_option maxHeartbeats 1000000 in
theorem refIn_any (c : UInt8) (l : List UInt8) (hl : l.length ≤ 100000) (w : World) :
    Calls Tryd.prog 56 #[.int .u8 (c.toNat : Int), .string ⟨l.toArray⟩] w fun e w' => e = .returned (.bool (inB l c)) ∧ w = w' := by
  have HL := Lib.hid hl
  go_enter Tryd.func56, Tryd.ntmps56
  go_wp2_with fail
  go_loop [5] (fun i => ∃ k : Nat, k ≤ l.length ∧ i = .int .i64 (k : Int) ∧ ∀ i, i < k → l[i]? ≠ some c) (fun i => l.length - (intOf i).toNat)
  case atStart => exact ⟨0, Nat.zero_le _, rfl, fun i hi => by omega⟩
  case round =>
    obtain ⟨k, hk, rfl, hb⟩ := hrel
    have HB := Lib.hid hb
    clear hb
    by_cases hlt : k < l.length
    · have dk : decide ((k : Int) < (l.length : Int)) = true := by simp; omega
      have dkn : decide (k < l.length) = true := by simp; omega
      obtain ⟨d, hd⟩ : ∃ d, l[k]? = some d := ⟨_, List.getElem?_eq_getElem hlt⟩
      have HD := Lib.hid hd
      have jk : (k : Int) < (l.length : Int) := by omega
      have r := str_at l k d hd
      have r4 : IntKind.i64.wrap ((k : Int) + 1) = ((k + 1 : Nat) : Int) := by rw [IntWalk.i64_in _ (by omega)]; omega
      clear hd
      by_cases hc : d = c
      · have e : ((d.toNat : Int) == (c.toNat : Int)) = true := by rw [hc]; simp
        have E : Hid (inB l c = true) := Lib.hid (inB_true l c (List.mem_of_getElem? (by rw [HD.out, hc])))
        clear hc
        go_wp2
        go_ret
        exact ⟨by rw [E.out]; rfl, rfl⟩
      · have e : ((d.toNat : Int) == (c.toNat : Int)) = false := by
          rw [beq_eq_false_iff_ne]
          exact fun e => hc (UInt8.toNat_inj.1 (by omega))
        have HC := Lib.hid hc
        clear hc
        go_wp2
        refine ⟨⟨k + 1, by omega, by go_num, fun i hi => ?_⟩, by simp [intOf]; omega⟩
        rcases Nat.lt_or_ge i k with h | h
        · exact HB.out i h
        · obtain rfl : i = k := by omega
          rw [HD.out]
          intro e
          injection e with e
          exact HC.out e
    · obtain rfl : k = l.length := by omega
      have dk : decide ((l.length : Int) < (l.length : Int)) = false := by simp
      have E : Hid (inB l c = false) := Lib.hid (by
        cases h : inB l c with
        | false => rfl
        | true =>
          obtain ⟨i, hi⟩ := List.getElem?_of_mem (inB_mem l c h)
          have hil := (List.getElem?_eq_some_iff.1 hi).1
          exact absurd hi (HB.out i hil))
      go_wp2
      go_ret
      exact ⟨by rw [E.out]; rfl, rfl⟩
end Go.Proofs.YtfcjemedheccgaaDoor

namespace Go.Proofs.YtfcjemedheccgaaDoor
set_option maxRecDepth 100000
open Go.RowKit

theorem refIn_low (c : UInt8) (w : World) :
    Calls Tryd.prog 56 #[.int .u8 (c.toNat : Int), .string ⟨#[97, 98, 99, 100, 101, 102, 103, 104, 105, 106, 107, 108, 109, 110, 111, 112, 113, 114, 115, 116, 117, 118, 119, 120, 121, 122]⟩] w fun e w' => e = .returned (.bool (inB lowL c)) ∧ w = w' :=
  refIn_any c lowL (by decide) w
theorem refIn_name (c : UInt8) (w : World) :
    Calls Tryd.prog 56 #[.int .u8 (c.toNat : Int), .string ⟨#[97, 98, 99, 100, 101, 102, 103, 104, 105, 106, 107, 108, 109, 110, 111, 112, 113, 114, 115, 116, 117, 118, 119, 120, 121, 122, 48, 49, 50, 51, 52, 53, 54, 55, 56, 57, 45]⟩] w fun e w' => e = .returned (.bool (inB nameC c)) ∧ w = w' :=
  refIn_any c nameC (by decide) w

set_option maxHeartbeats 1000000 in
theorem refName_any (l : List UInt8) (w : World) :
    Calls Tryd.prog 41 #[.string ⟨l.toArray⟩] w fun e w' => e = .returned (.bool (nameB l)) ∧ w = w' := by
  by_cases h1 : l.length < 1
  · have HN : Hid (nameB l = false) := Lib.hid (by rw [nameB, decide_eq_false (by omega)]; rfl)
    have y1 : decide ((l.length : Int) < 1) = true := by simp; omega
    go_enter Tryd.func41, Tryd.ntmps41
    go_wp2
    go_ret
    exact ⟨by rw [HN.out]; rfl, rfl⟩
  have y1 : decide ((l.length : Int) < 1) = false := by simp; omega
  by_cases h2 : 16 < l.length
  · have HN : Hid (nameB l = false) := Lib.hid (by rw [nameB, decide_eq_false (show ¬ l.length ≤ 16 by omega)]; simp)
    have y2 : decide (16 < (l.length : Int)) = true := by simp; omega
    have y2n : decide (16 < l.length) = true := by simp; omega
    clear h1
    go_enter Tryd.func41, Tryd.ntmps41
    go_wp2
    go_ret
    exact ⟨by rw [HN.out]; rfl, rfl⟩
  have y2 : decide (16 < (l.length : Int)) = false := by simp; omega
  have y2n : decide (16 < l.length) = false := by simp; omega
  have HB := Lib.hid (show 1 ≤ l.length ∧ l.length ≤ 16 by omega)
  obtain ⟨c0, hc0⟩ : ∃ c, l[0]? = some c := ⟨_, List.getElem?_eq_getElem (by omega)⟩
  have rat := str_at l 0 c0 hc0
  have jk0 : (0 : Int) < (l.length : Int) := by omega
  have jk0n : 0 < l.length := by omega
  have HH := Lib.hid (show l.head?.any (inB lowL) = inB lowL c0 by rw [List.head?_eq_getElem?, hc0]; rfl)
  have C0 := fun w => Lib.hid (refIn_low c0 w)
  clear h1 h2 hc0
  cases hb0 : inB lowL c0 with
  | false =>
    have HN : Hid (nameB l = false) := Lib.hid (by rw [nameB, HH.out, hb0]; simp)
    simp only [hb0] at C0
    go_enter Tryd.func41, Tryd.ntmps41
    go_wp2_with fail
    refine (C0 w).out.mono ?_
    rintro e w1 ⟨rfl, rfl⟩
    go_wp2
    go_ret
    exact ⟨by rw [HN.out]; rfl, rfl⟩
  | true =>
    simp only [hb0] at C0
    have HH2 := Lib.hid (HH.out.trans hb0)
    clear hb0 HH
    go_enter Tryd.func41, Tryd.ntmps41
    go_wp2_with fail
    refine (C0 w).out.mono ?_
    rintro e w1 ⟨rfl, rfl⟩
    clear C0 rat
    go_wp2_with fail
    go_loop [3] (fun i => ∃ k : Nat, k ≤ l.length ∧ i = .int .i64 (k : Int) ∧ (l.take k).all (inB nameC) = true) (fun i => l.length - (intOf i).toNat)
    case atStart => exact ⟨0, Nat.zero_le _, rfl, rfl⟩
    case round =>
      obtain ⟨k, hk, rfl, ha⟩ := hrel
      have HA := Lib.hid ha
      clear ha
      by_cases hlt : k < l.length
      · have dk : decide ((k : Int) < (l.length : Int)) = true := by simp; omega
        have dkn : decide (k < l.length) = true := by simp; omega
        obtain ⟨c, hc⟩ : ∃ c, l[k]? = some c := ⟨_, List.getElem?_eq_getElem hlt⟩
        have jk : (k : Int) < (l.length : Int) := by omega
        have r := str_at l k c hc
        have r4 : IntKind.i64.wrap ((k : Int) + 1) = ((k + 1 : Nat) : Int) := by have := HB.out; rw [IntWalk.i64_in _ (by omega)]; omega
        have HT := Lib.hid (all_take (inB nameC) l k c hc)
        have HF := Lib.hid (all_not (inB nameC) l k c hc)
        have CC := fun w => Lib.hid (refIn_name c w)
        clear hc
        cases hb : inB nameC c with
        | false =>
          have HN : Hid (nameB l = false) := Lib.hid (by rw [nameB, HF.out hb]; simp)
          simp only [hb] at CC
          clear hb HF HT
          go_wp2_with fail
          refine (CC w).out.mono ?_
          rintro e w1 ⟨rfl, rfl⟩
          go_wp2
          go_ret
          exact ⟨by rw [HN.out]; rfl, rfl⟩
        | true =>
          have HK := Lib.hid hb
          simp only [hb] at CC
          clear hb HF
          go_wp2_with fail
          refine (CC w).out.mono ?_
          rintro e w1 ⟨rfl, rfl⟩
          go_wp2
          exact ⟨⟨k + 1, by omega, by go_num, by rw [HT.out, HA.out, HK.out]; rfl⟩, by simp [intOf]; omega⟩
      · obtain rfl : k = l.length := by omega
        have dk : decide ((l.length : Int) < (l.length : Int)) = false := by simp
        have HI : Hid (nameB l = true) := Lib.hid (by
          have e := HA.out
          rw [List.take_length] at e
          rw [nameB, e, HH2.out, decide_eq_true HB.out.1, decide_eq_true HB.out.2]
          rfl)
        go_wp2
        go_ret
        exact ⟨by rw [HI.out]; rfl, rfl⟩
end Go.Proofs.YtfcjemedheccgaaDoor

namespace Go.Proofs.YtfcjemedheccgaaDoor
set_option maxRecDepth 100000
open Go.RowKit

def entR (e : Ent) : Bool := nameB e.name && decide (e.tag.length = 32) && decide (0 ≤ e.since) && decide (e.since ≤ e.till) && decide (e.till ≤ 1073741824) && decide (0 ≤ e.index) && decide (e.index ≤ 64)

end Go.Proofs.YtfcjemedheccgaaDoor
