/- What the document's Name of layer 10 answers. The document's Right. Entries in memory: a block that is one, read whole, stored whole, compared. The document's Body. -/
import Derived.Test.YtpcdbpijgmninaaDoorGj
import Derived.StillTailTactics
import Derived.Test.YtpcdbpijgmninaaDoorGg
namespace Go.Proofs.YtpcdbpijgmninaaDoor
set_option maxRecDepth 100000
open Go.RowKit

theorem refIn_low (c : UInt8) (w : World) :
    Calls Tryd.prog 88 #[.int .u8 (c.toNat : Int), .string ⟨#[97, 98, 99, 100, 101, 102, 103, 104, 105, 106, 107, 108, 109, 110, 111, 112, 113, 114, 115, 116, 117, 118, 119, 120, 121, 122]⟩] w fun e w' => e = .returned (.bool (inB lowL c)) ∧ w = w' :=
  refIn_any c lowL (by decide) w
theorem refIn_name (c : UInt8) (w : World) :
    Calls Tryd.prog 88 #[.int .u8 (c.toNat : Int), .string ⟨#[97, 98, 99, 100, 101, 102, 103, 104, 105, 106, 107, 108, 109, 110, 111, 112, 113, 114, 115, 116, 117, 118, 119, 120, 121, 122, 48, 49, 50, 51, 52, 53, 54, 55, 56, 57, 45]⟩] w fun e w' => e = .returned (.bool (inB nameC c)) ∧ w = w' :=
  refIn_any c nameC (by decide) w

set_option maxHeartbeats 1000000 in
theorem refName_any (l : List UInt8) (w : World) :
    Calls Tryd.prog 72 #[.string ⟨l.toArray⟩] w fun e w' => e = .returned (.bool (nameB l)) ∧ w = w' := by
  by_cases h1 : l.length < 1
  · have HN : Hid (nameB l = false) := Lib.hid (by rw [nameB, decide_eq_false (by omega)]; rfl)
    have y1 : decide ((l.length : Int) < 1) = true := by simp; omega
    go_enter Tryd.func72, Tryd.ntmps72
    go_wp2
    go_ret
    exact ⟨by rw [HN.out]; rfl, rfl⟩
  have y1 : decide ((l.length : Int) < 1) = false := by simp; omega
  by_cases h2 : 16 < l.length
  · have HN : Hid (nameB l = false) := Lib.hid (by rw [nameB, decide_eq_false (show ¬ l.length ≤ 16 by omega)]; simp)
    have y2 : decide (16 < (l.length : Int)) = true := by simp; omega
    have y2n : decide (16 < l.length) = true := by simp; omega
    clear h1
    go_enter Tryd.func72, Tryd.ntmps72
    go_wp2
    go_ret
    exact ⟨by rw [HN.out]; rfl, rfl⟩
  have y2 : decide (16 < (l.length : Int)) = false := by simp; omega
  have y2n : decide (16 < l.length) = false := by simp; omega
  have HB := Lib.hid (show 1 ≤ l.length ∧ l.length ≤ 16 by omega)
  obtain ⟨c0, hc0⟩ : ∃ c, l[0]? = some c := ⟨_, List.getElem?_eq_getElem (by omega)⟩
  have rat := str_at l 0 c0 hc0
  have jk0 : (0 : Int) < (l.length : Int) := by omega
  have jk0n : 0 < l.length := by omega
  have HH := Lib.hid (show l.head?.any (inB lowL) = inB lowL c0 by rw [List.head?_eq_getElem?, hc0]; rfl)
  have C0 := fun w => Lib.hid (refIn_low c0 w)
  clear h1 h2 hc0
  cases hb0 : inB lowL c0 with
  | false =>
    have HN : Hid (nameB l = false) := Lib.hid (by rw [nameB, HH.out, hb0]; simp)
    simp only [hb0] at C0
    go_enter Tryd.func72, Tryd.ntmps72
    go_wp2_with fail
    refine (C0 w).out.mono ?_
    rintro e w1 ⟨rfl, rfl⟩
    go_wp2
    go_ret
    exact ⟨by rw [HN.out]; rfl, rfl⟩
  | true =>
    simp only [hb0] at C0
    have HH2 := Lib.hid (HH.out.trans hb0)
    clear hb0 HH
    go_enter Tryd.func72, Tryd.ntmps72
    go_wp2_with fail
    refine (C0 w).out.mono ?_
    rintro e w1 ⟨rfl, rfl⟩
    clear C0 rat
    go_wp2_with fail
    go_loop [3] (fun i => ∃ k : Nat, k ≤ l.length ∧ i = .int .i64 (k : Int) ∧ (l.take k).all (inB nameC) = true) (fun i => l.length - (intOf i).toNat)
    case atStart => exact ⟨0, Nat.zero_le _, rfl, rfl⟩
    case round =>
      obtain ⟨k, hk, rfl, ha⟩ := hrel
      have HA := Lib.hid ha
      clear ha
      by_cases hlt : k < l.length
      · have dk : decide ((k : Int) < (l.length : Int)) = true := by simp; omega
        have dkn : decide (k < l.length) = true := by simp; omega
        obtain ⟨c, hc⟩ : ∃ c, l[k]? = some c := ⟨_, List.getElem?_eq_getElem hlt⟩
        have jk : (k : Int) < (l.length : Int) := by omega
        have r := str_at l k c hc
        have r4 : IntKind.i64.wrap ((k : Int) + 1) = ((k + 1 : Nat) : Int) := by have := HB.out; rw [IntWalk.i64_in _ (by omega)]; omega
        have HT := Lib.hid (all_take (inB nameC) l k c hc)
        have HF := Lib.hid (all_not (inB nameC) l k c hc)
        have CC := fun w => Lib.hid (refIn_name c w)
        clear hc
        cases hb : inB nameC c with
        | false =>
          have HN : Hid (nameB l = false) := Lib.hid (by rw [nameB, HF.out hb]; simp)
          simp only [hb] at CC
          clear hb HF HT
          go_wp2_with fail
          refine (CC w).out.mono ?_
          rintro e w1 ⟨rfl, rfl⟩
          go_wp2
          go_ret
          exact ⟨by rw [HN.out]; rfl, rfl⟩
        | true =>
          have HK := Lib.hid hb
          simp only [hb] at CC
          clear hb HF
          go_wp2_with fail
          refine (CC w).out.mono ?_
          rintro e w1 ⟨rfl, rfl⟩
          go_wp2
          exact ⟨⟨k + 1, by omega, by go_num, by rw [HT.out, HA.out, HK.out]; rfl⟩, by simp [intOf]; omega⟩
      · obtain rfl : k = l.length := by omega
        have dk : decide ((l.length : Int) < (l.length : Int)) = false := by simp
        have HI : Hid (nameB l = true) := Lib.hid (by
          have e := HA.out
          rw [List.take_length] at e
          rw [nameB, e, HH2.out, decide_eq_true HB.out.1, decide_eq_true HB.out.2]
          rfl)
        go_wp2
        go_ret
        exact ⟨by rw [HI.out]; rfl, rfl⟩
end Go.Proofs.YtpcdbpijgmninaaDoor

namespace Go.Proofs.YtpcdbpijgmninaaDoor
set_option maxRecDepth 100000
open Go.RowKit

def entR (e : Ent) : Bool := nameB e.name && decide (e.tag.length = 32) && decide (0 ≤ e.since) && decide (e.since ≤ e.till) && decide (e.till ≤ 1073741824) && decide (0 ≤ e.index) && decide (e.index ≤ 64)

set_option maxHeartbeats 1000000 in
theorem refRight_any (a : Ent) (w : World) :
    Calls Tryd.prog 73 #[a.val] w fun e w' => e = .returned (.bool (entR a)) ∧ Below w.heap.size w w' := by
  obtain ⟨n, i, f, u, x, t⟩ := a
  simp only [Ent.val, Ent.enc]
  obtain ⟨b0, h0⟩ : ∃ b, b = nameB n := ⟨_, rfl⟩
  obtain ⟨b2, h2⟩ : ∃ b, b = decide (0 ≤ f) := ⟨_, rfl⟩
  obtain ⟨b3, h3⟩ : ∃ b, b = decide (f ≤ u) := ⟨_, rfl⟩
  obtain ⟨b4, h4⟩ : ∃ b, b = decide (u ≤ 1073741824) := ⟨_, rfl⟩
  obtain ⟨b5, h5⟩ : ∃ b, b = decide (0 ≤ x) := ⟨_, rfl⟩
  obtain ⟨b6, h6⟩ : ∃ b, b = decide (x ≤ 64) := ⟨_, rfl⟩
  have CN := fun w => Lib.hid (refName_any n w)
  rw [← h0] at CN
  have r2 := h2.symm
  have r3 := h3.symm
  have r4 := h4.symm
  have r5 := h5.symm
  have r6 := h6.symm
  by_cases ht : t.length = 32
  · have HB : Hid (entR ⟨n, i, f, u, x, t⟩ = (b0 && b2 && b3 && b4 && b5 && b6)) := Lib.hid (by
      rw [entR, ← h0, ← h2, ← h3, ← h4, ← h5, ← h6, decide_eq_true ht, Bool.and_true])
    have q1 : ((t.length : Int) != 32) = false := by rw [ht]; rfl
    have q2 : (t.length != 32) = false := by rw [ht]; rfl
    clear h0 h2 h3 h4 h5 h6 ht
    cases b0 <;> cases b2 <;> cases b3 <;> cases b4 <;> cases b5 <;> cases b6
    all_goals
      go_enter Tryd.func73, Tryd.ntmps73
      go_wp2_with fail
      refine (CN _).out.mono ?_
      rintro e w1 ⟨rfl, rfl⟩
      go_wp2
      go_ret
      exact ⟨by rw [HB.out]; rfl, (Below.refl _ _).alloc (Nat.le_refl _) _⟩
  · have HB : Hid (entR ⟨n, i, f, u, x, t⟩ = false) := Lib.hid (by
      rw [entR, decide_eq_false ht]
      simp)
    have q1 : ((t.length : Int) != 32) = true := by simp; omega
    have q2 : (t.length != 32) = true := by simp; omega
    clear h0 h2 h3 h4 h5 h6 ht
    cases b0
    all_goals
      go_enter Tryd.func73, Tryd.ntmps73
      go_wp2_with fail
      refine (CN _).out.mono ?_
      rintro e w1 ⟨rfl, rfl⟩
      go_wp2
      go_ret
      exact ⟨by rw [HB.out]; rfl, (Below.refl _ _).alloc (Nat.le_refl _) _⟩
end Go.Proofs.YtpcdbpijgmninaaDoor

namespace Go.Proofs.YtpcdbpijgmninaaDoor
set_option maxRecDepth 100000
open Go.RowKit

def Ent.cells (e : Ent) : Array Value := #[.string ⟨e.name.toArray⟩, .int .u64 (e.id : Int), .int .i64 e.since, .int .i64 e.till, .int .i64 e.index, .string ⟨e.tag.toArray⟩]
theorem Ent.val_cells (e : Ent) : e.val = .agg e.cells := rfl
theorem Ent.cells_size (e : Ent) : e.cells.size = 6 := rfl
theorem Ent.cells_one (e : Ent) : e.cells.all (·.oneCell') = true := by simp [Ent.cells, Value.oneCell']
theorem ent_size : (Tryd.prog.info? 24).map (·.size) = some 6 := by kernel_rfl

theorem ent_size' (e : Ent) : (Tryd.prog.info? 24).map (·.size) = some e.cells.size := ent_size

/-- An entry in a block. -/
def EntAt (w : World) (g : Nat) (e : Ent) : Prop := Whole w g 24 e.cells
theorem EntAt.below {w w' : World} {B g : Nat} {e : Ent} (h : EntAt w g e) (hb : Below B w w') (hg : g < B) : EntAt w' g e := Whole.below h hb hg

/-- Its six cells. -/
theorem EntAt.six {w : World} {g : Nat} {e : Ent} (h : EntAt w g e) : w.cell? ⟨g, 0, none⟩ = some (.string ⟨e.name.toArray⟩) ∧ w.cell? ⟨g, 1, none⟩ = some (.int .u64 (e.id : Int)) ∧ w.cell? ⟨g, 2, none⟩ = some (.int .i64 e.since) ∧ w.cell? ⟨g, 3, none⟩ = some (.int .i64 e.till) ∧ w.cell? ⟨g, 4, none⟩ = some (.int .i64 e.index) ∧ w.cell? ⟨g, 5, none⟩ = some (.string ⟨e.tag.toArray⟩) :=
  ⟨h.at_ 0, h.at_ 1, h.at_ 2, h.at_ 3, h.at_ 4, h.at_ 5⟩

theorem load_ent {w : World} {g : Nat} {e : Ent} (h : EntAt w g e) : (loadVar 24 ⟨g, 0, none⟩).run Tryd.prog w = .ok e.val w := by
  obtain ⟨n, i, f, u, x, t⟩ := e
  have c0 := h.at_ 0
  have c1 := h.at_ 1
  have c2 := h.at_ 2
  have c3 := h.at_ 3
  have c4 := h.at_ 4
  have c5 := h.at_ 5
  simp [Ent.cells] at c0 c1 c2 c3 c4 c5
  simp only [Ent.val, Ent.enc]
  go_simp

theorem exec_load_ent {ev : Operand → Value} {o : Oper} (x : Operand) (ho : o.op = .load 24 x) (g : Nat) (hx : ev x = .pointer (some ⟨g, 0, none⟩)) (e : Ent) (w : World) (hg : EntAt w g e) :
    (execOp ev o).run Tryd.prog w = .ok (.value e.val) w := by
  have h := load_ent hg
  unfold execOp
  simp [ho, hx, Instr.loadAt, Instr.sureAddr, h]
theorem wp_load_ent {o : Oper} {a : Act} {w : World} {K : Act → World → Prop} {Q : Exit → Act → World → Prop} (x : Operand) (ho : o.op = .load 24 x) (g : Nat) (hx : a.eval x = .pointer (some ⟨g, 0, none⟩)) (e : Ent) (hg : EntAt w g e)
    (h : K (a.put o.dst e.val) w) : o.wp Tryd.prog a w K Q := by
  have hl := load_ent hg
  unfold Oper.wp execOp
  simp only [ho, hx, Instr.loadAt, Instr.sureAddr, Sem.run_bind, Sem.run_pure, Result.andThen_ok, hl]
  exact h
theorem wpList_load_ent {ops : Array Oper} {rest : List Oper} {o : Oper} {a : Act} {w : World} {Q : Exit → Act → World → Prop} (hgd : o.guard = none) (x : Operand) (ho : o.op = .load 24 x) (g : Nat) (hx : a.eval x = .pointer (some ⟨g, 0, none⟩)) (e : Ent) (hg : EntAt w g e)
    (h : wpList Tryd.prog ops Q rest (a.put o.dst e.val) w) : wpList Tryd.prog ops Q (o :: rest) a w :=
  wpList_plain hgd fun _ hK => wp_load_ent x ho g hx e hg (hK _ _ h)

theorem wpList_load_ent_w {ops : Array Oper} {rest : List Oper} {o : Oper} {a : Act} {w : World} {Q : Exit → Act → World → Prop} (hw : Region.wanted o (yielded ops a.tmps) = true) (x : Operand) (ho : o.op = .load 24 x) (g : Nat) (hx : a.eval x = .pointer (some ⟨g, 0, none⟩)) (e : Ent) (hg : EntAt w g e)
    (h : wpList Tryd.prog ops Q rest (a.put o.dst e.val) w) : wpList Tryd.prog ops Q (o :: rest) a w :=
  wpList_step fun _ hK => by
    rw [if_pos hw]
    exact wp_load_ent x ho g hx e hg (hK _ _ h)

theorem eq_ent (a b : Ent) (t : TypeId) (w : World) (ht : t = 24) : (binOp .eql t a.val b.val).run Tryd.prog w = .ok (.bool (decide (a = b))) w := by
  subst ht
  obtain ⟨n1, i1, f1, u1, x1, t1⟩ := a
  obtain ⟨n2, i2, f2, u2, x2, t2⟩ := b
  simp only [Ent.val, Ent.enc]
  go_simp
  by_cases h1 : n1 = n2
  · by_cases h2 : i1 = i2
    · by_cases h3 : f1 = f2
      · by_cases h4 : u1 = u2
        · by_cases h5 : x1 = x2
          · by_cases h6 : t1 = t2
            · simp [h1, h2, h3, h4, h5, h6]
            · simp [h1, h2, h3, h4, h5, h6]
          · simp [h1, h2, h3, h4, h5]
        · simp [h1, h2, h3, h4]
      · simp [h1, h2, h3]
    · have h2' : ¬ ((i1 : Int) = (i2 : Int)) := by omega
      simp [h1, h2, h2']
  · simp [h1]
theorem neq_ent (a b : Ent) (t : TypeId) (w : World) (ht : t = 24) : (binOp .neq t a.val b.val).run Tryd.prog w = .ok (.bool (!decide (a = b))) w := by
  subst ht
  obtain ⟨n1, i1, f1, u1, x1, t1⟩ := a
  obtain ⟨n2, i2, f2, u2, x2, t2⟩ := b
  simp only [Ent.val, Ent.enc]
  go_simp
  by_cases h1 : n1 = n2
  · by_cases h2 : i1 = i2
    · by_cases h3 : f1 = f2
      · by_cases h4 : u1 = u2
        · by_cases h5 : x1 = x2
          · by_cases h6 : t1 = t2
            · simp [h1, h2, h3, h4, h5, h6]
            · simp [h1, h2, h3, h4, h5, h6]
          · simp [h1, h2, h3, h4, h5]
        · simp [h1, h2, h3, h4]
      · simp [h1, h2, h3]
    · have h2' : ¬ ((i1 : Int) = (i2 : Int)) := by omega
      simp [h1, h2, h2']
  · simp [h1]

theorem exec_eq_ent {ev : Operand → Value} {o : Oper} (x y : Operand) (t : TypeId) (ho : o.op = .binOp .eql 24 x y t) (a b : Ent) (hx : ev x = a.val) (hy : ev y = b.val) (q : Bool) (hq : q = decide (a = b)) (w : World) : (execOp ev o).run Tryd.prog w = .ok (.value (.bool q)) w := by
  have h := eq_ent a b 24 w rfl
  have hg : (eqGuard .eql 24 x y a.val b.val).run Tryd.prog w = .ok () w := by
    simp only [Ent.val, Ent.enc]
    go_simp
  unfold execOp
  simp [ho, hx, hy, h, hq, hg]
theorem exec_neq_ent {ev : Operand → Value} {o : Oper} (x y : Operand) (t : TypeId) (ho : o.op = .binOp .neq 24 x y t) (a b : Ent) (hx : ev x = a.val) (hy : ev y = b.val) (q : Bool) (hq : q = !decide (a = b)) (w : World) : (execOp ev o).run Tryd.prog w = .ok (.value (.bool q)) w := by
  have h := neq_ent a b 24 w rfl
  have hg : (eqGuard .neq 24 x y a.val b.val).run Tryd.prog w = .ok () w := by
    simp only [Ent.val, Ent.enc]
    go_simp
  unfold execOp
  simp [ho, hx, hy, h, hq, hg]

/-- The entry of nothing. -/
def ent0 : Ent := ⟨[], 0, 0, 0, 0, []⟩
theorem ent_zero : (Tryd.prog.info? 24).map (·.zero) = some (some ent0.val) := by kernel_rfl
theorem EntAt.name {w : World} {x : Nat} {e : Ent} (h : EntAt w x e) (n : List UInt8) : EntAt (w.setCell ⟨x, 0, none⟩ (.string ⟨n.toArray⟩)) x { e with name := n } := h.stored 0 _
theorem EntAt.id {w : World} {x : Nat} {e : Ent} (h : EntAt w x e) (n : Nat) : EntAt (w.setCell ⟨x, 1, none⟩ (.int .u64 (n : Int))) x { e with id := n } := h.stored 1 _
theorem EntAt.since {w : World} {x : Nat} {e : Ent} (h : EntAt w x e) (n : Int) : EntAt (w.setCell ⟨x, 2, none⟩ (.int .i64 n)) x { e with since := n } := h.stored 2 _
theorem EntAt.till {w : World} {x : Nat} {e : Ent} (h : EntAt w x e) (n : Int) : EntAt (w.setCell ⟨x, 3, none⟩ (.int .i64 n)) x { e with till := n } := h.stored 3 _
theorem EntAt.index {w : World} {x : Nat} {e : Ent} (h : EntAt w x e) (n : Int) : EntAt (w.setCell ⟨x, 4, none⟩ (.int .i64 n)) x { e with index := n } := h.stored 4 _
theorem EntAt.tag {w : World} {x : Nat} {e : Ent} (h : EntAt w x e) (n : List UInt8) : EntAt (w.setCell ⟨x, 5, none⟩ (.string ⟨n.toArray⟩)) x { e with tag := n } := h.stored 5 _

/-- One result: an entry in a block. -/
theorem results_ent {fn : Func} {p : Tmp} (h : fn.results = #[.cell p 24]) (tmps : Array Value) (w : World) (g : Nat) (e : Ent)
    (hp : tmps.getD p undef = .pointer (some ⟨g, 0, none⟩)) (hg : EntAt w g e) : (results fn tmps).run Tryd.prog w = .ok e.val w := by
  have hl := load_ent hg
  have hp' : tmps[p]?.getD undef = .pointer (some ⟨g, 0, none⟩) := by simpa using hp
  simp [results, h, hp', asAddr, hl]
/-- Results: an entry in a block, and one in a slot. -/
theorem results_ent_tmp {fn : Func} {p q : Tmp} (h : fn.results = #[.cell p 24, .tmp q]) (tmps : Array Value) (w : World) (g : Nat) (e : Ent)
    (hp : tmps.getD p undef = .pointer (some ⟨g, 0, none⟩)) (hg : EntAt w g e) : (results fn tmps).run Tryd.prog w = .ok (.tuple #[e.val, tmps.getD q undef]) w := by
  have hl := load_ent hg
  have hp' : tmps[p]?.getD undef = .pointer (some ⟨g, 0, none⟩) := by simpa using hp
  simp [results, h, hp', asAddr, hl]

end Go.Proofs.YtpcdbpijgmninaaDoor

namespace Go.Proofs.YtpcdbpijgmninaaDoor
set_option maxRecDepth 100000
open Go.RowKit

/-- A number of any sign, as 64 bits. -/
def uN (i : Int) : Nat := (i % 18446744073709551616).toNat
theorem uN_lt (i : Int) : uN i < 18446744073709551616 := by
  have := Int.emod_lt_of_pos i (show (0 : Int) < 18446744073709551616 by decide)
  have := Int.emod_nonneg i (show (18446744073709551616 : Int) ≠ 0 by decide)
  rw [uN]
  omega
theorem uN_wrap (i : Int) : IntKind.u64.wrap i = (uN i : Int) := by
  have := Int.emod_nonneg i (show (18446744073709551616 : Int) ≠ 0 by decide)
  rw [uN, Int.toNat_of_nonneg this]
  rfl
def nameE (n : List UInt8) : List UInt8 := encS ⟨n.toArray⟩
def bodyL (e : Ent) : List UInt8 := nameE e.name ++ be 8 e.id ++ be 4 (uN e.since) ++ be 4 (uN e.till) ++ be 2 (uN e.index)
theorem nameE_length (n : List UInt8) : (nameE n).length = 2 + n.length := by simp [nameE, encS_length]; rfl

theorem bodyL_length (e : Ent) : (bodyL e).length = 20 + e.name.length := by
  simp only [bodyL, List.length_append, nameE_length, be_length]; omega

/-- Num behind a row of the call's own, whose block is known. -/
theorem refNum_own (v : Value) (l : List UInt8) (x size B : Nat) (w : World) (h : w.ownsRow B 5 1 v l.length (bv l)) (h1 : 1 ≤ size) (h8 : size ≤ 8) (hl : l.length ≤ 3000) (hx : x < 18446744073709551616) (hB : B ≤ w.heap.size) :
    Calls Tryd.prog 37 #[v, .int .u64 (x : Int), .int .i64 (size : Int)] w fun e w' =>
      ∃ v', e = .returned v' ∧ w'.ownsRow B 5 1 v' (l ++ be size x).length (bv (l ++ be size x)) ∧ Below w.heap.size w w' := by
  obtain ⟨A, cap, rfl⟩ := own_form h
  refine (ref_num_put A l cap x size w (BytesAt.of_own h) h1 h8 hl hx).mono ?_
  rintro e w' ⟨v', rfl, ho, hb⟩
  exact ⟨v', rfl, own_less ho hB, hb⟩

set_option maxHeartbeats 1000000 in
theorem refBody_any (a : Ent) (hn : a.name.length ≤ 1000) (hi : a.id < 18446744073709551616) (w : World) :
    Calls Tryd.prog 82 #[a.val] w fun e w' => ∃ v', e = .returned v' ∧ w'.ownsRow w.heap.size 5 1 v' (bodyL a).length (bv (bodyL a)) ∧ Below w.heap.size w w' := by
  obtain ⟨n, i, f, u, x, t⟩ := a
  simp only [Ent.val, Ent.enc]
  have hn' : n.length ≤ 1000 := hn
  have hi' : i < 18446744073709551616 := hi
  have HN := Lib.hid hn'
  have HI := Lib.hid hi'
  have r1 := uN_wrap f
  have r2 := uN_wrap u
  have r3 := uN_wrap x
  have L1 := Lib.hid (uN_lt f)
  have L2 := Lib.hid (uN_lt u)
  have L3 := Lib.hid (uN_lt x)
  have HD : Hid (bodyL ⟨n, i, f, u, x, t⟩ = nameE n ++ be 8 i ++ be 4 (uN f) ++ be 4 (uN u) ++ be 2 (uN x)) := Lib.hid rfl
  generalize uN f = f' at *
  generalize uN u = u' at *
  generalize uN x = x' at *
  clear hn hi hn' hi'
  go_enter Tryd.func82, Tryd.ntmps82
  go_wp2_with fail
  have X := Whole.new w 24 #[.string ⟨n.toArray⟩, .int .u64 (i : Int), .int .i64 f, .int .i64 u, .int .i64 x, .string ⟨t.toArray⟩]
  have b : Below w.heap.size w (w.alloc (.cells #[.string ⟨n.toArray⟩, .int .u64 (i : Int), .int .i64 f, .int .i64 u, .int .i64 x, .string ⟨t.toArray⟩] 24)) := (Below.refl _ _).alloc (Nat.le_refl _) _
  have z : w.heap.size < (w.alloc (.cells #[.string ⟨n.toArray⟩, .int .u64 (i : Int), .int .i64 f, .int .i64 u, .int .i64 x, .string ⟨t.toArray⟩] 24)).heap.size := X.lt
  generalize w.alloc (.cells #[.string ⟨n.toArray⟩, .int .u64 (i : Int), .int .i64 f, .int .i64 u, .int .i64 x, .string ⟨t.toArray⟩] 24) = w1 at *
  have X1 := Lib.hid X
  have B1 := Lib.hid b
  have Z1 := Lib.hid z
  have NL := Lib.hid (nameE_length n)
  clear X b z
  refine (ref_text_put none [] 0 ⟨n.toArray⟩ w1 (BytesAt.nil w1) (by decide) (by have := HN.out; show n.length ≤ 70000; omega)).mono ?_
  rintro e w2 ⟨v2, rfl, o2, b2⟩
  have ec : cutText ⟨n.toArray⟩ = ⟨n.toArray⟩ := by
    have hs : (⟨n.toArray⟩ : ByteArray).size = n.length := rfl
    rw [cutText, Nat.min_eq_left (by rw [hs]; have := HN.out; omega)]
    exact ByteArray.extract_zero_size
  rw [ec, List.nil_append, show encS ⟨n.toArray⟩ = nameE n from rfl] at o2
  clear ec
  have O2 := Lib.hid (own_less o2 (Nat.le_of_lt Z1.out))
  have X2 := Lib.hid (X1.out.below b2 Z1.out)
  have B2 := Lib.hid (B1.out.trans (b2.mono B1.out.size))
  have Z2 := Lib.hid (Nat.lt_of_lt_of_le Z1.out b2.size)
  have c := X2.out.at_ 1
  simp at c
  clear o2 b2 X1 B1 Z1
  go_wp2_with fail
  refine (refNum_own v2 (nameE n) i 8 w.heap.size w2 O2.out (by decide) (by decide) (by rw [NL.out]; have := HN.out; omega) HI.out (Nat.le_of_lt Z2.out)).mono ?_
  rintro e w3 ⟨v3, rfl, o3, b3⟩
  clear c O2
  have O3 := Lib.hid o3
  have X3 := Lib.hid (X2.out.below b3 Z2.out)
  have B3 := Lib.hid (B2.out.trans (b3.mono B2.out.size))
  have Z3 := Lib.hid (Nat.lt_of_lt_of_le Z2.out b3.size)
  have c := X3.out.at_ 2
  simp at c
  clear o3 b3 X2 B2 Z2
  go_wp2_with fail
  refine (refNum_own v3 (nameE n ++ be 8 i) f' 4 w.heap.size w3 O3.out (by decide) (by decide) (by simp only [List.length_append, be_length, NL.out]; have := HN.out; omega) L1.out (Nat.le_of_lt Z3.out)).mono ?_
  rintro e w4 ⟨v4, rfl, o4, b4⟩
  clear c O3
  have O4 := Lib.hid o4
  have X4 := Lib.hid (X3.out.below b4 Z3.out)
  have B4 := Lib.hid (B3.out.trans (b4.mono B3.out.size))
  have Z4 := Lib.hid (Nat.lt_of_lt_of_le Z3.out b4.size)
  have c := X4.out.at_ 3
  simp at c
  clear o4 b4 X3 B3 Z3
  go_wp2_with fail
  refine (refNum_own v4 (nameE n ++ be 8 i ++ be 4 f') u' 4 w.heap.size w4 O4.out (by decide) (by decide) (by simp only [List.length_append, be_length, NL.out]; have := HN.out; omega) L2.out (Nat.le_of_lt Z4.out)).mono ?_
  rintro e w5 ⟨v5, rfl, o5, b5⟩
  clear c O4
  have O5 := Lib.hid o5
  have X5 := Lib.hid (X4.out.below b5 Z4.out)
  have B5 := Lib.hid (B4.out.trans (b5.mono B4.out.size))
  have Z5 := Lib.hid (Nat.lt_of_lt_of_le Z4.out b5.size)
  have c := X5.out.at_ 4
  simp at c
  clear o5 b5 X4 B4 Z4
  go_wp2_with fail
  refine (refNum_own v5 (nameE n ++ be 8 i ++ be 4 f' ++ be 4 u') x' 2 w.heap.size w5 O5.out (by decide) (by decide) (by simp only [List.length_append, be_length, NL.out]; have := HN.out; omega) L3.out (Nat.le_of_lt Z5.out)).mono ?_
  rintro e w6 ⟨v6, rfl, o6, b6⟩
  clear c O5
  rw [← HD.out] at o6
  have O6 := Lib.hid o6
  have B6 := Lib.hid (B5.out.trans (b6.mono B5.out.size))
  clear o6 b6 B5 X5 Z5
  go_wp2
  go_ret
  exact ⟨_, rfl, O6.out, B6.out⟩
end Go.Proofs.YtpcdbpijgmninaaDoor
