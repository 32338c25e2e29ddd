/- The document's Body. Entries in memory: a block that is one, read whole, stored whole, compared. The document's Bytes, Find. Texts of entries, as they are put (cut to what a length can tell). It speaks of no function. -/
import Derived.Test.YtieidemmajdpmaaDoorGf
import Derived.Test.YtieidemmajdpmaaDoorGg
import Derived.StillTailTactics
namespace Go.Proofs.YtieidemmajdpmaaDoor
set_option maxRecDepth 100000
open Go.RowKit

/-- A number of any sign, as 64 bits. -/
def uN (i : Int) : Nat := (i % 18446744073709551616).toNat
theorem uN_lt (i : Int) : uN i < 18446744073709551616 := by
  have := Int.emod_lt_of_pos i (show (0 : Int) < 18446744073709551616 by decide)
  have := Int.emod_nonneg i (show (18446744073709551616 : Int) ≠ 0 by decide)
  rw [uN]
  omega
theorem uN_wrap (i : Int) : IntKind.u64.wrap i = (uN i : Int) := by
  have := Int.emod_nonneg i (show (18446744073709551616 : Int) ≠ 0 by decide)
  rw [uN, Int.toNat_of_nonneg this]
  rfl
def nameE (n : List UInt8) : List UInt8 := encS ⟨n.toArray⟩
def bodyL (e : Ent) : List UInt8 := nameE e.name ++ be 8 e.id ++ be 4 (uN e.since) ++ be 4 (uN e.till) ++ be 2 (uN e.index)
theorem nameE_length (n : List UInt8) : (nameE n).length = 2 + n.length := by simp [nameE, encS_length]; rfl

theorem bodyL_length (e : Ent) : (bodyL e).length = 20 + e.name.length := by
  simp only [bodyL, List.length_append, nameE_length, be_length]; omega

/-- Num behind a row of the call's own, whose block is known. -/
theorem refNum_own (v : Value) (l : List UInt8) (x size B : Nat) (w : World) (h : w.ownsRow B 5 1 v l.length (bv l)) (h1 : 1 ≤ size) (h8 : size ≤ 8) (hl : l.length ≤ 3000) (hx : x < 18446744073709551616) (hB : B ≤ w.heap.size) :
    Calls Tryd.prog 16 #[v, .int .u64 (x : Int), .int .i64 (size : Int)] w fun e w' =>
      ∃ v', e = .returned v' ∧ w'.ownsRow B 5 1 v' (l ++ be size x).length (bv (l ++ be size x)) ∧ Below w.heap.size w w' := by
  obtain ⟨A, cap, rfl⟩ := own_form h
  refine (ref_num_put A l cap x size w (BytesAt.of_own h) h1 h8 hl hx).mono ?_
  rintro e w' ⟨v', rfl, ho, hb⟩
  exact ⟨v', rfl, own_less ho hB, hb⟩

set_option maxHeartbeats 1000000 in
theorem refBody_any (a : Ent) (hn : a.name.length ≤ 1000) (hi : a.id < 18446744073709551616) (w : World) :
    Calls Tryd.prog 30 #[a.val] w fun e w' => ∃ v', e = .returned v' ∧ w'.ownsRow w.heap.size 5 1 v' (bodyL a).length (bv (bodyL a)) ∧ Below w.heap.size w w' := by
  obtain ⟨n, i, f, u, x, t⟩ := a
  simp only [Ent.val, Ent.enc]
  have hn' : n.length ≤ 1000 := hn
  have hi' : i < 18446744073709551616 := hi
  have HN := Lib.hid hn'
  have HI := Lib.hid hi'
  have r1 := uN_wrap f
  have r2 := uN_wrap u
  have r3 := uN_wrap x
  have L1 := Lib.hid (uN_lt f)
  have L2 := Lib.hid (uN_lt u)
  have L3 := Lib.hid (uN_lt x)
  have HD : Hid (bodyL ⟨n, i, f, u, x, t⟩ = nameE n ++ be 8 i ++ be 4 (uN f) ++ be 4 (uN u) ++ be 2 (uN x)) := Lib.hid rfl
  generalize uN f = f' at *
  generalize uN u = u' at *
  generalize uN x = x' at *
  clear hn hi hn' hi'
  go_enter Tryd.func30, Tryd.ntmps30
  go_wp2_with fail
  have X := Whole.new w 24 #[.string ⟨n.toArray⟩, .int .u64 (i : Int), .int .i64 f, .int .i64 u, .int .i64 x, .string ⟨t.toArray⟩]
  have b : Below w.heap.size w (w.alloc (.cells #[.string ⟨n.toArray⟩, .int .u64 (i : Int), .int .i64 f, .int .i64 u, .int .i64 x, .string ⟨t.toArray⟩] 24)) := (Below.refl _ _).alloc (Nat.le_refl _) _
  have z : w.heap.size < (w.alloc (.cells #[.string ⟨n.toArray⟩, .int .u64 (i : Int), .int .i64 f, .int .i64 u, .int .i64 x, .string ⟨t.toArray⟩] 24)).heap.size := X.lt
  generalize w.alloc (.cells #[.string ⟨n.toArray⟩, .int .u64 (i : Int), .int .i64 f, .int .i64 u, .int .i64 x, .string ⟨t.toArray⟩] 24) = w1 at *
  have X1 := Lib.hid X
  have B1 := Lib.hid b
  have Z1 := Lib.hid z
  have NL := Lib.hid (nameE_length n)
  clear X b z
  refine (ref_text_put none [] 0 ⟨n.toArray⟩ w1 (BytesAt.nil w1) (by decide) (by have := HN.out; show n.length ≤ 70000; omega)).mono ?_
  rintro e w2 ⟨v2, rfl, o2, b2⟩
  have ec : cutText ⟨n.toArray⟩ = ⟨n.toArray⟩ := by
    have hs : (⟨n.toArray⟩ : ByteArray).size = n.length := rfl
    rw [cutText, Nat.min_eq_left (by rw [hs]; have := HN.out; omega)]
    exact ByteArray.extract_zero_size
  rw [ec, List.nil_append, show encS ⟨n.toArray⟩ = nameE n from rfl] at o2
  clear ec
  have O2 := Lib.hid (own_less o2 (Nat.le_of_lt Z1.out))
  have X2 := Lib.hid (X1.out.below b2 Z1.out)
  have B2 := Lib.hid (B1.out.trans (b2.mono B1.out.size))
  have Z2 := Lib.hid (Nat.lt_of_lt_of_le Z1.out b2.size)
  have c := X2.out.at_ 1
  simp at c
  clear o2 b2 X1 B1 Z1
  go_wp2_with fail
  refine (refNum_own v2 (nameE n) i 8 w.heap.size w2 O2.out (by decide) (by decide) (by rw [NL.out]; have := HN.out; omega) HI.out (Nat.le_of_lt Z2.out)).mono ?_
  rintro e w3 ⟨v3, rfl, o3, b3⟩
  clear c O2
  have O3 := Lib.hid o3
  have X3 := Lib.hid (X2.out.below b3 Z2.out)
  have B3 := Lib.hid (B2.out.trans (b3.mono B2.out.size))
  have Z3 := Lib.hid (Nat.lt_of_lt_of_le Z2.out b3.size)
  have c := X3.out.at_ 2
  simp at c
  clear o3 b3 X2 B2 Z2
  go_wp2_with fail
  refine (refNum_own v3 (nameE n ++ be 8 i) f' 4 w.heap.size w3 O3.out (by decide) (by decide) (by simp only [List.length_append, be_length, NL.out]; have := HN.out; omega) L1.out (Nat.le_of_lt Z3.out)).mono ?_
  rintro e w4 ⟨v4, rfl, o4, b4⟩
  clear c O3
  have O4 := Lib.hid o4
  have X4 := Lib.hid (X3.out.below b4 Z3.out)
  have B4 := Lib.hid (B3.out.trans (b4.mono B3.out.size))
  have Z4 := Lib.hid (Nat.lt_of_lt_of_le Z3.out b4.size)
  have c := X4.out.at_ 3
  simp at c
  clear o4 b4 X3 B3 Z3
  go_wp2_with fail
  refine (refNum_own v4 (nameE n ++ be 8 i ++ be 4 f') u' 4 w.heap.size w4 O4.out (by decide) (by decide) (by simp only [List.length_append, be_length, NL.out]; have := HN.out; omega) L2.out (Nat.le_of_lt Z4.out)).mono ?_
  rintro e w5 ⟨v5, rfl, o5, b5⟩
  clear c O4
  have O5 := Lib.hid o5
  have X5 := Lib.hid (X4.out.below b5 Z4.out)
  have B5 := Lib.hid (B4.out.trans (b5.mono B4.out.size))
  have Z5 := Lib.hid (Nat.lt_of_lt_of_le Z4.out b5.size)
  have c := X5.out.at_ 4
  simp at c
  clear o5 b5 X4 B4 Z4
  go_wp2_with fail
  refine (refNum_own v5 (nameE n ++ be 8 i ++ be 4 f' ++ be 4 u') x' 2 w.heap.size w5 O5.out (by decide) (by decide) (by simp only [List.length_append, be_length, NL.out]; have := HN.out; omega) L3.out (Nat.le_of_lt Z5.out)).mono ?_
  rintro e w6 ⟨v6, rfl, o6, b6⟩
  clear c O5
  rw [← HD.out] at o6
  have O6 := Lib.hid o6
  have B6 := Lib.hid (B5.out.trans (b6.mono B5.out.size))
  clear o6 b6 B5 X5 Z5
  go_wp2
  go_ret
  exact ⟨_, rfl, O6.out, B6.out⟩
end Go.Proofs.YtieidemmajdpmaaDoor

namespace Go.Proofs.YtieidemmajdpmaaDoor
set_option maxRecDepth 100000
open Go.RowKit

def Ent.cells (e : Ent) : Array Value := #[.string ⟨e.name.toArray⟩, .int .u64 (e.id : Int), .int .i64 e.since, .int .i64 e.till, .int .i64 e.index, .string ⟨e.tag.toArray⟩]
theorem Ent.val_cells (e : Ent) : e.val = .agg e.cells := rfl
theorem Ent.cells_size (e : Ent) : e.cells.size = 6 := rfl
theorem Ent.cells_one (e : Ent) : e.cells.all (·.oneCell') = true := by simp [Ent.cells, Value.oneCell']
theorem ent_size : (Tryd.prog.info? 24).map (·.size) = some 6 := by kernel_rfl

theorem ent_size' (e : Ent) : (Tryd.prog.info? 24).map (·.size) = some e.cells.size := ent_size

/-- An entry in a block. -/
def EntAt (w : World) (g : Nat) (e : Ent) : Prop := Whole w g 24 e.cells
theorem EntAt.below {w w' : World} {B g : Nat} {e : Ent} (h : EntAt w g e) (hb : Below B w w') (hg : g < B) : EntAt w' g e := Whole.below h hb hg

/-- Its six cells. -/
theorem EntAt.six {w : World} {g : Nat} {e : Ent} (h : EntAt w g e) : w.cell? ⟨g, 0, none⟩ = some (.string ⟨e.name.toArray⟩) ∧ w.cell? ⟨g, 1, none⟩ = some (.int .u64 (e.id : Int)) ∧ w.cell? ⟨g, 2, none⟩ = some (.int .i64 e.since) ∧ w.cell? ⟨g, 3, none⟩ = some (.int .i64 e.till) ∧ w.cell? ⟨g, 4, none⟩ = some (.int .i64 e.index) ∧ w.cell? ⟨g, 5, none⟩ = some (.string ⟨e.tag.toArray⟩) :=
  ⟨h.at_ 0, h.at_ 1, h.at_ 2, h.at_ 3, h.at_ 4, h.at_ 5⟩

theorem load_ent {w : World} {g : Nat} {e : Ent} (h : EntAt w g e) : (loadVar 24 ⟨g, 0, none⟩).run Tryd.prog w = .ok e.val w := by
  obtain ⟨n, i, f, u, x, t⟩ := e
  have c0 := h.at_ 0
  have c1 := h.at_ 1
  have c2 := h.at_ 2
  have c3 := h.at_ 3
  have c4 := h.at_ 4
  have c5 := h.at_ 5
  simp [Ent.cells] at c0 c1 c2 c3 c4 c5
  simp only [Ent.val, Ent.enc]
  go_simp

theorem exec_load_ent {ev : Operand → Value} {o : Oper} (x : Operand) (ho : o.op = .load 24 x) (g : Nat) (hx : ev x = .pointer (some ⟨g, 0, none⟩)) (e : Ent) (w : World) (hg : EntAt w g e) :
    (execOp ev o).run Tryd.prog w = .ok (.value e.val) w := by
  have h := load_ent hg
  unfold execOp
  simp [ho, hx, Instr.loadAt, Instr.sureAddr, h]
theorem wp_load_ent {o : Oper} {a : Act} {w : World} {K : Act → World → Prop} {Q : Exit → Act → World → Prop} (x : Operand) (ho : o.op = .load 24 x) (g : Nat) (hx : a.eval x = .pointer (some ⟨g, 0, none⟩)) (e : Ent) (hg : EntAt w g e)
    (h : K (a.put o.dst e.val) w) : o.wp Tryd.prog a w K Q := by
  have hl := load_ent hg
  unfold Oper.wp execOp
  simp only [ho, hx, Instr.loadAt, Instr.sureAddr, Sem.run_bind, Sem.run_pure, Result.andThen_ok, hl]
  exact h
theorem wpList_load_ent {ops : Array Oper} {rest : List Oper} {o : Oper} {a : Act} {w : World} {Q : Exit → Act → World → Prop} (hgd : o.guard = none) (x : Operand) (ho : o.op = .load 24 x) (g : Nat) (hx : a.eval x = .pointer (some ⟨g, 0, none⟩)) (e : Ent) (hg : EntAt w g e)
    (h : wpList Tryd.prog ops Q rest (a.put o.dst e.val) w) : wpList Tryd.prog ops Q (o :: rest) a w :=
  wpList_plain hgd fun _ hK => wp_load_ent x ho g hx e hg (hK _ _ h)

theorem wpList_load_ent_w {ops : Array Oper} {rest : List Oper} {o : Oper} {a : Act} {w : World} {Q : Exit → Act → World → Prop} (hw : Region.wanted o (yielded ops a.tmps) = true) (x : Operand) (ho : o.op = .load 24 x) (g : Nat) (hx : a.eval x = .pointer (some ⟨g, 0, none⟩)) (e : Ent) (hg : EntAt w g e)
    (h : wpList Tryd.prog ops Q rest (a.put o.dst e.val) w) : wpList Tryd.prog ops Q (o :: rest) a w :=
  wpList_step fun _ hK => by
    rw [if_pos hw]
    exact wp_load_ent x ho g hx e hg (hK _ _ h)

theorem eq_ent (a b : Ent) (t : TypeId) (w : World) (ht : t = 24) : (binOp .eql t a.val b.val).run Tryd.prog w = .ok (.bool (decide (a = b))) w := by
  subst ht
  obtain ⟨n1, i1, f1, u1, x1, t1⟩ := a
  obtain ⟨n2, i2, f2, u2, x2, t2⟩ := b
  simp only [Ent.val, Ent.enc]
  go_simp
  by_cases h1 : n1 = n2
  · by_cases h2 : i1 = i2
    · by_cases h3 : f1 = f2
      · by_cases h4 : u1 = u2
        · by_cases h5 : x1 = x2
          · by_cases h6 : t1 = t2
            · simp [h1, h2, h3, h4, h5, h6]
            · simp [h1, h2, h3, h4, h5, h6]
          · simp [h1, h2, h3, h4, h5]
        · simp [h1, h2, h3, h4]
      · simp [h1, h2, h3]
    · have h2' : ¬ ((i1 : Int) = (i2 : Int)) := by omega
      simp [h1, h2, h2']
  · simp [h1]
theorem neq_ent (a b : Ent) (t : TypeId) (w : World) (ht : t = 24) : (binOp .neq t a.val b.val).run Tryd.prog w = .ok (.bool (!decide (a = b))) w := by
  subst ht
  obtain ⟨n1, i1, f1, u1, x1, t1⟩ := a
  obtain ⟨n2, i2, f2, u2, x2, t2⟩ := b
  simp only [Ent.val, Ent.enc]
  go_simp
  by_cases h1 : n1 = n2
  · by_cases h2 : i1 = i2
    · by_cases h3 : f1 = f2
      · by_cases h4 : u1 = u2
        · by_cases h5 : x1 = x2
          · by_cases h6 : t1 = t2
            · simp [h1, h2, h3, h4, h5, h6]
            · simp [h1, h2, h3, h4, h5, h6]
          · simp [h1, h2, h3, h4, h5]
        · simp [h1, h2, h3, h4]
      · simp [h1, h2, h3]
    · have h2' : ¬ ((i1 : Int) = (i2 : Int)) := by omega
      simp [h1, h2, h2']
  · simp [h1]

theorem exec_eq_ent {ev : Operand → Value} {o : Oper} (x y : Operand) (t : TypeId) (ho : o.op = .binOp .eql 24 x y t) (a b : Ent) (hx : ev x = a.val) (hy : ev y = b.val) (q : Bool) (hq : q = decide (a = b)) (w : World) : (execOp ev o).run Tryd.prog w = .ok (.value (.bool q)) w := by
  have h := eq_ent a b 24 w rfl
  have hg : (eqGuard .eql 24 x y a.val b.val).run Tryd.prog w = .ok () w := by
    simp only [Ent.val, Ent.enc]
    go_simp
  unfold execOp
  simp [ho, hx, hy, h, hq, hg]
theorem exec_neq_ent {ev : Operand → Value} {o : Oper} (x y : Operand) (t : TypeId) (ho : o.op = .binOp .neq 24 x y t) (a b : Ent) (hx : ev x = a.val) (hy : ev y = b.val) (q : Bool) (hq : q = !decide (a = b)) (w : World) : (execOp ev o).run Tryd.prog w = .ok (.value (.bool q)) w := by
  have h := neq_ent a b 24 w rfl
  have hg : (eqGuard .neq 24 x y a.val b.val).run Tryd.prog w = .ok () w := by
    simp only [Ent.val, Ent.enc]
    go_simp
  unfold execOp
  simp [ho, hx, hy, h, hq, hg]

/-- The entry of nothing. -/
def ent0 : Ent := ⟨[], 0, 0, 0, 0, []⟩
theorem ent_zero : (Tryd.prog.info? 24).map (·.zero) = some (some ent0.val) := by kernel_rfl
theorem EntAt.name {w : World} {x : Nat} {e : Ent} (h : EntAt w x e) (n : List UInt8) : EntAt (w.setCell ⟨x, 0, none⟩ (.string ⟨n.toArray⟩)) x { e with name := n } := h.stored 0 _
theorem EntAt.id {w : World} {x : Nat} {e : Ent} (h : EntAt w x e) (n : Nat) : EntAt (w.setCell ⟨x, 1, none⟩ (.int .u64 (n : Int))) x { e with id := n } := h.stored 1 _
theorem EntAt.since {w : World} {x : Nat} {e : Ent} (h : EntAt w x e) (n : Int) : EntAt (w.setCell ⟨x, 2, none⟩ (.int .i64 n)) x { e with since := n } := h.stored 2 _
theorem EntAt.till {w : World} {x : Nat} {e : Ent} (h : EntAt w x e) (n : Int) : EntAt (w.setCell ⟨x, 3, none⟩ (.int .i64 n)) x { e with till := n } := h.stored 3 _
theorem EntAt.index {w : World} {x : Nat} {e : Ent} (h : EntAt w x e) (n : Int) : EntAt (w.setCell ⟨x, 4, none⟩ (.int .i64 n)) x { e with index := n } := h.stored 4 _
theorem EntAt.tag {w : World} {x : Nat} {e : Ent} (h : EntAt w x e) (n : List UInt8) : EntAt (w.setCell ⟨x, 5, none⟩ (.string ⟨n.toArray⟩)) x { e with tag := n } := h.stored 5 _

/-- One result: an entry in a block. -/
theorem results_ent {fn : Func} {p : Tmp} (h : fn.results = #[.cell p 24]) (tmps : Array Value) (w : World) (g : Nat) (e : Ent)
    (hp : tmps.getD p undef = .pointer (some ⟨g, 0, none⟩)) (hg : EntAt w g e) : (results fn tmps).run Tryd.prog w = .ok e.val w := by
  have hl := load_ent hg
  have hp' : tmps[p]?.getD undef = .pointer (some ⟨g, 0, none⟩) := by simpa using hp
  simp [results, h, hp', asAddr, hl]
/-- Results: an entry in a block, and one in a slot. -/
theorem results_ent_tmp {fn : Func} {p q : Tmp} (h : fn.results = #[.cell p 24, .tmp q]) (tmps : Array Value) (w : World) (g : Nat) (e : Ent)
    (hp : tmps.getD p undef = .pointer (some ⟨g, 0, none⟩)) (hg : EntAt w g e) : (results fn tmps).run Tryd.prog w = .ok (.tuple #[e.val, tmps.getD q undef]) w := by
  have hl := load_ent hg
  have hp' : tmps[p]?.getD undef = .pointer (some ⟨g, 0, none⟩) := by simpa using hp
  simp [results, h, hp', asAddr, hl]

end Go.Proofs.YtieidemmajdpmaaDoor

namespace Go.Proofs.YtieidemmajdpmaaDoor
set_option maxRecDepth 100000
open Go.RowKit

def bytesE (e : Ent) : List UInt8 := bodyL e ++ e.tag

set_option maxRecDepth 100000 in
set_option maxHeartbeats 2000000 in
theorem refBytes_any (a : Ent) (hn : a.name.length ≤ 1000) (ht : a.tag.length ≤ 1000) (hi : a.id < 18446744073709551616) (w : World) :
    Calls Tryd.prog 18 #[a.val] w fun e w' => ∃ v', e = .returned v' ∧ BytesAt w' v' (bytesE a) ∧ Below w.heap.size w w' := by
  have CB := fun w => Lib.hid (refBody_any a hn hi w)
  have HL := Lib.hid (show (bodyL a).length ≤ 1020 by rw [bodyL_length]; omega)
  have HT := Lib.hid ht
  have HV := Lib.hid (Ent.val_cells a)
  go_enter Tryd.func18, Tryd.ntmps18
  go_wp2_with (refine wpList_box_row rfl 24 _ rfl a.cells rfl ?_)
  intro w1 b1 x1 z1
  have X1 : Hid (EntAt w1 w.heap.size a) := x1
  have B1 := Lib.hid b1
  have Z1 := Lib.hid z1
  clear b1 x1 z1
  go_wp2_with fail
  refine regS_begin (fun w' => EntAt w' w.heap.size a ∧ Below w.heap.size w w' ∧ w.heap.size < w'.heap.size) (by kernel_rfl) ⟨X1.out, B1.out.drew, by have := Z1.out; simpa using (by omega : w.heap.size < w1.heap.size)⟩ ?_
  have hS : EntAt w1.drew w.heap.size a ∧ Below w.heap.size w w1.drew ∧ w.heap.size < w1.drew.heap.size := ⟨X1.out, B1.out.drew, by have := Z1.out; simpa using (by omega : w.heap.size < w1.heap.size)⟩
  generalize w1.drew = w2 at *
  have z2 : w.heap.size ≤ w2.heap.size := Nat.le_of_lt hS.2.2
  have z2' : w.heap.size + 1 ≤ w2.heap.size := hS.2.2
  clear X1 B1 Z1
  refine regS_take (i := 0) (v := a.val) rfl (by kernel_rfl) (by kernel_rfl) (by kernel_rfl) (fun _ _ _ h => h) (by rfl) hS ?hy0 ?_
  case hy0 => intro w' hw'; exact exec_load_ent _ rfl w.heap.size rfl a w' hw'.1
  simp only [Act.put, List.setIfInBounds_toArray, List.set_cons_zero, List.set_cons_succ]
  refine regS_take (i := 2) (v := ?_) rfl (by kernel_rfl) (by kernel_rfl) (by kernel_rfl) (fun _ _ _ h => h) (by rfl) hS ?hy2 ?_
  case hy2 => intro w' hw'; go_simp; (try with_reducible rfl)
  simp only [Act.put, List.setIfInBounds_toArray, List.set_cons_zero, List.set_cons_succ]
  refine regS_take (i := 3) (v := .string ⟨a.tag.toArray⟩) rfl (by kernel_rfl) (by kernel_rfl) (by kernel_rfl) (fun _ _ _ h => h) (by rfl) hS ?hy3 ?_
  case hy3 => intro w' hw'; have c := hw'.1.at_ 5; simp [Ent.cells] at c; go_simp; (try with_reducible rfl)
  simp only [Act.put, List.setIfInBounds_toArray, List.set_cons_zero, List.set_cons_succ]
  refine regS_two (i := 1) (j := 4) rfl rfl (by kernel_rfl) (fun K' hK => ?_) (fun K' hK => ?_)
  · go_simp
    refine (CB w2).out.mono ?_
    rintro e w3 ⟨v3, rfl, o3, b3⟩
    have s3 : EntAt w3 w.heap.size a ∧ Below w.heap.size w w3 ∧ w.heap.size < w3.heap.size := ⟨hS.1.below b3 hS.2.2, hS.2.1.trans (b3.mono hS.2.1.size), Nat.lt_of_lt_of_le hS.2.2 b3.size⟩
    refine hK.out _ _ s3 ?_
    clear hK K'
    obtain ⟨vs, w4, r4, y4, b4⟩ := conv_str w3 ⟨a.tag.toArray⟩
    have o4 := kept_below o3 b4 rfl
    have s4 : EntAt w4 w.heap.size a ∧ Below w.heap.size w w4 ∧ w.heap.size < w4.heap.size := ⟨s3.1.below b4 s3.2.2, s3.2.1.trans (b4.mono s3.2.1.size), Nat.lt_of_lt_of_le s3.2.2 b4.size⟩
    have z4 : w2.heap.size ≤ w4.heap.size := Nat.le_trans b3.size b4.size
    refine regS_do (i := 4) rfl (by kernel_rfl) (fun K' hK => ?_)
    go_simp
    refine hK.out _ _ s4 ?_
    clear hK K' r4 o3 b3 b4 s3 hS
    refine regS_do (i := 5) rfl (by kernel_rfl) (fun K' hK => ?_)
    rw [if_pos (by rfl)]
    refine wp_append_bytes _ _ rfl w2.heap.size _ _ _ rfl o4 _ a.tag rfl y4 (by have := HL.out; have := HT.out; omega) z4 ?_
    intro v5 w5 o5 g5
    have s5 : Below w.heap.size w w5 := s4.2.1.grown g5 s4.2.1.size (fun k hk => Nat.le_trans z2 (o4.lt k hk).1)
    have e5 : BytesAt w5 v5 (bytesE a) := BytesAt.of_own (base := w2.heap.size) (by rw [bytesE, List.length_append, bv_append]; exact o5)
    have hS : EntAt w5 w.heap.size a ∧ Below w.heap.size w w5 ∧ w.heap.size < w5.heap.size := ⟨s4.1.grown g5 (fun e => by have h1 := (o4.lt _ e.symm).1; exact absurd (Nat.le_trans z2' h1) (by omega)), s5, Nat.lt_of_lt_of_le s4.2.2 g5.size⟩
    refine hK.out _ _ hS ?_
    clear hK K' o5 g5 o4 s4 y4
    refine regS_take (i := 6) (v := ?_) rfl (by kernel_rfl) (by kernel_rfl) (by kernel_rfl) (fun _ _ _ h => h) (by rfl) hS ?hy6 ?_
    case hy6 => intro w' hw'; go_simp; (try with_reducible rfl)
    simp only [Act.put, List.setIfInBounds_toArray, List.set_cons_zero, List.set_cons_succ]
    refine regS_end (by kernel_rfl) ?_
    have E5 := Lib.hid e5
    have S5 := Lib.hid s5
    clear hS s5 e5
    go_wp2
    go_ret
    exact ⟨_, rfl, E5.out, S5.out⟩
  · obtain ⟨vs, w3, r4, y3, b3⟩ := conv_str w2 ⟨a.tag.toArray⟩
    have s3 : EntAt w3 w.heap.size a ∧ Below w.heap.size w w3 ∧ w.heap.size < w3.heap.size := ⟨hS.1.below b3 hS.2.2, hS.2.1.trans (b3.mono hS.2.1.size), Nat.lt_of_lt_of_le hS.2.2 b3.size⟩
    go_simp
    refine hK.out _ _ s3 ?_
    clear hK K' r4
    refine regS_do (i := 1) rfl (by kernel_rfl) (fun K' hK => ?_)
    go_simp
    refine (CB w3).out.mono ?_
    rintro e w4 ⟨v3, rfl, o4, b4⟩
    have s4 : EntAt w4 w.heap.size a ∧ Below w.heap.size w w4 ∧ w.heap.size < w4.heap.size := ⟨s3.1.below b4 s3.2.2, s3.2.1.trans (b4.mono s3.2.1.size), Nat.lt_of_lt_of_le s3.2.2 b4.size⟩
    have y4 := y3.below b4
    have z3 := Nat.le_of_lt s3.2.2
    have z3' : w.heap.size + 1 ≤ w3.heap.size := s3.2.2
    refine hK.out _ _ s4 ?_
    clear hK K' y3 b3 s3 hS z2 z2'
    refine regS_do (i := 5) rfl (by kernel_rfl) (fun K' hK => ?_)
    rw [if_pos (by rfl)]
    refine wp_append_bytes _ _ rfl w3.heap.size _ _ _ rfl o4 _ a.tag rfl y4 (by have := HL.out; have := HT.out; omega) b4.size ?_
    intro v5 w5 o5 g5
    have s5 : Below w.heap.size w w5 := s4.2.1.grown g5 s4.2.1.size (fun k hk => Nat.le_trans z3 (o4.lt k hk).1)
    have e5 : BytesAt w5 v5 (bytesE a) := BytesAt.of_own (base := w3.heap.size) (by rw [bytesE, List.length_append, bv_append]; exact o5)
    have hS : EntAt w5 w.heap.size a ∧ Below w.heap.size w w5 ∧ w.heap.size < w5.heap.size := ⟨s4.1.grown g5 (fun e => by have h1 := (o4.lt _ e.symm).1; exact absurd (Nat.le_trans z3' h1) (by omega)), s5, Nat.lt_of_lt_of_le s4.2.2 g5.size⟩
    refine hK.out _ _ hS ?_
    clear hK K' o5 g5 o4 s4 y4
    refine regS_take (i := 6) (v := ?_) rfl (by kernel_rfl) (by kernel_rfl) (by kernel_rfl) (fun _ _ _ h => h) (by rfl) hS ?hy6 ?_
    case hy6 => intro w' hw'; go_simp; (try with_reducible rfl)
    simp only [Act.put, List.setIfInBounds_toArray, List.set_cons_zero, List.set_cons_succ]
    refine regS_end (by kernel_rfl) ?_
    have E5 := Lib.hid e5
    have S5 := Lib.hid s5
    clear hS s5 e5
    go_wp2
    go_ret
    exact ⟨_, rfl, E5.out, S5.out⟩
end Go.Proofs.YtieidemmajdpmaaDoor

namespace Go.Proofs.YtieidemmajdpmaaDoor
set_option maxRecDepth 100000

/-- A text, cut to what a length can tell. -/
def cutL (l : List UInt8) : List UInt8 := l.take 65535
theorem cutL_small {l : List UInt8} (h : l.length ≤ 65535) : cutL l = l := List.take_of_length_le h
theorem cutL_length (l : List UInt8) : (cutL l).length ≤ 65535 := by rw [cutL, List.length_take]; omega
theorem cutL_less (l : List UInt8) : (cutL l).length ≤ l.length := by rw [cutL, List.length_take]; omega
theorem cut_text (l : List UInt8) : cutText ⟨l.toArray⟩ = ⟨(cutL l).toArray⟩ := by
  have hs : (⟨l.toArray⟩ : ByteArray).size = l.length := rfl
  rw [cutText, ext_take, cutL, hs]
  by_cases h : l.length ≤ 65535
  · rw [Nat.min_eq_left h, List.take_of_length_le (Nat.le_refl _), List.take_of_length_le h]
  · rw [Nat.min_eq_right (by omega)]
def txt (l : List UInt8) : List UInt8 := nameE (cutL l)
theorem txt_small {l : List UInt8} (h : l.length ≤ 65535) : txt l = nameE l := by rw [txt, cutL_small h]
theorem txt_length (l : List UInt8) : (txt l).length = 2 + (cutL l).length := nameE_length _
theorem txt_most (l : List UInt8) : (txt l).length ≤ 65537 := by rw [txt_length]; have := cutL_length l; omega
/-- An entry whose name is cut. -/
def cutE (a : Ent) : Ent := { a with name := cutL a.name }
theorem cutE_small {a : Ent} (h : a.name.length ≤ 65535) : cutE a = a := by rw [cutE, cutL_small h]
theorem cutE_body (a : Ent) : (bodyL (cutE a)).length ≤ 65555 := by
  rw [bodyL_length]
  have := cutL_length a.name
  show 20 + (cutL a.name).length ≤ _
  omega
/-- An entry's text. -/
def textE (a : Ent) : List UInt8 := txt (bytesE (cutE a))
theorem textE_most (a : Ent) : (textE a).length ≤ 65537 := txt_most _
theorem bytesE_length (a : Ent) : (bytesE a).length = 20 + a.name.length + a.tag.length := by rw [bytesE, List.length_append, bodyL_length]
theorem textE_small {a : Ent} (hn : a.name.length ≤ 1000) (ht : a.tag.length ≤ 1000) : textE a = nameE (bytesE a) := by
  rw [textE, cutE_small (by omega), txt_small (by rw [bytesE_length]; omega)]
theorem textE_less {a : Ent} (hn : a.name.length ≤ 1000) (ht : a.tag.length ≤ 1000) : (textE a).length ≤ 2022 := by
  rw [textE_small hn ht, nameE_length, bytesE_length]; omega
theorem enc_text (s : List UInt8) : encS (cutText ⟨s.toArray⟩) = txt s := by rw [cut_text]; rfl
end Go.Proofs.YtieidemmajdpmaaDoor
