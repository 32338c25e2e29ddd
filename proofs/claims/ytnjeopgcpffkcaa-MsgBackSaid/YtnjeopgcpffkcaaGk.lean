/- The document's Bytes, Find. Plain mathematics of entries: which one any bytes are; what may be is read as it was, and what is read is written as it was. api.Item as a structure: its cells, opened, in a block. (Written by tools/mkrec.py.) -/
import Derived.Test.YtnjeopgcpffkcaaGj
import Derived.Test.YtnjeopgcpffkcaaGf
import Derived.Test.YtnjeopgcpffkcaaGi
namespace Go.Proofs.Ytnjeopgcpffkcaa
set_option maxRecDepth 100000
open Go.RowKit

def bytesE (e : Ent) : List UInt8 := bodyL e ++ e.tag

set_option maxRecDepth 100000 in
set_option maxHeartbeats 2000000 in
theorem refBytes_any (a : Ent) (hn : a.name.length ≤ 1000) (ht : a.tag.length ≤ 1000) (hi : a.id < 18446744073709551616) (w : World) :
    Calls Try.prog 63 #[a.val] w fun e w' => ∃ v', e = .returned v' ∧ BytesAt w' v' (bytesE a) ∧ Below w.heap.size w w' := by
  have CB := fun w => Lib.hid (refBody_any a hn hi w)
  have HL := Lib.hid (show (bodyL a).length ≤ 1020 by rw [bodyL_length]; omega)
  have HT := Lib.hid ht
  have HV := Lib.hid (Ent.val_cells a)
  go_enter Try.func63, Try.ntmps63
  go_wp2_with (refine wpList_box_row rfl 51 _ rfl a.cells rfl ?_)
  intro w1 b1 x1 z1
  have X1 : Hid (EntAt w1 w.heap.size a) := x1
  have B1 := Lib.hid b1
  have Z1 := Lib.hid z1
  clear b1 x1 z1
  go_wp2_with fail
  refine regS_begin (fun w' => EntAt w' w.heap.size a ∧ Below w.heap.size w w' ∧ w.heap.size < w'.heap.size) (by kernel_rfl) ⟨X1.out, B1.out.drew, by have := Z1.out; simpa using (by omega : w.heap.size < w1.heap.size)⟩ ?_
  have hS : EntAt w1.drew w.heap.size a ∧ Below w.heap.size w w1.drew ∧ w.heap.size < w1.drew.heap.size := ⟨X1.out, B1.out.drew, by have := Z1.out; simpa using (by omega : w.heap.size < w1.heap.size)⟩
  generalize w1.drew = w2 at *
  have z2 : w.heap.size ≤ w2.heap.size := Nat.le_of_lt hS.2.2
  have z2' : w.heap.size + 1 ≤ w2.heap.size := hS.2.2
  clear X1 B1 Z1
  refine regS_take (i := 0) (v := a.val) rfl (by kernel_rfl) (by kernel_rfl) (by kernel_rfl) (fun _ _ _ h => h) (by rfl) hS ?hy0 ?_
  case hy0 => intro w' hw'; exact exec_load_ent _ rfl w.heap.size rfl a w' hw'.1
  simp only [Act.put, List.setIfInBounds_toArray, List.set_cons_zero, List.set_cons_succ]
  refine regS_take (i := 2) (v := ?_) rfl (by kernel_rfl) (by kernel_rfl) (by kernel_rfl) (fun _ _ _ h => h) (by rfl) hS ?hy2 ?_
  case hy2 => intro w' hw'; go_simp; (try with_reducible rfl)
  simp only [Act.put, List.setIfInBounds_toArray, List.set_cons_zero, List.set_cons_succ]
  refine regS_take (i := 3) (v := .string ⟨a.tag.toArray⟩) rfl (by kernel_rfl) (by kernel_rfl) (by kernel_rfl) (fun _ _ _ h => h) (by rfl) hS ?hy3 ?_
  case hy3 => intro w' hw'; have c := hw'.1.at_ 5; simp [Ent.cells] at c; go_simp; (try with_reducible rfl)
  simp only [Act.put, List.setIfInBounds_toArray, List.set_cons_zero, List.set_cons_succ]
  refine regS_two (i := 1) (j := 4) rfl rfl (by kernel_rfl) (fun K' hK => ?_) (fun K' hK => ?_)
  · go_simp
    refine (CB w2).out.mono ?_
    rintro e w3 ⟨v3, rfl, o3, b3⟩
    have s3 : EntAt w3 w.heap.size a ∧ Below w.heap.size w w3 ∧ w.heap.size < w3.heap.size := ⟨hS.1.below b3 hS.2.2, hS.2.1.trans (b3.mono hS.2.1.size), Nat.lt_of_lt_of_le hS.2.2 b3.size⟩
    refine hK.out _ _ s3 ?_
    clear hK K'
    obtain ⟨vs, w4, r4, y4, b4⟩ := conv_str w3 ⟨a.tag.toArray⟩
    have o4 := kept_below o3 b4 rfl
    have s4 : EntAt w4 w.heap.size a ∧ Below w.heap.size w w4 ∧ w.heap.size < w4.heap.size := ⟨s3.1.below b4 s3.2.2, s3.2.1.trans (b4.mono s3.2.1.size), Nat.lt_of_lt_of_le s3.2.2 b4.size⟩
    have z4 : w2.heap.size ≤ w4.heap.size := Nat.le_trans b3.size b4.size
    refine regS_do (i := 4) rfl (by kernel_rfl) (fun K' hK => ?_)
    go_simp
    refine hK.out _ _ s4 ?_
    clear hK K' r4 o3 b3 b4 s3 hS
    refine regS_do (i := 5) rfl (by kernel_rfl) (fun K' hK => ?_)
    rw [if_pos (by rfl)]
    refine wp_append_bytes _ _ rfl w2.heap.size _ _ _ rfl o4 _ a.tag rfl y4 (by have := HL.out; have := HT.out; omega) z4 ?_
    intro v5 w5 o5 g5
    have s5 : Below w.heap.size w w5 := s4.2.1.grown g5 s4.2.1.size (fun k hk => Nat.le_trans z2 (o4.lt k hk).1)
    have e5 : BytesAt w5 v5 (bytesE a) := BytesAt.of_own (base := w2.heap.size) (by rw [bytesE, List.length_append, bv_append]; exact o5)
    have hS : EntAt w5 w.heap.size a ∧ Below w.heap.size w w5 ∧ w.heap.size < w5.heap.size := ⟨s4.1.grown g5 (fun e => by have h1 := (o4.lt _ e.symm).1; exact absurd (Nat.le_trans z2' h1) (by omega)), s5, Nat.lt_of_lt_of_le s4.2.2 g5.size⟩
    refine hK.out _ _ hS ?_
    clear hK K' o5 g5 o4 s4 y4
    refine regS_take (i := 6) (v := ?_) rfl (by kernel_rfl) (by kernel_rfl) (by kernel_rfl) (fun _ _ _ h => h) (by rfl) hS ?hy6 ?_
    case hy6 => intro w' hw'; go_simp; (try with_reducible rfl)
    simp only [Act.put, List.setIfInBounds_toArray, List.set_cons_zero, List.set_cons_succ]
    refine regS_end (by kernel_rfl) ?_
    have E5 := Lib.hid e5
    have S5 := Lib.hid s5
    clear hS s5 e5
    go_wp2
    go_ret
    exact ⟨_, rfl, E5.out, S5.out⟩
  · obtain ⟨vs, w3, r4, y3, b3⟩ := conv_str w2 ⟨a.tag.toArray⟩
    have s3 : EntAt w3 w.heap.size a ∧ Below w.heap.size w w3 ∧ w.heap.size < w3.heap.size := ⟨hS.1.below b3 hS.2.2, hS.2.1.trans (b3.mono hS.2.1.size), Nat.lt_of_lt_of_le hS.2.2 b3.size⟩
    go_simp
    refine hK.out _ _ s3 ?_
    clear hK K' r4
    refine regS_do (i := 1) rfl (by kernel_rfl) (fun K' hK => ?_)
    go_simp
    refine (CB w3).out.mono ?_
    rintro e w4 ⟨v3, rfl, o4, b4⟩
    have s4 : EntAt w4 w.heap.size a ∧ Below w.heap.size w w4 ∧ w.heap.size < w4.heap.size := ⟨s3.1.below b4 s3.2.2, s3.2.1.trans (b4.mono s3.2.1.size), Nat.lt_of_lt_of_le s3.2.2 b4.size⟩
    have y4 := y3.below b4
    have z3 := Nat.le_of_lt s3.2.2
    have z3' : w.heap.size + 1 ≤ w3.heap.size := s3.2.2
    refine hK.out _ _ s4 ?_
    clear hK K' y3 b3 s3 hS z2 z2'
    refine regS_do (i := 5) rfl (by kernel_rfl) (fun K' hK => ?_)
    rw [if_pos (by rfl)]
    refine wp_append_bytes _ _ rfl w3.heap.size _ _ _ rfl o4 _ a.tag rfl y4 (by have := HL.out; have := HT.out; omega) b4.size ?_
    intro v5 w5 o5 g5
    have s5 : Below w.heap.size w w5 := s4.2.1.grown g5 s4.2.1.size (fun k hk => Nat.le_trans z3 (o4.lt k hk).1)
    have e5 : BytesAt w5 v5 (bytesE a) := BytesAt.of_own (base := w3.heap.size) (by rw [bytesE, List.length_append, bv_append]; exact o5)
    have hS : EntAt w5 w.heap.size a ∧ Below w.heap.size w w5 ∧ w.heap.size < w5.heap.size := ⟨s4.1.grown g5 (fun e => by have h1 := (o4.lt _ e.symm).1; exact absurd (Nat.le_trans z3' h1) (by omega)), s5, Nat.lt_of_lt_of_le s4.2.2 g5.size⟩
    refine hK.out _ _ hS ?_
    clear hK K' o5 g5 o4 s4 y4
    refine regS_take (i := 6) (v := ?_) rfl (by kernel_rfl) (by kernel_rfl) (by kernel_rfl) (fun _ _ _ h => h) (by rfl) hS ?hy6 ?_
    case hy6 => intro w' hw'; go_simp; (try with_reducible rfl)
    simp only [Act.put, List.setIfInBounds_toArray, List.set_cons_zero, List.set_cons_succ]
    refine regS_end (by kernel_rfl) ?_
    have E5 := Lib.hid e5
    have S5 := Lib.hid s5
    clear hS s5 e5
    go_wp2
    go_ret
    exact ⟨_, rfl, E5.out, S5.out⟩
end Go.Proofs.Ytnjeopgcpffkcaa

namespace Go.Proofs.Ytnjeopgcpffkcaa
set_option maxRecDepth 100000
open Go.RowKit

def st1 (b : List UInt8) : RS := textS ⟨b, 0⟩ 16
def st2 (b : List UInt8) : RS := rawS (st1 b) 8
def st3 (b : List UInt8) : RS := rawS (st2 b) 4
def st4 (b : List UInt8) : RS := rawS (st3 b) 4
def st5 (b : List UInt8) : RS := rawS (st4 b) 2
def st6 (b : List UInt8) : RS := rawS (st5 b) 32
/-- What the six calls of a reader tell. -/
def entP (b : List UInt8) : Ent := ⟨textO ⟨b, 0⟩ 16, numO (st1 b) 8, (numO (st2 b) 4 : Int), (numO (st3 b) 4 : Int), (numO (st4 b) 2 : Int), rawO (st5 b) 32⟩
def readX (b : List UInt8) : Int := if endE (st6 b) ≠ 0 then endE (st6 b) else if entR (entP b) = true then 0 else 11
def readE (b : List UInt8) : Ent := if readX b = 0 then entP b else ent0

theorem entR_parts {e : Ent} (h : entR e = true) : nameB e.name = true ∧ e.tag.length = 32 ∧ 0 ≤ e.since ∧ e.since ≤ e.till ∧ e.till ≤ 1073741824 ∧ 0 ≤ e.index ∧ e.index ≤ 64 := by
  simp only [entR, Bool.and_eq_true, decide_eq_true_eq] at h
  obtain ⟨⟨⟨⟨⟨⟨h1, h2⟩, h3⟩, h4⟩, h5⟩, h6⟩, h7⟩ := h
  exact ⟨h1, h2, h3, h4, h5, h6, h7⟩
theorem name_short {n : List UInt8} (h : nameB n = true) : n.length ≤ 16 := by
  rw [nameB] at h
  simp only [Bool.and_eq_true, decide_eq_true_eq] at h
  omega
theorem uN_small {i : Int} (h0 : 0 ≤ i) (h1 : i ≤ 1073741824) : (uN i : Int) = i := by
  rw [uN]
  omega

theorem read_back (a : Ent) (h : entR a = true) (hi : a.id < 18446744073709551616) : readX (bytesE a) = 0 ∧ entP (bytesE a) = a := by
  obtain ⟨p1, p2, p3, p4, p5, p6, p7⟩ := entR_parts h
  have hn := name_short p1
  have hf := uN_small p3 (by omega)
  have hu := uN_small (by omega) p5
  have hx := uN_small p6 (by omega)
  obtain ⟨n, i, f, u, x, t⟩ := a
  simp only at p1 p2 p3 p4 p5 p6 p7 hn hf hu hx hi
  have e0 : bytesE ⟨n, i, f, u, x, t⟩ = encS ⟨n.toArray⟩ ++ (be 8 i ++ (be 4 (uN f) ++ (be 4 (uN u) ++ (be 2 (uN x) ++ (t ++ []))))) := by
    simp [bytesE, bodyL, nameE]
  rw [e0]
  obtain ⟨a1, b1⟩ := text_put n (be 8 i ++ (be 4 (uN f) ++ (be 4 (uN u) ++ (be 2 (uN x) ++ (t ++ []))))) 16 hn (by omega)
  obtain ⟨a2, b2⟩ := num_put 8 i (be 4 (uN f) ++ (be 4 (uN u) ++ (be 2 (uN x) ++ (t ++ [])))) (by omega)
  obtain ⟨a3, b3⟩ := num_put 4 (uN f) (be 4 (uN u) ++ (be 2 (uN x) ++ (t ++ []))) (by omega)
  obtain ⟨a4, b4⟩ := num_put 4 (uN u) (be 2 (uN x) ++ (t ++ [])) (by omega)
  obtain ⟨a5, b5⟩ := num_put 2 (uN x) (t ++ []) (by omega)
  obtain ⟨a6, b6⟩ := raw_put t [] 32 p2.symm
  generalize be 2 (uN x) ++ (t ++ []) = r5 at *
  generalize be 4 (uN u) ++ r5 = r4 at *
  generalize be 4 (uN f) ++ r4 = r3 at *
  generalize be 8 i ++ r3 = r2 at *
  generalize encS ⟨n.toArray⟩ ++ r2 = r1 at *
  have eP : entP r1 = ⟨n, i, f, u, x, t⟩ := by
    simp only [entP, st1, st2, st3, st4, st5, a1, b1, a2, b2, a3, b3, a4, b4, a5, b5, a6, hf, hu, hx]
  have eS : st6 r1 = ⟨[], 0⟩ := by
    simp only [st1, st2, st3, st4, st5, st6, b1, b2, b3, b4, b5, b6]
  refine ⟨?_, eP⟩
  rw [readX, eS, eP, if_neg (by decide), if_pos h]
theorem readE_back (a : Ent) (h : entR a = true) (hi : a.id < 18446744073709551616) : readE (bytesE a) = a := by
  obtain ⟨h1, h2⟩ := read_back a h hi
  rw [readE, if_pos h1, h2]
theorem bytes_inj {a c : Ent} (ha : entR a = true) (hc : entR c = true) (hi : a.id < 18446744073709551616) (hj : c.id < 18446744073709551616) (h : bytesE a = bytesE c) : a = c := by
  rw [← readE_back a ha hi, ← readE_back c hc hj, h]
theorem read_was (b : List UInt8) (h : readX b = 0) : entR (entP b) = true ∧ bytesE (entP b) = b ∧ (entP b).id < 18446744073709551616 := by
  by_cases he : endE (st6 b) = 0
  · rw [readX, if_neg (by simp [he])] at h
    have hr : entR (entP b) = true := by
      by_cases k : entR (entP b) = true
      · exact k
      · rw [if_neg k] at h
        exact absurd h (by decide)
    obtain ⟨z6, l6⟩ := end_back he
    obtain ⟨z5, n5, l5⟩ := raw_back z6
    obtain ⟨z4, n4, l4⟩ := num_back z5
    obtain ⟨z3, n3, l3⟩ := num_back z4
    obtain ⟨z2, n2, l2⟩ := num_back z3
    obtain ⟨z1, n1, l1⟩ := num_back z2
    obtain ⟨z0, m0, k0, l0⟩ := text_back z1
    refine ⟨hr, ?_, by show numO (st1 b) 8 < _; omega⟩
    have hl0 : b = encS ⟨(textO ⟨b, 0⟩ 16).toArray⟩ ++ (st1 b).l := l0
    have hl1 : (st1 b).l = be 8 (numO (st1 b) 8) ++ (st2 b).l := l1
    have hl2 : (st2 b).l = be 4 (numO (st2 b) 4) ++ (st3 b).l := l2
    have hl3 : (st3 b).l = be 4 (numO (st3 b) 4) ++ (st4 b).l := l3
    have hl4 : (st4 b).l = be 2 (numO (st4 b) 2) ++ (st5 b).l := l4
    have hl5 : (st5 b).l = rawO (st5 b) 32 ++ (st6 b).l := l5
    have u2 : uN (numO (st2 b) 4 : Int) = numO (st2 b) 4 := by rw [uN]; omega
    have u3 : uN (numO (st3 b) 4 : Int) = numO (st3 b) 4 := by rw [uN]; omega
    have u4 : uN (numO (st4 b) 2 : Int) = numO (st4 b) 2 := by rw [uN]; omega
    rw [bytesE, bodyL, entP, nameE, u2, u3, u4]
    conv => rhs; rw [hl0, hl1, hl2, hl3, hl4, hl5, l6]
    simp
  · rw [readX, if_pos he] at h
    exact absurd h he
end Go.Proofs.Ytnjeopgcpffkcaa

namespace Go.Proofs.Ytnjeopgcpffkcaa
set_option maxRecDepth 100000
open Go.RowKit Go.ChangeShapes Go.WideShapes Go.ChangeAt

structure Item where
  key : List UInt8
  text : List UInt8
  ver : Int
  gone : Bool
deriving DecidableEq
namespace Item
def enc (x : Item) : List Value := [.string ⟨x.key.toArray⟩, .string ⟨x.text.toArray⟩, .int .i64 x.ver, .bool x.gone]
def ks : List CK := [.str, .str, .int .i64, .bool]
abbrev val (x : Item) : Value := .agg x.enc.toArray
theorem len (x : Item) : x.enc.length = 4 := rfl
theorem fits (x : Item) : Fits ks x.enc := ⟨⟨_, rfl⟩, ⟨_, rfl⟩, ⟨_, rfl⟩, ⟨_, rfl⟩, trivial⟩
theorem one (x : Item) : x.enc.toArray.all (·.oneCell') = true := by simp [enc, Value.oneCell']
theorem isRec : Rec Try.prog 29 ks := ⟨by kernel_rfl, by kernel_rfl, by kernel_rfl⟩
theorem size (x : Item) : (Try.prog.info? 29).map (·.size) = some x.enc.toArray.size := by
  have h : (Try.prog.info? 29).map (·.size) = some 4 := by kernel_rfl
  exact h
def zero : Item := ⟨[], [], 0, false⟩
theorem zero_is : (Try.prog.info? 29).map (·.zero) = some (some (.agg zero.enc.toArray)) := by kernel_rfl
/-- Its numbers are of their types. -/
structure Ok (x : Item) : Prop where
  ver_ok : -9223372036854775808 ≤ x.ver ∧ x.ver ≤ 9223372036854775807
theorem of_fits {cs : List Value} (h : FitsW ks cs) : ∃ x : Item, cs = x.enc ∧ x.Ok := by
  obtain ⟨_, r0, rfl, ⟨z0, rfl⟩, q0⟩ := FitsW.uncons h
  obtain ⟨_, r1, rfl, ⟨z1, rfl⟩, q1⟩ := FitsW.uncons q0
  obtain ⟨_, r2, rfl, ⟨z2, rfl, w2⟩, q2⟩ := FitsW.uncons q1
  obtain ⟨_, r3, rfl, ⟨z3, rfl⟩, q3⟩ := FitsW.uncons q2
  have hn := FitsW.nil q3
  subst hn
  have b2 := bounds_i64 w2
  exact ⟨⟨z0, z1, z2, z3⟩, rfl, ⟨b2⟩⟩
theorem opened {H : Type} {en : TypeId × Value → H} {W : World} {b base : Nat} {sp : Nat → Bool} {hd : Bool} {v : Value} {d : DataW H} {p : List MemPlace} (hv : Value.okWide Try.prog W .any base 29 v) (h : DataW.Trod en Try.prog W b sp hd 29 v d p) : ∃ x : Item, v = x.val ∧ x.Ok := by
  obtain ⟨cs, rfl, hf⟩ := open_rec isRec hv h
  obtain ⟨x, rfl, hx⟩ := of_fits hf
  exact ⟨x, rfl, hx⟩
theorem isElem : Elem Try.prog 25 29 ks := ⟨isRec, Try.underlying25, by decide, by
  have h : ((Try.prog.info? 29).map fun i => (i.zero, i.size, decide (i.bytes ≤ 8000))) = some (some (.agg zero.enc.toArray), 4, true) := by kernel_rfl
  cases hi : Try.prog.info? 29 with
  | none => rw [hi] at h; cases h
  | some i =>
    rw [hi] at h
    simp only [Option.map_some, Option.some.injEq, Prod.mk.injEq, decide_eq_true_eq] at h
    exact ⟨i, _, rfl, h.1, h.2.1, rfl, h.2.2⟩⟩
/-- A slice of one. -/
theorem build_one (x : Item) : filled 4 1 zero.enc.toArray [(0, x.val)] = some x.enc.toArray := by kernel_rfl
theorem info : ∃ i, Try.prog.info? 29 = some i ∧ i.zero = some (.agg zero.enc.toArray) ∧ i.size = 4 := by
  obtain ⟨i, z, h1, h2, h3, -, -⟩ := isElem.zero
  have h := zero_is
  rw [h1, Option.map_some, h2] at h
  injection h with h
  injection h with h
  exact ⟨i, h1, by rw [h2, h], h3⟩
theorem wpList_one {ops : Array Oper} {rest : List Oper} {o : Oper} {a : Act} {w : World} {Q : Exit → Act → World → Prop} (hgd : o.guard = none) (y : Operand) (ho : o.op = .buildSlice 25 1 #[(0, y)]) (x : Item) (hy : a.eval y = x.val)
    (h : ∀ w', Below w.heap.size w w' → RowsAt w' (.slice (some ⟨w.heap.size, 0, none⟩) 1 1) 4 [x.enc] → w'.heap.size = w.heap.size + 1 → wpList Try.prog ops Q rest (a.put o.dst (.slice (some ⟨w.heap.size, 0, none⟩) 1 1)) w') : wpList Try.prog ops Q (o :: rest) a w := by
  obtain ⟨i, h1, h2, h3⟩ := info
  exact wpList_buildSlice hgd Try.underlying25 h1 h2 1 (by rw [h3]; decide) (by rw [h3]; decide) _ ho #[(0, x.val)] (by simp [hy]) x.enc.toArray (by rw [h3]; exact build_one x) fun w' b q z => h w' b (rows_one q (Nat.le_refl _)) z
theorem opened_all {H : Type} {en : TypeId × Value → H} {W : World} {b : Nat} {sp : Nat → Bool} {hd : Bool} {a : Option Addr} {len cap : Nat} {d : DataW H} {p : List MemPlace} (h : DataW.Trod en Try.prog W b sp hd 25 (.slice a len cap) d p) : ∃ l : List Item, RowsAt W (.slice a len cap) 4 (l.map enc) ∧ ∀ x ∈ l, x.Ok := by
  obtain ⟨L, hL, hf⟩ := open_rows Try.underlying25 isRec h
  have hex : ∀ L : List (List Value), (∀ c ∈ L, FitsW ks c) → ∃ l : List Item, L = l.map enc ∧ ∀ x ∈ l, x.Ok := by
    intro L
    induction L with
    | nil => exact fun _ => ⟨[], rfl, fun x hx => by cases hx⟩
    | cons c r ih =>
      intro hf
      obtain ⟨x, rfl, ox⟩ := of_fits (hf c (List.mem_cons_self ..))
      obtain ⟨l, rfl, ol⟩ := ih fun c hc => hf c (List.mem_cons_of_mem _ hc)
      exact ⟨x :: l, rfl, fun y hy => by rcases List.mem_cons.1 hy with rfl | h
                                         · exact ox
                                         · exact ol y h⟩
  obtain ⟨l, rfl, ol⟩ := hex L hf
  exact ⟨l, hL, ol⟩
theorem same (x y : Item) : eqCells x.enc y.enc = decide (x = y) := by
  rw [Bool.eq_iff_iff, decide_eq_true_eq]
  constructor
  · intro h
    simp only [enc, eqCells, cellEq, Bool.and_eq_true, beq_iff_eq, Bool.and_true, ba_list] at h
    obtain ⟨h0, h1, h2, h3⟩ := h
    obtain ⟨a79, a80, a81, a82⟩ := x
    obtain ⟨b83, b84, b85, b86⟩ := y
    simp only at h0 h1 h2 h3
    subst h0 h1 h2 h3
    rfl
  · rintro rfl
    exact eqCells_refl x.fits
theorem eq_run (x y : Item) (w : World) : (binOp .eql 29 x.val y.val).run Try.prog w = .ok (.bool (decide (x = y))) w := by
  rw [← same]
  exact run_eq_rec isRec _ _ x.fits y.fits w
/-- In a block. -/
abbrev At (w : World) (g : Nat) (x : Item) : Prop := Whole w g 29 x.enc.toArray
theorem At.cells {w : World} {g : Nat} {x : Item} (h : At w g x) : w.cell? ⟨g, 0, none⟩ = some (.string ⟨x.key.toArray⟩) ∧ w.cell? ⟨g, 1, none⟩ = some (.string ⟨x.text.toArray⟩) ∧ w.cell? ⟨g, 2, none⟩ = some (.int .i64 x.ver) ∧ w.cell? ⟨g, 3, none⟩ = some (.bool x.gone) :=
  ⟨h.at_ 0, h.at_ 1, h.at_ 2, h.at_ 3⟩
theorem At.at_key {w : World} {g : Nat} {x : Item} (h : At w g x) : w.cell? ⟨g, 0, none⟩ = some (.string ⟨x.key.toArray⟩) := h.at_ 0
theorem At.at_text {w : World} {g : Nat} {x : Item} (h : At w g x) : w.cell? ⟨g, 1, none⟩ = some (.string ⟨x.text.toArray⟩) := h.at_ 1
theorem At.at_ver {w : World} {g : Nat} {x : Item} (h : At w g x) : w.cell? ⟨g, 2, none⟩ = some (.int .i64 x.ver) := h.at_ 2
theorem At.at_gone {w : World} {g : Nat} {x : Item} (h : At w g x) : w.cell? ⟨g, 3, none⟩ = some (.bool x.gone) := h.at_ 3
theorem At.set_key {w : World} {g : Nat} {x : Item} (h : At w g x) (v : List UInt8) : At (w.setCell ⟨g, 0, none⟩ (.string ⟨v.toArray⟩)) g { x with key := v } := h.stored 0 _
theorem At.set_text {w : World} {g : Nat} {x : Item} (h : At w g x) (v : List UInt8) : At (w.setCell ⟨g, 1, none⟩ (.string ⟨v.toArray⟩)) g { x with text := v } := h.stored 1 _
theorem At.set_ver {w : World} {g : Nat} {x : Item} (h : At w g x) (v : Int) : At (w.setCell ⟨g, 2, none⟩ (.int .i64 v)) g { x with ver := v } := h.stored 2 _
theorem At.set_gone {w : World} {g : Nat} {x : Item} (h : At w g x) (v : Bool) : At (w.setCell ⟨g, 3, none⟩ (.bool v)) g { x with gone := v } := h.stored 3 _
end Item
end Go.Proofs.Ytnjeopgcpffkcaa
