/- The document's Bytes, Find. Plain mathematics of entries: which one any bytes are; what may be is read as it was, and what is read is written as it was. api.Hello as a structure: its cells, opened, in a block. (Written by tools/mkrec.py.) -/
import Derived.Test.YtpcdbpijgmninaaDoorGk
import Derived.Test.YtpcdbpijgmninaaDoorGg
import Derived.Test.YtpcdbpijgmninaaDoorGj
namespace Go.Proofs.YtpcdbpijgmninaaDoor
set_option maxRecDepth 100000
open Go.RowKit

def bytesE (e : Ent) : List UInt8 := bodyL e ++ e.tag

set_option maxRecDepth 100000 in
set_option maxHeartbeats 2000000 in
theorem refBytes_any (a : Ent) (hn : a.name.length ≤ 1000) (ht : a.tag.length ≤ 1000) (hi : a.id < 18446744073709551616) (w : World) :
    Calls Tryd.prog 67 #[a.val] w fun e w' => ∃ v', e = .returned v' ∧ BytesAt w' v' (bytesE a) ∧ Below w.heap.size w w' := by
  have CB := fun w => Lib.hid (refBody_any a hn hi w)
  have HL := Lib.hid (show (bodyL a).length ≤ 1020 by rw [bodyL_length]; omega)
  have HT := Lib.hid ht
  have HV := Lib.hid (Ent.val_cells a)
  go_enter Tryd.func67, Tryd.ntmps67
  go_wp2_with (refine wpList_box_row rfl 24 _ rfl a.cells rfl ?_)
  intro w1 b1 x1 z1
  have X1 : Hid (EntAt w1 w.heap.size a) := x1
  have B1 := Lib.hid b1
  have Z1 := Lib.hid z1
  clear b1 x1 z1
  go_wp2_with fail
  refine regS_begin (fun w' => EntAt w' w.heap.size a ∧ Below w.heap.size w w' ∧ w.heap.size < w'.heap.size) (by kernel_rfl) ⟨X1.out, B1.out.drew, by have := Z1.out; simpa using (by omega : w.heap.size < w1.heap.size)⟩ ?_
  have hS : EntAt w1.drew w.heap.size a ∧ Below w.heap.size w w1.drew ∧ w.heap.size < w1.drew.heap.size := ⟨X1.out, B1.out.drew, by have := Z1.out; simpa using (by omega : w.heap.size < w1.heap.size)⟩
  generalize w1.drew = w2 at *
  have z2 : w.heap.size ≤ w2.heap.size := Nat.le_of_lt hS.2.2
  have z2' : w.heap.size + 1 ≤ w2.heap.size := hS.2.2
  clear X1 B1 Z1
  refine regS_take (i := 0) (v := a.val) rfl (by kernel_rfl) (by kernel_rfl) (by kernel_rfl) (fun _ _ _ h => h) (by rfl) hS ?hy0 ?_
  case hy0 => intro w' hw'; exact exec_load_ent _ rfl w.heap.size rfl a w' hw'.1
  simp only [Act.put, List.setIfInBounds_toArray, List.set_cons_zero, List.set_cons_succ]
  refine regS_take (i := 2) (v := ?_) rfl (by kernel_rfl) (by kernel_rfl) (by kernel_rfl) (fun _ _ _ h => h) (by rfl) hS ?hy2 ?_
  case hy2 => intro w' hw'; go_simp; (try with_reducible rfl)
  simp only [Act.put, List.setIfInBounds_toArray, List.set_cons_zero, List.set_cons_succ]
  refine regS_take (i := 3) (v := .string ⟨a.tag.toArray⟩) rfl (by kernel_rfl) (by kernel_rfl) (by kernel_rfl) (fun _ _ _ h => h) (by rfl) hS ?hy3 ?_
  case hy3 => intro w' hw'; have c := hw'.1.at_ 5; simp [Ent.cells] at c; go_simp; (try with_reducible rfl)
  simp only [Act.put, List.setIfInBounds_toArray, List.set_cons_zero, List.set_cons_succ]
  refine regS_two (i := 1) (j := 4) rfl rfl (by kernel_rfl) (fun K' hK => ?_) (fun K' hK => ?_)
  · go_simp
    refine (CB w2).out.mono ?_
    rintro e w3 ⟨v3, rfl, o3, b3⟩
    have s3 : EntAt w3 w.heap.size a ∧ Below w.heap.size w w3 ∧ w.heap.size < w3.heap.size := ⟨hS.1.below b3 hS.2.2, hS.2.1.trans (b3.mono hS.2.1.size), Nat.lt_of_lt_of_le hS.2.2 b3.size⟩
    refine hK.out _ _ s3 ?_
    clear hK K'
    obtain ⟨vs, w4, r4, y4, b4⟩ := conv_str w3 ⟨a.tag.toArray⟩
    have o4 := kept_below o3 b4 rfl
    have s4 : EntAt w4 w.heap.size a ∧ Below w.heap.size w w4 ∧ w.heap.size < w4.heap.size := ⟨s3.1.below b4 s3.2.2, s3.2.1.trans (b4.mono s3.2.1.size), Nat.lt_of_lt_of_le s3.2.2 b4.size⟩
    have z4 : w2.heap.size ≤ w4.heap.size := Nat.le_trans b3.size b4.size
    refine regS_do (i := 4) rfl (by kernel_rfl) (fun K' hK => ?_)
    go_simp
    refine hK.out _ _ s4 ?_
    clear hK K' r4 o3 b3 b4 s3 hS
    refine regS_do (i := 5) rfl (by kernel_rfl) (fun K' hK => ?_)
    rw [if_pos (by rfl)]
    refine wp_append_bytes _ _ rfl w2.heap.size _ _ _ rfl o4 _ a.tag rfl y4 (by have := HL.out; have := HT.out; omega) z4 ?_
    intro v5 w5 o5 g5
    have s5 : Below w.heap.size w w5 := s4.2.1.grown g5 s4.2.1.size (fun k hk => Nat.le_trans z2 (o4.lt k hk).1)
    have e5 : BytesAt w5 v5 (bytesE a) := BytesAt.of_own (base := w2.heap.size) (by rw [bytesE, List.length_append, bv_append]; exact o5)
    have hS : EntAt w5 w.heap.size a ∧ Below w.heap.size w w5 ∧ w.heap.size < w5.heap.size := ⟨s4.1.grown g5 (fun e => by have h1 := (o4.lt _ e.symm).1; exact absurd (Nat.le_trans z2' h1) (by omega)), s5, Nat.lt_of_lt_of_le s4.2.2 g5.size⟩
    refine hK.out _ _ hS ?_
    clear hK K' o5 g5 o4 s4 y4
    refine regS_take (i := 6) (v := ?_) rfl (by kernel_rfl) (by kernel_rfl) (by kernel_rfl) (fun _ _ _ h => h) (by rfl) hS ?hy6 ?_
    case hy6 => intro w' hw'; go_simp; (try with_reducible rfl)
    simp only [Act.put, List.setIfInBounds_toArray, List.set_cons_zero, List.set_cons_succ]
    refine regS_end (by kernel_rfl) ?_
    have E5 := Lib.hid e5
    have S5 := Lib.hid s5
    clear hS s5 e5
    go_wp2
    go_ret
    exact ⟨_, rfl, E5.out, S5.out⟩
  · obtain ⟨vs, w3, r4, y3, b3⟩ := conv_str w2 ⟨a.tag.toArray⟩
    have s3 : EntAt w3 w.heap.size a ∧ Below w.heap.size w w3 ∧ w.heap.size < w3.heap.size := ⟨hS.1.below b3 hS.2.2, hS.2.1.trans (b3.mono hS.2.1.size), Nat.lt_of_lt_of_le hS.2.2 b3.size⟩
    go_simp
    refine hK.out _ _ s3 ?_
    clear hK K' r4
    refine regS_do (i := 1) rfl (by kernel_rfl) (fun K' hK => ?_)
    go_simp
    refine (CB w3).out.mono ?_
    rintro e w4 ⟨v3, rfl, o4, b4⟩
    have s4 : EntAt w4 w.heap.size a ∧ Below w.heap.size w w4 ∧ w.heap.size < w4.heap.size := ⟨s3.1.below b4 s3.2.2, s3.2.1.trans (b4.mono s3.2.1.size), Nat.lt_of_lt_of_le s3.2.2 b4.size⟩
    have y4 := y3.below b4
    have z3 := Nat.le_of_lt s3.2.2
    have z3' : w.heap.size + 1 ≤ w3.heap.size := s3.2.2
    refine hK.out _ _ s4 ?_
    clear hK K' y3 b3 s3 hS z2 z2'
    refine regS_do (i := 5) rfl (by kernel_rfl) (fun K' hK => ?_)
    rw [if_pos (by rfl)]
    refine wp_append_bytes _ _ rfl w3.heap.size _ _ _ rfl o4 _ a.tag rfl y4 (by have := HL.out; have := HT.out; omega) b4.size ?_
    intro v5 w5 o5 g5
    have s5 : Below w.heap.size w w5 := s4.2.1.grown g5 s4.2.1.size (fun k hk => Nat.le_trans z3 (o4.lt k hk).1)
    have e5 : BytesAt w5 v5 (bytesE a) := BytesAt.of_own (base := w3.heap.size) (by rw [bytesE, List.length_append, bv_append]; exact o5)
    have hS : EntAt w5 w.heap.size a ∧ Below w.heap.size w w5 ∧ w.heap.size < w5.heap.size := ⟨s4.1.grown g5 (fun e => by have h1 := (o4.lt _ e.symm).1; exact absurd (Nat.le_trans z3' h1) (by omega)), s5, Nat.lt_of_lt_of_le s4.2.2 g5.size⟩
    refine hK.out _ _ hS ?_
    clear hK K' o5 g5 o4 s4 y4
    refine regS_take (i := 6) (v := ?_) rfl (by kernel_rfl) (by kernel_rfl) (by kernel_rfl) (fun _ _ _ h => h) (by rfl) hS ?hy6 ?_
    case hy6 => intro w' hw'; go_simp; (try with_reducible rfl)
    simp only [Act.put, List.setIfInBounds_toArray, List.set_cons_zero, List.set_cons_succ]
    refine regS_end (by kernel_rfl) ?_
    have E5 := Lib.hid e5
    have S5 := Lib.hid s5
    clear hS s5 e5
    go_wp2
    go_ret
    exact ⟨_, rfl, E5.out, S5.out⟩
end Go.Proofs.YtpcdbpijgmninaaDoor

namespace Go.Proofs.YtpcdbpijgmninaaDoor
set_option maxRecDepth 100000
open Go.RowKit

def st1 (b : List UInt8) : RS := textS ⟨b, 0⟩ 16
def st2 (b : List UInt8) : RS := rawS (st1 b) 8
def st3 (b : List UInt8) : RS := rawS (st2 b) 4
def st4 (b : List UInt8) : RS := rawS (st3 b) 4
def st5 (b : List UInt8) : RS := rawS (st4 b) 2
def st6 (b : List UInt8) : RS := rawS (st5 b) 32
/-- What the six calls of a reader tell. -/
def entP (b : List UInt8) : Ent := ⟨textO ⟨b, 0⟩ 16, numO (st1 b) 8, (numO (st2 b) 4 : Int), (numO (st3 b) 4 : Int), (numO (st4 b) 2 : Int), rawO (st5 b) 32⟩
def readX (b : List UInt8) : Int := if endE (st6 b) ≠ 0 then endE (st6 b) else if entR (entP b) = true then 0 else 11
def readE (b : List UInt8) : Ent := if readX b = 0 then entP b else ent0

theorem entR_parts {e : Ent} (h : entR e = true) : nameB e.name = true ∧ e.tag.length = 32 ∧ 0 ≤ e.since ∧ e.since ≤ e.till ∧ e.till ≤ 1073741824 ∧ 0 ≤ e.index ∧ e.index ≤ 64 := by
  simp only [entR, Bool.and_eq_true, decide_eq_true_eq] at h
  obtain ⟨⟨⟨⟨⟨⟨h1, h2⟩, h3⟩, h4⟩, h5⟩, h6⟩, h7⟩ := h
  exact ⟨h1, h2, h3, h4, h5, h6, h7⟩
theorem name_short {n : List UInt8} (h : nameB n = true) : n.length ≤ 16 := by
  rw [nameB] at h
  simp only [Bool.and_eq_true, decide_eq_true_eq] at h
  omega
theorem uN_small {i : Int} (h0 : 0 ≤ i) (h1 : i ≤ 1073741824) : (uN i : Int) = i := by
  rw [uN]
  omega

theorem read_back (a : Ent) (h : entR a = true) (hi : a.id < 18446744073709551616) : readX (bytesE a) = 0 ∧ entP (bytesE a) = a := by
  obtain ⟨p1, p2, p3, p4, p5, p6, p7⟩ := entR_parts h
  have hn := name_short p1
  have hf := uN_small p3 (by omega)
  have hu := uN_small (by omega) p5
  have hx := uN_small p6 (by omega)
  obtain ⟨n, i, f, u, x, t⟩ := a
  simp only at p1 p2 p3 p4 p5 p6 p7 hn hf hu hx hi
  have e0 : bytesE ⟨n, i, f, u, x, t⟩ = encS ⟨n.toArray⟩ ++ (be 8 i ++ (be 4 (uN f) ++ (be 4 (uN u) ++ (be 2 (uN x) ++ (t ++ []))))) := by
    simp [bytesE, bodyL, nameE]
  rw [e0]
  obtain ⟨a1, b1⟩ := text_put n (be 8 i ++ (be 4 (uN f) ++ (be 4 (uN u) ++ (be 2 (uN x) ++ (t ++ []))))) 16 hn (by omega)
  obtain ⟨a2, b2⟩ := num_put 8 i (be 4 (uN f) ++ (be 4 (uN u) ++ (be 2 (uN x) ++ (t ++ [])))) (by omega)
  obtain ⟨a3, b3⟩ := num_put 4 (uN f) (be 4 (uN u) ++ (be 2 (uN x) ++ (t ++ []))) (by omega)
  obtain ⟨a4, b4⟩ := num_put 4 (uN u) (be 2 (uN x) ++ (t ++ [])) (by omega)
  obtain ⟨a5, b5⟩ := num_put 2 (uN x) (t ++ []) (by omega)
  obtain ⟨a6, b6⟩ := raw_put t [] 32 p2.symm
  generalize be 2 (uN x) ++ (t ++ []) = r5 at *
  generalize be 4 (uN u) ++ r5 = r4 at *
  generalize be 4 (uN f) ++ r4 = r3 at *
  generalize be 8 i ++ r3 = r2 at *
  generalize encS ⟨n.toArray⟩ ++ r2 = r1 at *
  have eP : entP r1 = ⟨n, i, f, u, x, t⟩ := by
    simp only [entP, st1, st2, st3, st4, st5, a1, b1, a2, b2, a3, b3, a4, b4, a5, b5, a6, hf, hu, hx]
  have eS : st6 r1 = ⟨[], 0⟩ := by
    simp only [st1, st2, st3, st4, st5, st6, b1, b2, b3, b4, b5, b6]
  refine ⟨?_, eP⟩
  rw [readX, eS, eP, if_neg (by decide), if_pos h]
theorem readE_back (a : Ent) (h : entR a = true) (hi : a.id < 18446744073709551616) : readE (bytesE a) = a := by
  obtain ⟨h1, h2⟩ := read_back a h hi
  rw [readE, if_pos h1, h2]
theorem bytes_inj {a c : Ent} (ha : entR a = true) (hc : entR c = true) (hi : a.id < 18446744073709551616) (hj : c.id < 18446744073709551616) (h : bytesE a = bytesE c) : a = c := by
  rw [← readE_back a ha hi, ← readE_back c hc hj, h]
theorem read_was (b : List UInt8) (h : readX b = 0) : entR (entP b) = true ∧ bytesE (entP b) = b ∧ (entP b).id < 18446744073709551616 := by
  by_cases he : endE (st6 b) = 0
  · rw [readX, if_neg (by simp [he])] at h
    have hr : entR (entP b) = true := by
      by_cases k : entR (entP b) = true
      · exact k
      · rw [if_neg k] at h
        exact absurd h (by decide)
    obtain ⟨z6, l6⟩ := end_back he
    obtain ⟨z5, n5, l5⟩ := raw_back z6
    obtain ⟨z4, n4, l4⟩ := num_back z5
    obtain ⟨z3, n3, l3⟩ := num_back z4
    obtain ⟨z2, n2, l2⟩ := num_back z3
    obtain ⟨z1, n1, l1⟩ := num_back z2
    obtain ⟨z0, m0, k0, l0⟩ := text_back z1
    refine ⟨hr, ?_, by show numO (st1 b) 8 < _; omega⟩
    have hl0 : b = encS ⟨(textO ⟨b, 0⟩ 16).toArray⟩ ++ (st1 b).l := l0
    have hl1 : (st1 b).l = be 8 (numO (st1 b) 8) ++ (st2 b).l := l1
    have hl2 : (st2 b).l = be 4 (numO (st2 b) 4) ++ (st3 b).l := l2
    have hl3 : (st3 b).l = be 4 (numO (st3 b) 4) ++ (st4 b).l := l3
    have hl4 : (st4 b).l = be 2 (numO (st4 b) 2) ++ (st5 b).l := l4
    have hl5 : (st5 b).l = rawO (st5 b) 32 ++ (st6 b).l := l5
    have u2 : uN (numO (st2 b) 4 : Int) = numO (st2 b) 4 := by rw [uN]; omega
    have u3 : uN (numO (st3 b) 4 : Int) = numO (st3 b) 4 := by rw [uN]; omega
    have u4 : uN (numO (st4 b) 2 : Int) = numO (st4 b) 2 := by rw [uN]; omega
    rw [bytesE, bodyL, entP, nameE, u2, u3, u4]
    conv => rhs; rw [hl0, hl1, hl2, hl3, hl4, hl5, l6]
    simp
  · rw [readX, if_pos he] at h
    exact absurd h he
end Go.Proofs.YtpcdbpijgmninaaDoor

namespace Go.Proofs.YtpcdbpijgmninaaDoor
set_option maxRecDepth 100000
open Go.RowKit Go.ChangeShapes Go.WideShapes Go.ChangeAt

structure Hel where
  dest : List UInt8
  nonce : Nat
  entry : Ent
  tag : List UInt8
deriving DecidableEq
namespace Hel
def enc (x : Hel) : List Value := [.string ⟨x.dest.toArray⟩, .int .u64 (x.nonce : Int), .string ⟨x.entry.name.toArray⟩, .int .u64 (x.entry.id : Int), .int .i64 x.entry.since, .int .i64 x.entry.till, .int .i64 x.entry.index, .string ⟨x.entry.tag.toArray⟩, .string ⟨x.tag.toArray⟩]
def ks : List CK := [.str, .int .u64, .str, .int .u64, .int .i64, .int .i64, .int .i64, .str, .str]
abbrev val (x : Hel) : Value := .agg x.enc.toArray
theorem len (x : Hel) : x.enc.length = 9 := rfl
theorem fits (x : Hel) : Fits ks x.enc := ⟨⟨_, rfl⟩, ⟨_, rfl⟩, ⟨_, rfl⟩, ⟨_, rfl⟩, ⟨_, rfl⟩, ⟨_, rfl⟩, ⟨_, rfl⟩, ⟨_, rfl⟩, ⟨_, rfl⟩, trivial⟩
theorem one (x : Hel) : x.enc.toArray.all (·.oneCell') = true := by simp [enc, Value.oneCell']
theorem isRec : Rec Tryd.prog 26 ks := ⟨by kernel_rfl, by kernel_rfl, by kernel_rfl⟩
theorem size (x : Hel) : (Tryd.prog.info? 26).map (·.size) = some x.enc.toArray.size := by
  have h : (Tryd.prog.info? 26).map (·.size) = some 9 := by kernel_rfl
  exact h
def zero : Hel := ⟨[], 0, Ent.zero, []⟩
theorem zero_is : (Tryd.prog.info? 26).map (·.zero) = some (some (.agg zero.enc.toArray)) := by kernel_rfl
/-- Its numbers are of their types. -/
structure Ok (x : Hel) : Prop where
  nonce_ok : x.nonce < 18446744073709551616
  entry_id_ok : x.entry.id < 18446744073709551616
  entry_since_ok : -9223372036854775808 ≤ x.entry.since ∧ x.entry.since ≤ 9223372036854775807
  entry_till_ok : -9223372036854775808 ≤ x.entry.till ∧ x.entry.till ≤ 9223372036854775807
  entry_index_ok : -9223372036854775808 ≤ x.entry.index ∧ x.entry.index ≤ 9223372036854775807
theorem of_fits {cs : List Value} (h : FitsW ks cs) : ∃ x : Hel, cs = x.enc ∧ x.Ok := by
  obtain ⟨_, r0, rfl, ⟨z0, rfl⟩, q0⟩ := FitsW.uncons h
  obtain ⟨_, r1, rfl, ⟨z1, rfl, w1⟩, q1⟩ := FitsW.uncons q0
  obtain ⟨_, r2, rfl, ⟨z2, rfl⟩, q2⟩ := FitsW.uncons q1
  obtain ⟨_, r3, rfl, ⟨z3, rfl, w3⟩, q3⟩ := FitsW.uncons q2
  obtain ⟨_, r4, rfl, ⟨z4, rfl, w4⟩, q4⟩ := FitsW.uncons q3
  obtain ⟨_, r5, rfl, ⟨z5, rfl, w5⟩, q5⟩ := FitsW.uncons q4
  obtain ⟨_, r6, rfl, ⟨z6, rfl, w6⟩, q6⟩ := FitsW.uncons q5
  obtain ⟨_, r7, rfl, ⟨z7, rfl⟩, q7⟩ := FitsW.uncons q6
  obtain ⟨_, r8, rfl, ⟨z8, rfl⟩, q8⟩ := FitsW.uncons q7
  have hn := FitsW.nil q8
  subst hn
  have b1 := bounds_u64 w1
  obtain ⟨n1, rfl⟩ := Int.eq_ofNat_of_zero_le b1.1
  have b3 := bounds_u64 w3
  obtain ⟨n3, rfl⟩ := Int.eq_ofNat_of_zero_le b3.1
  have b4 := bounds_i64 w4
  have b5 := bounds_i64 w5
  have b6 := bounds_i64 w6
  exact ⟨⟨z0, n1, ⟨z2, n3, z4, z5, z6, z7⟩, z8⟩, rfl, ⟨(by show (n1 : Nat) < 18446744073709551616; have := b1.2; omega), (by show (n3 : Nat) < 18446744073709551616; have := b3.2; omega), b4, b5, b6⟩⟩
theorem opened {H : Type} {en : TypeId × Value → H} {W : World} {b base : Nat} {sp : Nat → Bool} {hd : Bool} {v : Value} {d : DataW H} {p : List MemPlace} (hv : Value.okWide Tryd.prog W .any base 26 v) (h : DataW.Trod en Tryd.prog W b sp hd 26 v d p) : ∃ x : Hel, v = x.val ∧ x.Ok := by
  obtain ⟨cs, rfl, hf⟩ := open_rec isRec hv h
  obtain ⟨x, rfl, hx⟩ := of_fits hf
  exact ⟨x, rfl, hx⟩
theorem same (x y : Hel) : eqCells x.enc y.enc = decide (x = y) := by
  rw [Bool.eq_iff_iff, decide_eq_true_eq]
  constructor
  · intro h
    simp only [enc, eqCells, cellEq, Bool.and_eq_true, beq_iff_eq, Bool.and_true, ba_list] at h
    obtain ⟨h0, h1, h2, h3, h4, h5, h6, h7, h8⟩ := h
    obtain ⟨a113, a114, ⟨a115, a116, a117, a118, a119, a120⟩, a121⟩ := x
    obtain ⟨b122, b123, ⟨b124, b125, b126, b127, b128, b129⟩, b130⟩ := y
    simp only at h0 h1 h2 h3 h4 h5 h6 h7 h8
    have h1 := Int.ofNat.inj h1
    have h3 := Int.ofNat.inj h3
    subst h0 h1 h2 h3 h4 h5 h6 h7 h8
    rfl
  · rintro rfl
    exact eqCells_refl x.fits
theorem eq_run (x y : Hel) (w : World) : (binOp .eql 26 x.val y.val).run Tryd.prog w = .ok (.bool (decide (x = y))) w := by
  rw [← same]
  exact run_eq_rec isRec _ _ x.fits y.fits w
/-- In a block. -/
abbrev At (w : World) (g : Nat) (x : Hel) : Prop := Whole w g 26 x.enc.toArray
theorem At.cells {w : World} {g : Nat} {x : Hel} (h : At w g x) : w.cell? ⟨g, 0, none⟩ = some (.string ⟨x.dest.toArray⟩) ∧ w.cell? ⟨g, 1, none⟩ = some (.int .u64 (x.nonce : Int)) ∧ w.cell? ⟨g, 2, none⟩ = some (.string ⟨x.entry.name.toArray⟩) ∧ w.cell? ⟨g, 3, none⟩ = some (.int .u64 (x.entry.id : Int)) ∧ w.cell? ⟨g, 4, none⟩ = some (.int .i64 x.entry.since) ∧ w.cell? ⟨g, 5, none⟩ = some (.int .i64 x.entry.till) ∧ w.cell? ⟨g, 6, none⟩ = some (.int .i64 x.entry.index) ∧ w.cell? ⟨g, 7, none⟩ = some (.string ⟨x.entry.tag.toArray⟩) ∧ w.cell? ⟨g, 8, none⟩ = some (.string ⟨x.tag.toArray⟩) :=
  ⟨h.at_ 0, h.at_ 1, h.at_ 2, h.at_ 3, h.at_ 4, h.at_ 5, h.at_ 6, h.at_ 7, h.at_ 8⟩
theorem At.at_dest {w : World} {g : Nat} {x : Hel} (h : At w g x) : w.cell? ⟨g, 0, none⟩ = some (.string ⟨x.dest.toArray⟩) := h.at_ 0
theorem At.at_nonce {w : World} {g : Nat} {x : Hel} (h : At w g x) : w.cell? ⟨g, 1, none⟩ = some (.int .u64 (x.nonce : Int)) := h.at_ 1
theorem At.at_entry_name {w : World} {g : Nat} {x : Hel} (h : At w g x) : w.cell? ⟨g, 2, none⟩ = some (.string ⟨x.entry.name.toArray⟩) := h.at_ 2
theorem At.at_entry_id {w : World} {g : Nat} {x : Hel} (h : At w g x) : w.cell? ⟨g, 3, none⟩ = some (.int .u64 (x.entry.id : Int)) := h.at_ 3
theorem At.at_entry_since {w : World} {g : Nat} {x : Hel} (h : At w g x) : w.cell? ⟨g, 4, none⟩ = some (.int .i64 x.entry.since) := h.at_ 4
theorem At.at_entry_till {w : World} {g : Nat} {x : Hel} (h : At w g x) : w.cell? ⟨g, 5, none⟩ = some (.int .i64 x.entry.till) := h.at_ 5
theorem At.at_entry_index {w : World} {g : Nat} {x : Hel} (h : At w g x) : w.cell? ⟨g, 6, none⟩ = some (.int .i64 x.entry.index) := h.at_ 6
theorem At.at_entry_tag {w : World} {g : Nat} {x : Hel} (h : At w g x) : w.cell? ⟨g, 7, none⟩ = some (.string ⟨x.entry.tag.toArray⟩) := h.at_ 7
theorem At.at_tag {w : World} {g : Nat} {x : Hel} (h : At w g x) : w.cell? ⟨g, 8, none⟩ = some (.string ⟨x.tag.toArray⟩) := h.at_ 8
theorem At.part_entry {w : World} {g : Nat} {x : Hel} (h : At w g x) : ∀ j v, x.entry.enc[j]? = some v → w.cell? ⟨g, 2 + j, none⟩ = some v := Whole.part (a := [.string ⟨x.dest.toArray⟩, .int .u64 (x.nonce : Int)]) (b := x.entry.enc) (c := [.string ⟨x.tag.toArray⟩]) h
theorem At.set_dest {w : World} {g : Nat} {x : Hel} (h : At w g x) (v : List UInt8) : At (w.setCell ⟨g, 0, none⟩ (.string ⟨v.toArray⟩)) g { x with dest := v } := h.stored 0 _
theorem At.set_nonce {w : World} {g : Nat} {x : Hel} (h : At w g x) (v : Nat) : At (w.setCell ⟨g, 1, none⟩ (.int .u64 (v : Int))) g { x with nonce := v } := h.stored 1 _
theorem At.set_entry_name {w : World} {g : Nat} {x : Hel} (h : At w g x) (v : List UInt8) : At (w.setCell ⟨g, 2, none⟩ (.string ⟨v.toArray⟩)) g { x with entry := { x.entry with name := v } } := h.stored 2 _
theorem At.set_entry_id {w : World} {g : Nat} {x : Hel} (h : At w g x) (v : Nat) : At (w.setCell ⟨g, 3, none⟩ (.int .u64 (v : Int))) g { x with entry := { x.entry with id := v } } := h.stored 3 _
theorem At.set_entry_since {w : World} {g : Nat} {x : Hel} (h : At w g x) (v : Int) : At (w.setCell ⟨g, 4, none⟩ (.int .i64 v)) g { x with entry := { x.entry with since := v } } := h.stored 4 _
theorem At.set_entry_till {w : World} {g : Nat} {x : Hel} (h : At w g x) (v : Int) : At (w.setCell ⟨g, 5, none⟩ (.int .i64 v)) g { x with entry := { x.entry with till := v } } := h.stored 5 _
theorem At.set_entry_index {w : World} {g : Nat} {x : Hel} (h : At w g x) (v : Int) : At (w.setCell ⟨g, 6, none⟩ (.int .i64 v)) g { x with entry := { x.entry with index := v } } := h.stored 6 _
theorem At.set_entry_tag {w : World} {g : Nat} {x : Hel} (h : At w g x) (v : List UInt8) : At (w.setCell ⟨g, 7, none⟩ (.string ⟨v.toArray⟩)) g { x with entry := { x.entry with tag := v } } := h.stored 7 _
theorem At.set_tag {w : World} {g : Nat} {x : Hel} (h : At w g x) (v : List UInt8) : At (w.setCell ⟨g, 8, none⟩ (.string ⟨v.toArray⟩)) g { x with tag := v } := h.stored 8 _
end Hel
end Go.Proofs.YtpcdbpijgmninaaDoor
