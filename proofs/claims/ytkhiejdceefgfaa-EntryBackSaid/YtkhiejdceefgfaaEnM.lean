/- Plain mathematics of entries: which one any bytes are; what may be is read as it was, and what is read is written as it was. -/
import Derived.Test.YtkhiejdceefgfaaRdM
import Derived.Test.YtkhiejdceefgfaaEnR
import Derived.Test.YtkhiejdceefgfaaEnD
namespace Go.Proofs.Ytkhiejdceefgfaa
open Go.RowKit

def st1 (b : List UInt8) : RS := textS ⟨b, 0⟩ 16
def st2 (b : List UInt8) : RS := rawS (st1 b) 8
def st3 (b : List UInt8) : RS := rawS (st2 b) 4
def st4 (b : List UInt8) : RS := rawS (st3 b) 4
def st5 (b : List UInt8) : RS := rawS (st4 b) 2
def st6 (b : List UInt8) : RS := rawS (st5 b) 32
/-- What the six calls of a reader tell. -/
def entP (b : List UInt8) : Ent := ⟨textO ⟨b, 0⟩ 16, numO (st1 b) 8, (numO (st2 b) 4 : Int), (numO (st3 b) 4 : Int), (numO (st4 b) 2 : Int), rawO (st5 b) 32⟩
def readX (b : List UInt8) : Int := if endE (st6 b) ≠ 0 then endE (st6 b) else if entR (entP b) = true then 0 else 11
def readE (b : List UInt8) : Ent := if readX b = 0 then entP b else ent0

theorem entR_parts {e : Ent} (h : entR e = true) : nameB e.name = true ∧ e.tag.length = 32 ∧ 0 ≤ e.since ∧ e.since ≤ e.till ∧ e.till ≤ 1073741824 ∧ 0 ≤ e.index ∧ e.index ≤ 64 := by
  simp only [entR, Bool.and_eq_true, decide_eq_true_eq] at h
  obtain ⟨⟨⟨⟨⟨⟨h1, h2⟩, h3⟩, h4⟩, h5⟩, h6⟩, h7⟩ := h
  exact ⟨h1, h2, h3, h4, h5, h6, h7⟩
theorem name_short {n : List UInt8} (h : nameB n = true) : n.length ≤ 16 := by
  rw [nameB] at h
  simp only [Bool.and_eq_true, decide_eq_true_eq] at h
  omega
theorem uN_small {i : Int} (h0 : 0 ≤ i) (h1 : i ≤ 1073741824) : (uN i : Int) = i := by
  rw [uN]
  omega

theorem read_back (a : Ent) (h : entR a = true) (hi : a.id < 18446744073709551616) : readX (bytesE a) = 0 ∧ entP (bytesE a) = a := by
  obtain ⟨p1, p2, p3, p4, p5, p6, p7⟩ := entR_parts h
  have hn := name_short p1
  have hf := uN_small p3 (by omega)
  have hu := uN_small (by omega) p5
  have hx := uN_small p6 (by omega)
  obtain ⟨n, i, f, u, x, t⟩ := a
  simp only at p1 p2 p3 p4 p5 p6 p7 hn hf hu hx hi
  have e0 : bytesE ⟨n, i, f, u, x, t⟩ = encS ⟨n.toArray⟩ ++ (be 8 i ++ (be 4 (uN f) ++ (be 4 (uN u) ++ (be 2 (uN x) ++ (t ++ []))))) := by
    simp [bytesE, bodyL, nameE]
  rw [e0]
  obtain ⟨a1, b1⟩ := text_put n (be 8 i ++ (be 4 (uN f) ++ (be 4 (uN u) ++ (be 2 (uN x) ++ (t ++ []))))) 16 hn (by omega)
  obtain ⟨a2, b2⟩ := num_put 8 i (be 4 (uN f) ++ (be 4 (uN u) ++ (be 2 (uN x) ++ (t ++ [])))) (by omega)
  obtain ⟨a3, b3⟩ := num_put 4 (uN f) (be 4 (uN u) ++ (be 2 (uN x) ++ (t ++ []))) (by omega)
  obtain ⟨a4, b4⟩ := num_put 4 (uN u) (be 2 (uN x) ++ (t ++ [])) (by omega)
  obtain ⟨a5, b5⟩ := num_put 2 (uN x) (t ++ []) (by omega)
  obtain ⟨a6, b6⟩ := raw_put t [] 32 p2.symm
  generalize be 2 (uN x) ++ (t ++ []) = r5 at *
  generalize be 4 (uN u) ++ r5 = r4 at *
  generalize be 4 (uN f) ++ r4 = r3 at *
  generalize be 8 i ++ r3 = r2 at *
  generalize encS ⟨n.toArray⟩ ++ r2 = r1 at *
  have eP : entP r1 = ⟨n, i, f, u, x, t⟩ := by
    simp only [entP, st1, st2, st3, st4, st5, a1, b1, a2, b2, a3, b3, a4, b4, a5, b5, a6, hf, hu, hx]
  have eS : st6 r1 = ⟨[], 0⟩ := by
    simp only [st1, st2, st3, st4, st5, st6, b1, b2, b3, b4, b5, b6]
  refine ⟨?_, eP⟩
  rw [readX, eS, eP, if_neg (by decide), if_pos h]
theorem readE_back (a : Ent) (h : entR a = true) (hi : a.id < 18446744073709551616) : readE (bytesE a) = a := by
  obtain ⟨h1, h2⟩ := read_back a h hi
  rw [readE, if_pos h1, h2]
theorem bytes_inj {a c : Ent} (ha : entR a = true) (hc : entR c = true) (hi : a.id < 18446744073709551616) (hj : c.id < 18446744073709551616) (h : bytesE a = bytesE c) : a = c := by
  rw [← readE_back a ha hi, ← readE_back c hc hj, h]
theorem read_was (b : List UInt8) (h : readX b = 0) : entR (entP b) = true ∧ bytesE (entP b) = b ∧ (entP b).id < 18446744073709551616 := by
  by_cases he : endE (st6 b) = 0
  · rw [readX, if_neg (by simp [he])] at h
    have hr : entR (entP b) = true := by
      by_cases k : entR (entP b) = true
      · exact k
      · rw [if_neg k] at h
        exact absurd h (by decide)
    obtain ⟨z6, l6⟩ := end_back he
    obtain ⟨z5, n5, l5⟩ := raw_back z6
    obtain ⟨z4, n4, l4⟩ := num_back z5
    obtain ⟨z3, n3, l3⟩ := num_back z4
    obtain ⟨z2, n2, l2⟩ := num_back z3
    obtain ⟨z1, n1, l1⟩ := num_back z2
    obtain ⟨z0, m0, k0, l0⟩ := text_back z1
    refine ⟨hr, ?_, by show numO (st1 b) 8 < _; omega⟩
    have hl0 : b = encS ⟨(textO ⟨b, 0⟩ 16).toArray⟩ ++ (st1 b).l := l0
    have hl1 : (st1 b).l = be 8 (numO (st1 b) 8) ++ (st2 b).l := l1
    have hl2 : (st2 b).l = be 4 (numO (st2 b) 4) ++ (st3 b).l := l2
    have hl3 : (st3 b).l = be 4 (numO (st3 b) 4) ++ (st4 b).l := l3
    have hl4 : (st4 b).l = be 2 (numO (st4 b) 2) ++ (st5 b).l := l4
    have hl5 : (st5 b).l = rawO (st5 b) 32 ++ (st6 b).l := l5
    have u2 : uN (numO (st2 b) 4 : Int) = numO (st2 b) 4 := by rw [uN]; omega
    have u3 : uN (numO (st3 b) 4 : Int) = numO (st3 b) 4 := by rw [uN]; omega
    have u4 : uN (numO (st4 b) 2 : Int) = numO (st4 b) 2 := by rw [uN]; omega
    rw [bytesE, bodyL, entP, nameE, u2, u3, u4]
    conv => rhs; rw [hl0, hl1, hl2, hl3, hl4, hl5, l6]
    simp
  · rw [readX, if_pos he] at h
    exact absurd h he
end Go.Proofs.Ytkhiejdceefgfaa
