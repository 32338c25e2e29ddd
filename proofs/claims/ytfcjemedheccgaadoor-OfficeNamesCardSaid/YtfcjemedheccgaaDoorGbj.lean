/- Package entry, as landed: within, Right. Package entry, as landed: Body, Bytes. -/
import Derived.Test.YtfcjemedheccgaaDoorGk
import Derived.Test.YtfcjemedheccgaaDoorGh
import Derived.Test.YtfcjemedheccgaaDoorGbi
import Derived.Test.YtfcjemedheccgaaDoorGj
import Derived.Lib.AppendStr
namespace Go.Proofs.YtfcjemedheccgaaDoor
set_option maxRecDepth 100000
open Go.RowKit

theorem within_any (n l m : Int) (w : World) :
    Calls Tryd.prog 49 #[.int .i64 n, .int .i64 l, .int .i64 m] w fun e w' => e = .returned (.bool (decide (l ≤ n) && decide (n ≤ m))) ∧ w' = w := by
  obtain ⟨b1, h1⟩ : ∃ b, b = decide (l ≤ n) := ⟨_, rfl⟩
  obtain ⟨b2, h2⟩ : ∃ b, b = decide (n ≤ m) := ⟨_, rfl⟩
  rw [← h1, ← h2]
  have r1 := h1.symm
  have r2 := h2.symm
  clear h1 h2
  cases b1 <;> cases b2
  all_goals
    go_enter Tryd.func49, Tryd.ntmps49
    go_wp2
    go_ret
    exact ⟨rfl, rfl⟩

theorem entR_is (n t : List UInt8) (i : Nat) (f u x : Int) : entR ⟨n, i, f, u, x, t⟩ = (nameB n && (decide (0 ≤ f) && decide (f ≤ 1073741824)) && (decide (f ≤ u) && decide (u ≤ 1073741824)) && (decide (0 ≤ x) && decide (x ≤ 64)) && decide (t.length = 32)) := by
  rw [entR]
  cases nameB n
  · simp
  · rw [Bool.eq_iff_iff]
    simp only [Bool.and_eq_true, decide_eq_true_eq]
    constructor
    · rintro ⟨⟨⟨⟨⟨⟨h1, h2⟩, h3⟩, h4⟩, h5⟩, h6⟩, h7⟩
      exact ⟨⟨⟨⟨trivial, h3, by omega⟩, h4, h5⟩, h6, h7⟩, h2⟩
    · rintro ⟨⟨⟨⟨_, h3, _⟩, h4, h5⟩, h6, h7⟩, h2⟩
      exact ⟨⟨⟨⟨⟨⟨trivial, h2⟩, h3⟩, h4⟩, h5⟩, h6⟩, h7⟩

set_option maxHeartbeats 1000000 in
theorem right_any (a : Ent) (w : World) :
    Calls Tryd.prog 35 #[a.val] w fun e w' => e = .returned (.bool (entR a)) ∧ Below w.heap.size w w' := by
  obtain ⟨n, i, f, u, x, t⟩ := a
  have HE := entR_is n t i f u x
  simp only [Ent.val, Ent.enc]
  have CN := fun w => Lib.hid (labelName_any n w)
  have W1 := fun w => Lib.hid (within_any f 0 1073741824 w)
  have W2 := fun w => Lib.hid (within_any u f 1073741824 w)
  have W3 := fun w => Lib.hid (within_any x 0 64 w)
  obtain ⟨b0, h0⟩ : ∃ b, b = nameB n := ⟨_, rfl⟩
  obtain ⟨b1, h1⟩ : ∃ b, b = (decide (0 ≤ f) && decide (f ≤ 1073741824)) := ⟨_, rfl⟩
  obtain ⟨b2, h2⟩ : ∃ b, b = (decide (f ≤ u) && decide (u ≤ 1073741824)) := ⟨_, rfl⟩
  obtain ⟨b3, h3⟩ : ∃ b, b = (decide (0 ≤ x) && decide (x ≤ 64)) := ⟨_, rfl⟩
  obtain ⟨b4, h4⟩ : ∃ b, b = decide (t.length = 32) := ⟨_, rfl⟩
  simp only [← h0] at CN
  simp only [← h1] at W1
  simp only [← h2] at W2
  simp only [← h3] at W3
  rw [← h0, ← h1, ← h2, ← h3, ← h4] at HE
  have q1 : ((t.length : Int) == 32) = b4 := by rw [h4, Bool.eq_iff_iff, beq_iff_eq, decide_eq_true_eq]; omega
  have q2 : (t.length == 32) = b4 := by rw [h4, Bool.eq_iff_iff, beq_iff_eq, decide_eq_true_eq]
  have q3 : decide ((t.length : Int) = 32) = b4 := by rw [h4, Bool.eq_iff_iff, decide_eq_true_eq, decide_eq_true_eq]; omega
  have HB := Lib.hid HE
  clear HE h0 h1 h2 h3 h4
  go_enter Tryd.func35, Tryd.ntmps35
  go_wp2_with fail
  have X := Whole.new w 48 #[.string ⟨n.toArray⟩, .int .u64 (i : Int), .int .i64 f, .int .i64 u, .int .i64 x, .string ⟨t.toArray⟩]
  have b : Below w.heap.size w (w.alloc (.cells #[.string ⟨n.toArray⟩, .int .u64 (i : Int), .int .i64 f, .int .i64 u, .int .i64 x, .string ⟨t.toArray⟩] 48)) := (Below.refl _ _).alloc (Nat.le_refl _) _
  have z : w.heap.size < (w.alloc (.cells #[.string ⟨n.toArray⟩, .int .u64 (i : Int), .int .i64 f, .int .i64 u, .int .i64 x, .string ⟨t.toArray⟩] 48)).heap.size := X.lt
  generalize w.alloc (.cells #[.string ⟨n.toArray⟩, .int .u64 (i : Int), .int .i64 f, .int .i64 u, .int .i64 x, .string ⟨t.toArray⟩] 48) = w1 at *
  have X1 := Lib.hid X
  have B1 := Lib.hid b
  have Z1 := Lib.hid z
  clear X b z
  refine (CN w1).out.mono ?_
  rintro e w2 ⟨rfl, b2'⟩
  have X2 := X1.out.below b2' Z1.out
  have B2 := Lib.hid (B1.out.trans (b2'.mono B1.out.size))
  have c2 := X2.at_ 2
  have c3 := X2.at_ 3
  have c4 := X2.at_ 4
  have c5 := X2.at_ 5
  simp at c2 c3 c4 c5
  clear X2 b2' X1 B1 Z1 CN
  cases b0 with
  | false =>
    go_wp2
    go_ret
    exact ⟨by rw [HB.out]; rfl, B2.out⟩
  | true =>
    go_wp2_with fail
    refine (W1 _).out.mono ?_
    rintro e w3 ⟨rfl, rfl⟩
    cases b1 with
    | false =>
      go_wp2
      go_ret
      exact ⟨by rw [HB.out]; rfl, B2.out⟩
    | true =>
      go_wp2_with fail
      refine (W2 _).out.mono ?_
      rintro e w4 ⟨rfl, rfl⟩
      cases b2 with
      | false =>
        go_wp2
        go_ret
        exact ⟨by rw [HB.out]; rfl, B2.out⟩
      | true =>
        go_wp2_with fail
        refine (W3 _).out.mono ?_
        rintro e w5 ⟨rfl, rfl⟩
        cases b3 with
        | false =>
          go_wp2
          go_ret
          exact ⟨by rw [HB.out]; rfl, B2.out⟩
        | true =>
          cases b4
          all_goals
            go_wp2
            go_ret
            exact ⟨by rw [HB.out]; rfl, B2.out⟩
end Go.Proofs.YtfcjemedheccgaaDoor

namespace Go.Proofs.YtfcjemedheccgaaDoor
set_option maxRecDepth 100000
open Go.RowKit

theorem num_own (v : Value) (l : List UInt8) (x size B : Nat) (w : World) (h : w.ownsRow B 5 1 v l.length (bv l)) (h1 : 1 ≤ size) (h8 : size ≤ 8) (hl : l.length ≤ 3000) (hB : B ≤ w.heap.size) :
    Calls Tryd.prog 63 #[v, .int .u64 (x : Int), .int .i64 (size : Int)] w fun e w' =>
      ∃ v', e = .returned v' ∧ w'.ownsRow B 5 1 v' (l ++ be size x).length (bv (l ++ be size x)) ∧ Below B w w' := by
  refine (put_num B v l x size w h1 h8 h hB (by omega)).mono ?_
  rintro e w' ⟨v', rfl, o, b⟩
  exact ⟨v', rfl, by rw [List.length_append, be_length]; exact o, b⟩

set_option maxHeartbeats 1000000 in
theorem body_any (a : Ent) (hn : a.name.length ≤ 1000) (w : World) :
    Calls Tryd.prog 51 #[a.val] w fun e w' => ∃ v', e = .returned v' ∧ w'.ownsRow w.heap.size 5 1 v' (bodyL a).length (bv (bodyL a)) ∧ Below w.heap.size w w' := by
  obtain ⟨n, i, f, u, x, t⟩ := a
  simp only [Ent.val, Ent.enc]
  have hn' : n.length ≤ 1000 := hn
  have HN := Lib.hid hn'
  have r1 := uN_wrap f
  have r2 := uN_wrap u
  have r3 := uN_wrap x
  have HD : Hid (bodyL ⟨n, i, f, u, x, t⟩ = nameE n ++ be 8 i ++ be 4 (uN f) ++ be 4 (uN u) ++ be 2 (uN x)) := Lib.hid rfl
  generalize uN f = f' at *
  generalize uN u = u' at *
  generalize uN x = x' at *
  clear hn hn'
  go_enter Tryd.func51, Tryd.ntmps51
  go_wp2_with fail
  have X := Whole.new w 48 #[.string ⟨n.toArray⟩, .int .u64 (i : Int), .int .i64 f, .int .i64 u, .int .i64 x, .string ⟨t.toArray⟩]
  have b : Below w.heap.size w (w.alloc (.cells #[.string ⟨n.toArray⟩, .int .u64 (i : Int), .int .i64 f, .int .i64 u, .int .i64 x, .string ⟨t.toArray⟩] 48)) := (Below.refl _ _).alloc (Nat.le_refl _) _
  have z : w.heap.size < (w.alloc (.cells #[.string ⟨n.toArray⟩, .int .u64 (i : Int), .int .i64 f, .int .i64 u, .int .i64 x, .string ⟨t.toArray⟩] 48)).heap.size := X.lt
  generalize w.alloc (.cells #[.string ⟨n.toArray⟩, .int .u64 (i : Int), .int .i64 f, .int .i64 u, .int .i64 x, .string ⟨t.toArray⟩] 48) = w1 at *
  obtain ⟨base, hbase⟩ : ∃ b, b = w1.heap.size := ⟨_, rfl⟩
  rw [← hbase] at z
  have X1 := Lib.hid X
  have B1 := Lib.hid b
  have Z1 := Lib.hid z
  have S1 := Lib.hid (Nat.le_of_eq hbase)
  have NL := Lib.hid (nameE_length n)
  clear X b z hbase
  have ec : cutText ⟨n.toArray⟩ = ⟨n.toArray⟩ := by
    have hs : (⟨n.toArray⟩ : ByteArray).size = n.length := rfl
    rw [cutText, Nat.min_eq_left (by rw [hs]; have := HN.out; omega)]
    exact ByteArray.extract_zero_size
  have C := put_text base (.slice none 0 0) [] ⟨n.toArray⟩ w1 (by have := HN.out; show n.length ≤ _; omega) (World.ownsRow_nil w1 base _ _) S1.out (by decide)
  rw [ec] at C
  have C := Lib.hid C
  clear ec
  refine C.out.mono ?_
  rintro e w2 ⟨v2, rfl, o2, b2⟩
  have o2' : w2.ownsRow base 5 1 v2 (nameE n).length (bv (nameE n)) := by
    have hs : (⟨n.toArray⟩ : ByteArray).size = n.length := rfl
    rw [nameE_length]
    simpa [nameE, encS, hs] using o2
  have O2 := Lib.hid o2'
  have X2 := Lib.hid (X1.out.below b2 Z1.out)
  have B2 := Lib.hid (B1.out.trans (b2.mono (Nat.le_of_lt Z1.out)))
  have S2 := Lib.hid (Nat.le_trans S1.out b2.size)
  have c := X2.out.at_ 1
  simp at c
  clear o2 o2' b2 X1 B1 S1 C
  go_wp2_with fail
  refine (num_own v2 (nameE n) i 8 base w2 O2.out (by decide) (by decide) (by rw [NL.out]; have := HN.out; omega) S2.out).mono ?_
  rintro e w3 ⟨v3, rfl, o3, b3⟩
  clear c O2
  have O3 := Lib.hid o3
  have X3 := Lib.hid (X2.out.below b3 Z1.out)
  have B3 := Lib.hid (B2.out.trans (b3.mono (Nat.le_of_lt Z1.out)))
  have S3 := Lib.hid (Nat.le_trans S2.out b3.size)
  have c := X3.out.at_ 2
  simp at c
  clear o3 b3 X2 B2 S2
  go_wp2_with fail
  refine (num_own v3 (nameE n ++ be 8 i) f' 4 base w3 O3.out (by decide) (by decide) (by simp only [List.length_append, be_length, NL.out]; have := HN.out; omega) S3.out).mono ?_
  rintro e w4 ⟨v4, rfl, o4, b4⟩
  clear c O3
  have O4 := Lib.hid o4
  have X4 := Lib.hid (X3.out.below b4 Z1.out)
  have B4 := Lib.hid (B3.out.trans (b4.mono (Nat.le_of_lt Z1.out)))
  have S4 := Lib.hid (Nat.le_trans S3.out b4.size)
  have c := X4.out.at_ 3
  simp at c
  clear o4 b4 X3 B3 S3
  go_wp2_with fail
  refine (num_own v4 (nameE n ++ be 8 i ++ be 4 f') u' 4 base w4 O4.out (by decide) (by decide) (by simp only [List.length_append, be_length, NL.out]; have := HN.out; omega) S4.out).mono ?_
  rintro e w5 ⟨v5, rfl, o5, b5⟩
  clear c O4
  have O5 := Lib.hid o5
  have X5 := Lib.hid (X4.out.below b5 Z1.out)
  have B5 := Lib.hid (B4.out.trans (b5.mono (Nat.le_of_lt Z1.out)))
  have S5 := Lib.hid (Nat.le_trans S4.out b5.size)
  have c := X5.out.at_ 4
  simp at c
  clear o5 b5 X4 B4 S4
  go_wp2_with fail
  refine (num_own v5 (nameE n ++ be 8 i ++ be 4 f' ++ be 4 u') x' 2 base w5 O5.out (by decide) (by decide) (by simp only [List.length_append, be_length, NL.out]; have := HN.out; omega) S5.out).mono ?_
  rintro e w6 ⟨v6, rfl, o6, b6⟩
  clear c O5
  rw [← HD.out] at o6
  have O6 := Lib.hid (own_less o6 (Nat.le_of_lt Z1.out))
  have B6 := Lib.hid (B5.out.trans (b6.mono (Nat.le_of_lt Z1.out)))
  clear o6 b6 B5 X5 S5
  go_wp2
  go_ret
  exact ⟨_, rfl, O6.out, B6.out⟩

end Go.Proofs.YtfcjemedheccgaaDoor
