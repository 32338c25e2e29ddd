/- Package entry, as landed: within, Right. Package entry, as landed: Body, Bytes. A statement that leaves its order open, in which all stores wait for all reads: two conditions on the world, S0 until the first store, S1 from the beginning to the end. -/
import Derived.Test.YtehalcopkjfdkaaDoorGh
import Derived.Test.YtehalcopkjfdkaaDoorGf
import Derived.Test.YtehalcopkjfdkaaDoorGbd
import Derived.Test.YtehalcopkjfdkaaDoorGg
import Derived.Lib.AppendStr
import Derived.Test.YtehalcopkjfdkaaDoorGb
namespace Go.Proofs.YtehalcopkjfdkaaDoor
set_option maxRecDepth 100000
open Go.RowKit

theorem within_any (n l m : Int) (w : World) :
    Calls Tryd.prog 37 #[.int .i64 n, .int .i64 l, .int .i64 m] w fun e w' => e = .returned (.bool (decide (l ≤ n) && decide (n ≤ m))) ∧ w' = w := by
  obtain ⟨b1, h1⟩ : ∃ b, b = decide (l ≤ n) := ⟨_, rfl⟩
  obtain ⟨b2, h2⟩ : ∃ b, b = decide (n ≤ m) := ⟨_, rfl⟩
  rw [← h1, ← h2]
  have r1 := h1.symm
  have r2 := h2.symm
  clear h1 h2
  cases b1 <;> cases b2
  all_goals
    go_enter Tryd.func37, Tryd.ntmps37
    go_wp2
    go_ret
    exact ⟨rfl, rfl⟩

theorem entR_is (n t : List UInt8) (i : Nat) (f u x : Int) : entR ⟨n, i, f, u, x, t⟩ = (nameB n && (decide (0 ≤ f) && decide (f ≤ 1073741824)) && (decide (f ≤ u) && decide (u ≤ 1073741824)) && (decide (0 ≤ x) && decide (x ≤ 64)) && decide (t.length = 32)) := by
  rw [entR]
  cases nameB n
  · simp
  · rw [Bool.eq_iff_iff]
    simp only [Bool.and_eq_true, decide_eq_true_eq]
    constructor
    · rintro ⟨⟨⟨⟨⟨⟨h1, h2⟩, h3⟩, h4⟩, h5⟩, h6⟩, h7⟩
      exact ⟨⟨⟨⟨trivial, h3, by omega⟩, h4, h5⟩, h6, h7⟩, h2⟩
    · rintro ⟨⟨⟨⟨_, h3, _⟩, h4, h5⟩, h6, h7⟩, h2⟩
      exact ⟨⟨⟨⟨⟨⟨trivial, h2⟩, h3⟩, h4⟩, h5⟩, h6⟩, h7⟩

set_option maxHeartbeats 1000000 in
theorem right_any (a : Ent) (w : World) :
    Calls Tryd.prog 27 #[a.val] w fun e w' => e = .returned (.bool (entR a)) ∧ Below w.heap.size w w' := by
  obtain ⟨n, i, f, u, x, t⟩ := a
  have HE := entR_is n t i f u x
  simp only [Ent.val, Ent.enc]
  have CN := fun w => Lib.hid (labelName_any n w)
  have W1 := fun w => Lib.hid (within_any f 0 1073741824 w)
  have W2 := fun w => Lib.hid (within_any u f 1073741824 w)
  have W3 := fun w => Lib.hid (within_any x 0 64 w)
  obtain ⟨b0, h0⟩ : ∃ b, b = nameB n := ⟨_, rfl⟩
  obtain ⟨b1, h1⟩ : ∃ b, b = (decide (0 ≤ f) && decide (f ≤ 1073741824)) := ⟨_, rfl⟩
  obtain ⟨b2, h2⟩ : ∃ b, b = (decide (f ≤ u) && decide (u ≤ 1073741824)) := ⟨_, rfl⟩
  obtain ⟨b3, h3⟩ : ∃ b, b = (decide (0 ≤ x) && decide (x ≤ 64)) := ⟨_, rfl⟩
  obtain ⟨b4, h4⟩ : ∃ b, b = decide (t.length = 32) := ⟨_, rfl⟩
  simp only [← h0] at CN
  simp only [← h1] at W1
  simp only [← h2] at W2
  simp only [← h3] at W3
  rw [← h0, ← h1, ← h2, ← h3, ← h4] at HE
  have q1 : ((t.length : Int) == 32) = b4 := by rw [h4, Bool.eq_iff_iff, beq_iff_eq, decide_eq_true_eq]; omega
  have q2 : (t.length == 32) = b4 := by rw [h4, Bool.eq_iff_iff, beq_iff_eq, decide_eq_true_eq]
  have q3 : decide ((t.length : Int) = 32) = b4 := by rw [h4, Bool.eq_iff_iff, decide_eq_true_eq, decide_eq_true_eq]; omega
  have HB := Lib.hid HE
  clear HE h0 h1 h2 h3 h4
  go_enter Tryd.func27, Tryd.ntmps27
  go_wp2_with fail
  have X := Whole.new w 29 #[.string ⟨n.toArray⟩, .int .u64 (i : Int), .int .i64 f, .int .i64 u, .int .i64 x, .string ⟨t.toArray⟩]
  have b : Below w.heap.size w (w.alloc (.cells #[.string ⟨n.toArray⟩, .int .u64 (i : Int), .int .i64 f, .int .i64 u, .int .i64 x, .string ⟨t.toArray⟩] 29)) := (Below.refl _ _).alloc (Nat.le_refl _) _
  have z : w.heap.size < (w.alloc (.cells #[.string ⟨n.toArray⟩, .int .u64 (i : Int), .int .i64 f, .int .i64 u, .int .i64 x, .string ⟨t.toArray⟩] 29)).heap.size := X.lt
  generalize w.alloc (.cells #[.string ⟨n.toArray⟩, .int .u64 (i : Int), .int .i64 f, .int .i64 u, .int .i64 x, .string ⟨t.toArray⟩] 29) = w1 at *
  have X1 := Lib.hid X
  have B1 := Lib.hid b
  have Z1 := Lib.hid z
  clear X b z
  refine (CN w1).out.mono ?_
  rintro e w2 ⟨rfl, b2'⟩
  have X2 := X1.out.below b2' Z1.out
  have B2 := Lib.hid (B1.out.trans (b2'.mono B1.out.size))
  have c2 := X2.at_ 2
  have c3 := X2.at_ 3
  have c4 := X2.at_ 4
  have c5 := X2.at_ 5
  simp at c2 c3 c4 c5
  clear X2 b2' X1 B1 Z1 CN
  cases b0 with
  | false =>
    go_wp2
    go_ret
    exact ⟨by rw [HB.out]; rfl, B2.out⟩
  | true =>
    go_wp2_with fail
    refine (W1 _).out.mono ?_
    rintro e w3 ⟨rfl, rfl⟩
    cases b1 with
    | false =>
      go_wp2
      go_ret
      exact ⟨by rw [HB.out]; rfl, B2.out⟩
    | true =>
      go_wp2_with fail
      refine (W2 _).out.mono ?_
      rintro e w4 ⟨rfl, rfl⟩
      cases b2 with
      | false =>
        go_wp2
        go_ret
        exact ⟨by rw [HB.out]; rfl, B2.out⟩
      | true =>
        go_wp2_with fail
        refine (W3 _).out.mono ?_
        rintro e w5 ⟨rfl, rfl⟩
        cases b3 with
        | false =>
          go_wp2
          go_ret
          exact ⟨by rw [HB.out]; rfl, B2.out⟩
        | true =>
          cases b4
          all_goals
            go_wp2
            go_ret
            exact ⟨by rw [HB.out]; rfl, B2.out⟩
end Go.Proofs.YtehalcopkjfdkaaDoor

namespace Go.Proofs.YtehalcopkjfdkaaDoor
set_option maxRecDepth 100000
open Go.RowKit

theorem num_own (v : Value) (l : List UInt8) (x size B : Nat) (w : World) (h : w.ownsRow B 5 1 v l.length (bv l)) (h1 : 1 ≤ size) (h8 : size ≤ 8) (hl : l.length ≤ 3000) (hB : B ≤ w.heap.size) :
    Calls Tryd.prog 41 #[v, .int .u64 (x : Int), .int .i64 (size : Int)] w fun e w' =>
      ∃ v', e = .returned v' ∧ w'.ownsRow B 5 1 v' (l ++ be size x).length (bv (l ++ be size x)) ∧ Below B w w' := by
  refine (put_num B v l x size w h1 h8 h hB (by omega)).mono ?_
  rintro e w' ⟨v', rfl, o, b⟩
  exact ⟨v', rfl, by rw [List.length_append, be_length]; exact o, b⟩

set_option maxHeartbeats 1000000 in
theorem body_any (a : Ent) (hn : a.name.length ≤ 1000) (w : World) :
    Calls Tryd.prog 30 #[a.val] w fun e w' => ∃ v', e = .returned v' ∧ w'.ownsRow w.heap.size 5 1 v' (bodyL a).length (bv (bodyL a)) ∧ Below w.heap.size w w' := by
  obtain ⟨n, i, f, u, x, t⟩ := a
  simp only [Ent.val, Ent.enc]
  have hn' : n.length ≤ 1000 := hn
  have HN := Lib.hid hn'
  have r1 := uN_wrap f
  have r2 := uN_wrap u
  have r3 := uN_wrap x
  have HD : Hid (bodyL ⟨n, i, f, u, x, t⟩ = nameE n ++ be 8 i ++ be 4 (uN f) ++ be 4 (uN u) ++ be 2 (uN x)) := Lib.hid rfl
  generalize uN f = f' at *
  generalize uN u = u' at *
  generalize uN x = x' at *
  clear hn hn'
  go_enter Tryd.func30, Tryd.ntmps30
  go_wp2_with fail
  have X := Whole.new w 29 #[.string ⟨n.toArray⟩, .int .u64 (i : Int), .int .i64 f, .int .i64 u, .int .i64 x, .string ⟨t.toArray⟩]
  have b : Below w.heap.size w (w.alloc (.cells #[.string ⟨n.toArray⟩, .int .u64 (i : Int), .int .i64 f, .int .i64 u, .int .i64 x, .string ⟨t.toArray⟩] 29)) := (Below.refl _ _).alloc (Nat.le_refl _) _
  have z : w.heap.size < (w.alloc (.cells #[.string ⟨n.toArray⟩, .int .u64 (i : Int), .int .i64 f, .int .i64 u, .int .i64 x, .string ⟨t.toArray⟩] 29)).heap.size := X.lt
  generalize w.alloc (.cells #[.string ⟨n.toArray⟩, .int .u64 (i : Int), .int .i64 f, .int .i64 u, .int .i64 x, .string ⟨t.toArray⟩] 29) = w1 at *
  obtain ⟨base, hbase⟩ : ∃ b, b = w1.heap.size := ⟨_, rfl⟩
  rw [← hbase] at z
  have X1 := Lib.hid X
  have B1 := Lib.hid b
  have Z1 := Lib.hid z
  have S1 := Lib.hid (Nat.le_of_eq hbase)
  have NL := Lib.hid (nameE_length n)
  clear X b z hbase
  have ec : cutText ⟨n.toArray⟩ = ⟨n.toArray⟩ := by
    have hs : (⟨n.toArray⟩ : ByteArray).size = n.length := rfl
    rw [cutText, Nat.min_eq_left (by rw [hs]; have := HN.out; omega)]
    exact ByteArray.extract_zero_size
  have C := put_text base (.slice none 0 0) [] ⟨n.toArray⟩ w1 (by have := HN.out; show n.length ≤ _; omega) (World.ownsRow_nil w1 base _ _) S1.out (by decide)
  rw [ec] at C
  have C := Lib.hid C
  clear ec
  refine C.out.mono ?_
  rintro e w2 ⟨v2, rfl, o2, b2⟩
  have o2' : w2.ownsRow base 5 1 v2 (nameE n).length (bv (nameE n)) := by
    have hs : (⟨n.toArray⟩ : ByteArray).size = n.length := rfl
    rw [nameE_length]
    simpa [nameE, encS, hs] using o2
  have O2 := Lib.hid o2'
  have X2 := Lib.hid (X1.out.below b2 Z1.out)
  have B2 := Lib.hid (B1.out.trans (b2.mono (Nat.le_of_lt Z1.out)))
  have S2 := Lib.hid (Nat.le_trans S1.out b2.size)
  have c := X2.out.at_ 1
  simp at c
  clear o2 o2' b2 X1 B1 S1 C
  go_wp2_with fail
  refine (num_own v2 (nameE n) i 8 base w2 O2.out (by decide) (by decide) (by rw [NL.out]; have := HN.out; omega) S2.out).mono ?_
  rintro e w3 ⟨v3, rfl, o3, b3⟩
  clear c O2
  have O3 := Lib.hid o3
  have X3 := Lib.hid (X2.out.below b3 Z1.out)
  have B3 := Lib.hid (B2.out.trans (b3.mono (Nat.le_of_lt Z1.out)))
  have S3 := Lib.hid (Nat.le_trans S2.out b3.size)
  have c := X3.out.at_ 2
  simp at c
  clear o3 b3 X2 B2 S2
  go_wp2_with fail
  refine (num_own v3 (nameE n ++ be 8 i) f' 4 base w3 O3.out (by decide) (by decide) (by simp only [List.length_append, be_length, NL.out]; have := HN.out; omega) S3.out).mono ?_
  rintro e w4 ⟨v4, rfl, o4, b4⟩
  clear c O3
  have O4 := Lib.hid o4
  have X4 := Lib.hid (X3.out.below b4 Z1.out)
  have B4 := Lib.hid (B3.out.trans (b4.mono (Nat.le_of_lt Z1.out)))
  have S4 := Lib.hid (Nat.le_trans S3.out b4.size)
  have c := X4.out.at_ 3
  simp at c
  clear o4 b4 X3 B3 S3
  go_wp2_with fail
  refine (num_own v4 (nameE n ++ be 8 i ++ be 4 f') u' 4 base w4 O4.out (by decide) (by decide) (by simp only [List.length_append, be_length, NL.out]; have := HN.out; omega) S4.out).mono ?_
  rintro e w5 ⟨v5, rfl, o5, b5⟩
  clear c O4
  have O5 := Lib.hid o5
  have X5 := Lib.hid (X4.out.below b5 Z1.out)
  have B5 := Lib.hid (B4.out.trans (b5.mono (Nat.le_of_lt Z1.out)))
  have S5 := Lib.hid (Nat.le_trans S4.out b5.size)
  have c := X5.out.at_ 4
  simp at c
  clear o5 b5 X4 B4 S4
  go_wp2_with fail
  refine (num_own v5 (nameE n ++ be 8 i ++ be 4 f' ++ be 4 u') x' 2 base w5 O5.out (by decide) (by decide) (by simp only [List.length_append, be_length, NL.out]; have := HN.out; omega) S5.out).mono ?_
  rintro e w6 ⟨v6, rfl, o6, b6⟩
  clear c O5
  rw [← HD.out] at o6
  have O6 := Lib.hid (own_less o6 (Nat.le_of_lt Z1.out))
  have B6 := Lib.hid (B5.out.trans (b6.mono (Nat.le_of_lt Z1.out)))
  clear o6 b6 B5 X5 S5
  go_wp2
  go_ret
  exact ⟨_, rfl, O6.out, B6.out⟩

end Go.Proofs.YtehalcopkjfdkaaDoor

namespace Go.Proofs.YtehalcopkjfdkaaDoor
set_option maxRecDepth 100000
open Go.RowKit

/-- One of these has come up. -/
def AnyDone (st : List Nat) (L : Array Bool) : Prop := ∃ k, k ∈ st ∧ L.getD k false = true
/-- The condition at hand. -/
def HoldG (st : List Nat) (S0 S1 : World → Prop) (L : Array Bool) (w : World) : Prop := S1 w ∧ (S0 w ∨ AnyDone st L)
/-- Whatever has come up came up behind all that it waits for. -/
def ClosedG (md : Region.Mode) (ops : Array Oper) (L : Array Bool) : Prop :=
  ∀ k o, ops[k]? = some o → L.getD k false = true → ∀ e ∈ o.after, Region.binds md e = true → L.getD e.on false = true
def closedGB (md : Region.Mode) (ops : Array Oper) (L : Array Bool) : Bool :=
  (List.range ops.size).all fun k => !L.getD k false || (match ops[k]? with | none => true | some o => o.after.all fun e => !Region.binds md e || L.getD e.on false)
/-- Each of these waits for number i by itself. -/
def waitGB (md : Region.Mode) (ops : Array Oper) (st : List Nat) (i : Nat) : Bool :=
  st.all fun k => match ops[k]? with | none => false | some o => o.after.any fun e => Region.binds md e && e.on == i

theorem closedG_of {md : Region.Mode} {ops : Array Oper} {L : Array Bool} (h : closedGB md ops L = true) : ClosedG md ops L := by
  intro k o hk hL e he hb
  simp only [closedGB, List.all_eq_true, List.mem_range] at h
  have h1 := h k (Array.getElem?_eq_some_iff.1 hk).1
  rw [hL, hk] at h1
  simp only [Bool.not_true, Bool.false_or] at h1
  have h2 := Array.all_eq_true_iff_forall_mem.1 h1 e he
  rw [hb] at h2
  simpa using h2

/-- Whatever order is picked from here on. -/
def wpAnyG (P : Program) (md : Region.Mode) (ops : Array Oper) (Q : Exit → Act → World → Prop) (st : List Nat) (S0 S1 : World → Prop) : Nat → Array Bool → Act → World → Prop
  | 0, L, a, w => Region.ready md ops L = [] ∧ Q .normal a w
  | fuel + 1, L, a, w => (Region.ready md ops L = [] → Q .normal a w) ∧
      ∀ i ∈ Region.ready md ops L, wpOp P ops Q i (fun a' w' => HoldG st S0 S1 (L.setIfInBounds i true) w' ∧ wpAnyG P md ops Q st S0 S1 fuel (L.setIfInBounds i true) a' w') a w

section
variable {P : Program} {md : Region.Mode} {ops : Array Oper} {Q : Exit → Act → World → Prop} {st : List Nat} {S0 S1 : World → Prop}

theorem any_of_G : ∀ (fuel : Nat) (L : Array Bool) (a : Act) (w : World), wpAnyG P md ops Q st S0 S1 fuel L a w → wpAny P md ops Q fuel L a w
  | 0, _, _, _, h => h
  | fuel + 1, _, _, _, h => ⟨h.1, fun i hi => wpOp_mono (fun a' w' h' => any_of_G fuel _ a' w' h'.2) (h.2 i hi)⟩

theorem done_of_set {L : Array Bool} {i : Nat} (hi : i ∉ st) (h : AnyDone st (L.setIfInBounds i true)) : AnyDone st L := by
  obtain ⟨k, hk, h1⟩ := h
  refine ⟨k, hk, ?_⟩
  rw [getD_set_ne false (fun e => hi (by rw [e]; exact hk))] at h1
  exact h1
theorem done_set {L : Array Bool} (i : Nat) (h : AnyDone st L) : AnyDone st (L.setIfInBounds i true) := by
  obtain ⟨k, hk, h1⟩ := h
  exact ⟨k, hk, getD_set_true h1⟩
theorem not_both {L : Array Bool} {i : Nat} (h : L.getD i true = false) : L.getD i false = false := by
  rcases Nat.lt_or_ge i L.size with k | k
  · simp [k] at h ⊢
    exact h
  · simp [Array.getElem?_eq_none k]
theorem closed_set {L : Array Bool} {j : Nat} (hc : ClosedG md ops L) (hj : j ∈ Region.ready md ops L) : ClosedG md ops (L.setIfInBounds j true) := by
  intro k o hk hL e he hb
  by_cases hkj : j = k
  · subst hkj
    obtain ⟨_, o', ho', hall⟩ := mem_ready.1 hj
    rw [hk] at ho'
    cases ho'
    exact getD_set_true (hall e he hb)
  · rw [getD_set_ne false hkj] at hL
    exact getD_set_true (hc k o hk hL e he hb)

/-- Whoever has not come up, and does not wait for number i, lies apart from it. -/
def ApartG (md : Region.Mode) (ops : Array Oper) (i : Nat) (oi : Oper) (L : Array Bool) : Prop :=
  ∀ j oj, ops[j]? = some oj → j ≠ i → L.getD j true = false → (∀ e ∈ oj.after, Region.binds md e = true → e.on ≠ i) → oi.apart ops oj = true
theorem unlisted_set {L : Array Bool} {j k : Nat} (h : (L.setIfInBounds j true).getD k true = false) : L.getD k true = false := by
  by_cases e : j = k
  · subst e
    rcases Nat.lt_or_ge j L.size with q | q
    · simp [q] at h
    · simp at h
  · rwa [getD_set_ne true e] at h
theorem ApartG.set {i : Nat} {oi : Oper} {L : Array Bool} (h : ApartG md ops i oi L) (j : Nat) : ApartG md ops i oi (L.setIfInBounds j true) :=
  fun k ok h1 h2 h3 h4 => h k ok h1 h2 (unlisted_set h3) h4
/-- Who may come up together with number i does not wait for it. -/
theorem no_wait {i j : Nat} {oj : Oper} {L : Array Bool} (hi : i ∈ Region.ready md ops L) (hoj : ops[j]? = some oj) (hj : j ∈ Region.ready md ops L) : ∀ e ∈ oj.after, Region.binds md e = true → e.on ≠ i := by
  obtain ⟨-, o, ho, hall⟩ := mem_ready.1 hj
  rw [hoj] at ho
  cases ho
  intro e he hb h
  have q := hall e he hb
  rw [h, not_both (mem_ready.1 hi).1] at q
  cases q

/-- What number i yields wherever it may still come. -/
abbrev YieldG (P : Program) (md : Region.Mode) (ops : Array Oper) (st : List Nat) (S0 S1 : World → Prop) (i : Nat) (oi : Oper) (v : Value) (a : Act) : Prop :=
  YieldsIf P ops (fun w' => ∃ L', ClosedG md ops L' ∧ L'.getD i true = false ∧ HoldG st S0 S1 L' w') oi v a

theorem anyG_first {i : Nat} {oi : Oper} {v : Value} (hi : ops[i]? = some oi) (hsel : ∀ (j : Nat) (o : Oper) cs b, ops[j]? = some o → o.op ≠ .select cs b)
    (hQ : ∀ c a w, Q (.panic c) (a.put oi.dst v) w → Q (.panic c) a w) (hst : i ∉ st) (fuel : Nat) : ∀ (L : Array Bool) (a : Act) (w : World),
      ApartG md ops i oi L → i ∈ Region.ready md ops L → ClosedG md ops L → YieldG P md ops st S0 S1 i oi v a → HoldG st S0 S1 L w →
      wpAnyG P md ops Q st S0 S1 fuel (L.setIfInBounds i true) (a.put oi.dst v) w → wpAnyG P md ops Q st S0 S1 (fuel + 1) L a w := by
  induction fuel with
  | zero =>
    intro L a w hap hr hc hy hS H
    have only : ∀ j ∈ Region.ready md ops L, j = i := fun j hj => Classical.byContradiction fun e => by
      have q := ready_mono hj e
      rw [H.1] at q
      cases q
    exact ⟨fun h => (by rw [h] at hr; cases hr), fun j hj => by
      cases only j hj
      exact hy.wpOp hi ⟨L, hc, (mem_ready.1 hr).1, hS⟩ ⟨⟨hS.1, hS.2.imp id (done_set _)⟩, H⟩⟩
  | succ fuel ih =>
    intro L a w hap hr hc hy hS H
    refine ⟨fun h => (by rw [h] at hr; cases hr), fun j hj => ?_⟩
    rcases Decidable.em (j = i) with rfl | hji
    · exact hy.wpOp hi ⟨L, hc, (mem_ready.1 hr).1, hS⟩ ⟨⟨hS.1, hS.2.imp id (done_set _)⟩, H⟩
    · obtain ⟨un, oj, hoj, -⟩ := mem_ready.1 hj
      refine wpOp_mono (fun a' w' h3 => ?_) (wpOp_putIf hoj (hap j oj hoj hji un (no_wait hr hoj hj)) (fun cs b => hsel i oi cs b hi) (fun cs b => hsel j oj cs b hoj) hQ hy (H.2 j (ready_mono hj hji)))
      obtain ⟨hy3, hS3, hG3⟩ := h3
      rw [Array.setIfInBounds_comm _ _ (Ne.symm hji)] at hS3 hG3
      have hS4 : HoldG st S0 S1 (L.setIfInBounds j true) w' := ⟨hS3.1, hS3.2.imp id (done_of_set hst)⟩
      exact ⟨hS4, ih (L.setIfInBounds j true) a' w' (hap.set j) (ready_mono hr (Ne.symm hji)) (closed_set hc hj) hy3 hS4 hG3⟩
end

section
variable {P : Program} {md : Region.Mode} {l : List Oper} {Q : Exit → Act → World → Prop} {st : List Nat} {S0 S1 : World → Prop} {fuel : Nat} {L : Array Bool} {a : Act} {w : World} {i : Nat} {o : Oper} {rest : List Oper}

/-- It begins. -/
theorem regG_begin (st : List Nat) (S0 S1 : World → Prop) {id : Nat} (hm : P.follows .mixedOrders = true) (h : wpAnyG P .any l.toArray Q st S0 S1 l.length (Array.replicate l.length false) a w.drew) : (Code.region id l.toArray true).wp P Q a w :=
  wp_region_any hm (by simpa using any_of_G _ _ _ _ h)
/-- An operation that reads no memory, or none that a store changes, is taken first. -/
theorem regG_take {v : Value} (hi : l.drop i = o :: rest) (hs : Region.noSelect l.toArray = true) (hf : Region.free md l.toArray L i = true) (hr : (Region.ready md l.toArray L).contains i = true) (hc : closedGB md l.toArray L = true) (hst : st.contains i = false)
    (hQ : ∀ c a w, Q (.panic c) (a.put o.dst v) w → Q (.panic c) a w) (hw : Region.wanted o (yielded l.toArray a.tmps) = true) (hS : HoldG st S0 S1 L w) (hy : ∀ w', S1 w' → (execOp a.eval o).run P w' = .ok (.value v) w')
    (h : wpAnyG P md l.toArray Q st S0 S1 fuel (L.setIfInBounds i true) (a.put o.dst v) w) : wpAnyG P md l.toArray Q st S0 S1 (fuel + 1) L a w :=
  anyG_first (drop_nth hi) (Region.noSelect_spec hs) hQ (by simpa using hst) fuel L a w (Region.free_spec (drop_nth hi) hf) (by simpa using hr) (closedG_of hc) (Or.inl ⟨hw, fun w' h' => by
    obtain ⟨_, _, _, h1, _⟩ := h'
    exact hy w' h1⟩) hS h
/-- One that reads memory that a store changes: each store waits for it. -/
theorem regG_read {v : Value} (hi : l.drop i = o :: rest) (hs : Region.noSelect l.toArray = true) (hf : Region.free md l.toArray L i = true) (hr : (Region.ready md l.toArray L).contains i = true) (hc : closedGB md l.toArray L = true) (hst : st.contains i = false) (hb : waitGB md l.toArray st i = true)
    (hQ : ∀ c a w, Q (.panic c) (a.put o.dst v) w → Q (.panic c) a w) (hw : Region.wanted o (yielded l.toArray a.tmps) = true) (hS : HoldG st S0 S1 L w) (hy : ∀ w', S0 w' → (execOp a.eval o).run P w' = .ok (.value v) w')
    (h : wpAnyG P md l.toArray Q st S0 S1 fuel (L.setIfInBounds i true) (a.put o.dst v) w) : wpAnyG P md l.toArray Q st S0 S1 (fuel + 1) L a w :=
  anyG_first (drop_nth hi) (Region.noSelect_spec hs) hQ (by simpa using hst) fuel L a w (Region.free_spec (drop_nth hi) hf) (by simpa using hr) (closedG_of hc) (Or.inl ⟨hw, fun w' h' => by
    obtain ⟨L', c', u', _, h0 | ⟨k, hk, hd⟩⟩ := h'
    · exact hy w' h0
    · exfalso
      have q := List.all_eq_true.1 hb k hk
      cases hok : l.toArray[k]? with
      | none => rw [hok] at q; cases q
      | some ok =>
        rw [hok] at q
        simp only [Array.any_eq_true', Bool.and_eq_true, beq_iff_eq] at q
        obtain ⟨e, he, hbe, hon⟩ := q
        have z := c' k ok hok hd e he hbe
        rw [hon, not_both u'] at z
        cases z⟩) hS h
/-- One that alone may come up is carried out. -/
theorem regG_do (hi : l.drop i = o :: rest) (hr : Region.ready md l.toArray L = [i])
    (h : ∀ K' : Act → World → Prop, Shut (∀ a w', S1 w' → (S0 w' ∨ AnyDone st (L.setIfInBounds i true)) → wpAnyG P md l.toArray Q st S0 S1 fuel (L.setIfInBounds i true) a w' → K' a w') → if Region.wanted o (yielded l.toArray a.tmps) = true then Oper.wp P o a w K' Q else K' (a.put o.dst undef) w) :
    wpAnyG P md l.toArray Q st S0 S1 (fuel + 1) L a w := by
  refine ⟨fun e => (by rw [hr] at e; cases e), fun j hj => ?_⟩
  rw [hr] at hj
  obtain rfl : j = i := by simpa using hj
  unfold wpOp
  rw [drop_nth hi]
  have q := h (fun a' w' => HoldG st S0 S1 (L.setIfInBounds j true) w' ∧ wpAnyG P md l.toArray Q st S0 S1 fuel (L.setIfInBounds j true) a' w') (fun a' w' h1 h2 h3 => ⟨⟨h1, h2⟩, h3⟩)
  by_cases hw : Region.wanted o (yielded l.toArray a.tmps) = true
  · simp only [hw, if_true] at q ⊢
    exact .inl q
  · simp only [hw] at q ⊢
    exact q
theorem regG_end {n : Nat} (hr : Region.ready md l.toArray L = []) (h : Q .normal a w) : wpAnyG P md l.toArray Q st S0 S1 n L a w := by
  cases n with
  | zero => exact ⟨hr, h⟩
  | succ n => exact ⟨fun _ => h, fun i hi => by rw [hr] at hi; cases hi⟩
end

/-- One of three that may come up is (XGenS's regions). -/
theorem regS_three {P : Program} {md : Region.Mode} {l : List Oper} {Q : Exit → Act → World → Prop} {S : World → Prop} {fuel : Nat} {listed : Array Bool} {a : Act} {w : World} {i j k : Nat} {o o' o'' : Oper} {rest rest' rest'' : List Oper}
    (hi : l.drop i = o :: rest) (hj : l.drop j = o' :: rest') (hk : l.drop k = o'' :: rest'') (hr : Region.ready md l.toArray listed = [i, j, k])
    (h : ∀ K' : Act → World → Prop, Shut (∀ a w', S w' → wpAnyH P md l.toArray Q S fuel (listed.setIfInBounds i true) a w' → K' a w') → if Region.wanted o (yielded l.toArray a.tmps) = true then Oper.wp P o a w K' Q else K' (a.put o.dst undef) w)
    (h' : ∀ K' : Act → World → Prop, Shut (∀ a w', S w' → wpAnyH P md l.toArray Q S fuel (listed.setIfInBounds j true) a w' → K' a w') → if Region.wanted o' (yielded l.toArray a.tmps) = true then Oper.wp P o' a w K' Q else K' (a.put o'.dst undef) w)
    (h'' : ∀ K' : Act → World → Prop, Shut (∀ a w', S w' → wpAnyH P md l.toArray Q S fuel (listed.setIfInBounds k true) a w' → K' a w') → if Region.wanted o'' (yielded l.toArray a.tmps) = true then Oper.wp P o'' a w K' Q else K' (a.put o''.dst undef) w) :
    wpAnyH P md l.toArray Q S (fuel + 1) listed a w :=
  wpAnyH_ready hr (by simp) (AllReadyH.cons (drop_nth hi) (fun K' hK => h K' (fun a w' hS hn => hK.out a w' hS fun _ => hn))
    (AllReadyH.cons (drop_nth hj) (fun K' hK => h' K' (fun a w' hS hn => hK.out a w' hS fun _ => hn)) (AllReadyH.cons (drop_nth hk) (fun K' hK => h'' K' (fun a w' hS hn => hK.out a w' hS fun _ => hn)) AllReadyH.nil)))
end Go.Proofs.YtehalcopkjfdkaaDoor
