/- pack.Num and pack.Text, and which blocks they write: the row's own, and new ones. Package entry, as landed: Body, Bytes. -/
import Derived.Test.YtnjeopgcpffkcaaGf
import Derived.Test.YtnjeopgcpffkcaaGg
import Derived.Test.YtnjeopgcpffkcaaGm
import Derived.Test.YtnjeopgcpffkcaaGj
import Derived.Test.YtnjeopgcpffkcaaGk
import Derived.Lib.AppendStr
namespace Go.Proofs.Ytnjeopgcpffkcaa
set_option maxRecDepth 100000
open Go.RowKit

/-- The block of a row. -/
abbrev VF (v : Value) : Nat → Prop := fun i => v.ownBlock = some i
theorem Moves.app {w w' : World} {v v' : Value} {H : Nat} (q : w.grownBy w' v.ownBlock) (hat : v'.ownBlock = v.ownBlock ∨ v'.ownBlock = some H) (hH : w.heap.size ≤ H) : Moves (VF v) (VF v') w w' :=
  ⟨Keeps.of_grown q (fun _ e => .inl e), fun i hi => hat.elim (fun e => .inl (by rw [VF] at hi ⊢; rw [← e]; exact hi)) (fun e => .inr (by rw [VF, e] at hi; injection hi with hi; omega))⟩
theorem Moves.after {F F' : Nat → Prop} {w w1 w' : World} (b : Below w.heap.size w w1) (m : Moves F F' w1 w') : Moves F F' w w' := (Moves.of_below F b).trans m
theorem Moves.low {B : Nat} {e : TypeId} {s n : Nat} {v v' : Value} {xs : List Value} {w w' : World} (m : Moves (VF v) (VF v') w w') (h : w.ownsRow B e s v n xs) (hB : B ≤ w.heap.size) : Below B w w' :=
  m.keeps.below (fun i hi => (h.lt i hi).1) hB

set_option maxHeartbeats 1000000 in
theorem append_str_at {w w' : World} {base n : Nat} {v v' : Value} {xs : List Value} (ty : TypeId) (hown : w.ownsRow base 5 1 v n xs) (s : ByteArray) (hlen : n + s.size ≤ 10000000)
    (hr : (Builtin.append_ #[33, 9] ty #[v, .string s]).run Try.prog w = .ok v' w') : v'.ownBlock = v.ownBlock ∨ v'.ownBlock = some w.heap.size := by
  obtain ⟨i0, hi0, hz0, hz1, hz2⟩ := info_parts byte_info
  have hst := hown
  rcases hown.2 with ⟨rfl, rfl⟩ | ⟨g, cap, cur, rfl, hbg, hg, hnc, hcm, hcs, htake⟩
  · by_cases hm : s.size = 0
    · obtain ⟨v2, w2, hr2, -, -, h4⟩ := Lib.run_append_own_string (P := Try.prog) w w.heap.size 33 9 ty 5 i0 Try.underlying33 Try.underlying9 hi0 hz0 hz1 hz2 (.slice none 0 0) 0 [] (World.ownsRow_nil w _ _ _) s (by simp only [maxLen]; omega) (by omega) (Nat.le_refl _)
      rw [hr2] at hr
      injection hr with hr _
      subst hr
      rw [h4.2 ⟨rfl, hm⟩]
      exact .inl rfl
    · have hr2 := run_append_nil_string (P := Try.prog) w 33 9 ty 5 i0 (.int .u8 0) Try.underlying33 Try.underlying9 hi0 hz0 s (by omega) (by omega) (by rw [hz2]; omega)
      rw [hr2] at hr
      injection hr with hr _
      subst hr
      exact .inr rfl
  · by_cases hroom : n + s.size ≤ cap
    · have hr2 := Lib.run_append_room_string (P := Try.prog) w 33 9 ty 5 i0 Try.underlying33 Try.underlying9 hi0 hz1 g n cap cur hg s hroom (by rw [hcs]; omega)
      rw [hr2] at hr
      injection hr with hr _
      subst hr
      exact .inl rfl
    · have hxl : xs.length = n := by simpa using hst.1
      have holds : ∀ j u, xs[j]? = some u → w.cell? ((⟨g, 0, none⟩ : Addr).add j) = some u := hst.cells (g := g) rfl
      have hr2 := Lib.run_append_grow_string (P := Try.prog) w 33 9 ty 5 i0 (.int .u8 0) Try.underlying33 Try.underlying9 hi0 hz0 ⟨g, 0, none⟩ n cap xs (by rw [hz1]; simpa using hxl) holds s (by omega) (by omega) (by rw [hz2]; exact growslice_fits (by omega) (by omega))
      rw [hr2] at hr
      injection hr with hr _
      subst hr
      exact .inr rfl

theorem wpList_append_str_at {w : World} {ops : Array Oper} {rest : List Oper} {o : Oper} {a : Act} {Q : Exit → Act → World → Prop} (hgd : o.guard = none) (s x : Operand)
    (ho : o.op = .call { callee := .builtin .append, args := #[s, x], argTypes := #[33, 9] })
    (base : Nat) (v : Value) (n : Nat) (xs : List Value) (hv : a.eval s = v) (hown : w.ownsRow base 5 1 v n xs) (l : ByteArray) (hx : a.eval x = .string l)
    (hlen : n + l.size ≤ 10000000) (hbase : base ≤ w.heap.size)
    (h : ∀ v' w', w'.ownsRow base 5 1 v' (n + l.size) (xs ++ bv l.data.toList) → w.grownBy w' v.ownBlock → (v'.ownBlock = v.ownBlock ∨ v'.ownBlock = some w.heap.size) → wpList Try.prog ops Q rest (a.put o.dst v') w') : wpList Try.prog ops Q (o :: rest) a w := by
  refine wpList_plain hgd fun _ hK => ?_
  obtain ⟨i0, hi0, hz0, hz1, hz2⟩ := info_parts byte_info
  obtain ⟨v', w', hr, h2, h3, -⟩ := Lib.run_append_own_string (P := Try.prog) w base 33 9 o.type 5 i0 Try.underlying33 Try.underlying9 hi0 hz0 hz1 hz2 v n xs hown l (by simp only [maxLen]; omega) (by omega) hbase
  have hat := append_str_at o.type hown l hlen hr
  have e1 : Lib.strCells l = bv l.data.toList := rfl
  rw [e1] at h2
  unfold Oper.wp execOp
  simp only [ho, resolve, invoke, builtin, Sem.run_bind, Sem.run_pure, Result.andThen_ok, List.map_toArray, List.map_cons, List.map_nil, hv, hx, hr]
  exact hK _ _ (h v' w' h2 h3 hat)

set_option maxHeartbeats 1000000 in
theorem put_num_at (base : Nat) (v : Value) (l : List UInt8) (x size : Nat) (w : World) (h1 : 1 ≤ size) (h8 : size ≤ 8)
    (hown : w.ownsRow base 5 1 v l.length (bv l)) (hb : base ≤ w.heap.size) (hl : l.length ≤ 1000000) :
    Calls Try.prog 25 #[v, .int .u64 x, .int .i64 size] w fun e w' =>
      ∃ v', e = .returned v' ∧ w'.ownsRow base 5 1 v' (l ++ be size x).length (bv (l ++ be size x)) ∧ Moves (VF v) (VF v') w w' := by
  go_enter Try.func25, Try.ntmps25
  go_wp2_with fail
  refine (fits_yes _ _ (by omega) (by omega)).mono ?_
  rintro e w1 ⟨rfl, rfl⟩
  go_wp2_with fail
  have Hown := Lib.hid hown
  clear hown
  go_loopw [0, 13] (fun u i wr => ∃ k : Nat, k ≤ size ∧ i = .int .i64 k ∧ wr.ownsRow base 5 1 u (l.length + k) (bv (l ++ beTo size x k)) ∧ Moves (VF v) (VF u) w wr) (fun _ i _ => size - (intOf i).toNat)
  case atStart => exact ⟨0, Nat.zero_le _, rfl, by simpa [beTo] using Hown.out, Moves.refl _ _⟩
  case round =>
    obtain ⟨k, hk, rfl, ho, hm⟩ := hrel
    have hbs := hm.keeps.size
    by_cases hlt : k < size
    · have hb2 : Below wr.heap.size wr (wr.alloc (.cells #[.int .u8 ((x : Int) / 2 ^ (8 * (size - 1 - k)) % 256)] 5)) := (Below.refl _ _).alloc (Nat.le_refl _) _
      have hlit : BytesAt (wr.alloc (.cells #[.int .u8 ((x : Int) / 2 ^ (8 * (size - 1 - k)) % 256)] 5)) (.slice (some ⟨wr.heap.size, 0, none⟩) 1 1) [beAt size x k] := BytesAt.lit wr [beAt size x k] _ (by
        have := beAt_cell size x k
        rw [← this])
      go_wp2_with (at_builtin; refine wpList_append_bytes_at rfl (.tmp 16) (.tmp 25) rfl base _ (l.length + k) _ rfl (ho.alloc _) _ [beAt size x k] rfl hlit ?c3 ?c5 ?_)
      case c3 => simp; omega
      case c5 => simp; omega
      intro v' w1 ho' hg hat
      have hm' := hm.trans (Moves.after hb2 (Moves.app hg hat (by simp)))
      have ho2 : w1.ownsRow base 5 1 v' (l.length + (k + 1)) (bv (l ++ beTo size x (k + 1))) := by
        rw [beTo, ← List.append_assoc, bv_append]
        exact ho'
      have HO := Lib.hid ho2
      have HM := Lib.hid hm'
      clear ho2 ho' hg ho hat hm hm' hlit hb2
      go_wp2
      go_roundw
      case rel => exact ⟨k + 1, by omega, by go_num, HO.out, HM.out⟩
      case measure => simp [intOf]; omega
    · obtain rfl : k = size := by omega
      have HO := Lib.hid ho
      clear ho
      go_wp2
      go_ret
      exact ⟨_, rfl, by rw [List.length_append, be_length]; exact HO.out, hm⟩

set_option maxHeartbeats 1000000 in
theorem put_text_core (base : Nat) (v : Value) (l : List UInt8) (s : ByteArray) (w : World) (hs : s.size ≤ 65535)
    (hown : w.ownsRow base 5 1 v l.length (bv l)) (hb : base ≤ w.heap.size) (hl : l.length ≤ 900000) :
    Calls Try.prog 58 #[v, .string s] w fun e w' =>
      ∃ v', e = .returned v' ∧ w'.ownsRow base 5 1 v' (l ++ encS s).length (bv (l ++ encS s)) ∧ Moves (VF v) (VF v') w w' := by
  have HE : Hid (l ++ encS s = l ++ be 2 s.size ++ s.data.toList) := Lib.hid (by simp [encS])
  have C := Lib.hid (put_num_at base v l s.size 2 w (by omega) (by omega) hown hb (by omega))
  have L2 := Lib.hid (show (l ++ be 2 s.size).length ≤ 900002 by rw [List.length_append, be_length]; omega)
  have HB := Lib.hid hb
  clear hown hb
  go_enter Try.func58, Try.ntmps58
  go_wp2_with fail
  refine C.out.mono ?_
  rintro e w1 ⟨v1, rfl, ho1, hm1⟩
  have HB1 := Lib.hid (Nat.le_trans HB.out hm1.keeps.size)
  have HO1 := Lib.hid ho1
  have HM1 := Lib.hid hm1
  clear ho1 hm1 C HB
  go_wp2_with (at_builtin; refine wpList_append_str_at rfl (.tmp 14) (.tmp 15) rfl base v1 _ _ rfl HO1.out s rfl ?c1 HB1.out ?_)
  case c1 => have := L2.out; omega
  intro v2 w2 ho2 hg2 hat2
  have HM2 := Lib.hid (HM1.out.trans (Moves.app hg2 hat2 (Nat.le_refl _)))
  have HO2 : Hid (w2.ownsRow base 5 1 v2 (l ++ encS s).length (bv (l ++ encS s))) := Lib.hid (by
    have e1 : (l ++ be 2 s.size ++ s.data.toList).length = l.length + (be 2 s.size).length + s.size := by simp [Nat.add_assoc]
    rw [HE.out, e1, bv_append]
    exact ho2)
  clear ho2 hg2 hat2 HO1 HM1 HE
  go_wp2
  go_ret
  exact ⟨_, rfl, HO2.out, HM2.out⟩
/-- A text of no more bytes than a head can tell. -/
theorem put_text_at (base : Nat) (v : Value) (l s : List UInt8) (w : World) (hs : s.length ≤ 65535)
    (hown : w.ownsRow base 5 1 v l.length (bv l)) (hb : base ≤ w.heap.size) (hl : l.length ≤ 900000) :
    Calls Try.prog 58 #[v, .string ⟨s.toArray⟩] w fun e w' =>
      ∃ v', e = .returned v' ∧ w'.ownsRow base 5 1 v' (l ++ encS ⟨s.toArray⟩).length (bv (l ++ encS ⟨s.toArray⟩)) ∧ Moves (VF v) (VF v') w w' :=
  put_text_core base v l ⟨s.toArray⟩ w hs hown hb hl
end Go.Proofs.Ytnjeopgcpffkcaa

namespace Go.Proofs.Ytnjeopgcpffkcaa
set_option maxRecDepth 100000
open Go.RowKit

theorem num_own (v : Value) (l : List UInt8) (x size B : Nat) (w : World) (h : w.ownsRow B 5 1 v l.length (bv l)) (h1 : 1 ≤ size) (h8 : size ≤ 8) (hl : l.length ≤ 3000) (hB : B ≤ w.heap.size) :
    Calls Try.prog 25 #[v, .int .u64 (x : Int), .int .i64 (size : Int)] w fun e w' =>
      ∃ v', e = .returned v' ∧ w'.ownsRow B 5 1 v' (l ++ be size x).length (bv (l ++ be size x)) ∧ Below B w w' := by
  refine (put_num B v l x size w h1 h8 h hB (by omega)).mono ?_
  rintro e w' ⟨v', rfl, o, b⟩
  exact ⟨v', rfl, by rw [List.length_append, be_length]; exact o, b⟩

set_option maxHeartbeats 1000000 in
theorem body_any (a : Ent) (hn : a.name.length ≤ 1000) (w : World) :
    Calls Try.prog 88 #[a.val] w fun e w' => ∃ v', e = .returned v' ∧ w'.ownsRow w.heap.size 5 1 v' (bodyL a).length (bv (bodyL a)) ∧ Below w.heap.size w w' := by
  obtain ⟨n, i, f, u, x, t⟩ := a
  simp only [Ent.val, Ent.enc]
  have hn' : n.length ≤ 1000 := hn
  have HN := Lib.hid hn'
  have r1 := uN_wrap f
  have r2 := uN_wrap u
  have r3 := uN_wrap x
  have HD : Hid (bodyL ⟨n, i, f, u, x, t⟩ = nameE n ++ be 8 i ++ be 4 (uN f) ++ be 4 (uN u) ++ be 2 (uN x)) := Lib.hid rfl
  generalize uN f = f' at *
  generalize uN u = u' at *
  generalize uN x = x' at *
  clear hn hn'
  go_enter Try.func88, Try.ntmps88
  go_wp2_with fail
  have X := Whole.new w 51 #[.string ⟨n.toArray⟩, .int .u64 (i : Int), .int .i64 f, .int .i64 u, .int .i64 x, .string ⟨t.toArray⟩]
  have b : Below w.heap.size w (w.alloc (.cells #[.string ⟨n.toArray⟩, .int .u64 (i : Int), .int .i64 f, .int .i64 u, .int .i64 x, .string ⟨t.toArray⟩] 51)) := (Below.refl _ _).alloc (Nat.le_refl _) _
  have z : w.heap.size < (w.alloc (.cells #[.string ⟨n.toArray⟩, .int .u64 (i : Int), .int .i64 f, .int .i64 u, .int .i64 x, .string ⟨t.toArray⟩] 51)).heap.size := X.lt
  generalize w.alloc (.cells #[.string ⟨n.toArray⟩, .int .u64 (i : Int), .int .i64 f, .int .i64 u, .int .i64 x, .string ⟨t.toArray⟩] 51) = w1 at *
  obtain ⟨base, hbase⟩ : ∃ b, b = w1.heap.size := ⟨_, rfl⟩
  rw [← hbase] at z
  have X1 := Lib.hid X
  have B1 := Lib.hid b
  have Z1 := Lib.hid z
  have S1 := Lib.hid (Nat.le_of_eq hbase)
  have NL := Lib.hid (nameE_length n)
  clear X b z hbase
  have ec : cutText ⟨n.toArray⟩ = ⟨n.toArray⟩ := by
    have hs : (⟨n.toArray⟩ : ByteArray).size = n.length := rfl
    rw [cutText, Nat.min_eq_left (by rw [hs]; have := HN.out; omega)]
    exact ByteArray.extract_zero_size
  have C := put_text base (.slice none 0 0) [] ⟨n.toArray⟩ w1 (by have := HN.out; show n.length ≤ _; omega) (World.ownsRow_nil w1 base _ _) S1.out (by decide)
  rw [ec] at C
  have C := Lib.hid C
  clear ec
  refine C.out.mono ?_
  rintro e w2 ⟨v2, rfl, o2, b2⟩
  have o2' : w2.ownsRow base 5 1 v2 (nameE n).length (bv (nameE n)) := by
    have hs : (⟨n.toArray⟩ : ByteArray).size = n.length := rfl
    rw [nameE_length]
    simpa [nameE, encS, hs] using o2
  have O2 := Lib.hid o2'
  have X2 := Lib.hid (X1.out.below b2 Z1.out)
  have B2 := Lib.hid (B1.out.trans (b2.mono (Nat.le_of_lt Z1.out)))
  have S2 := Lib.hid (Nat.le_trans S1.out b2.size)
  have c := X2.out.at_ 1
  simp at c
  clear o2 o2' b2 X1 B1 S1 C
  go_wp2_with fail
  refine (num_own v2 (nameE n) i 8 base w2 O2.out (by decide) (by decide) (by rw [NL.out]; have := HN.out; omega) S2.out).mono ?_
  rintro e w3 ⟨v3, rfl, o3, b3⟩
  clear c O2
  have O3 := Lib.hid o3
  have X3 := Lib.hid (X2.out.below b3 Z1.out)
  have B3 := Lib.hid (B2.out.trans (b3.mono (Nat.le_of_lt Z1.out)))
  have S3 := Lib.hid (Nat.le_trans S2.out b3.size)
  have c := X3.out.at_ 2
  simp at c
  clear o3 b3 X2 B2 S2
  go_wp2_with fail
  refine (num_own v3 (nameE n ++ be 8 i) f' 4 base w3 O3.out (by decide) (by decide) (by simp only [List.length_append, be_length, NL.out]; have := HN.out; omega) S3.out).mono ?_
  rintro e w4 ⟨v4, rfl, o4, b4⟩
  clear c O3
  have O4 := Lib.hid o4
  have X4 := Lib.hid (X3.out.below b4 Z1.out)
  have B4 := Lib.hid (B3.out.trans (b4.mono (Nat.le_of_lt Z1.out)))
  have S4 := Lib.hid (Nat.le_trans S3.out b4.size)
  have c := X4.out.at_ 3
  simp at c
  clear o4 b4 X3 B3 S3
  go_wp2_with fail
  refine (num_own v4 (nameE n ++ be 8 i ++ be 4 f') u' 4 base w4 O4.out (by decide) (by decide) (by simp only [List.length_append, be_length, NL.out]; have := HN.out; omega) S4.out).mono ?_
  rintro e w5 ⟨v5, rfl, o5, b5⟩
  clear c O4
  have O5 := Lib.hid o5
  have X5 := Lib.hid (X4.out.below b5 Z1.out)
  have B5 := Lib.hid (B4.out.trans (b5.mono (Nat.le_of_lt Z1.out)))
  have S5 := Lib.hid (Nat.le_trans S4.out b5.size)
  have c := X5.out.at_ 4
  simp at c
  clear o5 b5 X4 B4 S4
  go_wp2_with fail
  refine (num_own v5 (nameE n ++ be 8 i ++ be 4 f' ++ be 4 u') x' 2 base w5 O5.out (by decide) (by decide) (by simp only [List.length_append, be_length, NL.out]; have := HN.out; omega) S5.out).mono ?_
  rintro e w6 ⟨v6, rfl, o6, b6⟩
  clear c O5
  rw [← HD.out] at o6
  have O6 := Lib.hid (own_less o6 (Nat.le_of_lt Z1.out))
  have B6 := Lib.hid (B5.out.trans (b6.mono (Nat.le_of_lt Z1.out)))
  clear o6 b6 B5 X5 S5
  go_wp2
  go_ret
  exact ⟨_, rfl, O6.out, B6.out⟩

/-- A text's bytes, put behind a row of the call's own. -/
theorem wp_append_text {w : World} {o : Oper} {a : Act} {K : Act → World → Prop} {Q : Exit → Act → World → Prop} (s x : Operand)
    (ho : o.op = .call { callee := .builtin .append, args := #[s, x], argTypes := #[33, 9] })
    (base : Nat) (v : Value) (n : Nat) (xs : List Value) (hv : a.eval s = v) (hown : w.ownsRow base 5 1 v n xs) (l : List UInt8) (hx : a.eval x = .string ⟨l.toArray⟩)
    (hlen : n + l.length ≤ 10000000) (hbase : base ≤ w.heap.size)
    (h : ∀ v' w', w'.ownsRow base 5 1 v' (n + l.length) (xs ++ bv l) → w.grownBy w' v.ownBlock → K (a.put o.dst v') w') : o.wp Try.prog a w K Q := by
  obtain ⟨i0, hi0, hz0, hz1, hz2⟩ := info_parts byte_info
  have hs : (⟨l.toArray⟩ : ByteArray).size = l.length := rfl
  obtain ⟨v', w', hr, h2, h3, -⟩ := Lib.run_append_own_string (P := Try.prog) w base 33 9 o.type 5 i0 Try.underlying33 Try.underlying9 hi0 hz0 hz1 hz2 v n xs hown ⟨l.toArray⟩ (by simp only [maxLen, hs]; omega) (by rw [hs]; omega) hbase
  have e1 : Lib.strCells ⟨l.toArray⟩ = bv l := rfl
  rw [hs, e1] at h2
  unfold Oper.wp execOp
  simp only [ho, resolve, invoke, builtin, Sem.run_bind, Sem.run_pure, Result.andThen_ok, List.map_toArray, List.map_cons, List.map_nil, hv, hx, hr]
  exact h v' w' h2 h3

set_option maxRecDepth 100000 in
set_option maxHeartbeats 2000000 in
theorem enBytes_any (a : Ent) (hn : a.name.length ≤ 1000) (ht : a.tag.length ≤ 1000) (w : World) :
    Calls Try.prog 81 #[a.val] w fun e w' => ∃ v', e = .returned v' ∧ BytesAt w' v' (bytesE a) ∧ Below w.heap.size w w' := by
  have CB := fun w => Lib.hid (body_any a hn w)
  have HL := Lib.hid (show (bodyL a).length ≤ 1020 by rw [bodyL_length]; omega)
  have HT := Lib.hid ht
  have HV := Lib.hid (Ent.val_cells a)
  go_enter Try.func81, Try.ntmps81
  go_wp2_with (refine wpList_box_row rfl 51 _ rfl a.cells rfl ?_)
  intro w1 b1 x1 z1
  have X1 : Hid (EntAt w1 w.heap.size a) := x1
  have B1 := Lib.hid b1
  have Z1 := Lib.hid z1
  clear b1 x1 z1
  go_wp2_with fail
  refine regS_begin (fun w' => EntAt w' w.heap.size a ∧ Below w.heap.size w w' ∧ w.heap.size < w'.heap.size) (by kernel_rfl) ⟨X1.out, B1.out.drew, by have := Z1.out; simpa using (by omega : w.heap.size < w1.heap.size)⟩ ?_
  have hS : EntAt w1.drew w.heap.size a ∧ Below w.heap.size w w1.drew ∧ w.heap.size < w1.drew.heap.size := ⟨X1.out, B1.out.drew, by have := Z1.out; simpa using (by omega : w.heap.size < w1.heap.size)⟩
  generalize w1.drew = w2 at *
  have z2 : w.heap.size ≤ w2.heap.size := Nat.le_of_lt hS.2.2
  have z2' : w.heap.size + 1 ≤ w2.heap.size := hS.2.2
  clear X1 B1 Z1
  refine regS_take (i := 0) (v := a.val) rfl (by kernel_rfl) (by kernel_rfl) (by kernel_rfl) (fun _ _ _ h => h) (by rfl) hS ?hy0 ?_
  case hy0 => intro w' hw'; exact exec_load_ent _ rfl w.heap.size rfl a w' hw'.1
  simp only [Act.put, List.setIfInBounds_toArray, List.set_cons_zero, List.set_cons_succ]
  refine regS_take (i := 2) (v := ?_) rfl (by kernel_rfl) (by kernel_rfl) (by kernel_rfl) (fun _ _ _ h => h) (by rfl) hS ?hy2 ?_
  case hy2 => intro w' hw'; go_simp; (try with_reducible rfl)
  simp only [Act.put, List.setIfInBounds_toArray, List.set_cons_zero, List.set_cons_succ]
  refine regS_take (i := 3) (v := .string ⟨a.tag.toArray⟩) rfl (by kernel_rfl) (by kernel_rfl) (by kernel_rfl) (fun _ _ _ h => h) (by rfl) hS ?hy3 ?_
  case hy3 => intro w' hw'; have c := hw'.1.at_ 5; simp [Ent.cells] at c; go_simp; (try with_reducible rfl)
  simp only [Act.put, List.setIfInBounds_toArray, List.set_cons_zero, List.set_cons_succ]
  refine regS_do (i := 1) rfl (by kernel_rfl) (fun K' hK => ?_)
  go_simp
  refine (CB w2).out.mono ?_
  rintro e w3 ⟨v3, rfl, o3, b3⟩
  have s3 : EntAt w3 w.heap.size a ∧ Below w.heap.size w w3 ∧ w.heap.size < w3.heap.size := ⟨hS.1.below b3 hS.2.2, hS.2.1.trans (b3.mono hS.2.1.size), Nat.lt_of_lt_of_le hS.2.2 b3.size⟩
  have z4 : w2.heap.size ≤ w3.heap.size := b3.size
  refine hK.out _ _ s3 ?_
  clear hK K' b3 hS
  refine regS_do (i := 4) rfl (by kernel_rfl) (fun K' hK => ?_)
  try rw [if_pos (by rfl)]
  refine wp_append_text _ _ rfl w2.heap.size _ _ _ rfl o3 a.tag rfl (by have := HL.out; have := HT.out; omega) z4 ?_
  intro v5 w5 o5 g5
  have s5 : Below w.heap.size w w5 := s3.2.1.grown g5 s3.2.1.size (fun k hk => Nat.le_trans z2 (o3.lt k hk).1)
  have e5 : BytesAt w5 v5 (bytesE a) := BytesAt.of_own (base := w2.heap.size) (by rw [bytesE, List.length_append, bv_append]; exact o5)
  have hS : EntAt w5 w.heap.size a ∧ Below w.heap.size w w5 ∧ w.heap.size < w5.heap.size := ⟨s3.1.grown g5 (fun e => by have h1 := (o3.lt _ e.symm).1; exact absurd (Nat.le_trans z2' h1) (by omega)), s5, Nat.lt_of_lt_of_le s3.2.2 g5.size⟩
  refine hK.out _ _ hS ?_
  clear hK K' o5 g5 o3 s3
  refine regS_take (i := 5) (v := ?_) rfl (by kernel_rfl) (by kernel_rfl) (by kernel_rfl) (fun _ _ _ h => h) (by rfl) hS ?hy5 ?_
  case hy5 => intro w' hw'; go_simp; (try with_reducible rfl)
  simp only [Act.put, List.setIfInBounds_toArray, List.set_cons_zero, List.set_cons_succ]
  refine regS_end (by kernel_rfl) ?_
  have E5 := Lib.hid e5
  have S5 := Lib.hid s5
  clear hS s5 e5
  go_wp2
  go_ret
  exact ⟨_, rfl, E5.out, S5.out⟩
end Go.Proofs.Ytnjeopgcpffkcaa
