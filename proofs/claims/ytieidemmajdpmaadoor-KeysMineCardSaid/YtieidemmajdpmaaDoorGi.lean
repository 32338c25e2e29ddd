/- Layer 18 as mathematics: the roots of a session, an epoch's key, which root is whose. It speaks of no program. The text that a session's info begins with, made bytes. Package entry, as landed: Body, Bytes. -/
import Derived.Test.YtieidemmajdpmaaDoorGc
import Derived.Test.YtieidemmajdpmaaDoorGh
import Derived.Lib.SlBytesConst
import Derived.Lib.AppendStr
namespace Go.Proofs.YtieidemmajdpmaaDoor
set_option maxRecDepth 100000

def sessionHead : List UInt8 := [99, 97, 114, 99, 97, 110, 101, 116, 32, 115, 101, 115, 115, 105, 111, 110]
def epochHead : List UInt8 := [101, 112, 111, 99, 104, 32]
def saltL (f s : Nat) : List UInt8 := be 8 f ++ be 8 s
theorem saltL_length (f s : Nat) : (saltL f s).length = 16 := by rw [saltL, List.length_append, be_length, be_length]
def infoL (l : List Ent) : List UInt8 := sessionHead ++ l.flatMap textE
theorem infoL_nil : infoL [] = sessionHead := by simp [infoL]
theorem infoL_take {l : List Ent} {k : Nat} {x : Ent} (h : l[k]? = some x) : infoL (l.take (k + 1)) = infoL (l.take k) ++ textE x := by
  rw [infoL, infoL, take_at h, List.flatMap_append]
  simp
theorem infoL_most (l : List Ent) : (infoL l).length ≤ 16 + 65537 * l.length := by
  induction l with
  | nil => simp [infoL, sessionHead]
  | cons x r ih =>
    have := textE_most x
    simp only [infoL, List.flatMap_cons, List.length_append, List.length_cons] at ih ⊢
    omega
theorem infoL_two {a b : Ent} (hn : a.name.length ≤ 1000) (ht : a.tag.length ≤ 1000) (kn : b.name.length ≤ 1000) (kt : b.tag.length ≤ 1000) : (infoL [a, b]).length ≤ 4060 := by
  have h1 := textE_less hn ht
  have h2 := textE_less kn kt
  simp [infoL, sessionHead]
  omega
def bothL (k : List UInt8) (f s : Nat) (a b : Ent) : List UInt8 := expandL (extractL (saltL f s) k) (infoL [a, b]) 64
theorem bothL_length (k : List UInt8) (f s : Nat) (a b : Ent) : (bothL k f s a b).length = 64 := expandL_length _ _ _
def rootT (k : List UInt8) (f s : Nat) (a b : Ent) : List UInt8 := (bothL k f s a b).take 32
def rootB (k : List UInt8) (f s : Nat) (a b : Ent) : List UInt8 := (bothL k f s a b).drop 32
theorem rootT_length (k : List UInt8) (f s : Nat) (a b : Ent) : (rootT k f s a b).length = 32 := by rw [rootT, List.length_take, bothL_length]; decide
theorem rootB_length (k : List UInt8) (f s : Nat) (a b : Ent) : (rootB k f s a b).length = 32 := by rw [rootB, List.length_drop, bothL_length]
theorem numL_most (i : Int) (h : -9223372036854775808 ≤ i) (h2 : i < 9223372036854775808) : (numL i).length ≤ 20 := by
  have e : (10 : Nat) ^ 19 = 10000000000000000000 := by decide
  rw [numL]
  split
  · have := decL_length i.natAbs 19 (by omega) (by decide)
    rw [List.length_cons]
    omega
  · have := decL_length i.toNat 19 (by omega) (by decide)
    omega
def epochK (r : List UInt8) (e : Int) : List UInt8 := namedL r (epochHead ++ numL e)
theorem epochK_length (r : List UInt8) (e : Int) : (epochK r e).length = 32 := namedL_length _ _
def mineA (role : Int) (t b : List UInt8) : List UInt8 := if role = 1 then t else if role = 2 then b else []
def mineB (role : Int) (t b : List UInt8) : List UInt8 := if role = 1 then b else if role = 2 then t else []
end Go.Proofs.YtieidemmajdpmaaDoor

namespace Go.Proofs.YtieidemmajdpmaaDoor
set_option maxRecDepth 100000
open Go.RowKit

theorem session_conv (w : World) : (convert 32 32 (.slice (some ⟨w.heap.size, 0, none⟩) 16 16)).run Tryd.prog (w.alloc (.cells #[.int .u8 99, .int .u8 97, .int .u8 114, .int .u8 99, .int .u8 97, .int .u8 110, .int .u8 101, .int .u8 116, .int .u8 32, .int .u8 115, .int .u8 101, .int .u8 115, .int .u8 115, .int .u8 105, .int .u8 111, .int .u8 110] 5)) =
    .ok (.slice (some ⟨w.heap.size, 0, none⟩) 16 16) (w.alloc (.cells #[.int .u8 99, .int .u8 97, .int .u8 114, .int .u8 99, .int .u8 97, .int .u8 110, .int .u8 101, .int .u8 116, .int .u8 32, .int .u8 115, .int .u8 101, .int .u8 115, .int .u8 115, .int .u8 105, .int .u8 111, .int .u8 110] 5 (16, 17))) :=
  Lib.run_convert_bytes_const w 32 5 _ 16 16 Tryd.underlying32 Tryd.underlying5
theorem session_lit (w : World) : BytesAt (w.alloc (.cells #[.int .u8 99, .int .u8 97, .int .u8 114, .int .u8 99, .int .u8 97, .int .u8 110, .int .u8 101, .int .u8 116, .int .u8 32, .int .u8 115, .int .u8 101, .int .u8 115, .int .u8 115, .int .u8 105, .int .u8 111, .int .u8 110] 5 (16, 17))) (.slice (some ⟨w.heap.size, 0, none⟩) 16 16) sessionHead := by
  refine ⟨_, _, rfl, Nat.le_refl _, fun _ => ⟨_, rfl, fun j c hj => ?_⟩⟩
  have ha : (⟨w.heap.size, 0, none⟩ : Addr).add j = ⟨w.heap.size, j, none⟩ := by unfold Addr.add; split <;> simp_all
  rw [ha, cell_of_row _ _ j _ _ _ (heap_alloc_new w _)]
  have e : (#[.int .u8 99, .int .u8 97, .int .u8 114, .int .u8 99, .int .u8 97, .int .u8 110, .int .u8 101, .int .u8 116, .int .u8 32, .int .u8 115, .int .u8 101, .int .u8 115, .int .u8 115, .int .u8 105, .int .u8 111, .int .u8 110] : Array Value) = (bv sessionHead).toArray := rfl
  rw [e]
  simp [bv, hj]
end Go.Proofs.YtieidemmajdpmaaDoor

namespace Go.Proofs.YtieidemmajdpmaaDoor
set_option maxRecDepth 100000
open Go.RowKit

theorem num_own (v : Value) (l : List UInt8) (x size B : Nat) (w : World) (h : w.ownsRow B 5 1 v l.length (bv l)) (h1 : 1 ≤ size) (h8 : size ≤ 8) (hl : l.length ≤ 3000) (hB : B ≤ w.heap.size) :
    Calls Tryd.prog 27 #[v, .int .u64 (x : Int), .int .i64 (size : Int)] w fun e w' =>
      ∃ v', e = .returned v' ∧ w'.ownsRow B 5 1 v' (l ++ be size x).length (bv (l ++ be size x)) ∧ Below B w w' := by
  refine (put_num B v l x size w h1 h8 h hB (by omega)).mono ?_
  rintro e w' ⟨v', rfl, o, b⟩
  exact ⟨v', rfl, by rw [List.length_append, be_length]; exact o, b⟩

set_option maxHeartbeats 1000000 in
theorem body_any (a : Ent) (hn : a.name.length ≤ 1000) (w : World) :
    Calls Tryd.prog 36 #[a.val] w fun e w' => ∃ v', e = .returned v' ∧ w'.ownsRow w.heap.size 5 1 v' (bodyL a).length (bv (bodyL a)) ∧ Below w.heap.size w w' := by
  obtain ⟨n, i, f, u, x, t⟩ := a
  simp only [Ent.val, Ent.enc]
  have hn' : n.length ≤ 1000 := hn
  have HN := Lib.hid hn'
  have r1 := uN_wrap f
  have r2 := uN_wrap u
  have r3 := uN_wrap x
  have HD : Hid (bodyL ⟨n, i, f, u, x, t⟩ = nameE n ++ be 8 i ++ be 4 (uN f) ++ be 4 (uN u) ++ be 2 (uN x)) := Lib.hid rfl
  generalize uN f = f' at *
  generalize uN u = u' at *
  generalize uN x = x' at *
  clear hn hn'
  go_enter Tryd.func36, Tryd.ntmps36
  go_wp2_with fail
  have X := Whole.new w 24 #[.string ⟨n.toArray⟩, .int .u64 (i : Int), .int .i64 f, .int .i64 u, .int .i64 x, .string ⟨t.toArray⟩]
  have b : Below w.heap.size w (w.alloc (.cells #[.string ⟨n.toArray⟩, .int .u64 (i : Int), .int .i64 f, .int .i64 u, .int .i64 x, .string ⟨t.toArray⟩] 24)) := (Below.refl _ _).alloc (Nat.le_refl _) _
  have z : w.heap.size < (w.alloc (.cells #[.string ⟨n.toArray⟩, .int .u64 (i : Int), .int .i64 f, .int .i64 u, .int .i64 x, .string ⟨t.toArray⟩] 24)).heap.size := X.lt
  generalize w.alloc (.cells #[.string ⟨n.toArray⟩, .int .u64 (i : Int), .int .i64 f, .int .i64 u, .int .i64 x, .string ⟨t.toArray⟩] 24) = w1 at *
  obtain ⟨base, hbase⟩ : ∃ b, b = w1.heap.size := ⟨_, rfl⟩
  rw [← hbase] at z
  have X1 := Lib.hid X
  have B1 := Lib.hid b
  have Z1 := Lib.hid z
  have S1 := Lib.hid (Nat.le_of_eq hbase)
  have NL := Lib.hid (nameE_length n)
  clear X b z hbase
  have ec : cutText ⟨n.toArray⟩ = ⟨n.toArray⟩ := by
    have hs : (⟨n.toArray⟩ : ByteArray).size = n.length := rfl
    rw [cutText, Nat.min_eq_left (by rw [hs]; have := HN.out; omega)]
    exact ByteArray.extract_zero_size
  have C := put_text base (.slice none 0 0) [] ⟨n.toArray⟩ w1 (by have := HN.out; show n.length ≤ _; omega) (World.ownsRow_nil w1 base _ _) S1.out (by decide)
  rw [ec] at C
  have C := Lib.hid C
  clear ec
  refine C.out.mono ?_
  rintro e w2 ⟨v2, rfl, o2, b2⟩
  have o2' : w2.ownsRow base 5 1 v2 (nameE n).length (bv (nameE n)) := by
    have hs : (⟨n.toArray⟩ : ByteArray).size = n.length := rfl
    rw [nameE_length]
    simpa [nameE, encS, hs] using o2
  have O2 := Lib.hid o2'
  have X2 := Lib.hid (X1.out.below b2 Z1.out)
  have B2 := Lib.hid (B1.out.trans (b2.mono (Nat.le_of_lt Z1.out)))
  have S2 := Lib.hid (Nat.le_trans S1.out b2.size)
  have c := X2.out.at_ 1
  simp at c
  clear o2 o2' b2 X1 B1 S1 C
  go_wp2_with fail
  refine (num_own v2 (nameE n) i 8 base w2 O2.out (by decide) (by decide) (by rw [NL.out]; have := HN.out; omega) S2.out).mono ?_
  rintro e w3 ⟨v3, rfl, o3, b3⟩
  clear c O2
  have O3 := Lib.hid o3
  have X3 := Lib.hid (X2.out.below b3 Z1.out)
  have B3 := Lib.hid (B2.out.trans (b3.mono (Nat.le_of_lt Z1.out)))
  have S3 := Lib.hid (Nat.le_trans S2.out b3.size)
  have c := X3.out.at_ 2
  simp at c
  clear o3 b3 X2 B2 S2
  go_wp2_with fail
  refine (num_own v3 (nameE n ++ be 8 i) f' 4 base w3 O3.out (by decide) (by decide) (by simp only [List.length_append, be_length, NL.out]; have := HN.out; omega) S3.out).mono ?_
  rintro e w4 ⟨v4, rfl, o4, b4⟩
  clear c O3
  have O4 := Lib.hid o4
  have X4 := Lib.hid (X3.out.below b4 Z1.out)
  have B4 := Lib.hid (B3.out.trans (b4.mono (Nat.le_of_lt Z1.out)))
  have S4 := Lib.hid (Nat.le_trans S3.out b4.size)
  have c := X4.out.at_ 3
  simp at c
  clear o4 b4 X3 B3 S3
  go_wp2_with fail
  refine (num_own v4 (nameE n ++ be 8 i ++ be 4 f') u' 4 base w4 O4.out (by decide) (by decide) (by simp only [List.length_append, be_length, NL.out]; have := HN.out; omega) S4.out).mono ?_
  rintro e w5 ⟨v5, rfl, o5, b5⟩
  clear c O4
  have O5 := Lib.hid o5
  have X5 := Lib.hid (X4.out.below b5 Z1.out)
  have B5 := Lib.hid (B4.out.trans (b5.mono (Nat.le_of_lt Z1.out)))
  have S5 := Lib.hid (Nat.le_trans S4.out b5.size)
  have c := X5.out.at_ 4
  simp at c
  clear o5 b5 X4 B4 S4
  go_wp2_with fail
  refine (num_own v5 (nameE n ++ be 8 i ++ be 4 f' ++ be 4 u') x' 2 base w5 O5.out (by decide) (by decide) (by simp only [List.length_append, be_length, NL.out]; have := HN.out; omega) S5.out).mono ?_
  rintro e w6 ⟨v6, rfl, o6, b6⟩
  clear c O5
  rw [← HD.out] at o6
  have O6 := Lib.hid (own_less o6 (Nat.le_of_lt Z1.out))
  have B6 := Lib.hid (B5.out.trans (b6.mono (Nat.le_of_lt Z1.out)))
  clear o6 b6 B5 X5 S5
  go_wp2
  go_ret
  exact ⟨_, rfl, O6.out, B6.out⟩

/-- A text's bytes, put behind a row of the call's own. -/
theorem wp_append_text {w : World} {o : Oper} {a : Act} {K : Act → World → Prop} {Q : Exit → Act → World → Prop} (s x : Operand)
    (ho : o.op = .call { callee := .builtin .append, args := #[s, x], argTypes := #[32, 9] })
    (base : Nat) (v : Value) (n : Nat) (xs : List Value) (hv : a.eval s = v) (hown : w.ownsRow base 5 1 v n xs) (l : List UInt8) (hx : a.eval x = .string ⟨l.toArray⟩)
    (hlen : n + l.length ≤ 10000000) (hbase : base ≤ w.heap.size)
    (h : ∀ v' w', w'.ownsRow base 5 1 v' (n + l.length) (xs ++ bv l) → w.grownBy w' v.ownBlock → K (a.put o.dst v') w') : o.wp Tryd.prog a w K Q := by
  obtain ⟨i0, hi0, hz0, hz1, hz2⟩ := info_parts byte_info
  have hs : (⟨l.toArray⟩ : ByteArray).size = l.length := rfl
  obtain ⟨v', w', hr, h2, h3, -⟩ := Lib.run_append_own_string (P := Tryd.prog) w base 32 9 o.type 5 i0 Tryd.underlying32 Tryd.underlying9 hi0 hz0 hz1 hz2 v n xs hown ⟨l.toArray⟩ (by simp only [maxLen, hs]; omega) (by rw [hs]; omega) hbase
  have e1 : Lib.strCells ⟨l.toArray⟩ = bv l := rfl
  rw [hs, e1] at h2
  unfold Oper.wp execOp
  simp only [ho, resolve, invoke, builtin, Sem.run_bind, Sem.run_pure, Result.andThen_ok, List.map_toArray, List.map_cons, List.map_nil, hv, hx, hr]
  exact h v' w' h2 h3

set_option maxRecDepth 100000 in
set_option maxHeartbeats 2000000 in
theorem enBytes_any (a : Ent) (hn : a.name.length ≤ 1000) (ht : a.tag.length ≤ 1000) (w : World) :
    Calls Tryd.prog 29 #[a.val] w fun e w' => ∃ v', e = .returned v' ∧ BytesAt w' v' (bytesE a) ∧ Below w.heap.size w w' := by
  have CB := fun w => Lib.hid (body_any a hn w)
  have HL := Lib.hid (show (bodyL a).length ≤ 1020 by rw [bodyL_length]; omega)
  have HT := Lib.hid ht
  have HV := Lib.hid (Ent.val_cells a)
  go_enter Tryd.func29, Tryd.ntmps29
  go_wp2_with (refine wpList_box_row rfl 24 _ rfl a.cells rfl ?_)
  intro w1 b1 x1 z1
  have X1 : Hid (EntAt w1 w.heap.size a) := x1
  have B1 := Lib.hid b1
  have Z1 := Lib.hid z1
  clear b1 x1 z1
  go_wp2_with fail
  refine regS_begin (fun w' => EntAt w' w.heap.size a ∧ Below w.heap.size w w' ∧ w.heap.size < w'.heap.size) (by kernel_rfl) ⟨X1.out, B1.out.drew, by have := Z1.out; simpa using (by omega : w.heap.size < w1.heap.size)⟩ ?_
  have hS : EntAt w1.drew w.heap.size a ∧ Below w.heap.size w w1.drew ∧ w.heap.size < w1.drew.heap.size := ⟨X1.out, B1.out.drew, by have := Z1.out; simpa using (by omega : w.heap.size < w1.heap.size)⟩
  generalize w1.drew = w2 at *
  have z2 : w.heap.size ≤ w2.heap.size := Nat.le_of_lt hS.2.2
  have z2' : w.heap.size + 1 ≤ w2.heap.size := hS.2.2
  clear X1 B1 Z1
  refine regS_take (i := 0) (v := a.val) rfl (by kernel_rfl) (by kernel_rfl) (by kernel_rfl) (fun _ _ _ h => h) (by rfl) hS ?hy0 ?_
  case hy0 => intro w' hw'; exact exec_load_ent _ rfl w.heap.size rfl a w' hw'.1
  simp only [Act.put, List.setIfInBounds_toArray, List.set_cons_zero, List.set_cons_succ]
  refine regS_take (i := 2) (v := ?_) rfl (by kernel_rfl) (by kernel_rfl) (by kernel_rfl) (fun _ _ _ h => h) (by rfl) hS ?hy2 ?_
  case hy2 => intro w' hw'; go_simp; (try with_reducible rfl)
  simp only [Act.put, List.setIfInBounds_toArray, List.set_cons_zero, List.set_cons_succ]
  refine regS_take (i := 3) (v := .string ⟨a.tag.toArray⟩) rfl (by kernel_rfl) (by kernel_rfl) (by kernel_rfl) (fun _ _ _ h => h) (by rfl) hS ?hy3 ?_
  case hy3 => intro w' hw'; have c := hw'.1.at_ 5; simp [Ent.cells] at c; go_simp; (try with_reducible rfl)
  simp only [Act.put, List.setIfInBounds_toArray, List.set_cons_zero, List.set_cons_succ]
  refine regS_do (i := 1) rfl (by kernel_rfl) (fun K' hK => ?_)
  go_simp
  refine (CB w2).out.mono ?_
  rintro e w3 ⟨v3, rfl, o3, b3⟩
  have s3 : EntAt w3 w.heap.size a ∧ Below w.heap.size w w3 ∧ w.heap.size < w3.heap.size := ⟨hS.1.below b3 hS.2.2, hS.2.1.trans (b3.mono hS.2.1.size), Nat.lt_of_lt_of_le hS.2.2 b3.size⟩
  have z4 : w2.heap.size ≤ w3.heap.size := b3.size
  refine hK.out _ _ s3 ?_
  clear hK K' b3 hS
  refine regS_do (i := 4) rfl (by kernel_rfl) (fun K' hK => ?_)
  try rw [if_pos (by rfl)]
  refine wp_append_text _ _ rfl w2.heap.size _ _ _ rfl o3 a.tag rfl (by have := HL.out; have := HT.out; omega) z4 ?_
  intro v5 w5 o5 g5
  have s5 : Below w.heap.size w w5 := s3.2.1.grown g5 s3.2.1.size (fun k hk => Nat.le_trans z2 (o3.lt k hk).1)
  have e5 : BytesAt w5 v5 (bytesE a) := BytesAt.of_own (base := w2.heap.size) (by rw [bytesE, List.length_append, bv_append]; exact o5)
  have hS : EntAt w5 w.heap.size a ∧ Below w.heap.size w w5 ∧ w.heap.size < w5.heap.size := ⟨s3.1.grown g5 (fun e => by have h1 := (o3.lt _ e.symm).1; exact absurd (Nat.le_trans z2' h1) (by omega)), s5, Nat.lt_of_lt_of_le s3.2.2 g5.size⟩
  refine hK.out _ _ hS ?_
  clear hK K' o5 g5 o3 s3
  refine regS_take (i := 5) (v := ?_) rfl (by kernel_rfl) (by kernel_rfl) (by kernel_rfl) (fun _ _ _ h => h) (by rfl) hS ?hy5 ?_
  case hy5 => intro w' hw'; go_simp; (try with_reducible rfl)
  simp only [Act.put, List.setIfInBounds_toArray, List.set_cons_zero, List.set_cons_succ]
  refine regS_end (by kernel_rfl) ?_
  have E5 := Lib.hid e5
  have S5 := Lib.hid s5
  clear hS s5 e5
  go_wp2
  go_ret
  exact ⟨_, rfl, E5.out, S5.out⟩
end Go.Proofs.YtieidemmajdpmaaDoor
