/- Package entry's Bytes of an entry of any size. Package hello, as landed: what puts its parts behind a row. -/
import Derived.Test.YtpcdbpijgmninaaDoorGm
import Derived.Test.YtpcdbpijgmninaaDoorGo
import Derived.Test.YtpcdbpijgmninaaDoorGq
import Derived.Test.YtpcdbpijgmninaaDoorGl
namespace Go.Proofs.YtpcdbpijgmninaaDoor
set_option maxRecDepth 100000
open Go.RowKit

theorem num_big (v : Value) (l : List UInt8) (x size B : Nat) (w : World) (h : w.ownsRow B 5 1 v l.length (bv l)) (h1 : 1 ≤ size) (h8 : size ≤ 8) (hl : l.length ≤ 900000) (hB : B ≤ w.heap.size) :
    Calls Tryd.prog 49 #[v, .int .u64 (x : Int), .int .i64 (size : Int)] w fun e w' =>
      ∃ v', e = .returned v' ∧ w'.ownsRow B 5 1 v' (l ++ be size x).length (bv (l ++ be size x)) ∧ Below B w w' := by
  refine (put_num B v l x size w h1 h8 h hB (by omega)).mono ?_
  rintro e w' ⟨v', rfl, o, b⟩
  exact ⟨v', rfl, by rw [List.length_append, be_length]; exact o, b⟩

set_option maxRecDepth 100000 in
set_option maxHeartbeats 1000000 in
theorem body_big (a : Ent) (hn : a.name.length ≤ 9223372036854775807) (w : World) :
    Calls Tryd.prog 89 #[a.val] w fun e w' => ∃ v', e = .returned v' ∧ w'.ownsRow w.heap.size 5 1 v' (bodyL (cutE a)).length (bv (bodyL (cutE a))) ∧ Below w.heap.size w w' := by
  obtain ⟨n, i, f, u, x, t⟩ := a
  simp only [Ent.val, Ent.enc]
  have hn' : n.length ≤ 9223372036854775807 := hn
  have HM := Lib.hid hn'
  have HN := Lib.hid (cutL_length n)
  have r1 := uN_wrap f
  have r2 := uN_wrap u
  have r3 := uN_wrap x
  have HD : Hid (bodyL (cutE ⟨n, i, f, u, x, t⟩) = nameE (cutL n) ++ be 8 i ++ be 4 (uN f) ++ be 4 (uN u) ++ be 2 (uN x)) := Lib.hid rfl
  have ec := cut_text n
  obtain ⟨q, hq⟩ : ∃ q, q = cutL n := ⟨_, rfl⟩
  rw [← hq] at HN HD ec
  generalize uN f = f' at *
  generalize uN u = u' at *
  generalize uN x = x' at *
  clear hn hn' hq
  go_enter Tryd.func89, Tryd.ntmps89
  go_wp2_with fail
  have X := Whole.new w 24 #[.string ⟨n.toArray⟩, .int .u64 (i : Int), .int .i64 f, .int .i64 u, .int .i64 x, .string ⟨t.toArray⟩]
  have b : Below w.heap.size w (w.alloc (.cells #[.string ⟨n.toArray⟩, .int .u64 (i : Int), .int .i64 f, .int .i64 u, .int .i64 x, .string ⟨t.toArray⟩] 24)) := (Below.refl _ _).alloc (Nat.le_refl _) _
  have z : w.heap.size < (w.alloc (.cells #[.string ⟨n.toArray⟩, .int .u64 (i : Int), .int .i64 f, .int .i64 u, .int .i64 x, .string ⟨t.toArray⟩] 24)).heap.size := X.lt
  generalize w.alloc (.cells #[.string ⟨n.toArray⟩, .int .u64 (i : Int), .int .i64 f, .int .i64 u, .int .i64 x, .string ⟨t.toArray⟩] 24) = w1 at *
  obtain ⟨base, hbase⟩ : ∃ b, b = w1.heap.size := ⟨_, rfl⟩
  rw [← hbase] at z
  have X1 := Lib.hid X
  have B1 := Lib.hid b
  have Z1 := Lib.hid z
  have S1 := Lib.hid (Nat.le_of_eq hbase)
  have NL := Lib.hid (nameE_length q)
  clear X b z hbase
  have C := put_text base (.slice none 0 0) [] ⟨n.toArray⟩ w1 (by have := HM.out; show n.length ≤ _; omega) (World.ownsRow_nil w1 base _ _) S1.out (by decide)
  rw [ec] at C
  have C := Lib.hid C
  clear ec
  refine C.out.mono ?_
  rintro e w2 ⟨v2, rfl, o2, b2⟩
  have o2' : w2.ownsRow base 5 1 v2 (nameE q).length (bv (nameE q)) := by
    have hs : (⟨q.toArray⟩ : ByteArray).size = q.length := rfl
    rw [nameE_length]
    simpa [nameE, encS, hs] using o2
  have O2 := Lib.hid o2'
  have X2 := Lib.hid (X1.out.below b2 Z1.out)
  have B2 := Lib.hid (B1.out.trans (b2.mono (Nat.le_of_lt Z1.out)))
  have S2 := Lib.hid (Nat.le_trans S1.out b2.size)
  have c := X2.out.at_ 1
  simp at c
  clear o2 o2' b2 X1 B1 S1 C
  go_wp2_with fail
  refine (num_big v2 (nameE q) i 8 base w2 O2.out (by decide) (by decide) (by rw [NL.out]; have := HN.out; omega) S2.out).mono ?_
  rintro e w3 ⟨v3, rfl, o3, b3⟩
  clear c O2
  have O3 := Lib.hid o3
  have X3 := Lib.hid (X2.out.below b3 Z1.out)
  have B3 := Lib.hid (B2.out.trans (b3.mono (Nat.le_of_lt Z1.out)))
  have S3 := Lib.hid (Nat.le_trans S2.out b3.size)
  have c := X3.out.at_ 2
  simp at c
  clear o3 b3 X2 B2 S2
  go_wp2_with fail
  refine (num_big v3 (nameE q ++ be 8 i) f' 4 base w3 O3.out (by decide) (by decide) (by simp only [List.length_append, be_length, NL.out]; have := HN.out; omega) S3.out).mono ?_
  rintro e w4 ⟨v4, rfl, o4, b4⟩
  clear c O3
  have O4 := Lib.hid o4
  have X4 := Lib.hid (X3.out.below b4 Z1.out)
  have B4 := Lib.hid (B3.out.trans (b4.mono (Nat.le_of_lt Z1.out)))
  have S4 := Lib.hid (Nat.le_trans S3.out b4.size)
  have c := X4.out.at_ 3
  simp at c
  clear o4 b4 X3 B3 S3
  go_wp2_with fail
  refine (num_big v4 (nameE q ++ be 8 i ++ be 4 f') u' 4 base w4 O4.out (by decide) (by decide) (by simp only [List.length_append, be_length, NL.out]; have := HN.out; omega) S4.out).mono ?_
  rintro e w5 ⟨v5, rfl, o5, b5⟩
  clear c O4
  have O5 := Lib.hid o5
  have X5 := Lib.hid (X4.out.below b5 Z1.out)
  have B5 := Lib.hid (B4.out.trans (b5.mono (Nat.le_of_lt Z1.out)))
  have S5 := Lib.hid (Nat.le_trans S4.out b5.size)
  have c := X5.out.at_ 4
  simp at c
  clear o5 b5 X4 B4 S4
  go_wp2_with fail
  refine (num_big v5 (nameE q ++ be 8 i ++ be 4 f' ++ be 4 u') x' 2 base w5 O5.out (by decide) (by decide) (by simp only [List.length_append, be_length, NL.out]; have := HN.out; omega) S5.out).mono ?_
  rintro e w6 ⟨v6, rfl, o6, b6⟩
  clear c O5
  rw [← HD.out] at o6
  have O6 := Lib.hid (own_less o6 (Nat.le_of_lt Z1.out))
  have B6 := Lib.hid (B5.out.trans (b6.mono (Nat.le_of_lt Z1.out)))
  clear o6 b6 B5 X5 S5
  go_wp2
  go_ret
  exact ⟨_, rfl, O6.out, B6.out⟩

/-- A text's bytes put behind a row of the call's own, of as many bytes as a text that came in may have. -/
theorem run_append_text_wide (w : World) (base : Nat) (ty : TypeId) (v : Value) (n : Nat) (xs : List Value) (hown : w.ownsRow base 5 1 v n xs) (s : ByteArray) (hs : s.size ≤ 140737488355328) (hn : n ≤ 1000000) (hbase : base ≤ w.heap.size) :
    ∃ v' w', (Builtin.append_ #[42, 9] ty #[v, .string s]).run Tryd.prog w = .ok v' w' ∧ w'.ownsRow base 5 1 v' (n + s.size) (xs ++ bv s.data.toList) ∧ w.grownBy w' v.ownBlock := by
  obtain ⟨i0, hi0, hz0, hz1, hz2⟩ := info_parts byte_info
  have e1 : Lib.strCells s = bv s.data.toList := rfl
  by_cases hsmall : n + s.size ≤ 140737488355328
  · obtain ⟨v', w', hr, h2, h3, -⟩ := Lib.run_append_own_string (P := Tryd.prog) w base 42 9 ty 5 i0 Tryd.underlying42 Tryd.underlying9 hi0 hz0 hz1 hz2 v n xs hown s (by simp only [maxLen]; omega) hsmall hbase
    exact ⟨v', w', hr, h2, h3⟩
  · have hxl : xs.length = n := by simpa using hown.1
    have sl : (bv s.data.toList).length = s.size := by rw [bv_length]; rfl
    rcases hown.2 with ⟨rfl, rfl⟩ | ⟨g, cap, cur, rfl, hbg, hg, hnc, hcm, hcs, htake⟩
    · omega
    · have hcs' : cur.size = cap := by simpa using hcs
      by_cases hroom : n + s.size ≤ cap
      · have hr := Lib.run_append_room_string (P := Tryd.prog) w 42 9 ty 5 i0 Tryd.underlying42 Tryd.underlying9 hi0 hz1 g n cap cur hg s hroom (by omega)
        rw [e1] at hr
        refine ⟨_, _, hr, ⟨by rw [List.length_append, hxl, sl, Nat.mul_one], .inr ⟨g, cap, _, rfl, hbg, setRow_heap w g cur _ 5 _ hg, hroom, hcm, ?_, ?_⟩⟩, grown_setRow w g _⟩
        · simp only [List.size_toArray, List.length_append, List.length_take, List.length_drop, Array.length_toList, sl]
          omega
        · have ht' : cur.toList.take n = xs := by simpa using htake
          rw [ht', Nat.mul_one]
          have e2 : n + s.size = (xs ++ bv s.data.toList).length := by rw [List.length_append, hxl, sl]
          rw [e2]
          exact List.take_left
      · have holds : ∀ j u, xs[j]? = some u → w.cell? ((⟨g, 0, none⟩ : Addr).add j) = some u := hown.cells (g := g) rfl
        have hr := Lib.run_append_grow_string (P := Tryd.prog) w 42 9 ty 5 i0 (.int .u8 0) Tryd.underlying42 Tryd.underlying9 hi0 hz0 ⟨g, 0, none⟩ n cap xs (by rw [hz1]; simpa using hxl) holds s (by omega) (by omega) (by rw [hz2]; exact growslice_fits_wide (by omega) (by omega))
        rw [e1] at hr
        have hge := grownCap_ge w (n + s.size) cap 5
        have hcm2 : grownCap w (n + s.size) cap 5 ≤ maxLen := grownCap_le_maxLen w _ _ _ (by simp only [maxLen]; omega)
        refine ⟨_, _, hr, ⟨by rw [List.length_append, hxl, sl, Nat.mul_one], .inr ⟨w.heap.size, _, _, rfl, hbase, heap_alloc_new w.drew _, hge, hcm2, ?_, ?_⟩⟩, ⟨rfl, rfl, rfl, by simp, fun k hk _ => heap_alloc_old w.drew _ hk⟩⟩
        · have hz : (Value.int IntKind.u8 0).cells.size = 1 := rfl
          simp only [Array.size_append, List.size_toArray, size_zeroCells, hz, sl, hxl]
          omega
        · simp only [Array.toList_append, Nat.mul_one]
          have e2 : n + s.size = (xs ++ bv s.data.toList).length := by rw [List.length_append, hxl, sl]
          rw [e2]
          exact List.take_left
theorem wp_append_text_wide {w : World} {o : Oper} {a : Act} {K : Act → World → Prop} {Q : Exit → Act → World → Prop} (s x : Operand)
    (ho : o.op = .call { callee := .builtin .append, args := #[s, x], argTypes := #[42, 9] })
    (base : Nat) (v : Value) (n : Nat) (xs : List Value) (hv : a.eval s = v) (hown : w.ownsRow base 5 1 v n xs) (l : List UInt8) (hx : a.eval x = .string ⟨l.toArray⟩)
    (hl : l.length ≤ 140737488355328) (hn : n ≤ 1000000) (hbase : base ≤ w.heap.size)
    (h : ∀ v' w', w'.ownsRow base 5 1 v' (n + l.length) (xs ++ bv l) → w.grownBy w' v.ownBlock → K (a.put o.dst v') w') : o.wp Tryd.prog a w K Q := by
  obtain ⟨v', w', hr, h2, h3⟩ := run_append_text_wide w base o.type v n xs hown ⟨l.toArray⟩ hl hn hbase
  unfold Oper.wp execOp
  simp only [ho, resolve, invoke, builtin, Sem.run_bind, Sem.run_pure, Result.andThen_ok, List.map_toArray, List.map_cons, List.map_nil, hv, hx, hr]
  have e : (⟨l.toArray⟩ : ByteArray).size = l.length := rfl
  rw [e] at h2
  exact h v' w' (by simpa using h2) h3

set_option maxRecDepth 100000 in
set_option maxHeartbeats 2000000 in
theorem enBytes_big (a : Ent) (hn : a.name.length ≤ 140737488355328) (ht : a.tag.length ≤ 140737488355328) (w : World) :
    Calls Tryd.prog 74 #[a.val] w fun e w' => ∃ v', e = .returned v' ∧ BytesAt w' v' (bytesE (cutE a)) ∧ Below w.heap.size w w' := by
  have CB := fun w => Lib.hid (body_big a (by omega) w)
  have HL := Lib.hid (cutE_body a)
  have HT := Lib.hid ht
  have HV := Lib.hid (Ent.val_cells a)
  have HB : Hid (bytesE (cutE a) = bodyL (cutE a) ++ a.tag) := Lib.hid rfl
  generalize bytesE (cutE a) = R at *
  generalize bodyL (cutE a) = L at *
  clear hn
  go_enter Tryd.func74, Tryd.ntmps74
  go_wp2_with (refine wpList_box_row rfl 24 _ rfl a.cells rfl ?_)
  intro w1 b1 x1 z1
  have X1 : Hid (EntAt w1 w.heap.size a) := x1
  have B1 := Lib.hid b1
  have Z1 := Lib.hid z1
  clear b1 x1 z1
  go_wp2_with fail
  refine regS_begin (fun w' => EntAt w' w.heap.size a ∧ Below w.heap.size w w' ∧ w.heap.size < w'.heap.size) (by kernel_rfl) ⟨X1.out, B1.out.drew, by have := Z1.out; simpa using (by omega : w.heap.size < w1.heap.size)⟩ ?_
  have hS : EntAt w1.drew w.heap.size a ∧ Below w.heap.size w w1.drew ∧ w.heap.size < w1.drew.heap.size := ⟨X1.out, B1.out.drew, by have := Z1.out; simpa using (by omega : w.heap.size < w1.heap.size)⟩
  generalize w1.drew = w2 at *
  have z2 : w.heap.size ≤ w2.heap.size := Nat.le_of_lt hS.2.2
  have z2' : w.heap.size + 1 ≤ w2.heap.size := hS.2.2
  clear X1 B1 Z1
  refine regS_take (i := 0) (v := a.val) rfl (by kernel_rfl) (by kernel_rfl) (by kernel_rfl) (fun _ _ _ h => h) (by rfl) hS ?hy0 ?_
  case hy0 => intro w' hw'; exact exec_load_ent _ rfl w.heap.size rfl a w' hw'.1
  simp only [Act.put, List.setIfInBounds_toArray, List.set_cons_zero, List.set_cons_succ]
  refine regS_take (i := 2) (v := ?_) rfl (by kernel_rfl) (by kernel_rfl) (by kernel_rfl) (fun _ _ _ h => h) (by rfl) hS ?hy2 ?_
  case hy2 => intro w' hw'; go_simp; (try with_reducible rfl)
  simp only [Act.put, List.setIfInBounds_toArray, List.set_cons_zero, List.set_cons_succ]
  refine regS_take (i := 3) (v := .string ⟨a.tag.toArray⟩) rfl (by kernel_rfl) (by kernel_rfl) (by kernel_rfl) (fun _ _ _ h => h) (by rfl) hS ?hy3 ?_
  case hy3 => intro w' hw'; have c := hw'.1.at_ 5; simp [Ent.cells] at c; go_simp; (try with_reducible rfl)
  simp only [Act.put, List.setIfInBounds_toArray, List.set_cons_zero, List.set_cons_succ]
  refine regS_do (i := 1) rfl (by kernel_rfl) (fun K' hK => ?_)
  go_simp
  refine (CB w2).out.mono ?_
  rintro e w3 ⟨v3, rfl, o3, b3⟩
  have s3 : EntAt w3 w.heap.size a ∧ Below w.heap.size w w3 ∧ w.heap.size < w3.heap.size := ⟨hS.1.below b3 hS.2.2, hS.2.1.trans (b3.mono hS.2.1.size), Nat.lt_of_lt_of_le hS.2.2 b3.size⟩
  have z4 : w2.heap.size ≤ w3.heap.size := b3.size
  refine hK.out _ _ s3 ?_
  clear hK K' b3 hS
  refine regS_do (i := 4) rfl (by kernel_rfl) (fun K' hK => ?_)
  try rw [if_pos (by rfl)]
  refine wp_append_text_wide _ _ rfl w2.heap.size _ _ _ rfl o3 a.tag rfl HT.out (by have := HL.out; omega) z4 ?_
  intro v5 w5 o5 g5
  have s5 : Below w.heap.size w w5 := s3.2.1.grown g5 s3.2.1.size (fun k hk => Nat.le_trans z2 (o3.lt k hk).1)
  have e5 : BytesAt w5 v5 R := BytesAt.of_own (base := w2.heap.size) (by rw [HB.out, List.length_append, bv_append]; exact o5)
  have hS : EntAt w5 w.heap.size a ∧ Below w.heap.size w w5 ∧ w.heap.size < w5.heap.size := ⟨s3.1.grown g5 (fun e => by have h1 := (o3.lt _ e.symm).1; exact absurd (Nat.le_trans z2' h1) (by omega)), s5, Nat.lt_of_lt_of_le s3.2.2 g5.size⟩
  refine hK.out _ _ hS ?_
  clear hK K' o5 g5 o3 s3
  refine regS_take (i := 5) (v := ?_) rfl (by kernel_rfl) (by kernel_rfl) (by kernel_rfl) (fun _ _ _ h => h) (by rfl) hS ?hy5 ?_
  case hy5 => intro w' hw'; go_simp; (try with_reducible rfl)
  simp only [Act.put, List.setIfInBounds_toArray, List.set_cons_zero, List.set_cons_succ]
  refine regS_end (by kernel_rfl) ?_
  have E5 := Lib.hid e5
  have S5 := Lib.hid s5
  clear hS s5 e5
  go_wp2
  go_ret
  exact ⟨_, rfl, E5.out, S5.out⟩
end Go.Proofs.YtpcdbpijgmninaaDoor

namespace Go.Proofs.YtpcdbpijgmninaaDoor
set_option maxRecDepth 100000
open Go.RowKit

theorem enc_text (s : List UInt8) : encS (cutText ⟨s.toArray⟩) = txt s := by rw [cut_text]; rfl

set_option maxRecDepth 100000 in
theorem heKind_any (k : Nat) (hk : k < 256) (w : World) :
    Calls Tryd.prog 43 #[.int .u64 (k : Int)] w fun e w' => ∃ v', e = .returned v' ∧ w'.ownsRow w.heap.size 5 1 v' [UInt8.ofNat k].length (bv [UInt8.ofNat k]) ∧ Below w.heap.size w w' := by
  have C := num_big (.slice none 0 0) [] k 1 w.heap.size w (World.ownsRow_nil w _ _ _) (by decide) (by decide) (by decide) (Nat.le_refl _)
  rw [be_one k hk, List.nil_append] at C
  have C := Lib.hid C
  clear hk
  go_enter Tryd.func43, Tryd.ntmps43
  go_wp2_with fail
  refine C.out.mono ?_
  rintro e w1 ⟨v1, rfl, o1, b1⟩
  have O1 := Lib.hid o1
  have B1 := Lib.hid b1
  clear o1 b1 C
  go_wp2
  go_ret
  exact ⟨_, rfl, O1.out, B1.out⟩

set_option maxRecDepth 100000 in
set_option maxHeartbeats 1000000 in
theorem heEntry_any (B : Nat) (v : Value) (l : List UInt8) (a : Ent) (w : World) (h : w.ownsRow B 5 1 v l.length (bv l)) (hB : B ≤ w.heap.size) (hl : l.length ≤ 800000) (hn : a.name.length ≤ 140737488355328) (ht : a.tag.length ≤ 140737488355328) :
    Calls Tryd.prog 46 #[v, a.val] w fun e w' => ∃ v', e = .returned v' ∧ w'.ownsRow B 5 1 v' (l ++ textE a).length (bv (l ++ textE a)) ∧ Moves (VF v) (VF v') w w' := by
  have H := Lib.hid h
  have CB := fun w => Lib.hid (enBytes_big a hn ht w)
  have HT := Lib.hid (show (bytesE (cutE a)).length ≤ 9223372036854775807 by
    rw [bytesE_length]
    have := cutL_length a.name
    have e1 : (cutE a).name = cutL a.name := rfl
    have e2 : (cutE a).tag = a.tag := rfl
    rw [e1, e2]
    omega)
  have HE : Hid (textE a = txt (bytesE (cutE a))) := Lib.hid rfl
  generalize textE a = E at *
  generalize bytesE (cutE a) = R at *
  have HB := Lib.hid hB
  have HL := Lib.hid hl
  obtain ⟨A, cap, rfl⟩ := own_form h
  clear h hn ht hB hl
  go_enter Tryd.func46, Tryd.ntmps46
  go_wp2_with (refine wpList_box_row rfl 24 _ rfl a.enc.toArray (by with_unfolding_all exact rfl) ?_)
  intro w1 b1 x1 z1
  obtain ⟨gX, hgX⟩ : ∃ g, g = w.heap.size := ⟨_, rfl⟩
  have M_X := Lib.hid (show w.heap.size ≤ gX from by rw [hgX]; exact Nat.le_refl _)
  have B1 := Lib.hid b1
  rw [← hgX] at x1 ⊢
  have X1 : Hid (Ent.At w1 gX a) := Lib.hid x1
  clear b1 x1 z1 hgX 
  go_wp2_with (with_reducible refine wpList_load_whole Ent.isRec rfl _ rfl gX (by with_unfolding_all exact rfl) _ _ (Ent.len _) X1.out ?_)
  refine ((CB w1).out).mono ?_
  rintro e2 w2 ⟨v2, rfl, y2, b2⟩
  have X2 : Hid (Ent.At w2 gX a) := Lib.hid (Whole.below X1.out b2 X1.out.lt)
  have B2 := Lib.hid (B1.out.trans (b2.mono B1.out.size))
  have Y2 : Hid (BytesAt w2 v2 R) := Lib.hid y2
  clear b2 X1 B1 y2
  have r2 := conv_bytes Y2.out
  have O := Lib.hid (kept_below H.out B2.out rfl)
  have C := put_text_in B _ l ⟨R.toArray⟩ w2 (by have := HT.out; show R.length ≤ _; omega) (.inl O.out) (by have := HB.out; have := B2.out.size; omega) (by have := HL.out; omega)
  rw [enc_text, ← HE.out] at C
  have C := Lib.hid C
  go_wp2_with fail
  refine C.out.mono ?_
  rintro e w3 ⟨v3, rfl, o3, m3⟩
  have M := Lib.hid (Moves.after B2.out m3)
  have O3 := Lib.hid o3
  clear o3 m3 C O r2
  go_wp2
  go_ret
  exact ⟨_, rfl, O3.out, M.out⟩

/-- The boxes of a call lie behind the row that it was handed. -/
theorem box_far {w0 : World} {B : Nat} {v : Value} {l : List UInt8} (h : RowIn w0 B v l) {g : Nat} (hg : w0.heap.size ≤ g) : ¬ VF v g := fun e => by
  have := (h.lt g e).2
  omega
theorem far_on {w1 w2 : World} {F F' : Nat → Prop} (m : Moves F F' w1 w2) {g : Nat} (hn : ¬ F g) (hg : g < w1.heap.size) : ¬ F' g := fun e => by
  rcases m.foot g e with h | h
  · exact hn h
  · omega

set_option maxRecDepth 100000 in
set_option maxHeartbeats 1000000 in
theorem heNonces_any (B : Nat) (v : Value) (l : List UInt8) (x : Wel) (w : World) (h : RowIn w B v l) (hB : B ≤ w.heap.size) (hl : l.length ≤ 800000) :
    Calls Tryd.prog 47 #[v, x.val] w fun e w' => ∃ v', e = .returned v' ∧ w'.ownsRow B 5 1 v' (l ++ be 8 x.fst ++ be 8 x.snd).length (bv (l ++ be 8 x.fst ++ be 8 x.snd)) ∧ Moves (VF v) (VF v') w w' := by
  have H := Lib.hid h
  have HB := Lib.hid hB
  have HL := Lib.hid hl
  obtain ⟨A, cap, hv⟩ := h.form
  have hfar : ∀ g, w.heap.size ≤ g → ¬ VF v g := fun g hg => box_far h hg
  subst hv
  clear h hB hl
  go_enter Tryd.func47, Tryd.ntmps47
  go_wp2_with (refine wpList_box_row rfl 28 _ rfl x.enc.toArray (by with_unfolding_all exact rfl) ?_)
  intro w1 b1 x1 z1
  obtain ⟨gX, hgX⟩ : ∃ g, g = w.heap.size := ⟨_, rfl⟩
  have M_X := Lib.hid (show w.heap.size ≤ gX from by rw [hgX]; exact Nat.le_refl _)
  have B1 := Lib.hid b1
  rw [← hgX] at x1 ⊢
  have X1 : Hid (Wel.At w1 gX x) := Lib.hid x1
  clear b1 x1 z1 hgX 
  have F1 := Lib.hid (hfar gX M_X.out)
  have c := Wel.At.at_fst X1.out
  have C := Lib.hid (put_num_in B _ l x.fst 8 w1 (by decide) (by decide) (H.out.below B1.out) (by have := HB.out; have := B1.out.size; omega) (by have := HL.out; omega))
  go_wp2_with fail
  refine C.out.mono ?_
  rintro e w3 ⟨v3, rfl, o3, m3⟩
  have M := Lib.hid (Moves.after B1.out m3)
  have F3 := Lib.hid (far_on m3 F1.out X1.out.lt)
  have X3 : Hid (Wel.At w3 gX x) := Lib.hid (Whole.keeps X1.out m3.keeps F1.out)
  have O3 := Lib.hid o3
  clear o3 m3 C c
  have c := Wel.At.at_snd X3.out
  have C := Lib.hid (put_num_in B _ (l ++ be 8 x.fst) x.snd 8 w3 (by decide) (by decide) (.inl O3.out) (by have := HB.out; have := M.out.keeps.size; omega) (by have := HL.out; rw [List.length_append, be_length]; omega))
  go_wp2_with fail
  refine C.out.mono ?_
  rintro e w4 ⟨v4, rfl, o4, m4⟩
  have M4 := Lib.hid (M.out.trans m4)
  have O4 := Lib.hid o4
  clear o4 m4 C c
  go_wp2
  go_ret
  exact ⟨_, rfl, O4.out, M4.out⟩

set_option maxRecDepth 100000 in
set_option maxHeartbeats 1000000 in
theorem heGreeting_any (B : Nat) (v : Value) (l : List UInt8) (x : Hel) (w : World) (h : RowIn w B v l) (hB : B ≤ w.heap.size) (hl : l.length ≤ 100000) (hd : x.dest.length ≤ 140737488355328) (hn : x.entry.name.length ≤ 140737488355328) (ht : x.entry.tag.length ≤ 140737488355328) :
    Calls Tryd.prog 42 #[v, x.val] w fun e w' => ∃ v', e = .returned v' ∧ w'.ownsRow B 5 1 v' (l ++ greetP x.dest x.nonce x.entry).length (bv (l ++ greetP x.dest x.nonce x.entry)) ∧ Moves (VF v) (VF v') w w' := by
  have H := Lib.hid h
  have HB := Lib.hid hB
  have HL := Lib.hid hl
  have HD := Lib.hid hd
  have HN := Lib.hid hn
  have HT := Lib.hid ht
  have TL := Lib.hid (txt_most x.dest)
  have HG : Hid (l ++ greetP x.dest x.nonce x.entry = l ++ txt x.dest ++ be 8 x.nonce ++ textE x.entry) := Lib.hid (by simp [greetP])
  obtain ⟨A, cap, hv⟩ := h.form
  have hfar : ∀ g, w.heap.size ≤ g → ¬ VF v g := fun g hg => box_far h hg
  subst hv
  clear h hB hl hd hn ht
  go_enter Tryd.func42, Tryd.ntmps42
  go_wp2_with (refine wpList_box_row rfl 26 _ rfl x.enc.toArray (by with_unfolding_all exact rfl) ?_)
  intro w1 b1 x1 z1
  obtain ⟨gX, hgX⟩ : ∃ g, g = w.heap.size := ⟨_, rfl⟩
  have M_X := Lib.hid (show w.heap.size ≤ gX from by rw [hgX]; exact Nat.le_refl _)
  have B1 := Lib.hid b1
  rw [← hgX] at x1 ⊢
  have X1 : Hid (Hel.At w1 gX x) := Lib.hid x1
  clear b1 x1 z1 hgX 
  have F1 := Lib.hid (hfar gX M_X.out)
  have c := Hel.At.at_dest X1.out
  have C := put_text_in B _ l ⟨x.dest.toArray⟩ w1 (by have := HD.out; show x.dest.length ≤ _; omega) (H.out.below B1.out) (by have := HB.out; have := B1.out.size; omega) (by have := HL.out; omega)
  rw [enc_text] at C
  have C := Lib.hid C
  go_wp2_with fail
  refine C.out.mono ?_
  rintro e w3 ⟨v3, rfl, o3, m3⟩
  have M := Lib.hid (Moves.after B1.out m3)
  have F3 := Lib.hid (far_on m3 F1.out X1.out.lt)
  have X3 : Hid (Hel.At w3 gX x) := Lib.hid (Whole.keeps X1.out m3.keeps F1.out)
  have O3 := Lib.hid o3
  clear o3 m3 C c
  have c := Hel.At.at_nonce X3.out
  have C := Lib.hid (put_num_in B _ (l ++ txt x.dest) x.nonce 8 w3 (by decide) (by decide) (.inl O3.out) (by have := HB.out; have := M.out.keeps.size; omega) (by have := HL.out; have := TL.out; rw [List.length_append]; omega))
  go_wp2_with fail
  refine C.out.mono ?_
  rintro e w4 ⟨v4, rfl, o4, m4⟩
  have M4 := Lib.hid (M.out.trans m4)
  have X4 : Hid (Hel.At w4 gX x) := Lib.hid (Whole.keeps X3.out m4.keeps F3.out)
  have O4 := Lib.hid o4
  clear o4 m4 C c
  have C := heEntry_any B _ (l ++ txt x.dest ++ be 8 x.nonce) x.entry w4 O4.out (by have := HB.out; have := M4.out.keeps.size; omega) (by have := HL.out; have := TL.out; simp only [List.length_append, be_length]; omega) HN.out HT.out
  rw [← HG.out] at C
  have C := Lib.hid C
  go_wp2_with (with_reducible refine wpList_load_rec Ent.isRec rfl _ rfl gX 2 (by with_unfolding_all exact rfl) _ (Ent.len _) (Hel.At.part_entry X4.out) ?_)
  refine C.out.mono ?_
  rintro e w5 ⟨v5, rfl, o5, m5⟩
  have M5 := Lib.hid (M4.out.trans m5)
  have O5 := Lib.hid o5
  clear o5 m5 C
  go_wp2
  go_ret
  exact ⟨_, rfl, O5.out, M5.out⟩
end Go.Proofs.YtpcdbpijgmninaaDoor
