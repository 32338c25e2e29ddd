/- The document's Bytes, Find. -/
import Derived.Test.YtkhiejdceefgfaaEnC
import Derived.Test.YtkhiejdceefgfaaEnB
namespace Go.Proofs.Ytkhiejdceefgfaa
open Go.RowKit

def bytesE (e : Ent) : List UInt8 := bodyL e ++ e.tag

set_option maxRecDepth 100000 in
set_option maxHeartbeats 2000000 in
theorem refBytes_any (a : Ent) (hn : a.name.length ≤ 1000) (ht : a.tag.length ≤ 1000) (hi : a.id < 18446744073709551616) (w : World) :
    Calls Try.prog 14 #[a.val] w fun e w' => ∃ v', e = .returned v' ∧ BytesAt w' v' (bytesE a) ∧ Below w.heap.size w w' := by
  have CB := fun w => Lib.hid (refBody_any a hn hi w)
  have HL := Lib.hid (show (bodyL a).length ≤ 1020 by rw [bodyL_length]; omega)
  have HT := Lib.hid ht
  have HV := Lib.hid (Ent.val_cells a)
  go_enter Try.func14, Try.ntmps14
  go_wp2_with (refine wpList_box_row rfl 24 _ rfl a.cells rfl ?_)
  intro w1 b1 x1 z1
  have X1 : Hid (EntAt w1 w.heap.size a) := x1
  have B1 := Lib.hid b1
  have Z1 := Lib.hid z1
  clear b1 x1 z1
  go_wp2_with fail
  refine regS_begin (fun w' => EntAt w' w.heap.size a ∧ Below w.heap.size w w' ∧ w.heap.size < w'.heap.size) (by kernel_rfl) ⟨X1.out, B1.out.drew, by have := Z1.out; simpa using (by omega : w.heap.size < w1.heap.size)⟩ ?_
  have hS : EntAt w1.drew w.heap.size a ∧ Below w.heap.size w w1.drew ∧ w.heap.size < w1.drew.heap.size := ⟨X1.out, B1.out.drew, by have := Z1.out; simpa using (by omega : w.heap.size < w1.heap.size)⟩
  generalize w1.drew = w2 at *
  have z2 : w.heap.size ≤ w2.heap.size := Nat.le_of_lt hS.2.2
  have z2' : w.heap.size + 1 ≤ w2.heap.size := hS.2.2
  clear X1 B1 Z1
  refine regS_take (i := 0) (v := a.val) rfl (by kernel_rfl) (by kernel_rfl) (by kernel_rfl) (fun _ _ _ h => h) (by rfl) hS ?hy0 ?_
  case hy0 => intro w' hw'; exact exec_load_ent _ rfl w.heap.size rfl a w' hw'.1
  simp only [Act.put, List.setIfInBounds_toArray, List.set_cons_zero, List.set_cons_succ]
  refine regS_take (i := 2) (v := ?_) rfl (by kernel_rfl) (by kernel_rfl) (by kernel_rfl) (fun _ _ _ h => h) (by rfl) hS ?hy2 ?_
  case hy2 => intro w' hw'; go_simp; (try with_reducible rfl)
  simp only [Act.put, List.setIfInBounds_toArray, List.set_cons_zero, List.set_cons_succ]
  refine regS_take (i := 3) (v := .string ⟨a.tag.toArray⟩) rfl (by kernel_rfl) (by kernel_rfl) (by kernel_rfl) (fun _ _ _ h => h) (by rfl) hS ?hy3 ?_
  case hy3 => intro w' hw'; have c := hw'.1.at_ 5; simp [Ent.cells] at c; go_simp; (try with_reducible rfl)
  simp only [Act.put, List.setIfInBounds_toArray, List.set_cons_zero, List.set_cons_succ]
  refine regS_two (i := 1) (j := 4) rfl rfl (by kernel_rfl) (fun K' hK => ?_) (fun K' hK => ?_)
  · go_simp
    refine (CB w2).out.mono ?_
    rintro e w3 ⟨v3, rfl, o3, b3⟩
    have s3 : EntAt w3 w.heap.size a ∧ Below w.heap.size w w3 ∧ w.heap.size < w3.heap.size := ⟨hS.1.below b3 hS.2.2, hS.2.1.trans (b3.mono hS.2.1.size), Nat.lt_of_lt_of_le hS.2.2 b3.size⟩
    refine hK.out _ _ s3 ?_
    clear hK K'
    obtain ⟨vs, w4, r4, y4, b4⟩ := conv_str w3 ⟨a.tag.toArray⟩
    have o4 := kept_below o3 b4 rfl
    have s4 : EntAt w4 w.heap.size a ∧ Below w.heap.size w w4 ∧ w.heap.size < w4.heap.size := ⟨s3.1.below b4 s3.2.2, s3.2.1.trans (b4.mono s3.2.1.size), Nat.lt_of_lt_of_le s3.2.2 b4.size⟩
    have z4 : w2.heap.size ≤ w4.heap.size := Nat.le_trans b3.size b4.size
    refine regS_do (i := 4) rfl (by kernel_rfl) (fun K' hK => ?_)
    go_simp
    refine hK.out _ _ s4 ?_
    clear hK K' r4 o3 b3 b4 s3 hS
    refine regS_do (i := 5) rfl (by kernel_rfl) (fun K' hK => ?_)
    rw [if_pos (by rfl)]
    refine wp_append_bytes _ _ rfl w2.heap.size _ _ _ rfl o4 _ a.tag rfl y4 (by have := HL.out; have := HT.out; omega) z4 ?_
    intro v5 w5 o5 g5
    have s5 : Below w.heap.size w w5 := s4.2.1.grown g5 s4.2.1.size (fun k hk => Nat.le_trans z2 (o4.lt k hk).1)
    have e5 : BytesAt w5 v5 (bytesE a) := BytesAt.of_own (base := w2.heap.size) (by rw [bytesE, List.length_append, bv_append]; exact o5)
    have hS : EntAt w5 w.heap.size a ∧ Below w.heap.size w w5 ∧ w.heap.size < w5.heap.size := ⟨s4.1.grown g5 (fun e => by have h1 := (o4.lt _ e.symm).1; exact absurd (Nat.le_trans z2' h1) (by omega)), s5, Nat.lt_of_lt_of_le s4.2.2 g5.size⟩
    refine hK.out _ _ hS ?_
    clear hK K' o5 g5 o4 s4 y4
    refine regS_take (i := 6) (v := ?_) rfl (by kernel_rfl) (by kernel_rfl) (by kernel_rfl) (fun _ _ _ h => h) (by rfl) hS ?hy6 ?_
    case hy6 => intro w' hw'; go_simp; (try with_reducible rfl)
    simp only [Act.put, List.setIfInBounds_toArray, List.set_cons_zero, List.set_cons_succ]
    refine regS_end (by kernel_rfl) ?_
    have E5 := Lib.hid e5
    have S5 := Lib.hid s5
    clear hS s5 e5
    go_wp2
    go_ret
    exact ⟨_, rfl, E5.out, S5.out⟩
  · obtain ⟨vs, w3, r4, y3, b3⟩ := conv_str w2 ⟨a.tag.toArray⟩
    have s3 : EntAt w3 w.heap.size a ∧ Below w.heap.size w w3 ∧ w.heap.size < w3.heap.size := ⟨hS.1.below b3 hS.2.2, hS.2.1.trans (b3.mono hS.2.1.size), Nat.lt_of_lt_of_le hS.2.2 b3.size⟩
    go_simp
    refine hK.out _ _ s3 ?_
    clear hK K' r4
    refine regS_do (i := 1) rfl (by kernel_rfl) (fun K' hK => ?_)
    go_simp
    refine (CB w3).out.mono ?_
    rintro e w4 ⟨v3, rfl, o4, b4⟩
    have s4 : EntAt w4 w.heap.size a ∧ Below w.heap.size w w4 ∧ w.heap.size < w4.heap.size := ⟨s3.1.below b4 s3.2.2, s3.2.1.trans (b4.mono s3.2.1.size), Nat.lt_of_lt_of_le s3.2.2 b4.size⟩
    have y4 := y3.below b4
    have z3 := Nat.le_of_lt s3.2.2
    have z3' : w.heap.size + 1 ≤ w3.heap.size := s3.2.2
    refine hK.out _ _ s4 ?_
    clear hK K' y3 b3 s3 hS z2 z2'
    refine regS_do (i := 5) rfl (by kernel_rfl) (fun K' hK => ?_)
    rw [if_pos (by rfl)]
    refine wp_append_bytes _ _ rfl w3.heap.size _ _ _ rfl o4 _ a.tag rfl y4 (by have := HL.out; have := HT.out; omega) b4.size ?_
    intro v5 w5 o5 g5
    have s5 : Below w.heap.size w w5 := s4.2.1.grown g5 s4.2.1.size (fun k hk => Nat.le_trans z3 (o4.lt k hk).1)
    have e5 : BytesAt w5 v5 (bytesE a) := BytesAt.of_own (base := w3.heap.size) (by rw [bytesE, List.length_append, bv_append]; exact o5)
    have hS : EntAt w5 w.heap.size a ∧ Below w.heap.size w w5 ∧ w.heap.size < w5.heap.size := ⟨s4.1.grown g5 (fun e => by have h1 := (o4.lt _ e.symm).1; exact absurd (Nat.le_trans z3' h1) (by omega)), s5, Nat.lt_of_lt_of_le s4.2.2 g5.size⟩
    refine hK.out _ _ hS ?_
    clear hK K' o5 g5 o4 s4 y4
    refine regS_take (i := 6) (v := ?_) rfl (by kernel_rfl) (by kernel_rfl) (by kernel_rfl) (fun _ _ _ h => h) (by rfl) hS ?hy6 ?_
    case hy6 => intro w' hw'; go_simp; (try with_reducible rfl)
    simp only [Act.put, List.setIfInBounds_toArray, List.set_cons_zero, List.set_cons_succ]
    refine regS_end (by kernel_rfl) ?_
    have E5 := Lib.hid e5
    have S5 := Lib.hid s5
    clear hS s5 e5
    go_wp2
    go_ret
    exact ⟨_, rfl, E5.out, S5.out⟩
end Go.Proofs.Ytkhiejdceefgfaa
