/- Layer 24 as landed: room, Add. -/
import Derived.Test.YtknccbdcfpncnaaPnB
import Derived.Test.YtknccbdcfpncnaaSlPeS
namespace Go.Proofs.Ytknccbdcfpncnaa
set_option maxRecDepth 100000
open Go.RowKit

set_option maxRecDepth 100000
theorem while_at {α : Type} {p : α → Bool} {l : List α} {k : Nat} {x : α} (hx : l[k]? = some x) (h : ∀ y ∈ l.take k, p y = true) (hp : p x = false) : (l.takeWhile p).length = k := by
  induction l generalizing k with
  | nil => simp at hx
  | cons y r ih =>
    cases k with
    | zero =>
      simp only [List.getElem?_cons_zero, Option.some.injEq] at hx
      subst hx
      rw [List.takeWhile_cons, hp]; rfl
    | succ k =>
      rw [List.getElem?_cons_succ] at hx
      rw [List.takeWhile_cons, h y (by simp), if_pos rfl, List.length_cons, ih hx (fun z hz => h z (by rw [List.take_succ_cons]; exact List.mem_cons_of_mem _ hz))]
theorem while_all {α : Type} {p : α → Bool} {l : List α} (h : ∀ y ∈ l, p y = true) : (l.takeWhile p).length = l.length := by
  induction l with
  | nil => rfl
  | cons y r ih => rw [List.takeWhile_cons, h y (by simp), if_pos rfl, List.length_cons, List.length_cons, ih fun z hz => h z (List.mem_cons_of_mem _ hz)]
set_option maxHeartbeats 1000000 in
theorem room_any (A : Option Addr) (m cap : Nat) (l : List Peer) (a : Nat) (e : Ent) (w : World) (hm : m ≤ 1000000) (hl : Words l) (ha : a < 18446744073709551616) (hi : e.id < 18446744073709551616) (h : RowsAt w (.slice A m cap) 8 (l.map Peer.enc)) :
    Calls Try.prog 31 #[.int .u64 (a : Int), .slice A m cap, e.val] w fun x w' => x = .returned (.int .i64 (roomQ a l e : Int)) ∧ Below w.heap.size w w' := by
  have hlen := h.size.1
  rw [List.length_map] at hlen
  have H := Lib.hid h
  have HL := Lib.hid hlen
  have HW := Lib.hid hl
  have HI := Lib.hid (And.intro ha hi)
  have HK : Hid (∀ k x, l[k]? = some x → (∀ y ∈ l.take k, passQ a e y = true) → passQ a e x = false → roomQ a l e = k) := Lib.hid (fun k x hx q1 q2 => while_at hx q1 q2)
  have HA : Hid ((∀ y ∈ l, passQ a e y = true) → roomQ a l e = l.length) := Lib.hid while_all
  obtain ⟨R, hR⟩ : ∃ R, R = roomQ a l e := ⟨_, rfl⟩
  simp only [← hR] at HK HA
  rw [← hR]
  clear h hlen hl hi ha hR
  go_enter Try.func31, Try.ntmps31
  go_wp2_with (refine wpList_box_row rfl 24 _ rfl e.enc.toArray (by with_unfolding_all exact rfl) ?_)
  intro w1 b1 x1 z1
  obtain ⟨gE, hgE⟩ : ∃ g, g = w.heap.size := ⟨_, rfl⟩
  have M_E := Lib.hid (show w.heap.size ≤ gE from by rw [hgE]; exact Nat.le_refl _)
  have B1 := Lib.hid b1
  rw [← hgE] at x1 ⊢
  have E1 : Hid (Ent.At w1 gE e) := Lib.hid x1
  clear b1 x1 z1 hgE 
  go_wp2_with fail
  go_step3
  go_wp2_with fail
  refine wp_label ?_
  go_wp2_with fail
  go_loopw [7] (fun i wr => ∃ k : Nat, k ≤ m ∧ i = .int .i64 (k : Int) ∧ (∀ y ∈ l.take k, passQ a e y = true) ∧ Ent.At wr gE e ∧ Below w.heap.size w wr) (fun i _ => m - (intOf i).toNat)
  case atStart => exact ⟨0, Nat.zero_le _, rfl, fun j hj => by simp at hj, E1.out, B1.out⟩
  case round =>
    obtain ⟨k, hk, rfl, hr, he, hb⟩ := hrel
    have HO := Lib.hid hr
    have ER := Lib.hid he
    have B0 := Lib.hid hb
    clear hr he hb E1 B1
    by_cases hlt : k < m
    · have dk : decide ((k : Int) < (m : Int)) = true := by simp; omega
      obtain ⟨x, hx⟩ : ∃ x, l[k]? = some x := ⟨_, List.getElem?_eq_getElem (by rw [← HL.out]; exact hlt)⟩
      obtain ⟨b, off, rfl, hc⟩ := row_ofPe H.out hx
      have HX := Lib.hid hc
      have H0 : Hid (∀ w', Below w.heap.size w w' → w'.cell? ⟨b, off + k * 8, none⟩ = some (.string ⟨x.entry.name.toArray⟩)) := Lib.hid (fun w' q => hc w' q 0 _ rfl)
      have jk : (k : Int) < (m : Int) := by omega
      have r4 : IntKind.i64.wrap ((k : Int) + 1) = ((k + 1 : Nat) : Int) := by rw [IntWalk.i64_in _ (by omega)]; omega
      have HXX := Lib.hid hx
      have HT : Hid (l.take (k + 1) = l.take k ++ [x]) := Lib.hid (by rw [List.take_add_one, hx]; rfl)
      have CA := Lib.hid (fun w => ahead_any a x.entry e HI.out.1 (HW.out x (List.mem_of_getElem? hx)) HI.out.2 w)
      have HP : Hid (passQ a e x = (decide (x.entry.name = e.name) || aheadE a x.entry e)) := Lib.hid rfl
      obtain ⟨q, hq⟩ : ∃ q, q = aheadE a x.entry e := ⟨_, rfl⟩
      simp only [← hq] at CA HP
      clear hc hx hq
      by_cases hn : x.entry.name = e.name
      · have d1 : (x.entry.name == e.name) = true := by rw [beq_iff_eq]; exact hn
        have HV : Hid (∀ y ∈ l.take (k + 1), passQ a e y = true) := Lib.hid (by
          intro y hy
          rw [HT.out] at hy
          rcases List.mem_append.1 hy with z | z
          · exact HO.out y z
          · rw [List.mem_singleton] at z; subst z; rw [HP.out, decide_eq_true hn]; rfl)
        clear hn CA HX
        go_wp2_with (with_reducible refine wpList_load_whole Ent.isRec rfl _ rfl gE (by with_unfolding_all exact rfl) _ _ (Ent.len _) ER.out ?_)
        refine reg_begin (by kernel_rfl) fun w1 b1 z1 => ?_
        have E1 : Hid (Ent.At w1 gE e) := Lib.hid (Whole.below ER.out b1 ER.out.lt)
        have B1 := Lib.hid (B0.out.trans (b1.mono B0.out.size))
        clear b1 z1 ER B0
        refine reg_take (i := 0) (v := ?_) rfl (by kernel_rfl) (by kernel_rfl) (by kernel_rfl) (fun _ _ _ h => h) (by rfl) ?hy0 ?_
        case hy0 => intro w' hw'; go_simp; (try with_reducible rfl)
        simp only [Act.put, List.setIfInBounds_toArray, List.set_cons_zero, List.set_cons_succ]
        refine reg_take (i := 1) (v := ?_) rfl (by kernel_rfl) (by kernel_rfl) (by kernel_rfl) (fun _ _ _ h => h) (by rfl) ?hy1 ?_
        case hy1 => intro w' hw'; go_simp; (try with_reducible rfl)
        simp only [Act.put, List.setIfInBounds_toArray, List.set_cons_zero, List.set_cons_succ]
        refine reg_take (i := 2) (v := ?_) rfl (by kernel_rfl) (by kernel_rfl) (by kernel_rfl) (fun _ _ _ h => h) (by rfl) ?hy2 ?_
        case hy2 => intro w' hw'; go_simp; (try with_reducible rfl)
        simp only [Act.put, List.setIfInBounds_toArray, List.set_cons_zero, List.set_cons_succ]
        refine reg_take (i := 3) (v := ?_) rfl (by kernel_rfl) (by kernel_rfl) (by kernel_rfl) (fun _ _ _ h => h) (by rfl) ?hy3 ?_
        case hy3 => intro w' hw'; go_simp; (try with_reducible rfl)
        simp only [Act.put, List.setIfInBounds_toArray, List.set_cons_zero, List.set_cons_succ]
        refine reg_take (i := 4) (v := ?_) rfl (by kernel_rfl) (by kernel_rfl) (by kernel_rfl) (fun _ _ _ h => h) (by rfl) ?hy4 ?_
        case hy4 => intro w' hw'; go_simp; (try with_reducible rfl)
        simp only [Act.put, List.setIfInBounds_toArray, List.set_cons_zero, List.set_cons_succ]
        refine reg_take (i := 5) (v := .string ⟨x.entry.name.toArray⟩) rfl (by kernel_rfl) (by kernel_rfl) (by kernel_rfl) (fun _ _ _ h => h) (by rfl) ?hy5 ?_
        case hy5 => intro w' hw'; have c := H0.out w' (B1.out.trans (hw'.mono B1.out.size)); go_simp; (try with_reducible rfl)
        simp only [Act.put, List.setIfInBounds_toArray, List.set_cons_zero, List.set_cons_succ]
        refine reg_take (i := 6) (v := ?_) rfl (by kernel_rfl) (by kernel_rfl) (by kernel_rfl) (fun _ _ _ h => h) (by rfl) ?hy6 ?_
        case hy6 => intro w' hw'; go_simp; (try with_reducible rfl)
        simp only [Act.put, List.setIfInBounds_toArray, List.set_cons_zero, List.set_cons_succ]
        refine reg_take (i := 7) (v := (.string ⟨(e).name.toArray⟩)) rfl (by kernel_rfl) (by kernel_rfl) (by kernel_rfl) (fun _ _ _ h => h) (by rfl) ?hy7 ?_
        case hy7 => intro w' hw'; have c := Ent.At.at_name (Whole.below E1.out hw' E1.out.lt); go_simp; (try with_reducible rfl)
        simp only [Act.put, List.setIfInBounds_toArray, List.set_cons_zero, List.set_cons_succ]
        refine reg_take (i := 8) (v := ?_) rfl (by kernel_rfl) (by kernel_rfl) (by kernel_rfl) (fun _ _ _ h => h) (by rfl) ?hy8 ?_
        case hy8 => intro w' hw'; go_simp; (try with_reducible rfl)
        simp only [Act.put, List.setIfInBounds_toArray, List.set_cons_zero, List.set_cons_succ]
        refine reg_take (i := 9) (v := ?_) rfl (by kernel_rfl) (by kernel_rfl) (by kernel_rfl) (fun _ _ _ h => h) (by rfl) ?hy9 ?_
        case hy9 => intro w' hw'; go_simp; (try with_reducible rfl)
        simp only [Act.put, List.setIfInBounds_toArray, List.set_cons_zero, List.set_cons_succ]
        refine reg_end (by kernel_rfl) ?_
        go_wp2
        exact ⟨⟨k + 1, by omega, by go_num, HV.out, E1.out, B1.out⟩, by simp [intOf]; omega⟩
      · have d1 : (x.entry.name == e.name) = false := by rw [beq_eq_false_iff_ne]; exact hn
        have HPQ : Hid (passQ a e x = q) := Lib.hid (by rw [HP.out, decide_eq_false hn]; rfl)
        clear hn
        go_wp2_with (with_reducible refine wpList_load_whole Ent.isRec rfl _ rfl gE (by with_unfolding_all exact rfl) _ _ (Ent.len _) ER.out ?_)
        refine reg_begin (by kernel_rfl) fun w1 b1 z1 => ?_
        have E1 : Hid (Ent.At w1 gE e) := Lib.hid (Whole.below ER.out b1 ER.out.lt)
        have B1 := Lib.hid (B0.out.trans (b1.mono B0.out.size))
        clear b1 z1 ER B0
        refine reg_take (i := 0) (v := ?_) rfl (by kernel_rfl) (by kernel_rfl) (by kernel_rfl) (fun _ _ _ h => h) (by rfl) ?hy0 ?_
        case hy0 => intro w' hw'; go_simp; (try with_reducible rfl)
        simp only [Act.put, List.setIfInBounds_toArray, List.set_cons_zero, List.set_cons_succ]
        refine reg_take (i := 1) (v := ?_) rfl (by kernel_rfl) (by kernel_rfl) (by kernel_rfl) (fun _ _ _ h => h) (by rfl) ?hy1 ?_
        case hy1 => intro w' hw'; go_simp; (try with_reducible rfl)
        simp only [Act.put, List.setIfInBounds_toArray, List.set_cons_zero, List.set_cons_succ]
        refine reg_take (i := 2) (v := ?_) rfl (by kernel_rfl) (by kernel_rfl) (by kernel_rfl) (fun _ _ _ h => h) (by rfl) ?hy2 ?_
        case hy2 => intro w' hw'; go_simp; (try with_reducible rfl)
        simp only [Act.put, List.setIfInBounds_toArray, List.set_cons_zero, List.set_cons_succ]
        refine reg_take (i := 3) (v := ?_) rfl (by kernel_rfl) (by kernel_rfl) (by kernel_rfl) (fun _ _ _ h => h) (by rfl) ?hy3 ?_
        case hy3 => intro w' hw'; go_simp; (try with_reducible rfl)
        simp only [Act.put, List.setIfInBounds_toArray, List.set_cons_zero, List.set_cons_succ]
        refine reg_take (i := 4) (v := ?_) rfl (by kernel_rfl) (by kernel_rfl) (by kernel_rfl) (fun _ _ _ h => h) (by rfl) ?hy4 ?_
        case hy4 => intro w' hw'; go_simp; (try with_reducible rfl)
        simp only [Act.put, List.setIfInBounds_toArray, List.set_cons_zero, List.set_cons_succ]
        refine reg_take (i := 5) (v := .string ⟨x.entry.name.toArray⟩) rfl (by kernel_rfl) (by kernel_rfl) (by kernel_rfl) (fun _ _ _ h => h) (by rfl) ?hy5 ?_
        case hy5 => intro w' hw'; have c := H0.out w' (B1.out.trans (hw'.mono B1.out.size)); go_simp; (try with_reducible rfl)
        simp only [Act.put, List.setIfInBounds_toArray, List.set_cons_zero, List.set_cons_succ]
        refine reg_take (i := 6) (v := ?_) rfl (by kernel_rfl) (by kernel_rfl) (by kernel_rfl) (fun _ _ _ h => h) (by rfl) ?hy6 ?_
        case hy6 => intro w' hw'; go_simp; (try with_reducible rfl)
        simp only [Act.put, List.setIfInBounds_toArray, List.set_cons_zero, List.set_cons_succ]
        refine reg_take (i := 7) (v := (.string ⟨(e).name.toArray⟩)) rfl (by kernel_rfl) (by kernel_rfl) (by kernel_rfl) (fun _ _ _ h => h) (by rfl) ?hy7 ?_
        case hy7 => intro w' hw'; have c := Ent.At.at_name (Whole.below E1.out hw' E1.out.lt); go_simp; (try with_reducible rfl)
        simp only [Act.put, List.setIfInBounds_toArray, List.set_cons_zero, List.set_cons_succ]
        refine reg_take (i := 8) (v := ?_) rfl (by kernel_rfl) (by kernel_rfl) (by kernel_rfl) (fun _ _ _ h => h) (by rfl) ?hy8 ?_
        case hy8 => intro w' hw'; go_simp; (try with_reducible rfl)
        simp only [Act.put, List.setIfInBounds_toArray, List.set_cons_zero, List.set_cons_succ]
        refine reg_take (i := 9) (v := ?_) rfl (by kernel_rfl) (by kernel_rfl) (by kernel_rfl) (fun _ _ _ h => h) (by rfl) ?hy9 ?_
        case hy9 => intro w' hw'; go_simp; (try with_reducible rfl)
        simp only [Act.put, List.setIfInBounds_toArray, List.set_cons_zero, List.set_cons_succ]
        refine reg_end (by kernel_rfl) ?_
        go_wp2_with (with_reducible refine wpList_load_whole Ent.isRec rfl _ rfl gE (by with_unfolding_all exact rfl) _ _ (Ent.len _) E1.out ?_)
        refine reg_begin (by kernel_rfl) fun w2 b2 z2 => ?_
        have E2 : Hid (Ent.At w2 gE e) := Lib.hid (Whole.below E1.out b2 E1.out.lt)
        have B2 := Lib.hid (B1.out.trans (b2.mono B1.out.size))
        clear b2 z2 E1 B1
        refine reg_take (i := 0) (v := ?_) rfl (by kernel_rfl) (by kernel_rfl) (by kernel_rfl) (fun _ _ _ h => h) (by rfl) ?hy0 ?_
        case hy0 => intro w' hw'; go_simp; (try with_reducible rfl)
        simp only [Act.put, List.setIfInBounds_toArray, List.set_cons_zero, List.set_cons_succ]
        refine reg_take (i := 1) (v := ?_) rfl (by kernel_rfl) (by kernel_rfl) (by kernel_rfl) (fun _ _ _ h => h) (by rfl) ?hy1 ?_
        case hy1 => intro w' hw'; go_simp; (try with_reducible rfl)
        simp only [Act.put, List.setIfInBounds_toArray, List.set_cons_zero, List.set_cons_succ]
        refine reg_take (i := 2) (v := ?_) rfl (by kernel_rfl) (by kernel_rfl) (by kernel_rfl) (fun _ _ _ h => h) (by rfl) ?hy2 ?_
        case hy2 => intro w' hw'; go_simp; (try with_reducible rfl)
        simp only [Act.put, List.setIfInBounds_toArray, List.set_cons_zero, List.set_cons_succ]
        refine reg_take (i := 3) (v := ?_) rfl (by kernel_rfl) (by kernel_rfl) (by kernel_rfl) (fun _ _ _ h => h) (by rfl) ?hy3 ?_
        case hy3 => intro w' hw'; go_simp; (try with_reducible rfl)
        simp only [Act.put, List.setIfInBounds_toArray, List.set_cons_zero, List.set_cons_succ]
        refine reg_take (i := 4) (v := ?_) rfl (by kernel_rfl) (by kernel_rfl) (by kernel_rfl) (fun _ _ _ h => h) (by rfl) ?hy4 ?_
        case hy4 => intro w' hw'; go_simp; (try with_reducible rfl)
        simp only [Act.put, List.setIfInBounds_toArray, List.set_cons_zero, List.set_cons_succ]
        refine reg_take (i := 5) (v := x.entry.val) rfl (by kernel_rfl) (by kernel_rfl) (by kernel_rfl) (fun _ _ _ h => h) (by rfl) ?hy5 ?_
        case hy5 => intro w' hw'; exact exec_load_rec Ent.isRec _ rfl b (off + k * 8) rfl _ (Ent.len _) w' (fun u v hu => HX.out w' (B2.out.trans (hw'.mono B2.out.size)) u v (entry_cells x hu))
        simp only [Act.put, List.setIfInBounds_toArray, List.set_cons_zero, List.set_cons_succ]
        refine reg_take (i := 6) (v := Ent.val (e)) rfl (by kernel_rfl) (by kernel_rfl) (by kernel_rfl) (fun _ _ _ h => h) (by rfl) ?hy6 ?_
        case hy6 => intro w' hw'; exact exec_load_whole Ent.isRec _ rfl gE rfl _ _ (Ent.len _) w' (Whole.below E2.out hw' E2.out.lt)
        simp only [Act.put, List.setIfInBounds_toArray, List.set_cons_zero, List.set_cons_succ]
        refine reg_call (i := 7) rfl (by kernel_rfl) (fun K' hK => ?_)
        go_simp
        refine (CA.out w2).mono ?_
        rintro e3 w3 ⟨rfl, b3⟩
        have E3 : Hid (Ent.At w3 gE e) := Lib.hid (Whole.below E2.out b3 E2.out.lt)
        have B3 := Lib.hid (B2.out.trans (b3.mono B2.out.size))
        refine hK.out _ _ b3 ?_
        clear hK K' b3 E2 B2
        refine reg_take (i := 8) (v := ?_) rfl (by kernel_rfl) (by kernel_rfl) (by kernel_rfl) (fun _ _ _ h => h) (by rfl) ?hy8 ?_
        case hy8 => intro w' hw'; go_simp; (try with_reducible rfl)
        simp only [Act.put, List.setIfInBounds_toArray, List.set_cons_zero, List.set_cons_succ]
        refine reg_end (by kernel_rfl) ?_
        cases q with
        | true =>
          have HV : Hid (∀ y ∈ l.take (k + 1), passQ a e y = true) := Lib.hid (by
            intro y hy
            rw [HT.out] at hy
            rcases List.mem_append.1 hy with z | z
            · exact HO.out y z
            · rw [List.mem_singleton] at z; subst z; exact HPQ.out)
          go_wp2
          exact ⟨⟨k + 1, by omega, by go_num, HV.out, E3.out, B3.out⟩, by simp [intOf]; omega⟩
        | false =>
          have HV : Hid (R = k) := Lib.hid (HK.out k x HXX.out HO.out HPQ.out)
          go_wp2
          rw [Exit.noGoto_ret]
          go_ret
          exact ⟨by rw [HV.out]; rfl, B3.out⟩
    · obtain rfl : k = m := by omega
      have dk : decide ((k : Int) < (k : Int)) = false := by simp
      have HV : Hid (R = k) := Lib.hid (by
        rw [HA.out (fun y hy => HO.out y (by rw [List.take_of_length_le (by rw [← HL.out]; omega)]; exact hy)), ← HL.out])
      go_wp2
      rw [Exit.noGoto_ret]
      go_ret
      exact ⟨by rw [HV.out]; rfl, B0.out⟩
end Go.Proofs.Ytknccbdcfpncnaa
