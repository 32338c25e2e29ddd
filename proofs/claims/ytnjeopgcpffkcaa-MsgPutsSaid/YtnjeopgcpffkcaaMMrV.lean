/- The document's Put. -/
import Derived.Test.YtnjeopgcpffkcaaMMrP
namespace Go.Proofs.Ytnjeopgcpffkcaa
set_option maxRecDepth 100000
open Go.RowKit

theorem fold_length {m : Mg} (h : RightM m) : ((fldK m.kind).flatMap (putF m)).length ≤ 1300 := by
  have hk := right_key h
  have hv := h.val
  have h1 := entsL_length h.es
  have h2 := itemsL_length h.its
  have h3 := h.many
  have h4 := h.items
  have l0 : (putF m 0).length = 2 := by simp [putF, be_length]
  have l1 : (putF m 1).length = 1 := by simp [putF, flagL_length]
  have l2 : (putF m 2).length = 1 := by simp [putF, flagL_length]
  have l3 : (putF m 3).length = 8 := by simp [putF, be_length]
  have l4 : (putF m 4).length = 4 := by simp [putF, be_length]
  have l5 : (putF m 5).length ≤ 26 := by simp only [putF, encS_len]; omega
  have l6 : (putF m 6).length ≤ 34 := by simp only [putF, encS_len]; omega
  have l7 : (putF m 7).length ≤ 561 := by simp only [putF, List.length_append, be_length]; omega
  have l8 : (putF m 8).length ≤ 1121 := by simp only [putF, List.length_append, be_length]; omega
  generalize m.kind = k at *
  rcases kinds k with rfl | rfl | rfl | rfl | rfl | rfl | rfl | rfl | rfl | rfl | rfl | rfl | rfl | rfl | rfl | rfl | hk2
  all_goals first | (rw [fld_out hk2]; simp) | (simp [fldK]; try omega)
theorem take_length {m : Mg} (h : RightM m) (k : Nat) : (((fldK m.kind).take k).flatMap (putF m)).length ≤ 1300 := by
  have h1 := fold_length h
  rw [← List.take_append_drop k (fldK m.kind), List.flatMap_append, List.length_append] at h1
  omega

set_option maxHeartbeats 1000000 in
theorem refMsPut_any (m : Mg) (e t : Row) (hok : m.Ok) (hes : m.es.length ≤ 1000000) (hits : m.its.length ≤ 1000000) (w : World) (h : Lists w e t m) :
    Calls Try.prog 11 #[(m.raw e t).val] w fun x w' => ∃ v, x = .returned (.tuple #[v, .int .i64 (if RightM m then 0 else 2)]) ∧ BytesAt w' v (if RightM m then putB m else []) ∧ Below w.heap.size w w' := by
  have H := Lib.hid h
  have CR := fun w1 (b : Below w.heap.size w w1) => Lib.hid (refMsRight_any m e t hes hits w1 (h.below b))
  clear h hes hits
  by_cases hr : RightM m
  · have HR := Lib.hid hr
    have HO := Lib.hid hok
    have e1 : rightM m = true := by rw [rightM, decide_eq_true hr]
    rw [if_pos hr, if_pos hr]
    rw [e1] at CR
    obtain ⟨cK, hcK⟩ : ∃ c : UInt8, c = UInt8.ofNat m.kind.toNat := ⟨_, rfl⟩
    have hck : (cK.toNat : Int) = m.kind := by
      have h1 := hr.k1
      have h2 := hr.k2
      rw [hcK]
      simp only [UInt8.toNat_ofNat']
      omega
    have rk : IntKind.u8.wrap m.kind = (cK.toNat : Int) := by
      rw [hck]
      have h1 := hr.k1
      have h2 := hr.k2
      show m.kind % 256 = m.kind
      omega
    have rr : IntKind.u64.wrap m.rid = (uN m.rid : Int) := uN_wrap m.rid
    have HE : Hid ([cK] ++ be 4 (uN m.rid) = headB m) := Lib.hid (by
      have h1 := hr.k1
      have h2 := hr.k2
      have e2 : be 1 (uN m.kind) = [cK] := by
        rw [be_succ, hcK]
        have : uN m.kind = m.kind.toNat := by rw [uN]; omega
        rw [this]
        have h3 : m.kind.toNat / 256 ^ 0 % 256 = m.kind.toNat := by omega
        rw [h3]
        rfl
      rw [headB, e2])
    obtain ⟨acc, hacc⟩ : ∃ acc : Nat → List UInt8, acc = fun k => headB m ++ ((fldK m.kind).take k).flatMap (putF m) := ⟨_, rfl⟩
    obtain ⟨n, hn⟩ : ∃ n, n = (fldK m.kind).length := ⟨_, rfl⟩
    have hn5 : n ≤ 5 := by rw [hn]; exact fld_len _
    have HN5 := Lib.hid hn5
    have HZ : Hid (acc 0 = headB m) := Lib.hid (by rw [hacc]; simp)
    have HW : Hid (acc n = putB m) := Lib.hid (by rw [hacc]; simp only; rw [hn, List.take_length]; rfl)
    have HS : Hid (∀ k, (acc k).length ≤ 1500) := Lib.hid (fun k => by rw [hacc]; simp only; have := take_length hr k; rw [List.length_append, headB, List.length_append, be_length, be_length]; omega)
    have HC : Hid (∀ k f, (fldK m.kind)[k]? = some f → acc (k + 1) = acc k ++ putF m f) := Lib.hid (fun k f hf => by rw [hacc]; simp only; rw [take_at hf, List.flatMap_append]; simp)
    obtain ⟨L, hL⟩ : ∃ L, L = lettersK m.kind := ⟨_, rfl⟩
    have hL2 : L = (fldK m.kind).map letC := by rw [hL, lettersK, if_pos]; have h1 := hr.k1; have h2 := hr.k2; simp [knownK, h1, h2]
    have HLL := Lib.hid hL2
    have HLn : Hid (L.length = n) := Lib.hid (by rw [hL2, List.length_map, hn])
    have CL := fun w => Lib.hid (refLetters_any m.kind w)
    rw [← hL] at CL
    clear hr e1 hok hacc hn hL hL2 hn5 hcK hck
    go_enter Try.func11, Try.ntmps11
    go_wp2_with (refine wpList_box_row rfl 27 _ rfl (m.raw e t).enc.toArray (by with_unfolding_all exact rfl) ?_)
    intro w1 b1 x1 z1
    obtain ⟨gM, hgM⟩ : ∃ g, g = w.heap.size := ⟨_, rfl⟩
    have M_M := Lib.hid (show w.heap.size ≤ gM from by rw [hgM]; exact Nat.le_refl _)
    have B1 := Lib.hid b1
    rw [← hgM] at x1 ⊢
    have M1 : Hid (Mr.At w1 gM (m.raw e t)) := Lib.hid x1
    clear b1 x1 z1 hgM 
    go_wp2_with (with_reducible refine wpList_load_whole_st Mr.isRec rfl _ rfl gM (by with_unfolding_all exact rfl) _ _ (Mr.len _) M1.out ?_)
    refine ((CR w1 B1.out).out).mono ?_
    rintro e2 w2 ⟨rfl, b2⟩
    have M2 : Hid (Mr.At w2 gM (m.raw e t)) := Lib.hid (Whole.below M1.out b2 M1.out.lt)
    have B2 := Lib.hid (B1.out.trans (b2.mono B1.out.size))
    clear b2 M1 B1
    have c0 : w2.cell? ⟨gM, 0, none⟩ = some (.int .i64 m.kind) := M2.out.at_ 0
    have c1 : w2.cell? ⟨gM, 1, none⟩ = some (.int .i64 m.rid) := M2.out.at_ 1
    have bU : Below w2.heap.size w2 (w2.alloc (.cells #[.int .u8 (cK.toNat : Int)] 5)) := (Below.refl _ _).alloc (Nat.le_refl _) _
    have hlit : BytesAt (w2.alloc (.cells #[.int .u8 (cK.toNat : Int)] 5)) (.slice (some ⟨w2.heap.size, 0, none⟩) 1 1) [cK] := BytesAt.lit w2 [cK] _ rfl
    have MU : Hid (Mr.At (w2.alloc (.cells #[.int .u8 (cK.toNat : Int)] 5)) gM (m.raw e t)) := Lib.hid (Whole.below M2.out bU M2.out.lt)
    have c1' : (w2.alloc (.cells #[.int .u8 (cK.toNat : Int)] 5)).cell? ⟨gM, 1, none⟩ = some (.int .i64 m.rid) := MU.out.at_ 1
    have BU := Lib.hid (B2.out.trans (bU.mono B2.out.size))
    have CN := Lib.hid (refNum_b _ [cK] (uN m.rid) 4 _ hlit (by decide) (by decide) (by simp) (uN_lt _))
    rw [HE.out, ← HZ.out] at CN
    clear bU hlit
    go_wp2_with fail
    refine CN.out.mono ?_
    rintro x u1 ⟨v1, rfl, y1, b1⟩
    have Y1 := Lib.hid y1
    have M1 : Hid (Mr.At u1 gM (m.raw e t)) := Lib.hid (Whole.below MU.out b1 MU.out.lt)
    have B1 := Lib.hid (BU.out.trans (b1.mono BU.out.size))
    clear y1 b1 CN MU BU c0 c1 c1' M2 B2
    have c0 : u1.cell? ⟨gM, 0, none⟩ = some (.int .i64 m.kind) := M1.out.at_ 0
    go_wp2_with fail
    refine (CL u1).out.mono ?_
    rintro x u2 ⟨rfl, b2⟩
    have Y2 := Lib.hid (Y1.out.below b2)
    have M2 : Hid (Mr.At u2 gM (m.raw e t)) := Lib.hid (Whole.below M1.out b2 M1.out.lt)
    have B2 := Lib.hid (B1.out.trans (b2.mono B1.out.size))
    clear b2 Y1 M1 B1 c0 CL
    go_wp2_with fail
    go_loopw [4, 6] (fun u i wr => ∃ k : Nat, k ≤ n ∧ i = .int .i64 (k : Int) ∧ BytesAt wr u (acc k) ∧ Mr.At wr gM (m.raw e t) ∧ Below w.heap.size w wr) (fun _ i _ => n - (intOf i).toNat)
    case atStart => exact ⟨0, Nat.zero_le _, rfl, Y2.out, M2.out, B2.out⟩
    case round =>
      obtain ⟨k, hk, rfl, hy, hm, hb⟩ := hrel
      have Y0 := Lib.hid hy
      have M0 := Lib.hid hm
      have B0 := Lib.hid hb
      clear hy hm hb Y2 M2 B2
      have LN := HLn.out
      by_cases hlt : k < n
      · have dk : decide ((k : Int) < (L.length : Int)) = true := by simp; omega
        have dk2 : decide (k < L.length) = true := by simp; omega
        have jk : (k : Int) < (L.length : Int) := by omega
        obtain ⟨f, hf⟩ : ∃ f, (fldK m.kind)[k]? = some f := by
          have h1 := HLL.out
          have h2 : k < (fldK m.kind).length := by rw [h1, List.length_map] at LN; omega
          exact ⟨_, List.getElem?_eq_getElem h2⟩
        have hd : L[k]? = some (letC f) := by rw [HLL.out, List.getElem?_map, hf]; rfl
        have HF := Lib.hid (HC.out k f hf)
        have hf9 := fld_lt (List.mem_of_getElem? hf)
        have r := str_at L k (letC f) hd
        have r4 : IntKind.i64.wrap ((k : Int) + 1) = ((k + 1 : Nat) : Int) := by have := HN5.out; rw [IntWalk.i64_in _ (by omega)]; omega
        have CF := fun w1 (b : Below w.heap.size w w1) hb => Lib.hid (refField_any f hf9 m e t HR.out HO.out u4 (acc k) (HS.out k) w1 (H.out.below b) hb)
        rw [← HF.out] at CF
        generalize letC f = d at *
        clear hf hd hf9
        have Y0 : Hid (BytesAt wr u4 (acc k)) := Lib.hid (Y0.out)
        go_wp2_with (with_reducible refine wpList_load_whole_st Mr.isRec rfl _ rfl gM (by with_unfolding_all exact rfl) _ _ (Mr.len _) M0.out ?_)
        refine reg_begin (by kernel_rfl) fun w1 b1 z1 => ?_
        have M1 : Hid (Mr.At w1 gM (m.raw e t)) := Lib.hid (Whole.below M0.out b1 M0.out.lt)
        have Y1 : Hid (BytesAt w1 u4 (acc k)) := Lib.hid (Y0.out.below b1)
        have B1 := Lib.hid (B0.out.trans (b1.mono B0.out.size))
        clear b1 z1 M0 Y0 B0
        refine reg_take (i := 0) (v := ?_) rfl (by kernel_rfl) (by kernel_rfl) (by kernel_rfl) (fun _ _ _ h => h) (by rfl) ?hy0 ?_
        case hy0 => intro w' hw'; go_simp; (try with_reducible rfl)
        simp only [Act.put, List.setIfInBounds_toArray, List.set_cons_zero, List.set_cons_succ]
        refine reg_take (i := 1) (v := Mr.val ((m.raw e t))) rfl (by kernel_rfl) (by kernel_rfl) (by kernel_rfl) (fun _ _ _ h => h) (by rfl) ?hy1 ?_
        case hy1 => intro w' hw'; exact exec_load_whole_st Mr.isRec _ rfl gM rfl _ _ (Mr.len _) w' (Whole.below M1.out hw' M1.out.lt)
        simp only [Act.put, List.setIfInBounds_toArray, List.set_cons_zero, List.set_cons_succ]
        refine reg_take (i := 2) (v := ?_) rfl (by kernel_rfl) (by kernel_rfl) (by kernel_rfl) (fun _ _ _ h => h) (by rfl) ?hy2 ?_
        case hy2 => intro w' hw'; go_simp; (try with_reducible rfl)
        simp only [Act.put, List.setIfInBounds_toArray, List.set_cons_zero, List.set_cons_succ]
        refine reg_take (i := 3) (v := ?_) rfl (by kernel_rfl) (by kernel_rfl) (by kernel_rfl) (fun _ _ _ h => h) (by rfl) ?hy3 ?_
        case hy3 => intro w' hw'; go_simp; (try with_reducible rfl)
        simp only [Act.put, List.setIfInBounds_toArray, List.set_cons_zero, List.set_cons_succ]
        refine reg_take (i := 4) (v := ?_) rfl (by kernel_rfl) (by kernel_rfl) (by kernel_rfl) (fun _ _ _ h => h) (by rfl) ?hy4 ?_
        case hy4 => intro w' hw'; go_simp; (try with_reducible rfl)
        simp only [Act.put, List.setIfInBounds_toArray, List.set_cons_zero, List.set_cons_succ]
        refine reg_call (i := 5) rfl (by kernel_rfl) (fun K' hK => ?_)
        go_simp
        refine ((CF w1 B1.out Y1.out).out).mono ?_
        rintro e2 w2 ⟨v9, rfl, hy9, b2⟩
        have M2 : Hid (Mr.At w2 gM (m.raw e t)) := Lib.hid (Whole.below M1.out b2 M1.out.lt)
        have Y2 : Hid (BytesAt w2 u4 (acc k)) := Lib.hid (Y1.out.below b2)
        have B2 := Lib.hid (B1.out.trans (b2.mono B1.out.size))
        have Z2 : Hid (BytesAt w2 v9 (acc (k + 1))) := Lib.hid hy9
        refine hK.out _ _ b2 ?_
        clear hK K' b2 M1 Y1 B1 hy9
        refine reg_take (i := 6) (v := ?_) rfl (by kernel_rfl) (by kernel_rfl) (by kernel_rfl) (fun _ _ _ h => h) (by rfl) ?hy6 ?_
        case hy6 => intro w' hw'; go_simp; (try with_reducible rfl)
        simp only [Act.put, List.setIfInBounds_toArray, List.set_cons_zero, List.set_cons_succ]
        refine reg_end (by kernel_rfl) ?_
        go_wp2
        exact ⟨⟨k + 1, by omega, by go_num, Z2.out, M2.out, B2.out⟩, by simp [intOf]; omega⟩
      · obtain rfl : k = n := by omega
        have dk : decide ((k : Int) < (L.length : Int)) = false := by simp; omega
        have dk2 : decide (k < L.length) = false := by simp; omega
        rw [HW.out] at Y0
        go_wp2
        go_ret2
        exact ⟨_, rfl, Y0.out, B0.out⟩
  · have e1 : rightM m = false := by rw [rightM, decide_eq_false hr]
    rw [if_neg hr, if_neg hr]
    rw [e1] at CR
    clear hr e1
    go_enter Try.func11, Try.ntmps11
    go_wp2_with (refine wpList_box_row rfl 27 _ rfl (m.raw e t).enc.toArray (by with_unfolding_all exact rfl) ?_)
    intro w1 b1 x1 z1
    obtain ⟨gM, hgM⟩ : ∃ g, g = w.heap.size := ⟨_, rfl⟩
    have M_M := Lib.hid (show w.heap.size ≤ gM from by rw [hgM]; exact Nat.le_refl _)
    have B1 := Lib.hid b1
    rw [← hgM] at x1 ⊢
    have M1 : Hid (Mr.At w1 gM (m.raw e t)) := Lib.hid x1
    clear b1 x1 z1 hgM 
    go_wp2_with (with_reducible refine wpList_load_whole_st Mr.isRec rfl _ rfl gM (by with_unfolding_all exact rfl) _ _ (Mr.len _) M1.out ?_)
    refine ((CR w1 B1.out).out).mono ?_
    rintro e2 w2 ⟨rfl, b2⟩
    have M2 : Hid (Mr.At w2 gM (m.raw e t)) := Lib.hid (Whole.below M1.out b2 M1.out.lt)
    have B2 := Lib.hid (B1.out.trans (b2.mono B1.out.size))
    clear b2 M1 B1
    go_wp2
    go_ret2
    exact ⟨_, rfl, BytesAt.nil _, B2.out⟩
end Go.Proofs.Ytnjeopgcpffkcaa
