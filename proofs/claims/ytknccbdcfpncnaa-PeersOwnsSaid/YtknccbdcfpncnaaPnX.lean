/- Layer 24: the document's Owner. -/
import Derived.Test.YtknccbdcfpncnaaPnV
import Derived.Test.YtknccbdcfpncnaaPnO
namespace Go.Proofs.Ytknccbdcfpncnaa
set_option maxRecDepth 100000
open Go.RowKit

set_option maxRecDepth 100000
set_option maxHeartbeats 1000000 in
theorem refOwner_any (A : Option Addr) (m cap : Nat) (l : List Peer) (me : Ent) (key : Nat) (w : World) (hl : l.length ≤ 10000) (hw : Words l) (hi : me.id < 18446744073709551616) (hk : key < 18446744073709551616) (h : RowsAt w (.slice A m cap) 8 (l.map Peer.enc)) :
    Calls Try.prog 20 #[me.val, .slice A m cap, .int .u64 (key : Int)] w fun e w' => e = .returned (ownerQ me l key).val ∧ Below w.heap.size w w' := by
  have hm : m = l.length := by have := h.size.1; simpa using this
  subst hm
  have H := Lib.hid h
  have CE := Lib.hid (fun w h => as_sliceEn (refEntries_any A l.length cap l w.heap.size w (Nat.le_refl _) (by omega) h))
  obtain ⟨es, hes⟩ : ∃ es, es = l.map Peer.entry := ⟨_, rfl⟩
  obtain ⟨all, hall⟩ : ∃ a, a = allQ me l := ⟨_, rfl⟩
  obtain ⟨n, hn⟩ : ∃ n, n = all.length := ⟨_, rfl⟩
  obtain ⟨ids, hids⟩ : ∃ a, a = idsQ me l := ⟨_, rfl⟩
  have HN : Hid (n ≤ 10001) := Lib.hid (by rw [hn, hall, allQ_length]; omega)
  have HN0 : Hid (0 < n) := Lib.hid (by rw [hn, hall, allQ_length]; omega)
  have HNL := Lib.hid hn
  have HID : Hid (all.map Ent.id = ids) := Lib.hid (by rw [hall, hids]; exact allQ_ids me l)
  have HALL : Hid (all = [me] ++ es) := Lib.hid (by rw [hall, hes]; rfl)
  have HES : Hid (es.length ≤ 10000) := Lib.hid (by rw [hes, List.length_map]; exact hl)
  have CD : Hid (∀ x ∈ ids, ∀ w, Calls Try.prog 39 #[.int .u64 (key : Int), .int .u64 (x : Int)] w fun e w' => e = .returned (.int .u64 (distN key x : Int)) ∧ w' = w) := Lib.hid (fun x hx w => (refDist_any _ _ hk (allQ_words hi hw x (by rw [← hids]; exact hx)) w).mono fun _ _ h => ⟨h.1, h.2.symm⟩)
  obtain ⟨j, z, hj, hz, ho⟩ := near_at me l key
  rw [← hids] at hj
  rw [← hall] at hz
  rw [ho]
  simp only [← hes] at CE
  have HJ := Lib.hid hj
  have HZ := Lib.hid hz
  have HLES : Hid ((List.map Peer.entry l).length = es.length) := Lib.hid (by rw [hes])
  clear h hl hw hi hk hes hall hn hids hj hz ho
  go_enter Try.func20, Try.ntmps20
  have L0 : Hid (RowsAt w (.slice A l.length cap) 8 (l.map Peer.enc)) := Lib.hid (H.out)
  go_wp2_with (refine wpList_box_row rfl 24 _ rfl me.enc.toArray (by with_unfolding_all exact rfl) ?_)
  intro w1 b1 x1 z1
  obtain ⟨gE, hgE⟩ : ∃ g, g = w.heap.size := ⟨_, rfl⟩
  have M_E := Lib.hid (show w.heap.size ≤ gE from by rw [hgE]; exact Nat.le_refl _)
  have L1 : Hid (RowsAt w1 (.slice A l.length cap) 8 (l.map Peer.enc)) := Lib.hid (L0.out.below b1)
  have B1 := Lib.hid b1
  rw [← hgE] at x1 ⊢
  have E1 : Hid (Ent.At w1 gE me) := Lib.hid x1
  clear b1 x1 z1 hgE L0
  go_wp2_with (first | (with_reducible refine wpList_load_whole Ent.isRec rfl _ rfl gE (by with_unfolding_all exact rfl) _ _ (Ent.len _) E1.out ?_) | (refine wpList_alloc_row rfl 24 rfl Ent.zero.enc.toArray Ent.zero_is ?_))
  intro w2 b2 x2 z2
  obtain ⟨gO, hgO⟩ : ∃ g, g = w1.heap.size := ⟨_, rfl⟩
  have N_E_O := Lib.hid (show gE < gO from by rw [hgO]; exact E1.out.lt)
  have M_O := Lib.hid (show w.heap.size ≤ gO from by rw [hgO]; exact B1.out.size)
  have L2 : Hid (RowsAt w2 (.slice A l.length cap) 8 (l.map Peer.enc)) := Lib.hid (L1.out.below b2)
  have E2 : Hid (Ent.At w2 gE me) := Lib.hid (Whole.below E1.out b2 E1.out.lt)
  have B2 := Lib.hid (B1.out.trans (b2.mono B1.out.size))
  rw [← hgO] at x2 ⊢
  have O2 : Hid (Ent.At w2 gO Ent.zero) := Lib.hid x2
  clear b2 x2 z2 hgO L1 E1 B1
  have OZ := Lib.hid O2.out
  go_wp2_with (first | (with_reducible refine wpList_load_whole Ent.isRec rfl _ rfl gE (by with_unfolding_all exact rfl) _ _ (Ent.len _) E2.out ?_) | (with_reducible refine wpList_load_whole Ent.isRec rfl _ rfl gO (by with_unfolding_all exact rfl) _ _ (Ent.len _) O2.out ?_))
  have BK3 := B2
  refine regS_begin (From w2) (by kernel_rfl) (Below.refl _ _).drew ?_
  have b3 : Below w2.heap.size w2 w2.drew := (Below.refl _ _).drew
  generalize w2.drew = w3 at b3 ⊢
  have L3 : Hid (RowsAt w3 (.slice A l.length cap) 8 (l.map Peer.enc)) := Lib.hid (L2.out.below b3)
  have E3 : Hid (Ent.At w3 gE me) := Lib.hid (Whole.below E2.out b3 E2.out.lt)
  have O3 : Hid (Ent.At w3 gO Ent.zero) := Lib.hid (Whole.below O2.out b3 O2.out.lt)
  have B3 := Lib.hid (B2.out.trans (b3.mono B2.out.size))
  have HS3 : Hid (From w2 w3) := Lib.hid b3
  clear b3
  refine regS_take (i := 0) (v := Ent.val (me)) rfl (by kernel_rfl) (by kernel_rfl) (by kernel_rfl) (fun _ _ _ h => h) (by rfl) HS3.out ?hy0 ?_
  case hy0 => intro w' hw'; exact exec_load_whole Ent.isRec _ rfl gE rfl _ _ (Ent.len _) w' (Whole.below E2.out hw' E2.out.lt)
  simp only [Act.put, List.setIfInBounds_toArray, List.set_cons_zero, List.set_cons_succ]
  refine regS_take (i := 2) (v := ?_) rfl (by kernel_rfl) (by kernel_rfl) (by kernel_rfl) (fun _ _ _ h => h) (by rfl) HS3.out ?hy2 ?_
  case hy2 => intro w' hw'; go_simp; (try with_reducible rfl)
  simp only [Act.put, List.setIfInBounds_toArray, List.set_cons_zero, List.set_cons_succ]
  refine regS_two (i := 1) (j := 3) rfl rfl (by kernel_rfl) (fun K' hK => ?_) (fun K' hK => ?_)
  · refine wp_own_oneEn (base := w2.heap.size) _ rfl me (by with_unfolding_all exact rfl) HS3.out.size ?_
    intro v11 w4 b4 x4
    have L4 : Hid (RowsAt w4 (.slice A l.length cap) 8 (l.map Peer.enc)) := Lib.hid (L3.out.below b4)
    have E4 : Hid (Ent.At w4 gE me) := Lib.hid (Whole.below E3.out b4 E3.out.lt)
    have O4 : Hid (Ent.At w4 gO Ent.zero) := Lib.hid (Whole.below O3.out b4 O3.out.lt)
    have B4 := Lib.hid (B3.out.trans (b4.mono B3.out.size))
    have HS4 : Hid (From w2 w4) := Lib.hid (HS3.out.trans (b4.mono HS3.out.size))
    clear b4
    have X4 : Hid (OwnRows w4 w2.heap.size 24 6 v11 ([me].map Ent.enc)) := Lib.hid x4
    clear x4
    refine hK.out _ _ HS4.out ?_
    clear hK K' L3 E3 O3 B3 HS3
    refine regS_do (i := 3) rfl (by kernel_rfl) (fun K' hK => ?_)
    go_simp
    refine (CE.out w4 (H.out.below B4.out)).mono ?_
    rintro e5 w5 ⟨A2, k2, rfl, o13, b5⟩
    have L5 : Hid (RowsAt w5 (.slice A l.length cap) 8 (l.map Peer.enc)) := Lib.hid (L4.out.below b5)
    have E5 : Hid (Ent.At w5 gE me) := Lib.hid (Whole.below E4.out b5 E4.out.lt)
    have O5 : Hid (Ent.At w5 gO Ent.zero) := Lib.hid (Whole.below O4.out b5 O4.out.lt)
    have X5 : Hid (OwnRows w5 w2.heap.size 24 6 v11 ([me].map Ent.enc)) := Lib.hid (X4.out.below b5 rfl)
    have B5 := Lib.hid (B4.out.trans (b5.mono B4.out.size))
    have HS5 : Hid (From w2 w5) := Lib.hid (HS4.out.trans (b5.mono HS4.out.size))
    clear b5
    have D5 : Hid (RowsAt w5 (.slice A2 es.length k2) 6 (es.map Ent.enc)) := Lib.hid o13
    refine hK.out _ _ HS5.out ?_
    clear hK K' L4 E4 O4 X4 B4 HS4 o13
    refine regS_do (i := 4) rfl (by kernel_rfl) (fun K' hK => ?_)
    refine wp_append_lastEn _ _ rfl _ [me] (by with_unfolding_all exact rfl) X5.out _ es (by with_unfolding_all exact rfl) D5.out (by have := HES.out; simp; omega) HS5.out.size ?_
    intro v14 w6 b6 x6
    have B6 := Lib.hid (B5.out.trans (b6.mono BK3.out.size))
    have HS6 : Hid (From w2 w6) := Lib.hid (HS5.out.trans b6)
    have V6 : Hid (OwnRows w6 w2.heap.size 24 6 v14 (([me] ++ es).map Ent.enc)) := Lib.hid x6
    clear x6 b6
    refine hK.out _ _ HS6.out ?_
    clear hK K' L5 E5 O5 HS5 X5 D5 B5
    refine regS_take (i := 5) (v := ?_) rfl (by kernel_rfl) (by kernel_rfl) (by kernel_rfl) (fun _ _ _ h => h) (by rfl) HS6.out ?hy5 ?_
    case hy5 => intro w' hw'; go_simp; (try with_reducible rfl)
    simp only [Act.put, List.setIfInBounds_toArray, List.set_cons_zero, List.set_cons_succ]
    refine regS_end (by kernel_rfl) ?_
    have HSE := Lib.hid HS6.out
    clear HS6 L2 E2 O2
    have VZ : Hid (OwnRows w6 w2.heap.size 24 6 v14 (all.map Ent.enc)) := Lib.hid (V6.out.eqL (by rw [HALL.out]))
    obtain ⟨A3, k3, hv⟩ := VZ.out.form
    rw [List.length_map, ← HNL.out] at hv
    subst hv
    have RZ : Hid (RowsAt w6 (.slice A3 n k3) 6 (all.map Ent.enc)) := Lib.hid VZ.out.rows
    have OW : Hid (Ent.At w6 gO Ent.zero) := Lib.hid (Whole.below OZ.out HSE.out OZ.out.lt)
    have BW := Lib.hid B6.out
    clear VZ V6 HSE
    have BZ := Lib.hid (Below.refl w6.heap.size w6)
    go_wp2_with fail
    go_loopw [8, 9] (fun s i wr => ∃ (k b : Nat), k ≤ n ∧ b < n ∧ i = .int .i64 (k : Int) ∧ s = .int .i64 (b : Int) ∧ ((k = 0 ∧ b = 0) ∨ Near key ids k b) ∧ Below w6.heap.size w6 wr) (fun _ i _ => n - (intOf i).toNat)
    case atStart => exact ⟨0, 0, Nat.zero_le _, HN0.out, rfl, rfl, .inl ⟨rfl, rfl⟩, BZ.out⟩
    case round =>
      obtain ⟨k, t, hk, ht, rfl, rfl, hr, hb⟩ := hrel
      have HR := Lib.hid hr
      have BR := Lib.hid hb
      clear hr hb
      have jt : (t : Int) < (n : Int) := by omega
      obtain ⟨y, hy⟩ : ∃ y, all[t]? = some y := ⟨_, List.getElem?_eq_getElem (by rw [← HNL.out]; exact ht)⟩
      obtain ⟨b, off, hA, hcy⟩ := row_ofEn RZ.out hy
      subst hA
      have HYY := Lib.hid hy
      have HY := Lib.hid (hcy wr BR.out)
      have cy : wr.cell? ⟨b, off + t * 6 + 1, none⟩ = some (.int .u64 (y.id : Int)) := hcy wr BR.out 1 _ rfl
      have gy : ids.getD t 0 = y.id := by rw [← HID.out, List.getD, List.getElem?_map, hy]; rfl
      have my : y.id ∈ ids := by rw [← HID.out]; exact List.mem_map.2 ⟨y, List.mem_of_getElem? hy, rfl⟩
      by_cases hlt : k < n
      · have dk : decide ((k : Int) < (n : Int)) = true := by simp; omega
        have dkn : decide (k < n) = true := by simp; omega
        have jk : (k : Int) < (n : Int) := by omega
        obtain ⟨x, hx⟩ : ∃ x, all[k]? = some x := ⟨_, List.getElem?_eq_getElem (by rw [← HNL.out]; exact hlt)⟩
        obtain ⟨b', off', hbo, hcx⟩ := row_ofEn RZ.out hx
        injection hbo with hbo
        injection hbo with hb1 hb2
        subst hb1 hb2
        have cx : wr.cell? ⟨b, off + k * 6 + 1, none⟩ = some (.int .u64 (x.id : Int)) := hcx wr BR.out 1 _ rfl
        have r4 : IntKind.i64.wrap ((k : Int) + 1) = ((k + 1 : Nat) : Int) := by have := HN.out; rw [IntWalk.i64_in _ (by omega)]; omega
        have gx : ids.getD k 0 = x.id := by rw [← HID.out, List.getD, List.getElem?_map, hx]; rfl
        have mx : x.id ∈ ids := by rw [← HID.out]; exact List.mem_map.2 ⟨x, List.mem_of_getElem? hx, rfl⟩
        have C1 : ∀ w, Hid (Calls Try.prog 39 #[.int .u64 (key : Int), .int .u64 (x.id : Int)] w fun e w' => e = .returned (.int .u64 (distN key x.id : Int)) ∧ w' = w) := fun w => Lib.hid (CD.out _ mx w)
        have C2 : ∀ w, Hid (Calls Try.prog 39 #[.int .u64 (key : Int), .int .u64 (y.id : Int)] w fun e w' => e = .returned (.int .u64 (distN key y.id : Int)) ∧ w' = w) := fun w => Lib.hid (CD.out _ my w)
        have HX : Hid (distN key (ids.getD k 0) = distN key x.id ∧ distN key (ids.getD t 0) = distN key y.id) := Lib.hid ⟨by rw [gx], by rw [gy]⟩
        generalize distN key x.id = p at C1 HX
        generalize distN key y.id = r at C2 HX
        clear hx hy hcx hcy gx gy mx my HY
        by_cases hpr : p < r
        · have d5 : decide ((p : Int) < (r : Int)) = true := by simp; omega
          have d5n : decide (p < r) = true := by simp; omega
          have HV : Hid (Near key ids (k + 1) k) := Lib.hid (by
            rcases HR.out with ⟨rfl, rfl⟩ | hn
            · exact Near.start _ _
            · exact hn.move (by rw [HX.out.1, HX.out.2]; exact hpr))
          clear hpr HX HR
          go_wp2_with fail
          go_quiet (first | (go_at_call 39; first | with_reducible exact Calls.quiet_of_same (C1 _).out | with_reducible exact Calls.quiet_of_same (C2 _).out))
          go_wp2
          exact ⟨⟨k + 1, k, by omega, hlt, by go_num, rfl, .inr HV.out, below_drewN BR.out _⟩, by simp [intOf]; omega⟩
        · have d5 : decide ((p : Int) < (r : Int)) = false := by simp; omega
          have d5n : decide (p < r) = false := by simp; omega
          have HV : Hid (Near key ids (k + 1) t) := Lib.hid (by
            rcases HR.out with ⟨rfl, rfl⟩ | hn
            · exact Near.start _ _
            · exact hn.stay (by rw [HX.out.1, HX.out.2]; exact hpr))
          clear hpr HX HR
          go_wp2_with fail
          go_quiet (first | (go_at_call 39; first | with_reducible exact Calls.quiet_of_same (C1 _).out | with_reducible exact Calls.quiet_of_same (C2 _).out))
          go_wp2
          exact ⟨⟨k + 1, t, by omega, ht, by go_num, rfl, .inr HV.out, below_drewN BR.out _⟩, by simp [intOf]; omega⟩
      · have hkn : k = n := by omega
        have dk : decide ((k : Int) < (n : Int)) = false := by simp; omega
        have dkn : decide (k < n) = false := by simp; omega
        have hln : ids.length = n := by rw [← HID.out, List.length_map]; exact HNL.out.symm
        have HYZ : Hid (y = z) := Lib.hid (by
          have hN : Near key ids n t := by
            rcases HR.out with ⟨h1, -⟩ | hn
            · have := HN0.out; omega
            · rw [← hkn]; exact hn
          have e := nearL_of key ids t (by rw [hln]; exact ht) (fun i hi => hN.le i (by rw [← hln]; exact hi)) hN.first
          have e2 := HJ.out
          rw [nearI, e] at e2
          have e3 : t = j := Int.ofNat.inj e2
          rw [e3, HZ.out] at hy
          injection hy with hy
          exact hy.symm)
        clear hkn hln hy hcy gy my cy HR hlt
        go_wp2_with (first | (with_reducible refine wpList_load_rec Ent.isRec rfl _ rfl b (off + t * 6) (by with_unfolding_all exact rfl) y.enc (Ent.len _) HY.out ?_) | (with_reducible refine wpList_store_whole rfl 24 _ _ rfl gO y.enc.toArray (by with_unfolding_all exact rfl) (by with_unfolding_all exact rfl) _ _ (Whole.below OW.out BR.out OW.out.lt) (Ent.size _) rfl (Ent.one _) ?_))
        intro wx9 q9 x9 z9
        have O9 : Hid (Ent.At wx9 gO y) := Lib.hid x9
        have B9 := Lib.hid ((BW.out.trans (BR.out.mono BW.out.size)).grown q9 (BW.out.trans (BR.out.mono BW.out.size)).size (fun k hk => by injection hk with hk; have := M_O.out; omega))
        clear q9 x9 z9
        go_wp2
        exact bodyPost_ret (results_rec Ent.isRec rfl _ _ _ _ _ rfl rfl O9.out) rfl ⟨by rw [HYZ.out], B9.out⟩
  · go_simp
    refine (CE.out w3 (H.out.below B3.out)).mono ?_
    rintro e4 w4 ⟨A2, k2, rfl, o13, b4⟩
    have L4 : Hid (RowsAt w4 (.slice A l.length cap) 8 (l.map Peer.enc)) := Lib.hid (L3.out.below b4)
    have E4 : Hid (Ent.At w4 gE me) := Lib.hid (Whole.below E3.out b4 E3.out.lt)
    have O4 : Hid (Ent.At w4 gO Ent.zero) := Lib.hid (Whole.below O3.out b4 O3.out.lt)
    have B4 := Lib.hid (B3.out.trans (b4.mono B3.out.size))
    have HS4 : Hid (From w2 w4) := Lib.hid (HS3.out.trans (b4.mono HS3.out.size))
    clear b4
    have D4 : Hid (RowsAt w4 (.slice A2 es.length k2) 6 (es.map Ent.enc)) := Lib.hid o13
    refine hK.out _ _ HS4.out ?_
    clear hK K' L3 E3 O3 B3 HS3 o13
    refine regS_do (i := 1) rfl (by kernel_rfl) (fun K' hK => ?_)
    refine wp_own_oneEn (base := w2.heap.size) _ rfl me (by with_unfolding_all exact rfl) HS4.out.size ?_
    intro v11 w5 b5 x5
    have L5 : Hid (RowsAt w5 (.slice A l.length cap) 8 (l.map Peer.enc)) := Lib.hid (L4.out.below b5)
    have E5 : Hid (Ent.At w5 gE me) := Lib.hid (Whole.below E4.out b5 E4.out.lt)
    have O5 : Hid (Ent.At w5 gO Ent.zero) := Lib.hid (Whole.below O4.out b5 O4.out.lt)
    have D5 : Hid (RowsAt w5 (.slice A2 es.length k2) 6 (es.map Ent.enc)) := Lib.hid (D4.out.below b5)
    have B5 := Lib.hid (B4.out.trans (b5.mono B4.out.size))
    have HS5 : Hid (From w2 w5) := Lib.hid (HS4.out.trans (b5.mono HS4.out.size))
    clear b5
    have X5 : Hid (OwnRows w5 w2.heap.size 24 6 v11 ([me].map Ent.enc)) := Lib.hid x5
    clear x5
    refine hK.out _ _ HS5.out ?_
    clear hK K' L4 E4 O4 D4 B4 HS4
    refine regS_do (i := 4) rfl (by kernel_rfl) (fun K' hK => ?_)
    refine wp_append_lastEn _ _ rfl _ [me] (by with_unfolding_all exact rfl) X5.out _ es (by with_unfolding_all exact rfl) D5.out (by have := HES.out; simp; omega) HS5.out.size ?_
    intro v14 w6 b6 x6
    have B6 := Lib.hid (B5.out.trans (b6.mono BK3.out.size))
    have HS6 : Hid (From w2 w6) := Lib.hid (HS5.out.trans b6)
    have V6 : Hid (OwnRows w6 w2.heap.size 24 6 v14 (([me] ++ es).map Ent.enc)) := Lib.hid x6
    clear x6 b6
    refine hK.out _ _ HS6.out ?_
    clear hK K' L5 E5 O5 HS5 D5 X5 B5
    refine regS_take (i := 5) (v := ?_) rfl (by kernel_rfl) (by kernel_rfl) (by kernel_rfl) (fun _ _ _ h => h) (by rfl) HS6.out ?hy5 ?_
    case hy5 => intro w' hw'; go_simp; (try with_reducible rfl)
    simp only [Act.put, List.setIfInBounds_toArray, List.set_cons_zero, List.set_cons_succ]
    refine regS_end (by kernel_rfl) ?_
    have HSE := Lib.hid HS6.out
    clear HS6 L2 E2 O2
    have VZ : Hid (OwnRows w6 w2.heap.size 24 6 v14 (all.map Ent.enc)) := Lib.hid (V6.out.eqL (by rw [HALL.out]))
    obtain ⟨A3, k3, hv⟩ := VZ.out.form
    rw [List.length_map, ← HNL.out] at hv
    subst hv
    have RZ : Hid (RowsAt w6 (.slice A3 n k3) 6 (all.map Ent.enc)) := Lib.hid VZ.out.rows
    have OW : Hid (Ent.At w6 gO Ent.zero) := Lib.hid (Whole.below OZ.out HSE.out OZ.out.lt)
    have BW := Lib.hid B6.out
    clear VZ V6 HSE
    have BZ := Lib.hid (Below.refl w6.heap.size w6)
    go_wp2_with fail
    go_loopw [8, 9] (fun s i wr => ∃ (k b : Nat), k ≤ n ∧ b < n ∧ i = .int .i64 (k : Int) ∧ s = .int .i64 (b : Int) ∧ ((k = 0 ∧ b = 0) ∨ Near key ids k b) ∧ Below w6.heap.size w6 wr) (fun _ i _ => n - (intOf i).toNat)
    case atStart => exact ⟨0, 0, Nat.zero_le _, HN0.out, rfl, rfl, .inl ⟨rfl, rfl⟩, BZ.out⟩
    case round =>
      obtain ⟨k, t, hk, ht, rfl, rfl, hr, hb⟩ := hrel
      have HR := Lib.hid hr
      have BR := Lib.hid hb
      clear hr hb
      have jt : (t : Int) < (n : Int) := by omega
      obtain ⟨y, hy⟩ : ∃ y, all[t]? = some y := ⟨_, List.getElem?_eq_getElem (by rw [← HNL.out]; exact ht)⟩
      obtain ⟨b, off, hA, hcy⟩ := row_ofEn RZ.out hy
      subst hA
      have HYY := Lib.hid hy
      have HY := Lib.hid (hcy wr BR.out)
      have cy : wr.cell? ⟨b, off + t * 6 + 1, none⟩ = some (.int .u64 (y.id : Int)) := hcy wr BR.out 1 _ rfl
      have gy : ids.getD t 0 = y.id := by rw [← HID.out, List.getD, List.getElem?_map, hy]; rfl
      have my : y.id ∈ ids := by rw [← HID.out]; exact List.mem_map.2 ⟨y, List.mem_of_getElem? hy, rfl⟩
      by_cases hlt : k < n
      · have dk : decide ((k : Int) < (n : Int)) = true := by simp; omega
        have dkn : decide (k < n) = true := by simp; omega
        have jk : (k : Int) < (n : Int) := by omega
        obtain ⟨x, hx⟩ : ∃ x, all[k]? = some x := ⟨_, List.getElem?_eq_getElem (by rw [← HNL.out]; exact hlt)⟩
        obtain ⟨b', off', hbo, hcx⟩ := row_ofEn RZ.out hx
        injection hbo with hbo
        injection hbo with hb1 hb2
        subst hb1 hb2
        have cx : wr.cell? ⟨b, off + k * 6 + 1, none⟩ = some (.int .u64 (x.id : Int)) := hcx wr BR.out 1 _ rfl
        have r4 : IntKind.i64.wrap ((k : Int) + 1) = ((k + 1 : Nat) : Int) := by have := HN.out; rw [IntWalk.i64_in _ (by omega)]; omega
        have gx : ids.getD k 0 = x.id := by rw [← HID.out, List.getD, List.getElem?_map, hx]; rfl
        have mx : x.id ∈ ids := by rw [← HID.out]; exact List.mem_map.2 ⟨x, List.mem_of_getElem? hx, rfl⟩
        have C1 : ∀ w, Hid (Calls Try.prog 39 #[.int .u64 (key : Int), .int .u64 (x.id : Int)] w fun e w' => e = .returned (.int .u64 (distN key x.id : Int)) ∧ w' = w) := fun w => Lib.hid (CD.out _ mx w)
        have C2 : ∀ w, Hid (Calls Try.prog 39 #[.int .u64 (key : Int), .int .u64 (y.id : Int)] w fun e w' => e = .returned (.int .u64 (distN key y.id : Int)) ∧ w' = w) := fun w => Lib.hid (CD.out _ my w)
        have HX : Hid (distN key (ids.getD k 0) = distN key x.id ∧ distN key (ids.getD t 0) = distN key y.id) := Lib.hid ⟨by rw [gx], by rw [gy]⟩
        generalize distN key x.id = p at C1 HX
        generalize distN key y.id = r at C2 HX
        clear hx hy hcx hcy gx gy mx my HY
        by_cases hpr : p < r
        · have d5 : decide ((p : Int) < (r : Int)) = true := by simp; omega
          have d5n : decide (p < r) = true := by simp; omega
          have HV : Hid (Near key ids (k + 1) k) := Lib.hid (by
            rcases HR.out with ⟨rfl, rfl⟩ | hn
            · exact Near.start _ _
            · exact hn.move (by rw [HX.out.1, HX.out.2]; exact hpr))
          clear hpr HX HR
          go_wp2_with fail
          go_quiet (first | (go_at_call 39; first | with_reducible exact Calls.quiet_of_same (C1 _).out | with_reducible exact Calls.quiet_of_same (C2 _).out))
          go_wp2
          exact ⟨⟨k + 1, k, by omega, hlt, by go_num, rfl, .inr HV.out, below_drewN BR.out _⟩, by simp [intOf]; omega⟩
        · have d5 : decide ((p : Int) < (r : Int)) = false := by simp; omega
          have d5n : decide (p < r) = false := by simp; omega
          have HV : Hid (Near key ids (k + 1) t) := Lib.hid (by
            rcases HR.out with ⟨rfl, rfl⟩ | hn
            · exact Near.start _ _
            · exact hn.stay (by rw [HX.out.1, HX.out.2]; exact hpr))
          clear hpr HX HR
          go_wp2_with fail
          go_quiet (first | (go_at_call 39; first | with_reducible exact Calls.quiet_of_same (C1 _).out | with_reducible exact Calls.quiet_of_same (C2 _).out))
          go_wp2
          exact ⟨⟨k + 1, t, by omega, ht, by go_num, rfl, .inr HV.out, below_drewN BR.out _⟩, by simp [intOf]; omega⟩
      · have hkn : k = n := by omega
        have dk : decide ((k : Int) < (n : Int)) = false := by simp; omega
        have dkn : decide (k < n) = false := by simp; omega
        have hln : ids.length = n := by rw [← HID.out, List.length_map]; exact HNL.out.symm
        have HYZ : Hid (y = z) := Lib.hid (by
          have hN : Near key ids n t := by
            rcases HR.out with ⟨h1, -⟩ | hn
            · have := HN0.out; omega
            · rw [← hkn]; exact hn
          have e := nearL_of key ids t (by rw [hln]; exact ht) (fun i hi => hN.le i (by rw [← hln]; exact hi)) hN.first
          have e2 := HJ.out
          rw [nearI, e] at e2
          have e3 : t = j := Int.ofNat.inj e2
          rw [e3, HZ.out] at hy
          injection hy with hy
          exact hy.symm)
        clear hkn hln hy hcy gy my cy HR hlt
        go_wp2_with (first | (with_reducible refine wpList_load_rec Ent.isRec rfl _ rfl b (off + t * 6) (by with_unfolding_all exact rfl) y.enc (Ent.len _) HY.out ?_) | (with_reducible refine wpList_store_whole rfl 24 _ _ rfl gO y.enc.toArray (by with_unfolding_all exact rfl) (by with_unfolding_all exact rfl) _ _ (Whole.below OW.out BR.out OW.out.lt) (Ent.size _) rfl (Ent.one _) ?_))
        intro wx9 q9 x9 z9
        have O9 : Hid (Ent.At wx9 gO y) := Lib.hid x9
        have B9 := Lib.hid ((BW.out.trans (BR.out.mono BW.out.size)).grown q9 (BW.out.trans (BR.out.mono BW.out.size)).size (fun k hk => by injection hk with hk; have := M_O.out; omega))
        clear q9 x9 z9
        go_wp2
        exact bodyPost_ret (results_rec Ent.isRec rfl _ _ _ _ _ rfl rfl O9.out) rfl ⟨by rw [HYZ.out], B9.out⟩
end Go.Proofs.Ytknccbdcfpncnaa
