/- Layer 24 as landed: Owner. -/
import Derived.Test.YtknccbdcfpncnaaPnE
import Derived.Test.YtknccbdcfpncnaaSlEnS
import Derived.Test.YtknccbdcfpncnaaAcE
import Derived.Test.YtknccbdcfpncnaaUc
namespace Go.Proofs.Ytknccbdcfpncnaa
set_option maxRecDepth 100000
open Go.RowKit

set_option maxRecDepth 100000
theorem as_sliceEn {F : FuncId} {args : Array Value} {w : World} {base : Nat} {L : List Ent} {B : World → Prop} (h : Calls Try.prog F args w fun e w' => ∃ v, e = .returned v ∧ OwnRows w' base 24 6 v (L.map Ent.enc) ∧ B w') :
    Calls Try.prog F args w fun e w' => ∃ A c, e = .returned (.slice A L.length c) ∧ RowsAt w' (.slice A L.length c) 6 (L.map Ent.enc) ∧ B w' :=
  h.mono fun _ _ ⟨v, he, ho, hb⟩ => by
    obtain ⟨A, c, hv⟩ := ho.form
    rw [List.length_map] at hv
    subst hv
    exact ⟨A, c, he, ho.rows, hb⟩
theorem us_set (L : List Nat) (k x : Nat) : (us L).set k (.int .u64 (x : Int)) = us (L.set k x) := by rw [us, us, List.map_set]
theorem allQ_words {me : Ent} {l : List Peer} (hi : me.id < 18446744073709551616) (hw : Words l) : ∀ x ∈ idsQ me l, x < 18446744073709551616 := by
  intro x hx
  rcases List.mem_cons.1 hx with rfl | hx
  · exact hi
  · obtain ⟨p, hp, rfl⟩ := List.mem_map.1 hx
    exact hw p hp
/-- The nearest one's place is one. -/
theorem near_at (me : Ent) (l : List Peer) (key : Nat) : ∃ (j : Nat) (x : Ent), nearI key (idsQ me l) = (j : Int) ∧ (allQ me l)[j]? = some x ∧ ownerQ me l key = x := by
  cases hn : nearL key (idsQ me l) with
  | none => rw [nearL_none] at hn; cases hn
  | some j =>
    have h1 := (nearL_spec key _ _ hn).1
    have h2 : j < (allQ me l).length := by rw [allQ_length]; rw [idsQ_length] at h1; exact h1
    have e : nearI key (idsQ me l) = (j : Int) := by rw [nearI, hn]
    refine ⟨j, (allQ me l)[j], e, List.getElem?_eq_getElem h2, ?_⟩
    rw [ownerQ, e, Int.toNat_natCast, List.getD, List.getElem?_eq_getElem h2]; rfl
set_option maxHeartbeats 1000000 in
theorem owner_any (A : Option Addr) (m cap : Nat) (l : List Peer) (me : Ent) (key : Nat) (w : World) (hl : l.length ≤ 10000) (hw : Words l) (hi : me.id < 18446744073709551616) (hk : key < 18446744073709551616) (h : RowsAt w (.slice A m cap) 8 (l.map Peer.enc)) :
    Calls Try.prog 19 #[me.val, .slice A m cap, .int .u64 (key : Int)] w fun e w' => e = .returned (ownerQ me l key).val ∧ Below w.heap.size w w' := by
  have hm : m = l.length := by have := h.size.1; simpa using this
  subst hm
  have H := Lib.hid h
  have CE := Lib.hid (fun w h => as_sliceEn (entries_any A l.length cap l w.heap.size w (Nat.le_refl _) (by omega) h))
  obtain ⟨es, hes⟩ : ∃ es, es = l.map Peer.entry := ⟨_, rfl⟩
  obtain ⟨all, hall⟩ : ∃ a, a = allQ me l := ⟨_, rfl⟩
  obtain ⟨n, hn⟩ : ∃ n, n = all.length := ⟨_, rfl⟩
  obtain ⟨ids, hids⟩ : ∃ a, a = idsQ me l := ⟨_, rfl⟩
  have HN : Hid (n ≤ 10001) := Lib.hid (by rw [hn, hall, allQ_length]; omega)
  have HNL := Lib.hid hn
  have HID : Hid (all.map Ent.id = ids) := Lib.hid (by rw [hall, hids]; exact allQ_ids me l)
  have CC : Hid (∀ g w, PartsEn w g [[me], es] → Calls Try.prog 37 #[.slice (some ⟨g, 0, none⟩) 2 2] w fun e w' => ∃ A c, e = .returned (.slice A n c) ∧ RowsAt w' (.slice A n c) 6 (all.map Ent.enc) ∧ Below w.heap.size w w') := Lib.hid (fun g w h => by
    have e : [[me], es].flatten = all := by rw [hall, hes]; simp [allQ]
    have c := as_sliceEn (concatEn_any g 2 [[me], es] rfl w.heap.size w (Nat.le_refl _) h (by decide) (by rw [e]; rw [← hn]; have := HN.out; omega))
    rw [e, ← hn] at c
    exact c)
  have CN := Lib.hid (fun A c w h => nearest_any A n c key ids w hk (by rw [hids]; exact allQ_words hi hw) (by have := HN.out; omega) h)
  obtain ⟨j, z, hj, hz, ho⟩ := near_at me l key
  rw [← hids] at hj
  rw [← hall] at hz
  rw [ho]
  simp only [hj] at CN
  simp only [← hes] at CE
  have HZ := Lib.hid hz
  have HLES : Hid ((List.map Peer.entry l).length = es.length) := Lib.hid (by rw [hes])
  clear h hl hw hi hk hes hall hn hids hj hz ho
  go_enter Try.func19, Try.ntmps19
  have L0 : Hid (RowsAt w (.slice A l.length cap) 8 (l.map Peer.enc)) := Lib.hid (H.out)
  go_wp2_with (refine wpList_box_row rfl 24 _ rfl me.enc.toArray (by with_unfolding_all exact rfl) ?_)
  intro w1 b1 x1 z1
  obtain ⟨gE, hgE⟩ : ∃ g, g = w.heap.size := ⟨_, rfl⟩
  have M_E := Lib.hid (show w.heap.size ≤ gE from by rw [hgE]; exact Nat.le_refl _)
  have L1 : Hid (RowsAt w1 (.slice A l.length cap) 8 (l.map Peer.enc)) := Lib.hid (L0.out.below b1)
  have B1 := Lib.hid b1
  rw [← hgE] at x1 ⊢
  have E1 : Hid (Ent.At w1 gE me) := Lib.hid x1
  clear b1 x1 z1 hgE L0
  go_wp2_with (first | (with_reducible refine wpList_load_whole Ent.isRec rfl _ rfl gE (by with_unfolding_all exact rfl) _ _ (Ent.len _) E1.out ?_) | (refine wpList_alloc_row rfl 24 rfl Ent.zero.enc.toArray Ent.zero_is ?_))
  intro w2 b2 x2 z2
  obtain ⟨gO, hgO⟩ : ∃ g, g = w1.heap.size := ⟨_, rfl⟩
  have N_E_O := Lib.hid (show gE < gO from by rw [hgO]; exact E1.out.lt)
  have M_O := Lib.hid (show w.heap.size ≤ gO from by rw [hgO]; exact B1.out.size)
  have L2 : Hid (RowsAt w2 (.slice A l.length cap) 8 (l.map Peer.enc)) := Lib.hid (L1.out.below b2)
  have E2 : Hid (Ent.At w2 gE me) := Lib.hid (Whole.below E1.out b2 E1.out.lt)
  have B2 := Lib.hid (B1.out.trans (b2.mono B1.out.size))
  rw [← hgO] at x2 ⊢
  have O2 : Hid (Ent.At w2 gO Ent.zero) := Lib.hid x2
  clear b2 x2 z2 hgO L1 E1 B1
  go_wp2_with (first | (with_reducible refine wpList_load_whole Ent.isRec rfl _ rfl gE (by with_unfolding_all exact rfl) _ _ (Ent.len _) E2.out ?_) | (with_reducible refine wpList_load_whole Ent.isRec rfl _ rfl gO (by with_unfolding_all exact rfl) _ _ (Ent.len _) O2.out ?_))
  refine regS_begin (From w2) (by kernel_rfl) (Below.refl _ _).drew ?_
  have b3 : Below w2.heap.size w2 w2.drew := (Below.refl _ _).drew
  generalize w2.drew = w3 at b3 ⊢
  have L3 : Hid (RowsAt w3 (.slice A l.length cap) 8 (l.map Peer.enc)) := Lib.hid (L2.out.below b3)
  have E3 : Hid (Ent.At w3 gE me) := Lib.hid (Whole.below E2.out b3 E2.out.lt)
  have O3 : Hid (Ent.At w3 gO Ent.zero) := Lib.hid (Whole.below O2.out b3 O2.out.lt)
  have B3 := Lib.hid (B2.out.trans (b3.mono B2.out.size))
  have HS3 : Hid (From w2 w3) := Lib.hid b3
  clear b3
  refine regS_take (i := 0) (v := Ent.val (me)) rfl (by kernel_rfl) (by kernel_rfl) (by kernel_rfl) (fun _ _ _ h => h) (by rfl) HS3.out ?hy0 ?_
  case hy0 => intro w' hw'; exact exec_load_whole Ent.isRec _ rfl gE rfl _ _ (Ent.len _) w' (Whole.below E2.out hw' E2.out.lt)
  simp only [Act.put, List.setIfInBounds_toArray, List.set_cons_zero, List.set_cons_succ]
  refine regS_take (i := 2) (v := ?_) rfl (by kernel_rfl) (by kernel_rfl) (by kernel_rfl) (fun _ _ _ h => h) (by rfl) HS3.out ?hy2 ?_
  case hy2 => intro w' hw'; go_simp; (try with_reducible rfl)
  simp only [Act.put, List.setIfInBounds_toArray, List.set_cons_zero, List.set_cons_succ]
  refine regS_two (i := 1) (j := 3) rfl rfl (by kernel_rfl) (fun K' hK => ?_) (fun K' hK => ?_)
  · refine wp_oneEn _ rfl me (by with_unfolding_all exact rfl) ?_
    intro w4 b4 x4
    obtain ⟨gX, hgX⟩ : ∃ g, g = w3.heap.size := ⟨_, rfl⟩
    have L4 : Hid (RowsAt w4 (.slice A l.length cap) 8 (l.map Peer.enc)) := Lib.hid (L3.out.below b4)
    have E4 : Hid (Ent.At w4 gE me) := Lib.hid (Whole.below E3.out b4 E3.out.lt)
    have O4 : Hid (Ent.At w4 gO Ent.zero) := Lib.hid (Whole.below O3.out b4 O3.out.lt)
    have B4 := Lib.hid (B3.out.trans (b4.mono B3.out.size))
    have HS4 : Hid (From w2 w4) := Lib.hid (HS3.out.trans (b4.mono HS3.out.size))
    clear b4
    rw [← hgX] at x4 ⊢
    have X4 : Hid (RowsAt w4 (.slice (some ⟨gX, 0, none⟩) 1 1) 6 ([me].map Ent.enc)) := Lib.hid x4
    clear x4 hgX
    refine hK.out _ _ HS4.out ?_
    clear hK K' L3 E3 O3 B3 HS3
    refine regS_do (i := 3) rfl (by kernel_rfl) (fun K' hK => ?_)
    go_simp
    refine (CE.out w4 L4.out).mono ?_
    rintro e5 w5 ⟨A2, k2, rfl, o14, b5⟩
    have L5 : Hid (RowsAt w5 (.slice A l.length cap) 8 (l.map Peer.enc)) := Lib.hid (L4.out.below b5)
    have E5 : Hid (Ent.At w5 gE me) := Lib.hid (Whole.below E4.out b5 E4.out.lt)
    have O5 : Hid (Ent.At w5 gO Ent.zero) := Lib.hid (Whole.below O4.out b5 O4.out.lt)
    have X5 : Hid (RowsAt w5 (.slice (some ⟨gX, 0, none⟩) 1 1) 6 ([me].map Ent.enc)) := Lib.hid (X4.out.below b5)
    have B5 := Lib.hid (B4.out.trans (b5.mono B4.out.size))
    have HS5 : Hid (From w2 w5) := Lib.hid (HS4.out.trans (b5.mono HS4.out.size))
    clear b5
    have D5 : Hid (RowsAt w5 (.slice A2 es.length k2) 6 (es.map Ent.enc)) := Lib.hid o14
    refine hK.out _ _ HS5.out ?_
    clear hK K' L4 E4 O4 X4 B4 HS4 o14
    refine regS_do (i := 4) rfl (by kernel_rfl) (fun K' hK => ?_)
    refine wp_build_2En _ _ rfl (some ⟨gX, 0, none⟩) 1 1 [me] A2 es.length k2 es (by with_unfolding_all exact rfl) (by with_unfolding_all exact rfl) X5.out D5.out ?_
    intro w6 b6 x6
    obtain ⟨gW, hgW⟩ : ∃ g, g = w5.heap.size := ⟨_, rfl⟩
    have L6 : Hid (RowsAt w6 (.slice A l.length cap) 8 (l.map Peer.enc)) := Lib.hid (L5.out.below b6)
    have E6 : Hid (Ent.At w6 gE me) := Lib.hid (Whole.below E5.out b6 E5.out.lt)
    have O6 : Hid (Ent.At w6 gO Ent.zero) := Lib.hid (Whole.below O5.out b6 O5.out.lt)
    have X6 : Hid (RowsAt w6 (.slice (some ⟨gX, 0, none⟩) 1 1) 6 ([me].map Ent.enc)) := Lib.hid (X5.out.below b6)
    have D6 : Hid (RowsAt w6 (.slice A2 es.length k2) 6 (es.map Ent.enc)) := Lib.hid (D5.out.below b6)
    have B6 := Lib.hid (B5.out.trans (b6.mono B5.out.size))
    have HS6 : Hid (From w2 w6) := Lib.hid (HS5.out.trans (b6.mono HS5.out.size))
    clear b6
    rw [← hgW] at x6 ⊢
    have W6 : Hid (PartsEn w6 gW [[me], es]) := Lib.hid x6
    clear x6 hgW
    refine hK.out _ _ HS6.out ?_
    clear hK K' L5 E5 O5 X5 D5 B5 HS5
    refine regS_do (i := 5) rfl (by kernel_rfl) (fun K' hK => ?_)
    go_simp
    refine (CC.out _ w6 W6.out).mono ?_
    rintro e7 w7 ⟨A3, k3, rfl, o16, b7⟩
    have L7 : Hid (RowsAt w7 (.slice A l.length cap) 8 (l.map Peer.enc)) := Lib.hid (L6.out.below b7)
    have E7 : Hid (Ent.At w7 gE me) := Lib.hid (Whole.below E6.out b7 E6.out.lt)
    have O7 : Hid (Ent.At w7 gO Ent.zero) := Lib.hid (Whole.below O6.out b7 O6.out.lt)
    have X7 : Hid (RowsAt w7 (.slice (some ⟨gX, 0, none⟩) 1 1) 6 ([me].map Ent.enc)) := Lib.hid (X6.out.below b7)
    have D7 : Hid (RowsAt w7 (.slice A2 es.length k2) 6 (es.map Ent.enc)) := Lib.hid (D6.out.below b7)
    have W7 : Hid (PartsEn w7 gW [[me], es]) := Lib.hid (W6.out.below b7)
    have B7 := Lib.hid (B6.out.trans (b7.mono B6.out.size))
    have HS7 : Hid (From w2 w7) := Lib.hid (HS6.out.trans (b7.mono HS6.out.size))
    clear b7
    have R7 : Hid (RowsAt w7 (.slice A3 n k3) 6 (all.map Ent.enc)) := Lib.hid o16
    refine hK.out _ _ HS7.out ?_
    clear hK K' L6 E6 O6 X6 D6 W6 B6 HS6 o16
    refine regS_take (i := 6) (v := ?_) rfl (by kernel_rfl) (by kernel_rfl) (by kernel_rfl) (fun _ _ _ h => h) (by rfl) HS7.out ?hy6 ?_
    case hy6 => intro w' hw'; go_simp; (try with_reducible rfl)
    simp only [Act.put, List.setIfInBounds_toArray, List.set_cons_zero, List.set_cons_succ]
    refine regS_end (by kernel_rfl) ?_
    have HSE := Lib.hid HS7.out
    clear HS7 L2 E2 O2
    have OZ := Lib.hid O7.out
    have RZ := Lib.hid R7.out
    have BW := Lib.hid B7.out
    have BZ := Lib.hid (Below.refl w7.heap.size w7)
    go_wp2_with (with_reducible refine wpList_make_us rfl _ _ rfl n (by with_unfolding_all exact rfl) (by with_unfolding_all exact rfl) (by have := HN.out; omega) ?_)
    intro wm xm bm zm
    obtain ⟨gU, hgU⟩ : ∃ g, g = w7.heap.size := ⟨_, rfl⟩
    have HGU := Lib.hid hgU
    have UM := Lib.hid xm
    rw [← hgU] at UM ⊢
    have BM := Lib.hid bm
    clear bm xm zm hgU BZ E7 L7 O7 R7 D7 X7 W7
    go_wp2_with fail
    go_loopw [22] (fun i wr => ∃ k : Nat, k ≤ n ∧ i = .int .i64 (k : Int) ∧ Whole wr gU 22 (us (ids.take k ++ List.replicate (n - k) 0)).toArray ∧ Below w7.heap.size w7 wr) (fun i _ => n - (intOf i).toNat)
    case atStart => exact ⟨0, Nat.zero_le _, rfl, UM.out, BM.out⟩
    case round =>
      obtain ⟨k, hk, rfl, hu, hb⟩ := hrel
      have UR := Lib.hid hu
      have BR := Lib.hid hb
      clear hu hb UM BM
      by_cases hlt : k < n
      · have dk : decide ((k : Int) < (n : Int)) = true := by simp; omega
        have dkn : decide (k < n) = true := by simp; omega
        have jk : (k : Int) < (n : Int) := by omega
        obtain ⟨x, hx⟩ : ∃ x, all[k]? = some x := ⟨_, List.getElem?_eq_getElem (by rw [← HNL.out]; exact hlt)⟩
        obtain ⟨b, off, rfl, hc⟩ := row_ofEn RZ.out hx
        have HX := Lib.hid (hc wr BR.out)
        have r4 : IntKind.i64.wrap ((k : Int) + 1) = ((k + 1 : Nat) : Int) := by have := HN.out; rw [IntWalk.i64_in _ (by omega)]; omega
        have hix : ids[k]? = some x.id := by rw [← HID.out, List.getElem?_map, hx]; rfl
        have HOLD : Hid ((us (ids.take k ++ List.replicate (n - k) 0)).toArray[k]? = some (.int .u64 ((0 : Nat) : Int))) := Lib.hid (by
          rw [List.getElem?_toArray, us, List.getElem?_map, List.getElem?_append_right (by rw [List.length_take]; omega)]
          have e : k - (ids.take k).length = 0 := by
            have := (List.getElem?_eq_some_iff.1 hix).1
            rw [List.length_take]; omega
          rw [e, List.getElem?_replicate, if_pos (by omega)]
          rfl)
        have HSET : Hid ((ids.take k ++ List.replicate (n - k) 0).set k x.id = ids.take (k + 1) ++ List.replicate (n - (k + 1)) 0) := Lib.hid (by
          have := (List.getElem?_eq_some_iff.1 hix).1
          have q := set_next (ids.take k) (List.replicate n 0) k x.id (by rw [List.length_take]; omega) (by rw [List.length_replicate]; exact hlt)
          rw [List.drop_replicate, List.drop_replicate] at q
          rw [q, List.take_add_one, hix]
          rfl)
        clear hc hx hix
        go_wp2_with (first | (refine wpList_alloc_row rfl 24 rfl Ent.zero.enc.toArray Ent.zero_is ?_) | (with_reducible refine wpList_load_rec Ent.isRec rfl _ rfl b (off + k * 6) (by with_unfolding_all exact rfl) x.enc (Ent.len _) HX.out ?_))
        intro w8 b8 x8 z8
        obtain ⟨gX, hgX⟩ : ∃ g, g = wr.heap.size := ⟨_, rfl⟩
        have N_U_X := Lib.hid (show gU < gX from by rw [hgX]; exact UR.out.lt)
        have M_X := Lib.hid (show w7.heap.size ≤ gX from by rw [hgX]; exact BR.out.size)
        have U8 : Hid (Whole w8 gU 22 (us (ids.take k ++ List.replicate (n - k) 0)).toArray) := Lib.hid (Whole.below UR.out b8 UR.out.lt)
        have B8 := Lib.hid (BR.out.trans (b8.mono BR.out.size))
        rw [← hgX] at x8 ⊢
        have X8 : Hid (Ent.At w8 gX Ent.zero) := Lib.hid x8
        clear b8 x8 z8 hgX UR BR
        clear HX
        go_wp2_with (first | (with_reducible refine wpList_load_whole Ent.isRec rfl _ rfl gX (by with_unfolding_all exact rfl) _ _ (Ent.len _) X8.out ?_) | (with_reducible refine wpList_store_whole rfl 24 _ _ rfl gX x.enc.toArray (by with_unfolding_all exact rfl) (by with_unfolding_all exact rfl) _ _ X8.out (Ent.size _) rfl (Ent.one _) ?_))
        intro w9 q9 x9 z9
        have X9 : Hid (Ent.At w9 gX x) := Lib.hid x9
        have U9 : Hid (Whole w9 gU 22 (us (ids.take k ++ List.replicate (n - k) 0)).toArray) := Lib.hid (grown_far U8.out q9 (by have := N_U_X.out; omega))
        have B9 := Lib.hid (B8.out.grown q9 B8.out.size (fun k hk => by injection hk with hk; have := M_X.out; omega))
        clear q9 x9 z9 X8 U8 B8
        have c1 := Ent.At.at_id X9.out
        go_wp2_with (with_reducible refine wpList_put_cell 22 ⟨by kernel_rfl, by kernel_rfl⟩ rfl _ _ rfl gU k (by with_unfolding_all exact rfl) (.int .u64 (x.id : Int)) (by with_unfolding_all exact rfl) (by with_unfolding_all exact rfl) (by with_unfolding_all exact rfl) _ _ U9.out _ HOLD.out ?_)
        intro wx5 q5 y5 z5
        have U5 : Hid (Whole wx5 gU 22 (us (ids.take (k + 1) ++ List.replicate (n - (k + 1)) 0)).toArray) := Lib.hid (by simpa only [us_set, HSET.out] using y5)
        have B5 := Lib.hid (B9.out.grown q5 B9.out.size (fun k hk => by injection hk with hk; have := HGU.out; omega))
        clear q5 y5 z5 c1 X9 U9 B9
        go_wp2
        exact ⟨⟨k + 1, by omega, by go_num, U5.out, B5.out⟩, by simp [intOf]; omega⟩
      · have hkn : k = n := by omega
        have dk : decide ((k : Int) < (n : Int)) = false := by simp; omega
        have dkn : decide (k < n) = false := by simp; omega
        have hln : ids.length = n := by rw [← HID.out, List.length_map]; exact HNL.out.symm
        have UU : Hid (UsAt wr (.slice (some ⟨gU, 0, none⟩) n n) ids) := Lib.hid (block_us (by
          have q := UR.out
          rw [hkn, List.take_of_length_le (Nat.le_of_eq hln), Nat.sub_self, List.replicate_zero, List.append_nil] at q
          exact q) hln.symm (Nat.le_refl _))
        have hjn : j < n := by rw [HNL.out]; exact (List.getElem?_eq_some_iff.1 HZ.out).1
        have jj : (j : Int) < (n : Int) := by omega
        obtain ⟨b, off, rfl, hc⟩ := row_ofEn RZ.out HZ.out
        have HX := Lib.hid hc
        clear hc hkn hln hjn UR hlt
        go_wp2_with fail
        refine (CN.out _ _ _ UU.out).mono ?_
        rintro e wn ⟨rfl, bn⟩
        have BN := Lib.hid (BR.out.trans (bn.mono BR.out.size))
        clear bn BR UU CN
        go_wp2_with (first | (with_reducible refine wpList_load_rec Ent.isRec rfl _ rfl b (off + j * 6) (by with_unfolding_all exact rfl) z.enc (Ent.len _) (HX.out wn BN.out) ?_) | (with_reducible refine wpList_store_whole rfl 24 _ _ rfl gO z.enc.toArray (by with_unfolding_all exact rfl) (by with_unfolding_all exact rfl) _ _ (Whole.below OZ.out BN.out OZ.out.lt) (Ent.size _) rfl (Ent.one _) ?_))
        intro wx9 q9 x9 z9
        have O9 : Hid (Ent.At wx9 gO z) := Lib.hid x9
        have B9 := Lib.hid ((BW.out.trans (BN.out.mono BW.out.size)).grown q9 (BW.out.trans (BN.out.mono BW.out.size)).size (fun k hk => by injection hk with hk; have := M_O.out; omega))
        clear q9 x9 z9 BN
        go_wp2
        exact bodyPost_ret (results_rec Ent.isRec rfl _ _ _ _ _ rfl rfl O9.out) rfl ⟨rfl, B9.out⟩
  · go_simp
    refine (CE.out w3 L3.out).mono ?_
    rintro e4 w4 ⟨A2, k2, rfl, o14, b4⟩
    have L4 : Hid (RowsAt w4 (.slice A l.length cap) 8 (l.map Peer.enc)) := Lib.hid (L3.out.below b4)
    have E4 : Hid (Ent.At w4 gE me) := Lib.hid (Whole.below E3.out b4 E3.out.lt)
    have O4 : Hid (Ent.At w4 gO Ent.zero) := Lib.hid (Whole.below O3.out b4 O3.out.lt)
    have B4 := Lib.hid (B3.out.trans (b4.mono B3.out.size))
    have HS4 : Hid (From w2 w4) := Lib.hid (HS3.out.trans (b4.mono HS3.out.size))
    clear b4
    have D4 : Hid (RowsAt w4 (.slice A2 es.length k2) 6 (es.map Ent.enc)) := Lib.hid o14
    refine hK.out _ _ HS4.out ?_
    clear hK K' L3 E3 O3 B3 HS3 o14
    refine regS_do (i := 1) rfl (by kernel_rfl) (fun K' hK => ?_)
    refine wp_oneEn _ rfl me (by with_unfolding_all exact rfl) ?_
    intro w5 b5 x5
    obtain ⟨gX, hgX⟩ : ∃ g, g = w4.heap.size := ⟨_, rfl⟩
    have L5 : Hid (RowsAt w5 (.slice A l.length cap) 8 (l.map Peer.enc)) := Lib.hid (L4.out.below b5)
    have E5 : Hid (Ent.At w5 gE me) := Lib.hid (Whole.below E4.out b5 E4.out.lt)
    have O5 : Hid (Ent.At w5 gO Ent.zero) := Lib.hid (Whole.below O4.out b5 O4.out.lt)
    have D5 : Hid (RowsAt w5 (.slice A2 es.length k2) 6 (es.map Ent.enc)) := Lib.hid (D4.out.below b5)
    have B5 := Lib.hid (B4.out.trans (b5.mono B4.out.size))
    have HS5 : Hid (From w2 w5) := Lib.hid (HS4.out.trans (b5.mono HS4.out.size))
    clear b5
    rw [← hgX] at x5 ⊢
    have X5 : Hid (RowsAt w5 (.slice (some ⟨gX, 0, none⟩) 1 1) 6 ([me].map Ent.enc)) := Lib.hid x5
    clear x5 hgX
    refine hK.out _ _ HS5.out ?_
    clear hK K' L4 E4 O4 D4 B4 HS4
    refine regS_do (i := 4) rfl (by kernel_rfl) (fun K' hK => ?_)
    refine wp_build_2En _ _ rfl (some ⟨gX, 0, none⟩) 1 1 [me] A2 es.length k2 es (by with_unfolding_all exact rfl) (by with_unfolding_all exact rfl) X5.out D5.out ?_
    intro w6 b6 x6
    obtain ⟨gW, hgW⟩ : ∃ g, g = w5.heap.size := ⟨_, rfl⟩
    have L6 : Hid (RowsAt w6 (.slice A l.length cap) 8 (l.map Peer.enc)) := Lib.hid (L5.out.below b6)
    have E6 : Hid (Ent.At w6 gE me) := Lib.hid (Whole.below E5.out b6 E5.out.lt)
    have O6 : Hid (Ent.At w6 gO Ent.zero) := Lib.hid (Whole.below O5.out b6 O5.out.lt)
    have D6 : Hid (RowsAt w6 (.slice A2 es.length k2) 6 (es.map Ent.enc)) := Lib.hid (D5.out.below b6)
    have X6 : Hid (RowsAt w6 (.slice (some ⟨gX, 0, none⟩) 1 1) 6 ([me].map Ent.enc)) := Lib.hid (X5.out.below b6)
    have B6 := Lib.hid (B5.out.trans (b6.mono B5.out.size))
    have HS6 : Hid (From w2 w6) := Lib.hid (HS5.out.trans (b6.mono HS5.out.size))
    clear b6
    rw [← hgW] at x6 ⊢
    have W6 : Hid (PartsEn w6 gW [[me], es]) := Lib.hid x6
    clear x6 hgW
    refine hK.out _ _ HS6.out ?_
    clear hK K' L5 E5 O5 D5 X5 B5 HS5
    refine regS_do (i := 5) rfl (by kernel_rfl) (fun K' hK => ?_)
    go_simp
    refine (CC.out _ w6 W6.out).mono ?_
    rintro e7 w7 ⟨A3, k3, rfl, o16, b7⟩
    have L7 : Hid (RowsAt w7 (.slice A l.length cap) 8 (l.map Peer.enc)) := Lib.hid (L6.out.below b7)
    have E7 : Hid (Ent.At w7 gE me) := Lib.hid (Whole.below E6.out b7 E6.out.lt)
    have O7 : Hid (Ent.At w7 gO Ent.zero) := Lib.hid (Whole.below O6.out b7 O6.out.lt)
    have D7 : Hid (RowsAt w7 (.slice A2 es.length k2) 6 (es.map Ent.enc)) := Lib.hid (D6.out.below b7)
    have X7 : Hid (RowsAt w7 (.slice (some ⟨gX, 0, none⟩) 1 1) 6 ([me].map Ent.enc)) := Lib.hid (X6.out.below b7)
    have W7 : Hid (PartsEn w7 gW [[me], es]) := Lib.hid (W6.out.below b7)
    have B7 := Lib.hid (B6.out.trans (b7.mono B6.out.size))
    have HS7 : Hid (From w2 w7) := Lib.hid (HS6.out.trans (b7.mono HS6.out.size))
    clear b7
    have R7 : Hid (RowsAt w7 (.slice A3 n k3) 6 (all.map Ent.enc)) := Lib.hid o16
    refine hK.out _ _ HS7.out ?_
    clear hK K' L6 E6 O6 D6 X6 W6 B6 HS6 o16
    refine regS_take (i := 6) (v := ?_) rfl (by kernel_rfl) (by kernel_rfl) (by kernel_rfl) (fun _ _ _ h => h) (by rfl) HS7.out ?hy6 ?_
    case hy6 => intro w' hw'; go_simp; (try with_reducible rfl)
    simp only [Act.put, List.setIfInBounds_toArray, List.set_cons_zero, List.set_cons_succ]
    refine regS_end (by kernel_rfl) ?_
    have HSE := Lib.hid HS7.out
    clear HS7 L2 E2 O2
    have OZ := Lib.hid O7.out
    have RZ := Lib.hid R7.out
    have BW := Lib.hid B7.out
    have BZ := Lib.hid (Below.refl w7.heap.size w7)
    go_wp2_with (with_reducible refine wpList_make_us rfl _ _ rfl n (by with_unfolding_all exact rfl) (by with_unfolding_all exact rfl) (by have := HN.out; omega) ?_)
    intro wm xm bm zm
    obtain ⟨gU, hgU⟩ : ∃ g, g = w7.heap.size := ⟨_, rfl⟩
    have HGU := Lib.hid hgU
    have UM := Lib.hid xm
    rw [← hgU] at UM ⊢
    have BM := Lib.hid bm
    clear bm xm zm hgU BZ E7 L7 O7 R7 D7 X7 W7
    go_wp2_with fail
    go_loopw [22] (fun i wr => ∃ k : Nat, k ≤ n ∧ i = .int .i64 (k : Int) ∧ Whole wr gU 22 (us (ids.take k ++ List.replicate (n - k) 0)).toArray ∧ Below w7.heap.size w7 wr) (fun i _ => n - (intOf i).toNat)
    case atStart => exact ⟨0, Nat.zero_le _, rfl, UM.out, BM.out⟩
    case round =>
      obtain ⟨k, hk, rfl, hu, hb⟩ := hrel
      have UR := Lib.hid hu
      have BR := Lib.hid hb
      clear hu hb UM BM
      by_cases hlt : k < n
      · have dk : decide ((k : Int) < (n : Int)) = true := by simp; omega
        have dkn : decide (k < n) = true := by simp; omega
        have jk : (k : Int) < (n : Int) := by omega
        obtain ⟨x, hx⟩ : ∃ x, all[k]? = some x := ⟨_, List.getElem?_eq_getElem (by rw [← HNL.out]; exact hlt)⟩
        obtain ⟨b, off, rfl, hc⟩ := row_ofEn RZ.out hx
        have HX := Lib.hid (hc wr BR.out)
        have r4 : IntKind.i64.wrap ((k : Int) + 1) = ((k + 1 : Nat) : Int) := by have := HN.out; rw [IntWalk.i64_in _ (by omega)]; omega
        have hix : ids[k]? = some x.id := by rw [← HID.out, List.getElem?_map, hx]; rfl
        have HOLD : Hid ((us (ids.take k ++ List.replicate (n - k) 0)).toArray[k]? = some (.int .u64 ((0 : Nat) : Int))) := Lib.hid (by
          rw [List.getElem?_toArray, us, List.getElem?_map, List.getElem?_append_right (by rw [List.length_take]; omega)]
          have e : k - (ids.take k).length = 0 := by
            have := (List.getElem?_eq_some_iff.1 hix).1
            rw [List.length_take]; omega
          rw [e, List.getElem?_replicate, if_pos (by omega)]
          rfl)
        have HSET : Hid ((ids.take k ++ List.replicate (n - k) 0).set k x.id = ids.take (k + 1) ++ List.replicate (n - (k + 1)) 0) := Lib.hid (by
          have := (List.getElem?_eq_some_iff.1 hix).1
          have q := set_next (ids.take k) (List.replicate n 0) k x.id (by rw [List.length_take]; omega) (by rw [List.length_replicate]; exact hlt)
          rw [List.drop_replicate, List.drop_replicate] at q
          rw [q, List.take_add_one, hix]
          rfl)
        clear hc hx hix
        go_wp2_with (first | (refine wpList_alloc_row rfl 24 rfl Ent.zero.enc.toArray Ent.zero_is ?_) | (with_reducible refine wpList_load_rec Ent.isRec rfl _ rfl b (off + k * 6) (by with_unfolding_all exact rfl) x.enc (Ent.len _) HX.out ?_))
        intro w8 b8 x8 z8
        obtain ⟨gX, hgX⟩ : ∃ g, g = wr.heap.size := ⟨_, rfl⟩
        have N_U_X := Lib.hid (show gU < gX from by rw [hgX]; exact UR.out.lt)
        have M_X := Lib.hid (show w7.heap.size ≤ gX from by rw [hgX]; exact BR.out.size)
        have U8 : Hid (Whole w8 gU 22 (us (ids.take k ++ List.replicate (n - k) 0)).toArray) := Lib.hid (Whole.below UR.out b8 UR.out.lt)
        have B8 := Lib.hid (BR.out.trans (b8.mono BR.out.size))
        rw [← hgX] at x8 ⊢
        have X8 : Hid (Ent.At w8 gX Ent.zero) := Lib.hid x8
        clear b8 x8 z8 hgX UR BR
        clear HX
        go_wp2_with (first | (with_reducible refine wpList_load_whole Ent.isRec rfl _ rfl gX (by with_unfolding_all exact rfl) _ _ (Ent.len _) X8.out ?_) | (with_reducible refine wpList_store_whole rfl 24 _ _ rfl gX x.enc.toArray (by with_unfolding_all exact rfl) (by with_unfolding_all exact rfl) _ _ X8.out (Ent.size _) rfl (Ent.one _) ?_))
        intro w9 q9 x9 z9
        have X9 : Hid (Ent.At w9 gX x) := Lib.hid x9
        have U9 : Hid (Whole w9 gU 22 (us (ids.take k ++ List.replicate (n - k) 0)).toArray) := Lib.hid (grown_far U8.out q9 (by have := N_U_X.out; omega))
        have B9 := Lib.hid (B8.out.grown q9 B8.out.size (fun k hk => by injection hk with hk; have := M_X.out; omega))
        clear q9 x9 z9 X8 U8 B8
        have c1 := Ent.At.at_id X9.out
        go_wp2_with (with_reducible refine wpList_put_cell 22 ⟨by kernel_rfl, by kernel_rfl⟩ rfl _ _ rfl gU k (by with_unfolding_all exact rfl) (.int .u64 (x.id : Int)) (by with_unfolding_all exact rfl) (by with_unfolding_all exact rfl) (by with_unfolding_all exact rfl) _ _ U9.out _ HOLD.out ?_)
        intro wx5 q5 y5 z5
        have U5 : Hid (Whole wx5 gU 22 (us (ids.take (k + 1) ++ List.replicate (n - (k + 1)) 0)).toArray) := Lib.hid (by simpa only [us_set, HSET.out] using y5)
        have B5 := Lib.hid (B9.out.grown q5 B9.out.size (fun k hk => by injection hk with hk; have := HGU.out; omega))
        clear q5 y5 z5 c1 X9 U9 B9
        go_wp2
        exact ⟨⟨k + 1, by omega, by go_num, U5.out, B5.out⟩, by simp [intOf]; omega⟩
      · have hkn : k = n := by omega
        have dk : decide ((k : Int) < (n : Int)) = false := by simp; omega
        have dkn : decide (k < n) = false := by simp; omega
        have hln : ids.length = n := by rw [← HID.out, List.length_map]; exact HNL.out.symm
        have UU : Hid (UsAt wr (.slice (some ⟨gU, 0, none⟩) n n) ids) := Lib.hid (block_us (by
          have q := UR.out
          rw [hkn, List.take_of_length_le (Nat.le_of_eq hln), Nat.sub_self, List.replicate_zero, List.append_nil] at q
          exact q) hln.symm (Nat.le_refl _))
        have hjn : j < n := by rw [HNL.out]; exact (List.getElem?_eq_some_iff.1 HZ.out).1
        have jj : (j : Int) < (n : Int) := by omega
        obtain ⟨b, off, rfl, hc⟩ := row_ofEn RZ.out HZ.out
        have HX := Lib.hid hc
        clear hc hkn hln hjn UR hlt
        go_wp2_with fail
        refine (CN.out _ _ _ UU.out).mono ?_
        rintro e wn ⟨rfl, bn⟩
        have BN := Lib.hid (BR.out.trans (bn.mono BR.out.size))
        clear bn BR UU CN
        go_wp2_with (first | (with_reducible refine wpList_load_rec Ent.isRec rfl _ rfl b (off + j * 6) (by with_unfolding_all exact rfl) z.enc (Ent.len _) (HX.out wn BN.out) ?_) | (with_reducible refine wpList_store_whole rfl 24 _ _ rfl gO z.enc.toArray (by with_unfolding_all exact rfl) (by with_unfolding_all exact rfl) _ _ (Whole.below OZ.out BN.out OZ.out.lt) (Ent.size _) rfl (Ent.one _) ?_))
        intro wx9 q9 x9 z9
        have O9 : Hid (Ent.At wx9 gO z) := Lib.hid x9
        have B9 := Lib.hid ((BW.out.trans (BN.out.mono BW.out.size)).grown q9 (BW.out.trans (BN.out.mono BW.out.size)).size (fun k hk => by injection hk with hk; have := M_O.out; omega))
        clear q9 x9 z9 BN
        go_wp2
        exact bodyPost_ret (results_rec Ent.isRec rfl _ _ _ _ _ rfl rfl O9.out) rfl ⟨rfl, B9.out⟩
end Go.Proofs.Ytknccbdcfpncnaa
