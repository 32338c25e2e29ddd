/- The document's reader of messages: items. (Written by tools/mkmrlist.py.) -/
import Derived.Test.YtnjeopgcpffkcaaMMrE
namespace Go.Proofs.Ytnjeopgcpffkcaa
set_option maxRecDepth 100000
open Go.RowKit

set_option maxHeartbeats 4000000 in
theorem refTake_8 (w0 : World) (gT gQ gO base : Nat) (A : Option Addr) (cap : Nat) (b : List UInt8) (hb : Ttb w0 gT gQ gO base A b) (T : Tk) (hits : T.m.its = []) (w : World) (hh : Ttk w0 gT gQ gO base A cap b T w) :
    Calls Try.prog 52 #[.pointer (some ⟨gT, 0, none⟩), .int .u8 116] w fun x w' => x = .returned (.tuple #[]) ∧ Ttk w0 gT gQ gO base A cap b (takeF T 8) w' := by
  obtain ⟨e, t, h⟩ := hh
  have HK := Lib.hid hb
  have CC := Lib.hid (list_any w0 gT gQ gO base A cap b hb T e t w h 16)
  obtain ⟨n, hn⟩ : ∃ n, n = manyN T.r 16 := ⟨_, rfl⟩
  have HN : Hid (n ≤ 16) := Lib.hid (by rw [hn]; exact manyN_le _ _)
  obtain ⟨R, hR⟩ : ∃ R, R = itemsT n (rawS T.r 1) T.bad [] := ⟨_, rfl⟩
  obtain ⟨bigX, hbig⟩ : ∃ q, q = (T.big || manyX T.r 16) := ⟨_, rfl⟩
  have HF : Hid (takeF T 8 = ⟨R.1, T.m.with8 R.2.2, R.2.1, bigX⟩) := Lib.hid (by rw [hR, hn, hbig]; rfl)
  have HR : Hid (itemsT (n - 0) (rawS T.r 1) T.bad [] = R) := Lib.hid hR.symm
  have HM : Hid (T.m = T.m.with8 []) := Lib.hid (by have := hits; cases hT : T.m; rw [hT] at this; simp only at this; subst this; rfl)
  rw [← hn, ← hbig] at CC
  rw [HF.out]
  clear h hb hn hR hbig hits
  go_enter Try.func52, Try.ntmps52
  go_wp2_with fail
  refine CC.out.mono ?_
  rintro x w1 ⟨rfl, h1⟩
  rw [HM.out] at h1
  have H1 := Lib.hid h1
  clear h1 CC
  go_wp2_with fail
  go_loopw [9] (fun i wr => ∃ (k : Nat) (r : RS) (x : Bool) (l : List Item) (e t : Row), k ≤ n ∧ i = .int .i64 (k : Int) ∧ Ttz w0 gT gQ gO base A cap b ⟨r, T.m.with8 l, x, bigX⟩ e t wr ∧ itemsT (n - k) r x l = R ∧ l.length = k) (fun i _ => n - (intOf i).toNat)
  case atStart => exact ⟨0, _, _, [], e, t, Nat.zero_le _, rfl, H1.out, HR.out, rfl⟩
  case round =>
    obtain ⟨k, r, x, l, e1, t1, hk, rfl, hz, hT, hl⟩ := hrel
    obtain ⟨vA, vN, vC⟩ := t1
    have H0 := Lib.hid hz
    have T0 := Lib.hid hT
    have L0 := Lib.hid hl
    clear hz hT hl H1 HR
    by_cases hlt : k < n
    · have dk : decide ((k : Int) < (n : Int)) = true := by simp; omega
      have dk2 : decide (k < n) = true := by simpa using hlt
      have jk : (k : Int) < (n : Int) := by omega
      have r4 : IntKind.i64.wrap ((k : Int) + 1) = ((k + 1 : Nat) : Int) := by have := HN.out; rw [IntWalk.i64_in _ (by omega)]; omega
      have HT : Hid (itemsT (n - (k + 1)) (itemS r) (x || itemX r) (l ++ [item1 r]) = R) := Lib.hid (by
        have q := T0.out
        rw [show n - k = (n - (k + 1)) + 1 by omega, itemsT] at q
        exact q)
      have rv := numO_i64 (textS (textS r 24) 32) 4 (by decide)
      have HI : Hid (item1 r = ⟨textO r 24, textO (textS r 24) 32, (numO (textS (textS r 24) 32) 4 : Int), truthB (rawS (textS (textS r 24) 32) 4)⟩) := Lib.hid rfl
      have HS : Hid (itemS r = rawS (rawS (textS (textS r 24) 32) 4) 1) := Lib.hid rfl
      have HO : Hid (itemX r = truthX (rawS (textS (textS r 24) 32) 4)) := Lib.hid rfl
      go_wp2_with (first | (with_reducible refine wpList_build_rec rfl 29 _ rfl #[] (by with_unfolding_all exact rfl) Item.zero.enc.toArray (by kernel_rfl) ?_) | (refine wpList_alloc_row rfl 29 rfl Item.zero.enc.toArray Item.zero_is ?_))
      intro w1 b1 x1 z1
      obtain ⟨gE, hgE⟩ : ∃ q, q = wr.heap.size := ⟨_, rfl⟩
      rw [← hgE] at x1 ⊢
      have X1 : Hid (Item.At w1 gE Item.zero) := Lib.hid x1
      have H1 := Lib.hid (H0.out.below b1)
      have NE := Lib.hid (show (Value.slice vA vN vC).ownBlock ≠ some gE from fun e => by have := (H0.out.lists.its.lt _ e).2; omega)
      have NI := Lib.hid (show e1.v.ownBlock ≠ some gE from fun e => by have := (H0.out.lists.es.lt _ e).2; omega)
      have NT := Lib.hid (show gE ≠ gT from by have := H0.out.tt.lt; omega)
      have NB := Lib.hid (show base ≤ gE from by have := H0.out.base; omega)
      have NQ := Lib.hid (show gE ≠ gQ from by have := HK.out.q; have := NB.out; omega)
      clear b1 x1 z1 H0 hgE T0
      go_wp2_with (with_reducible refine wpList_store_whole rfl 29 _ _ rfl gE Item.zero.enc.toArray (by with_unfolding_all exact rfl) (by with_unfolding_all exact rfl) _ _ X1.out (Item.size _) rfl (Item.one _) ?_)
      intro w2 q2 x2 z2
      have X2 : Hid (Item.At w2 gE Item.zero) := Lib.hid x2
      have H2 := Lib.hid (H1.out.aside HK.out q2 NB.out NI.out NE.out)
      clear q2 x2 z2 X1 H1
      have CT := Lib.hid (rfText gQ 24 A cap b r w2 H2.out.rd HK.out.small)
      have c0 : w2.cell? ⟨gT, 0, none⟩ = some (.pointer (some ⟨gQ, 0, none⟩)) := H2.out.tt.at_ 0
      go_wp2_with fail
      refine CT.out.mono ?_
      rintro y w3 ⟨rfl, hr, hg⟩
      have H3 := Lib.hid (H2.out.read HK.out hr hg)
      have X3 : Hid (Item.At w3 gE _) := Lib.hid (grown_far X2.out hg NQ.out)
      clear hr hg CT c0 H2 X2
      go_wp2_with (with_reducible refine wpList_put_cell 9 ⟨by kernel_rfl, by kernel_rfl⟩ rfl _ _ rfl gE 0 (by with_unfolding_all exact rfl) (.string ⟨(textO r 24).toArray⟩) (by with_unfolding_all exact rfl) (by with_unfolding_all exact rfl) (by with_unfolding_all exact rfl) _ _ X3.out _ (by with_unfolding_all exact rfl) ?_)
      intro w4 q4 x4 z4
      have X4 : Hid (Item.At w4 gE ⟨textO r 24, [], 0, false⟩) := Lib.hid x4
      have H4 := Lib.hid (H3.out.aside HK.out q4 NB.out NI.out NE.out)
      clear q4 x4 z4 X3 H3
      have CT := Lib.hid (rfText gQ 32 A cap b (textS r 24) w4 H4.out.rd HK.out.small)
      have c0 : w4.cell? ⟨gT, 0, none⟩ = some (.pointer (some ⟨gQ, 0, none⟩)) := H4.out.tt.at_ 0
      go_wp2_with fail
      refine CT.out.mono ?_
      rintro y w5 ⟨rfl, hr, hg⟩
      have H5 := Lib.hid (H4.out.read HK.out hr hg)
      have X5 : Hid (Item.At w5 gE _) := Lib.hid (grown_far X4.out hg NQ.out)
      clear hr hg CT c0 H4 X4
      go_wp2_with (with_reducible refine wpList_put_cell 9 ⟨by kernel_rfl, by kernel_rfl⟩ rfl _ _ rfl gE 1 (by with_unfolding_all exact rfl) (.string ⟨(textO (textS r 24) 32).toArray⟩) (by with_unfolding_all exact rfl) (by with_unfolding_all exact rfl) (by with_unfolding_all exact rfl) _ _ X5.out _ (by with_unfolding_all exact rfl) ?_)
      intro w6 q6 x6 z6
      have X6 : Hid (Item.At w6 gE ⟨textO r 24, textO (textS r 24) 32, 0, false⟩) := Lib.hid x6
      have H6 := Lib.hid (H5.out.aside HK.out q6 NB.out NI.out NE.out)
      clear q6 x6 z6 X5 H5
      have CT := Lib.hid (rfNum gQ 4 A cap b (textS (textS r 24) 32) w6 H6.out.rd HK.out.small (by decide) (by decide))
      have c0 : w6.cell? ⟨gT, 0, none⟩ = some (.pointer (some ⟨gQ, 0, none⟩)) := H6.out.tt.at_ 0
      go_wp2_with fail
      refine CT.out.mono ?_
      rintro y w7 ⟨rfl, hr, hg⟩
      have H7 := Lib.hid (H6.out.read HK.out hr hg)
      have X7 : Hid (Item.At w7 gE _) := Lib.hid (grown_far X6.out hg NQ.out)
      clear hr hg CT c0 H6 X6
      go_wp2_with (with_reducible refine wpList_put_cell 3 ⟨by kernel_rfl, by kernel_rfl⟩ rfl _ _ rfl gE 2 (by with_unfolding_all exact rfl) (.int .i64 (numO (textS (textS r 24) 32) 4 : Int)) (by with_unfolding_all exact rfl) (by with_unfolding_all exact rfl) (by with_unfolding_all exact rfl) _ _ X7.out _ (by with_unfolding_all exact rfl) ?_)
      intro w8 q8 x8 z8
      have X8 : Hid (Item.At w8 gE ⟨textO r 24, textO (textS r 24) 32, (numO (textS (textS r 24) 32) 4 : Int), false⟩) := Lib.hid x8
      have H8 := Lib.hid (H7.out.aside HK.out q8 NB.out NI.out NE.out)
      clear q8 x8 z8 X7 H7
      have CT := Lib.hid (truth_any w0 gT gQ gO base A cap b HK.out ⟨rawS (textS (textS r 24) 32) 4, T.m.with8 l, x, bigX⟩ _ _ w8 H8.out)
      have c0 : w8.cell? ⟨gT, 0, none⟩ = some (.pointer (some ⟨gQ, 0, none⟩)) := H8.out.tt.at_ 0
      go_wp2_with fail
      refine CT.out.mono ?_
      rintro y w9 ⟨rfl, hr, hg⟩
      have H9 := Lib.hid hr
      have X9 : Hid (Item.At w9 gE _) := Lib.hid (Whole.keeps X8.out hg (fun k => by have := NT.out; have := NQ.out; rcases k with k | k <;> omega))
      clear hr hg CT c0 H8 X8
      go_wp2_with (with_reducible refine wpList_put_cell 4 ⟨by kernel_rfl, by kernel_rfl⟩ rfl _ _ rfl gE 3 (by with_unfolding_all exact rfl) (.bool (truthB (rawS (textS (textS r 24) 32) 4))) (by with_unfolding_all exact rfl) (by with_unfolding_all exact rfl) (by with_unfolding_all exact rfl) _ _ X9.out _ (by with_unfolding_all exact rfl) ?_)
      intro w10 q10 x10 z10
      have X10 : Hid (Item.At w10 gE ⟨textO r 24, textO (textS r 24) 32, (numO (textS (textS r 24) 32) 4 : Int), truthB (rawS (textS (textS r 24) 32) 4)⟩) := Lib.hid x10
      have H10 := Lib.hid (H9.out.aside HK.out q10 NB.out NI.out NE.out)
      clear q10 x10 z10 X9 H9
      rw [← HI.out] at X10
      have X10 : Hid (Item.At w10 gE (item1 r)) := X10
      have H10 : Hid (Ttz w0 gT gQ gO base A cap b ⟨itemS r, T.m.with8 l, x || itemX r, bigX⟩ e1 ⟨vA, vN, vC⟩ w10) := H10
      generalize item1 r = it at *
      generalize itemS r = r' at *
      generalize itemX r = xx at *
      clear HI HS HO rv
      go_wp2_with fail
      refine regG_begin [12] (fun w' => w'.cell? ⟨gT, 11, none⟩ = some (.slice vA vN vC)) (fun w' => Item.At w' gE it) (by kernel_rfl) ?_
      have bd : Below w10.heap.size w10 w10.drew := (Below.refl _ _).drew
      have HD := Lib.hid (H10.out.below bd)
      have hS1 : Item.At w10.drew gE it := Whole.below X10.out bd X10.out.lt
      have hS0 : w10.drew.cell? ⟨gT, 11, none⟩ = some (.slice vA vN vC) := HD.out.tt.at_ 11
      generalize w10.drew = z0 at *
      clear bd H10 X10
      refine regG_take (i := 0) (v := ?_) rfl (by kernel_rfl) (by kernel_rfl) (by kernel_rfl) (by kernel_rfl) (by kernel_rfl) (fun _ _ _ h => h) (by rfl) ⟨hS1, .inl hS0⟩ ?hy0 ?_
      case hy0 => intro w' hw'; go_simp; (try with_reducible rfl)
      simp only [Act.put, List.setIfInBounds_toArray, List.set_cons_zero, List.set_cons_succ]
      refine regG_take (i := 1) (v := ?_) rfl (by kernel_rfl) (by kernel_rfl) (by kernel_rfl) (by kernel_rfl) (by kernel_rfl) (fun _ _ _ h => h) (by rfl) ⟨hS1, .inl hS0⟩ ?hy1 ?_
      case hy1 => intro w' hw'; go_simp; (try with_reducible rfl)
      simp only [Act.put, List.setIfInBounds_toArray, List.set_cons_zero, List.set_cons_succ]
      refine regG_take (i := 2) (v := ?_) rfl (by kernel_rfl) (by kernel_rfl) (by kernel_rfl) (by kernel_rfl) (by kernel_rfl) (fun _ _ _ h => h) (by rfl) ⟨hS1, .inl hS0⟩ ?hy2 ?_
      case hy2 => intro w' hw'; go_simp; (try with_reducible rfl)
      simp only [Act.put, List.setIfInBounds_toArray, List.set_cons_zero, List.set_cons_succ]
      refine regG_take (i := 3) (v := ?_) rfl (by kernel_rfl) (by kernel_rfl) (by kernel_rfl) (by kernel_rfl) (by kernel_rfl) (fun _ _ _ h => h) (by rfl) ⟨hS1, .inl hS0⟩ ?hy3 ?_
      case hy3 => intro w' hw'; go_simp; (try with_reducible rfl)
      simp only [Act.put, List.setIfInBounds_toArray, List.set_cons_zero, List.set_cons_succ]
      refine regG_take (i := 4) (v := ?_) rfl (by kernel_rfl) (by kernel_rfl) (by kernel_rfl) (by kernel_rfl) (by kernel_rfl) (fun _ _ _ h => h) (by rfl) ⟨hS1, .inl hS0⟩ ?hy4 ?_
      case hy4 => intro w' hw'; go_simp; (try with_reducible rfl)
      simp only [Act.put, List.setIfInBounds_toArray, List.set_cons_zero, List.set_cons_succ]
      refine regG_read (i := 5) (v := ?_) rfl (by kernel_rfl) (by kernel_rfl) (by kernel_rfl) (by kernel_rfl) (by kernel_rfl) (by kernel_rfl) (fun _ _ _ h => h) (by rfl) ⟨hS1, .inl hS0⟩ ?hy5 ?_
      case hy5 => intro w' hw'; go_simp; (try with_reducible rfl)
      simp only [Act.put, List.setIfInBounds_toArray, List.set_cons_zero, List.set_cons_succ]
      refine regG_take (i := 6) (v := Item.val it) rfl (by kernel_rfl) (by kernel_rfl) (by kernel_rfl) (by kernel_rfl) (by kernel_rfl) (fun _ _ _ h => h) (by rfl) ⟨hS1, .inl hS0⟩ ?hy6 ?_
      case hy6 => intro w' hw'; exact exec_load_whole Item.isRec _ rfl gE rfl _ _ (Item.len _) w' hw'
      simp only [Act.put, List.setIfInBounds_toArray, List.set_cons_zero, List.set_cons_succ]
      refine regG_do (i := 7) rfl (by kernel_rfl) (fun K' hK => ?_)
      rw [if_pos (by rfl)]
      refine wp_one_item _ rfl it (by with_unfolding_all exact rfl) ?_
      intro z1 bz1 yz1
      have YZ := Lib.hid yz1
      have HZ1 := Lib.hid (HD.out.below bz1)
      have hS1' : Item.At z1 gE it := Whole.below hS1 bz1 hS1.lt
      have hS0' : z1.cell? ⟨gT, 11, none⟩ = some (.slice vA vN vC) := HZ1.out.tt.at_ 11
      refine hK.out _ _ hS1' (.inl hS0') ?_
      clear hK K' bz1 yz1 HD hS1 hS0
      refine regG_do (i := 8) rfl (by kernel_rfl) (fun K' hK => ?_)
      rw [if_pos (by rfl)]
      refine wp_append_rows_at itemZ _ _ rfl (.slice vA vN vC) rfl HZ1.out.lists.its _ [Item.enc it] rfl YZ.out (fun c hc => by rw [List.mem_singleton] at hc; subst hc; exact ⟨rfl, fun u hu => (Item.fits _).one u hu⟩) (by have := L0.out; have := HN.out; simp; omega) HZ1.out.base ?_
      intro v9 z2 o9 q9 h9
      obtain ⟨r9, rfl⟩ := raw_of o9.rows
      have hS1 : Item.At z2 gE it := hS1'.grown_own q9 NE.out
      have hM := HZ1.out.more8 HK.out o9 q9 h9
      have M9 := Lib.hid hM
      have hS0 : z2.cell? ⟨gT, 11, none⟩ = some (.slice vA vN vC) := hM.1.1.at_ 11
      refine hK.out _ _ hS1 (.inl hS0) ?_
      clear hK K' o9 q9 h9 HZ1 YZ hS1' hS0' hM
      refine regG_take (i := 9) (v := ?_) rfl (by kernel_rfl) (by kernel_rfl) (by kernel_rfl) (by kernel_rfl) (by kernel_rfl) (fun _ _ _ h => h) (by rfl) ⟨hS1, .inl hS0⟩ ?hy9 ?_
      case hy9 => intro w' hw'; go_simp; (try with_reducible rfl)
      simp only [Act.put, List.setIfInBounds_toArray, List.set_cons_zero, List.set_cons_succ]
      refine regG_take (i := 10) (v := ?_) rfl (by kernel_rfl) (by kernel_rfl) (by kernel_rfl) (by kernel_rfl) (by kernel_rfl) (fun _ _ _ h => h) (by rfl) ⟨hS1, .inl hS0⟩ ?hy10 ?_
      case hy10 => intro w' hw'; go_simp; (try with_reducible rfl)
      simp only [Act.put, List.setIfInBounds_toArray, List.set_cons_zero, List.set_cons_succ]
      refine regG_take (i := 11) (v := ?_) rfl (by kernel_rfl) (by kernel_rfl) (by kernel_rfl) (by kernel_rfl) (by kernel_rfl) (fun _ _ _ h => h) (by rfl) ⟨hS1, .inl hS0⟩ ?hy11 ?_
      case hy11 => intro w' hw'; go_simp; (try with_reducible rfl)
      simp only [Act.put, List.setIfInBounds_toArray, List.set_cons_zero, List.set_cons_succ]
      refine regG_do (i := 12) rfl (by kernel_rfl) (fun K' hK => ?_)
      rw [if_pos (by rfl)]
      refine wp_put_cell 25 ⟨by kernel_rfl, by kernel_rfl⟩ _ _ rfl gT 11 rfl r9.v rfl rfl rfl _ _ M9.out.1.1 _ (by with_unfolding_all exact rfl) ?_
      intro z3 q3 x3 s3
      have HF := Lib.hid (Ttz.stored HK.out M9.out.1 M9.out.2.1 M9.out.2.2 q3 x3)
      have hS1'' : Item.At z3 gE it := grown_far hS1 q3 NT.out
      refine hK.out _ _ hS1'' (.inr ⟨_, List.mem_cons_self .., by kernel_rfl⟩) ?_
      clear hK K' q3 x3 s3 M9 hS1 hS1'' hS0
      refine regG_end (by kernel_rfl) ?_
      go_wp2
      exact ⟨⟨k + 1, _, _, _, _, _, by omega, by go_num, HF.out, HT.out, by have := L0.out; simp; omega⟩, by simp [intOf]; omega⟩
    · obtain rfl : k = n := by omega
      have dk : decide ((k : Int) < (k : Int)) = false := by simp
      have HT : Hid ((r, x, l) = R) := Lib.hid (by have q := T0.out; rw [Nat.sub_self] at q; exact q)
      have OF : Hid (Ttk w0 gT gQ gO base A cap b ⟨R.1, T.m.with8 R.2.2, R.2.1, bigX⟩ wr) := Lib.hid ⟨e1, ⟨vA, vN, vC⟩, by rw [← HT.out]; exact H0.out⟩
      go_wp2
      go_end0
      exact ⟨rfl, OF.out⟩
end Go.Proofs.Ytnjeopgcpffkcaa
