/- Package msg: entries and items are read. -/
import Derived.Test.YtnjeopgcpffkcaaGt
import Derived.Test.YtnjeopgcpffkcaaGu
import Derived.Test.YtnjeopgcpffkcaaGf
import Derived.Deep.LoopGhost
namespace Go.Proofs.Ytnjeopgcpffkcaa
set_option maxRecDepth 100000
open Go.RowKit

theorem OwnRows.rdr {w w' : World} {gR gP base k : Nat} {e : TypeId} {v : Value} {L : List (List Value)} (h : OwnRows w base e k v L) (q : Keeps (RF gR gP) w w') (h1 : gR < base) (h2 : gP < base) : OwnRows w' base e k v L :=
  h.keeps q (fun g e k => by have := (h.lt g e).1; rcases k with rfl | rfl <;> omega)
theorem Keeps.low2 {w w' : World} {gR gP base : Nat} (q : Keeps (RF gR gP) w w') (h1 : base ≤ gR) (h2 : base ≤ gP) (h3 : base ≤ w.heap.size) : Below base w w' := q.below (fun i hi => by rcases hi with rfl | rfl <;> omega) h3

set_option maxHeartbeats 4000000 in
theorem entries_any (gR gP : Nat) (s : RS) (big odd : Bool) (w : World) (h : RdrAt w gR gP s big odd) :
    Calls Try.prog 73 #[.pointer (some ⟨gR, 0, none⟩)] w fun e w' => ∃ v, e = .returned v ∧ OwnRows w' w.heap.size 51 6 v ((entsT (manyN s 8) (rawS s 1) odd []).2.2.map Ent.enc) ∧
      RdrAt w' gR gP (entsT (manyN s 8) (rawS s 1) odd []).1 (big || manyX s 8) (entsT (manyN s 8) (rawS s 1) odd []).2.1 ∧ Keeps (RF gR gP) w w' := by
  have CC := Lib.hid (count_any gR gP s big odd 8 w h)
  have H1 := Lib.hid h.lt.1
  have H2 := Lib.hid h.lt.2
  obtain ⟨n, hn⟩ : ∃ n, n = manyN s 8 := ⟨_, rfl⟩
  have HN : Hid (n ≤ 8) := Lib.hid (by rw [hn, manyN]; split <;> omega)
  obtain ⟨R, hR⟩ : ∃ R, R = entsT n (rawS s 1) odd [] := ⟨_, rfl⟩
  rw [← hn, ← hR]
  rw [← hn] at CC
  have HR : Hid (entsT (n - 0) (rawS s 1) odd [] = R) := Lib.hid hR.symm
  obtain ⟨bigX, hbig⟩ : ∃ q, q = (big || manyX s 8) := ⟨_, rfl⟩
  rw [← hbig] at CC ⊢
  clear h hn hR hbig
  go_enter Try.func73, Try.ntmps73
  go_wp2_with fail
  refine CC.out.mono ?_
  rintro e w1 ⟨rfl, h1, k1⟩
  have R1 := Lib.hid h1
  have K1 := Lib.hid k1
  clear h1 k1 CC
  go_wp2_with fail
  go_loopw [3, 8] (fun u i wr => ∃ (k : Nat) (r : RS) (x : Bool) (l : List Ent), k ≤ n ∧ i = .int .i64 (k : Int) ∧ RdrAt wr gR gP r bigX x ∧ OwnRows wr w.heap.size 51 6 u (l.map Ent.enc) ∧ entsT (n - k) r x l = R ∧ l.length = k ∧ Keeps (RF gR gP) w wr) (fun _ i _ => n - (intOf i).toNat)
  case atStart => exact ⟨0, _, _, [], Nat.zero_le _, rfl, R1.out, OwnRows.nil _ _ _ _, HR.out, rfl, K1.out⟩
  case round =>
    obtain ⟨k, r, x, l, hk, rfl, hr, ho, hT, hl, hkp⟩ := hrel
    have R0 := Lib.hid hr
    have O0 := Lib.hid ho
    have T0 := Lib.hid hT
    have L0 := Lib.hid hl
    have K0 := Lib.hid hkp
    clear hr ho hT hl hkp R1 K1 HR
    by_cases hlt : k < n
    · have dk : decide ((k : Int) < (n : Int)) = true := by simp; omega
      have jk : (k : Int) < (n : Int) := by omega
      have r4 : IntKind.i64.wrap ((k : Int) + 1) = ((k + 1 : Nat) : Int) := by have := HN.out; rw [IntWalk.i64_in _ (by omega)]; omega
      have HT : Hid (entsT (n - (k + 1)) (textS r 128) (x || decide (readX (textO r 128) ≠ 0)) (l ++ [readE (textO r 128)]) = R) := Lib.hid (by
        have q := T0.out
        rw [show n - k = (n - (k + 1)) + 1 by omega, entsT] at q
        exact q)
      have CT := Lib.hid (pkText gP 128 r wr R0.out.rd)
      have c0 : wr.cell? ⟨gR, 0, none⟩ = some (.pointer (some ⟨gP, 0, none⟩)) := R0.out.rdr.at_ 0
      generalize textO r 128 = tx at *
      generalize textS r 128 = r' at *
      go_wp2_with fail
      refine CT.out.mono ?_
      rintro y w2 ⟨rfl, hr2, hg2⟩
      have R2 := Lib.hid (R0.out.read hr2 hg2)
      have O2 := Lib.hid (O0.out.rdr (keeps_read (gR := gR) hg2) H1.out H2.out)
      have K2 := Lib.hid (K0.out.trans (keeps_read hg2))
      clear hr2 hg2 CT R0 O0 K0 c0 T0
      obtain ⟨vs, w3, rc, y3, b3⟩ := conv_str w2 ⟨tx.toArray⟩
      have R3 := Lib.hid (R2.out.below b3)
      have O3 := Lib.hid (O2.out.below b3 rfl)
      have K3 := Lib.hid (K2.out.trans (Keeps.of_below b3))
      obtain ⟨A, cap, rfl, -⟩ := id y3
      have CR := Lib.hid (read_any A _ cap tx w3 (by simpa using y3))
      generalize readE tx = re at *
      generalize readX tx = rx at *
      clear b3 R2 O2 K2 y3
      go_wp2_with fail
      refine CR.out.mono ?_
      rintro y w4 ⟨rfl, b4⟩
      have R4 := Lib.hid (R3.out.below b4)
      have O4 := Lib.hid (O3.out.below b4 rfl)
      have K4 := Lib.hid (K3.out.trans (Keeps.of_below b4))
      clear b4 R3 O3 K3 CR rc
      go_wp2_with (refine wpList_alloc_row rfl 51 rfl Ent.zero.enc.toArray Ent.zero_is ?_)
      intro w5 b5 x5 z5
      obtain ⟨gE, hgE⟩ : ∃ q, q = w4.heap.size := ⟨_, rfl⟩
      rw [← hgE] at x5 ⊢
      have X5 : Hid (Ent.At w5 gE Ent.zero) := Lib.hid x5
      have R5 := Lib.hid (R4.out.below b5)
      have O5 := Lib.hid (O4.out.below b5 rfl)
      have K5 := Lib.hid (K4.out.trans (Keeps.of_below b5))
      have NE := Lib.hid (show u3.ownBlock ≠ some gE from fun e => by have := (O4.out.lt _ e).2; omega)
      have NR := Lib.hid (show gR < gE ∧ gP < gE from by have := R4.out.lt; omega)
      have NW := Lib.hid (show w.heap.size ≤ gE from by have := K4.out.size; omega)
      clear b5 x5 z5 R4 O4 K4 hgE
      go_wp2_with (with_reducible refine wpList_store_whole rfl 51 _ _ rfl gE re.enc.toArray (by with_unfolding_all exact rfl) (by with_unfolding_all exact rfl) _ _ X5.out (Ent.size _) rfl (Ent.one _) ?_)
      intro w6 q6 x6 z6
      have X6 : Hid (Ent.At w6 gE re) := Lib.hid x6
      have R6 := Lib.hid (R5.out.keeps (F := fun i => i = gE) (Keeps.of_grown q6 (fun k e => .inl (by injection e with e; exact e.symm))) (by have := NR.out; omega) (by have := NR.out; omega))
      have O6 := Lib.hid (O5.out.far q6 NE.out)
      have K6 := Lib.hid (K5.out.then (F := RF gR gP) (G := fun i => i = gE) (Keeps.of_grown q6 (fun k e => .inl (by injection e with e; exact e.symm))) (fun i e => .inr (by have := NW.out; omega)))
      have S6 := Lib.hid (show w.heap.size ≤ w6.heap.size from K6.out.size)
      clear q6 x6 z6 X5 R5 O5 K5
      have c2 : w6.cell? ⟨gR, 2, none⟩ = some (.bool x) := R6.out.rdr.at_ 2
      obtain ⟨qx, hqx⟩ : ∃ q, q = decide (rx ≠ 0) := ⟨_, rfl⟩
      rw [← hqx] at HT
      have d2 : (rx != 0) = qx := by rw [hqx]; by_cases h0 : rx = 0 <;> simp [h0]
      clear hqx
      cases x with
      | true =>
        go_wp2_with (with_reducible refine wpList_put_cell 4 ⟨by kernel_rfl, by kernel_rfl⟩ rfl _ _ rfl gR 2 (by with_unfolding_all exact rfl) (.bool true) (by with_unfolding_all exact rfl) (by with_unfolding_all exact rfl) (by with_unfolding_all exact rfl) _ _ R6.out.rdr _ (by with_unfolding_all exact rfl) ?_)
        intro w7 q7 x7 z7
        have R7 : Hid (RdrAt w7 gR gP r' bigX (true || qx)) := Lib.hid ⟨by rw [Bool.true_or]; exact x7, ⟨grown_far R6.out.rd.1 q7 (fun e => R6.out.ne e.symm), R6.out.rd.2⟩, R6.out.ne⟩
        have X7 : Hid (Ent.At w7 gE re) := Lib.hid (grown_far X6.out q7 (by have := NR.out; omega))
        have O7 := Lib.hid (O6.out.rdr (keeps_rdr (gP := gP) q7) H1.out H2.out)
        have K7 := Lib.hid (K6.out.trans (keeps_rdr q7))
        have S7 := Lib.hid (show w.heap.size ≤ w7.heap.size from K7.out.size)
        clear q7 x7 z7 R6 X6 O6 K6 c2
        go_wp2_with (first | (with_reducible refine wpList_load_whole Ent.isRec rfl _ rfl gE (by with_unfolding_all exact rfl) _ _ (Ent.len _) X7.out ?_) | (with_reducible refine Ent.wpList_one rfl _ rfl re (by with_unfolding_all exact rfl) ?_))
        intro w8 b8 y8 z8
        have Y8 := Lib.hid y8
        have R8 := Lib.hid (R7.out.below b8)
        have O8 := Lib.hid (O7.out.below b8 rfl)
        have K8 := Lib.hid (K7.out.trans (Keeps.of_below b8))
        have S8 := Lib.hid (show w.heap.size ≤ w8.heap.size from K8.out.size)
        have HL : Hid ((l.map Ent.enc).length + [Ent.enc re].length ≤ 10000000) := Lib.hid (by have := L0.out; have := HN.out; simp; omega)
        clear b8 y8 z8 R7 X7 O7 K7
        go_wp2_with (with_reducible refine wpList_append_rows_at entZ rfl _ _ rfl u3 (by with_unfolding_all exact rfl) O8.out _ [Ent.enc re] (by with_unfolding_all exact rfl) Y8.out (fun c hc => by rw [List.mem_singleton] at hc; subst hc; exact ⟨rfl, fun u hu => (Ent.fits re).one u hu⟩) HL.out S8.out ?_)
        intro v9 w9 o9 q9 h9
        have KA : Keeps (VF u3) w8 w9 := Keeps.of_grown q9 (fun k e => .inl e)
        have R9 := Lib.hid (R8.out.keeps KA (fun e => by have := (O8.out.lt _ e).1; have := H1.out; omega) (fun e => by have := (O8.out.lt _ e).1; have := H2.out; omega))
        have K9 := Lib.hid (K8.out.then KA (fun i e => .inr (O8.out.lt _ e).1))
        have O9 : Hid (OwnRows w9 w.heap.size 51 6 v9 ((l ++ [re]).map Ent.enc)) := Lib.hid (by rw [List.map_append]; exact o9)
        clear o9 q9 h9 KA R8 O8 K8 Y8
        go_wp2
        exact ⟨⟨k + 1, r', true || qx, l ++ [re], by omega, by go_num, R9.out, O9.out, HT.out, by have := L0.out; simp; omega, K9.out⟩, by simp [intOf]; omega⟩
      | false =>
        go_wp2_with (with_reducible refine wpList_put_cell 4 ⟨by kernel_rfl, by kernel_rfl⟩ rfl _ _ rfl gR 2 (by with_unfolding_all exact rfl) (.bool qx) (by with_unfolding_all exact rfl) (by with_unfolding_all exact rfl) (by with_unfolding_all exact rfl) _ _ R6.out.rdr _ (by with_unfolding_all exact rfl) ?_)
        intro w7 q7 x7 z7
        have R7 : Hid (RdrAt w7 gR gP r' bigX (false || qx)) := Lib.hid ⟨by rw [Bool.false_or]; exact x7, ⟨grown_far R6.out.rd.1 q7 (fun e => R6.out.ne e.symm), R6.out.rd.2⟩, R6.out.ne⟩
        have X7 : Hid (Ent.At w7 gE re) := Lib.hid (grown_far X6.out q7 (by have := NR.out; omega))
        have O7 := Lib.hid (O6.out.rdr (keeps_rdr (gP := gP) q7) H1.out H2.out)
        have K7 := Lib.hid (K6.out.trans (keeps_rdr q7))
        have S7 := Lib.hid (show w.heap.size ≤ w7.heap.size from K7.out.size)
        clear q7 x7 z7 R6 X6 O6 K6 c2
        go_wp2_with (first | (with_reducible refine wpList_load_whole Ent.isRec rfl _ rfl gE (by with_unfolding_all exact rfl) _ _ (Ent.len _) X7.out ?_) | (with_reducible refine Ent.wpList_one rfl _ rfl re (by with_unfolding_all exact rfl) ?_))
        intro w8 b8 y8 z8
        have Y8 := Lib.hid y8
        have R8 := Lib.hid (R7.out.below b8)
        have O8 := Lib.hid (O7.out.below b8 rfl)
        have K8 := Lib.hid (K7.out.trans (Keeps.of_below b8))
        have S8 := Lib.hid (show w.heap.size ≤ w8.heap.size from K8.out.size)
        have HL : Hid ((l.map Ent.enc).length + [Ent.enc re].length ≤ 10000000) := Lib.hid (by have := L0.out; have := HN.out; simp; omega)
        clear b8 y8 z8 R7 X7 O7 K7
        go_wp2_with (with_reducible refine wpList_append_rows_at entZ rfl _ _ rfl u3 (by with_unfolding_all exact rfl) O8.out _ [Ent.enc re] (by with_unfolding_all exact rfl) Y8.out (fun c hc => by rw [List.mem_singleton] at hc; subst hc; exact ⟨rfl, fun u hu => (Ent.fits re).one u hu⟩) HL.out S8.out ?_)
        intro v9 w9 o9 q9 h9
        have KA : Keeps (VF u3) w8 w9 := Keeps.of_grown q9 (fun k e => .inl e)
        have R9 := Lib.hid (R8.out.keeps KA (fun e => by have := (O8.out.lt _ e).1; have := H1.out; omega) (fun e => by have := (O8.out.lt _ e).1; have := H2.out; omega))
        have K9 := Lib.hid (K8.out.then KA (fun i e => .inr (O8.out.lt _ e).1))
        have O9 : Hid (OwnRows w9 w.heap.size 51 6 v9 ((l ++ [re]).map Ent.enc)) := Lib.hid (by rw [List.map_append]; exact o9)
        clear o9 q9 h9 KA R8 O8 K8 Y8
        go_wp2
        exact ⟨⟨k + 1, r', false || qx, l ++ [re], by omega, by go_num, R9.out, O9.out, HT.out, by have := L0.out; simp; omega, K9.out⟩, by simp [intOf]; omega⟩
    · obtain rfl : k = n := by omega
      have dk : decide ((k : Int) < (k : Int)) = false := by simp
      have HT : Hid ((r, x, l) = R) := Lib.hid (by have q := T0.out; rw [Nat.sub_self] at q; exact q)
      have OF : Hid (OwnRows wr w.heap.size 51 6 u3 (R.2.2.map Ent.enc)) := Lib.hid (by rw [← HT.out]; exact O0.out)
      have RF : Hid (RdrAt wr gR gP R.1 bigX R.2.1) := Lib.hid (by rw [← HT.out]; exact R0.out)
      go_wp2
      go_ret
      exact ⟨_, rfl, OF.out, RF.out, K0.out⟩

theorem exec_build_rec {ev : Operand → Value} {o : Oper} (t : TypeId) (parts : Array (Nat × Operand)) (ho : o.op = .build t parts) (vs : Array (Nat × Value)) (hv : (parts.map fun x => (x.1, ev x.2)) = vs) (cells : Array Value) (hb : Try.prog.built t vs.toList = some cells) (w : World) :
    (execOp ev o).run Try.prog w = .ok (.value (.agg cells)) w := by
  have e := run_build (P := Try.prog) w t vs cells hb
  unfold execOp
  simp only [ho, hv, e, Sem.run_bind, Sem.run_pure, Result.andThen_ok]
theorem wp_one_item {o : Oper} {a : Act} {w : World} {K : Act → World → Prop} {Q : Exit → Act → World → Prop} (y : Operand) (ho : o.op = .buildSlice 25 1 #[(0, y)]) (x : Item) (hy : a.eval y = x.val)
    (h : ∀ w', Below w.heap.size w w' → RowsAt w' (.slice (some ⟨w.heap.size, 0, none⟩) 1 1) 4 [x.enc] → K (a.put o.dst (.slice (some ⟨w.heap.size, 0, none⟩) 1 1)) w') : o.wp Try.prog a w K Q := by
  obtain ⟨i, h1, h2, h3⟩ := Item.info
  have hr := run_buildSlice (P := Try.prog) (w := w) Try.underlying25 h1 h2 1 (by rw [h3]; decide) (by rw [h3]; decide) #[(0, x.val)] x.enc.toArray (by rw [h3]; exact Item.build_one x)
  have q := h (w.alloc (.cells x.enc.toArray 29)) ((Below.refl _ _).alloc (Nat.le_refl _) _) (rows_one (Whole.new w 29 x.enc.toArray) (Nat.le_refl _))
  unfold Oper.wp execOp
  simp only [ho, List.map_toArray, List.map_cons, List.map_nil, hy, hr, Sem.run_bind, Sem.run_pure, Result.andThen_ok, Oper.upon]
  exact q

set_option maxHeartbeats 4000000 in
theorem items_any (gR gP : Nat) (s : RS) (big odd : Bool) (w : World) (h : RdrAt w gR gP s big odd) :
    Calls Try.prog 74 #[.pointer (some ⟨gR, 0, none⟩)] w fun e w' => ∃ v, e = .returned v ∧ OwnRows w' w.heap.size 29 4 v ((itemsT (manyN s 16) (rawS s 1) odd []).2.2.map Item.enc) ∧
      RdrAt w' gR gP (itemsT (manyN s 16) (rawS s 1) odd []).1 (big || manyX s 16) (itemsT (manyN s 16) (rawS s 1) odd []).2.1 ∧ Keeps (RF gR gP) w w' := by
  have CC := Lib.hid (count_any gR gP s big odd 16 w h)
  have H1 := Lib.hid h.lt.1
  have H2 := Lib.hid h.lt.2
  obtain ⟨n, hn⟩ : ∃ n, n = manyN s 16 := ⟨_, rfl⟩
  have HN : Hid (n ≤ 16) := Lib.hid (by rw [hn, manyN]; split <;> omega)
  obtain ⟨R, hR⟩ : ∃ R, R = itemsT n (rawS s 1) odd [] := ⟨_, rfl⟩
  rw [← hn, ← hR]
  rw [← hn] at CC
  have HR : Hid (itemsT (n - 0) (rawS s 1) odd [] = R) := Lib.hid hR.symm
  obtain ⟨bigX, hbig⟩ : ∃ q, q = (big || manyX s 16) := ⟨_, rfl⟩
  rw [← hbig] at CC ⊢
  clear h hn hR hbig
  go_enter Try.func74, Try.ntmps74
  go_wp2_with fail
  refine CC.out.mono ?_
  rintro e w1 ⟨rfl, h1, k1⟩
  have R1 := Lib.hid h1
  have K1 := Lib.hid k1
  clear h1 k1 CC
  go_wp2_with fail
  go_loopw [3, 6] (fun u i wr => ∃ (k : Nat) (r : RS) (x : Bool) (l : List Item), k ≤ n ∧ i = .int .i64 (k : Int) ∧ RdrAt wr gR gP r bigX x ∧ OwnRows wr w.heap.size 29 4 u (l.map Item.enc) ∧ itemsT (n - k) r x l = R ∧ l.length = k ∧ Keeps (RF gR gP) w wr) (fun _ i _ => n - (intOf i).toNat)
  case atStart => exact ⟨0, _, _, [], Nat.zero_le _, rfl, R1.out, OwnRows.nil _ _ _ _, HR.out, rfl, K1.out⟩
  case round =>
    obtain ⟨k, r, x, l, hk, rfl, hr, ho, hT, hl, hkp⟩ := hrel
    have R0 := Lib.hid hr
    have O0 := Lib.hid ho
    have T0 := Lib.hid hT
    have L0 := Lib.hid hl
    have K0 := Lib.hid hkp
    clear hr ho hT hl hkp R1 K1 HR
    by_cases hlt : k < n
    · have dk : decide ((k : Int) < (n : Int)) = true := by simp; omega
      have jk : (k : Int) < (n : Int) := by omega
      have r4 : IntKind.i64.wrap ((k : Int) + 1) = ((k + 1 : Nat) : Int) := by have := HN.out; rw [IntWalk.i64_in _ (by omega)]; omega
      have HT : Hid (itemsT (n - (k + 1)) (itemS r) (x || itemX r) (l ++ [item1 r]) = R) := Lib.hid (by
        have q := T0.out
        rw [show n - k = (n - (k + 1)) + 1 by omega, itemsT] at q
        exact q)
      have rv := numO_i64 (textS (textS r 24) 32) 4 (by decide)
      have HI : Hid (item1 r = ⟨textO r 24, textO (textS r 24) 32, (numO (textS (textS r 24) 32) 4 : Int), truthB (rawS (textS (textS r 24) 32) 4)⟩) := Lib.hid rfl
      have HS : Hid (itemS r = rawS (rawS (textS (textS r 24) 32) 4) 1) := Lib.hid rfl
      have HO : Hid (itemX r = truthX (rawS (textS (textS r 24) 32) 4)) := Lib.hid rfl
      have C1 := Lib.hid fun w h => pkText gP 24 r w h
      have C2 := Lib.hid fun w h => pkText gP 32 (textS r 24) w h
      have C3 := Lib.hid fun w h => pkNum gP 4 (textS (textS r 24) 32) w h (by decide) (by decide)
      have C4 := Lib.hid fun x w h => flag_any gR gP (rawS (textS (textS r 24) 32) 4) bigX x w h
      generalize item1 r = it at *
      generalize itemS r = r' at *
      generalize itemX r = xx at *
      generalize textO (textS r 24) 32 = t2 at *
      generalize numO (textS (textS r 24) 32) 4 = n3 at *
      generalize truthB (rawS (textS (textS r 24) 32) 4) = b4 at *
      generalize truthX (rawS (textS (textS r 24) 32) 4) = x4 at *
      generalize rawS (rawS (textS (textS r 24) 32) 4) 1 = s4 at *
      generalize rawS (textS (textS r 24) 32) 4 = s3 at *
      generalize textS (textS r 24) 32 = s2 at *
      generalize textO r 24 = t1 at *
      generalize textS r 24 = s1 at *
      obtain rfl := HI.out
      obtain rfl := HS.out
      obtain rfl := HO.out
      clear HI HS HO T0
      go_wp2_with fail
      refine regS_begin (fun w' => w'.cell? ⟨gR, 0, none⟩ = some (.pointer (some ⟨gP, 0, none⟩))) (by kernel_rfl) (R0.out.rdr.at_ 0) ?_
      have hS : wr.drew.cell? ⟨gR, 0, none⟩ = some (.pointer (some ⟨gP, 0, none⟩)) := R0.out.rdr.at_ 0
      have bd : Below wr.heap.size wr wr.drew := (Below.refl _ _).drew
      have R2 := Lib.hid (R0.out.below bd)
      have O2 := Lib.hid (O0.out.below bd rfl)
      have K2 := Lib.hid (K0.out.trans (Keeps.of_below bd))
      generalize wr.drew = w2 at *
      clear bd R0 O0 K0
      refine regS_take (i := 0) (v := ?_) rfl (by kernel_rfl) (by kernel_rfl) (by kernel_rfl) (fun _ _ _ h => h) (by rfl) hS ?hy0 ?_
      case hy0 => intro w' hw'; go_simp; (try with_reducible rfl)
      simp only [Act.put, List.setIfInBounds_toArray, List.set_cons_zero, List.set_cons_succ]
      refine regS_take (i := 1) (v := ?_) rfl (by kernel_rfl) (by kernel_rfl) (by kernel_rfl) (fun _ _ _ h => h) (by rfl) hS ?hy1 ?_
      case hy1 => intro w' hw'; go_simp; (try with_reducible rfl)
      simp only [Act.put, List.setIfInBounds_toArray, List.set_cons_zero, List.set_cons_succ]
      refine regS_take (i := 2) (v := ?_) rfl (by kernel_rfl) (by kernel_rfl) (by kernel_rfl) (fun _ _ _ h => h) (by rfl) hS ?hy2 ?_
      case hy2 => intro w' hw'; go_simp; (try with_reducible rfl)
      simp only [Act.put, List.setIfInBounds_toArray, List.set_cons_zero, List.set_cons_succ]
      refine regS_take (i := 3) (v := ?_) rfl (by kernel_rfl) (by kernel_rfl) (by kernel_rfl) (fun _ _ _ h => h) (by rfl) hS ?hy3 ?_
      case hy3 => intro w' hw'; go_simp; (try with_reducible rfl)
      simp only [Act.put, List.setIfInBounds_toArray, List.set_cons_zero, List.set_cons_succ]
      refine regS_take (i := 4) (v := ?_) rfl (by kernel_rfl) (by kernel_rfl) (by kernel_rfl) (fun _ _ _ h => h) (by rfl) hS ?hy4 ?_
      case hy4 => intro w' hw'; go_simp; (try with_reducible rfl)
      simp only [Act.put, List.setIfInBounds_toArray, List.set_cons_zero, List.set_cons_succ]
      refine regS_take (i := 6) (v := ?_) rfl (by kernel_rfl) (by kernel_rfl) (by kernel_rfl) (fun _ _ _ h => h) (by rfl) hS ?hy6 ?_
      case hy6 => intro w' hw'; go_simp; (try with_reducible rfl)
      simp only [Act.put, List.setIfInBounds_toArray, List.set_cons_zero, List.set_cons_succ]
      refine regS_take (i := 7) (v := ?_) rfl (by kernel_rfl) (by kernel_rfl) (by kernel_rfl) (fun _ _ _ h => h) (by rfl) hS ?hy7 ?_
      case hy7 => intro w' hw'; go_simp; (try with_reducible rfl)
      simp only [Act.put, List.setIfInBounds_toArray, List.set_cons_zero, List.set_cons_succ]
      refine regS_take (i := 8) (v := ?_) rfl (by kernel_rfl) (by kernel_rfl) (by kernel_rfl) (fun _ _ _ h => h) (by rfl) hS ?hy8 ?_
      case hy8 => intro w' hw'; go_simp; (try with_reducible rfl)
      simp only [Act.put, List.setIfInBounds_toArray, List.set_cons_zero, List.set_cons_succ]
      refine regS_take (i := 9) (v := ?_) rfl (by kernel_rfl) (by kernel_rfl) (by kernel_rfl) (fun _ _ _ h => h) (by rfl) hS ?hy9 ?_
      case hy9 => intro w' hw'; go_simp; (try with_reducible rfl)
      simp only [Act.put, List.setIfInBounds_toArray, List.set_cons_zero, List.set_cons_succ]
      refine regS_take (i := 11) (v := ?_) rfl (by kernel_rfl) (by kernel_rfl) (by kernel_rfl) (fun _ _ _ h => h) (by rfl) hS ?hy11 ?_
      case hy11 => intro w' hw'; go_simp; (try with_reducible rfl)
      simp only [Act.put, List.setIfInBounds_toArray, List.set_cons_zero, List.set_cons_succ]
      refine regS_take (i := 12) (v := ?_) rfl (by kernel_rfl) (by kernel_rfl) (by kernel_rfl) (fun _ _ _ h => h) (by rfl) hS ?hy12 ?_
      case hy12 => intro w' hw'; go_simp; (try with_reducible rfl)
      simp only [Act.put, List.setIfInBounds_toArray, List.set_cons_zero, List.set_cons_succ]
      refine regS_take (i := 13) (v := ?_) rfl (by kernel_rfl) (by kernel_rfl) (by kernel_rfl) (fun _ _ _ h => h) (by rfl) hS ?hy13 ?_
      case hy13 => intro w' hw'; go_simp; (try with_reducible rfl)
      simp only [Act.put, List.setIfInBounds_toArray, List.set_cons_zero, List.set_cons_succ]
      refine regS_take (i := 14) (v := ?_) rfl (by kernel_rfl) (by kernel_rfl) (by kernel_rfl) (fun _ _ _ h => h) (by rfl) hS ?hy14 ?_
      case hy14 => intro w' hw'; go_simp; (try with_reducible rfl)
      simp only [Act.put, List.setIfInBounds_toArray, List.set_cons_zero, List.set_cons_succ]
      refine regS_take (i := 17) (v := ?_) rfl (by kernel_rfl) (by kernel_rfl) (by kernel_rfl) (fun _ _ _ h => h) (by rfl) hS ?hy17 ?_
      case hy17 => intro w' hw'; go_simp; (try with_reducible rfl)
      simp only [Act.put, List.setIfInBounds_toArray, List.set_cons_zero, List.set_cons_succ]
      refine regS_do (i := 5) rfl (by kernel_rfl) (fun K' hK => ?_)
      go_simp
      refine (C1.out w2 R2.out.rd).mono ?_
      rintro y w3 ⟨rfl, hr3, hg3⟩
      have R3 := Lib.hid (R2.out.read hr3 hg3)
      have O3 := Lib.hid (O2.out.rdr (keeps_read (gR := gR) hg3) H1.out H2.out)
      have K3 := Lib.hid (K2.out.trans (keeps_read hg3))
      clear hS
      have hS : w3.cell? ⟨gR, 0, none⟩ = some (.pointer (some ⟨gP, 0, none⟩)) := R3.out.rdr.at_ 0
      refine hK.out _ _ hS ?_
      clear hK K' hr3 hg3 R2 O2 K2
      refine regS_do (i := 10) rfl (by kernel_rfl) (fun K' hK => ?_)
      go_simp
      refine (C2.out w3 R3.out.rd).mono ?_
      rintro y w4 ⟨rfl, hr4, hg4⟩
      have R4 := Lib.hid (R3.out.read hr4 hg4)
      have O4 := Lib.hid (O3.out.rdr (keeps_read (gR := gR) hg4) H1.out H2.out)
      have K4 := Lib.hid (K3.out.trans (keeps_read hg4))
      clear hS
      have hS : w4.cell? ⟨gR, 0, none⟩ = some (.pointer (some ⟨gP, 0, none⟩)) := R4.out.rdr.at_ 0
      refine hK.out _ _ hS ?_
      clear hK K' hr4 hg4 R3 O3 K3
      refine regS_do (i := 15) rfl (by kernel_rfl) (fun K' hK => ?_)
      go_simp
      refine (C3.out w4 R4.out.rd).mono ?_
      rintro y w5 ⟨rfl, hr5, hg5⟩
      have R5 := Lib.hid (R4.out.read hr5 hg5)
      have O5 := Lib.hid (O4.out.rdr (keeps_read (gR := gR) hg5) H1.out H2.out)
      have K5 := Lib.hid (K4.out.trans (keeps_read hg5))
      clear hS
      have hS : w5.cell? ⟨gR, 0, none⟩ = some (.pointer (some ⟨gP, 0, none⟩)) := R5.out.rdr.at_ 0
      refine hK.out _ _ hS ?_
      clear hK K' hr5 hg5 R4 O4 K4
      refine regS_take (i := 16) (v := ?_) rfl (by kernel_rfl) (by kernel_rfl) (by kernel_rfl) (fun _ _ _ h => h) (by rfl) hS ?hy16 ?_
      case hy16 => intro w' hw'; go_simp; (try with_reducible rfl)
      simp only [Act.put, List.setIfInBounds_toArray, List.set_cons_zero, List.set_cons_succ]
      refine regS_do (i := 18) rfl (by kernel_rfl) (fun K' hK => ?_)
      go_simp
      refine (C4.out x w5 R5.out).mono ?_
      rintro y w6 ⟨rfl, hr6, hk6⟩
      have R6 := Lib.hid hr6
      have O6 := Lib.hid (O5.out.rdr hk6 H1.out H2.out)
      have K6 := Lib.hid (K5.out.trans hk6)
      clear hS
      have hS : w6.cell? ⟨gR, 0, none⟩ = some (.pointer (some ⟨gP, 0, none⟩)) := R6.out.rdr.at_ 0
      refine hK.out _ _ hS ?_
      clear hK K' hr6 hk6 R5 O5 K5
      refine regS_take (i := 19) (v := Item.val ⟨t1, t2, (n3 : Int), b4⟩) rfl (by kernel_rfl) (by kernel_rfl) (by kernel_rfl) (fun _ _ _ h => h) (by rfl) hS ?hy19 ?_
      case hy19 => intro w' hw'; exact exec_build_rec 29 _ rfl #[(0, .string ⟨t1.toArray⟩), (1, .string ⟨t2.toArray⟩), (2, .int .i64 (n3 : Int)), (3, .bool b4)] (by with_unfolding_all exact rfl) _ (by kernel_rfl) w'
      simp only [Act.put, List.setIfInBounds_toArray, List.set_cons_zero, List.set_cons_succ]
      refine regS_do (i := 20) rfl (by kernel_rfl) (fun K' hK => ?_)
      rw [if_pos (by rfl)]
      refine wp_one_item _ rfl ⟨t1, t2, (n3 : Int), b4⟩ (by with_unfolding_all exact rfl) ?_
      intro w7 b7 y7
      have Y7 := Lib.hid y7
      have R7 := Lib.hid (R6.out.below b7)
      have O7 := Lib.hid (O6.out.below b7 rfl)
      have K7 := Lib.hid (K6.out.trans (Keeps.of_below b7))
      have S7 : w.heap.size ≤ w7.heap.size := K7.out.size
      clear hS
      have hS : w7.cell? ⟨gR, 0, none⟩ = some (.pointer (some ⟨gP, 0, none⟩)) := R7.out.rdr.at_ 0
      refine hK.out _ _ hS ?_
      clear hK K' b7 y7 R6 O6 K6
      refine regS_do (i := 21) rfl (by kernel_rfl) (fun K' hK => ?_)
      rw [if_pos (by rfl)]
      refine wp_append_rows_at itemZ _ _ rfl u3 rfl O7.out _ [Item.enc ⟨t1, t2, (n3 : Int), b4⟩] rfl Y7.out (fun c hc => by rw [List.mem_singleton] at hc; subst hc; exact ⟨rfl, fun u hu => (Item.fits _).one u hu⟩) (by have := L0.out; have := HN.out; simp; omega) S7 ?_
      intro v9 w9 o9 q9 h9
      have KA : Keeps (VF u3) w7 w9 := Keeps.of_grown q9 (fun k e => .inl e)
      have R9 := Lib.hid (R7.out.keeps KA (fun e => by have := (O7.out.lt _ e).1; have := H1.out; omega) (fun e => by have := (O7.out.lt _ e).1; have := H2.out; omega))
      have K9 := Lib.hid (K7.out.then KA (fun i e => .inr (O7.out.lt _ e).1))
      have O9 : Hid (OwnRows w9 w.heap.size 29 4 v9 ((l ++ [(⟨t1, t2, (n3 : Int), b4⟩ : Item)]).map Item.enc)) := Lib.hid (by rw [List.map_append]; exact o9)
      clear hS
      have hS : w9.cell? ⟨gR, 0, none⟩ = some (.pointer (some ⟨gP, 0, none⟩)) := R9.out.rdr.at_ 0
      refine hK.out _ _ hS ?_
      clear hK K' o9 q9 h9 KA R7 O7 K7 Y7 S7
      refine regS_take (i := 22) (v := ?_) rfl (by kernel_rfl) (by kernel_rfl) (by kernel_rfl) (fun _ _ _ h => h) (by rfl) hS ?hy22 ?_
      case hy22 => intro w' hw'; go_simp; (try with_reducible rfl)
      simp only [Act.put, List.setIfInBounds_toArray, List.set_cons_zero, List.set_cons_succ]
      refine regS_end (by kernel_rfl) ?_
      clear hS
      go_wp2
      exact ⟨⟨k + 1, _, _, _, by omega, by go_num, R9.out, O9.out, HT.out, by have := L0.out; simp; omega, K9.out⟩, by simp [intOf]; omega⟩
    · obtain rfl : k = n := by omega
      have dk : decide ((k : Int) < (k : Int)) = false := by simp
      have HT : Hid ((r, x, l) = R) := Lib.hid (by have q := T0.out; rw [Nat.sub_self] at q; exact q)
      have OF : Hid (OwnRows wr w.heap.size 29 4 u3 (R.2.2.map Item.enc)) := Lib.hid (by rw [← HT.out]; exact O0.out)
      have RF : Hid (RdrAt wr gR gP R.1 bigX R.2.1) := Lib.hid (by rw [← HT.out]; exact R0.out)
      go_wp2
      go_ret
      exact ⟨_, rfl, OF.out, RF.out, K0.out⟩
end Go.Proofs.Ytnjeopgcpffkcaa
