/- Package office as landed: sign, Issue. -/
import Derived.Test.YtfcjemedheccgaaDoorGy
import Derived.Test.YtfcjemedheccgaaDoorGbc
import Derived.Test.YtfcjemedheccgaaDoorGba
namespace Go.Proofs.YtfcjemedheccgaaDoor
set_option maxRecDepth 100000
open Go.RowKit

theorem set_map {α β : Type} (f : α → β) (l : List α) (k : Nat) (x : α) : (l.map f).set k (f x) = (l.set k x).map f := by rw [List.map_set]
theorem set_half {α : Type} (f : α → α) (l : List α) (k : Nat) (x : α) (h : l[k]? = some x) : ((l.take k).map f ++ l.drop k).set k (f x) = (l.take (k + 1)).map f ++ l.drop (k + 1) := by
  obtain ⟨hk, rfl⟩ := List.getElem?_eq_some_iff.1 h
  have hl : ((l.take k).map f).length = k := by rw [List.length_map, List.length_take]; omega
  rw [List.set_append_right _ _ (by omega), hl, Nat.sub_self, List.drop_eq_getElem_cons hk, List.set_cons_zero, List.take_succ_eq_append_getElem hk, List.map_append, List.append_assoc]
  rfl
theorem half_at {α : Type} (f : α → α) (l : List α) (k : Nat) (x : α) (h : l[k]? = some x) : ((l.take k).map f ++ l.drop k)[k]? = some x := by
  obtain ⟨hk, rfl⟩ := List.getElem?_eq_some_iff.1 h
  have hl : ((l.take k).map f).length = k := by rw [List.length_map, List.length_take]; omega
  rw [List.getElem?_append_right (by omega), hl, Nat.sub_self, List.getElem?_drop, Nat.add_zero, h]
theorem half_length {α : Type} (f : α → α) (l : List α) (k : Nat) : ((l.take k).map f ++ l.drop k).length = l.length := by
  rw [List.length_append, List.length_map, List.length_take, List.length_drop]; omega

/-- While a list is signed. -/
structure SgAt (w wr : World) (b : Nat) (l : Value) (L : List Ent) (s : OS) (g : Nat) (v u : Value) (k G : Nat) : Prop where
  rows : OwnRows wr b 48 6 l (((L.take k).map s.sign ++ L.drop k).map Ent.enc)
  off : OffAt wr g v u s
  gate : Whole wr G 37 (gateC s.idx s.key)
  keeps : Keeps (fun i => l.ownBlock = some i) w wr
theorem SgAt.below {w wr w' : World} {b : Nat} {l : Value} {L : List Ent} {s : OS} {g : Nat} {v u : Value} {k G : Nat} (I : SgAt w wr b l L s g v u k G) (q : Below wr.heap.size wr w') : SgAt w w' b l L s g v u k G :=
  ⟨I.rows.below q rfl, I.off.below q, Whole.below I.gate q I.gate.lt, I.keeps.trans (Keeps.of_below q)⟩
set_option maxHeartbeats 1000000 in
theorem sign_any (g : Nat) (v u : Value) (s : OS) (N : Nat) (ok : s.Ok N) (hN : N ≤ 4000000) (b : Nat) (l : Value) (L : List Ent) (hLn : L.length ≤ 4000000) (hLe : ∀ e ∈ L, e.name.length ≤ 1000 ∧ e.id < 18446744073709551616) (w : World) (T : Tab w) (hA : Away (Foot g v u))
    (h : OffAt w g v u s) (hl : OwnRows w b 48 6 l (L.map Ent.enc)) (hd : ∀ i, l.ownBlock = some i → ¬ Foot g v u i) (hlA : Away (fun i => l.ownBlock = some i)) :
    Calls Tryd.prog 30 #[.pointer (some ⟨g, 0, none⟩), l] w fun e w' => e = .returned l ∧ ∃ v', OwnRows w' b 48 6 l ((L.map s.sign).map Ent.enc) ∧ OffAt w' g v' u (s.more (L.map s.sign)) ∧
      Keeps (fun i => Foot g v u i ∨ l.ownBlock = some i) w w' ∧ (∀ i, Foot g v' u i → Foot g v u i ∨ w.heap.size ≤ i) := by
  have O := Lib.hid h
  have T0 := Lib.hid T
  have H0 := Lib.hid hl
  have HD := Lib.hid hd
  have HA := Lib.hid hA
  have HLA := Lib.hid hlA
  have HE := Lib.hid hLe
  have HN : Hid (s.issued.length + L.length ≤ 10000000 ∧ L.length ≤ 4000000) := Lib.hid ⟨by have := ok.many; omega, hLn⟩
  have HK : Hid (s.key.length ≤ 4000) := Lib.hid (by rw [ok.key]; decide)
  have SG : Hid (∀ e : Ent, s.sign e = signE s.key { e with index := s.idx }) := Lib.hid (fun _ => rfl)
  have CG := fun w t h => Lib.hid (offGate_any g v u s N ok w t h)
  obtain ⟨A, cap, hlv⟩ := hl.form
  rw [List.length_map] at hlv
  obtain ⟨m, hm⟩ : ∃ m, m = L.length := ⟨_, rfl⟩
  have HM := Lib.hid hm
  rw [← hm] at hlv
  have HG : Hid (∀ i, l.ownBlock = some i → i < w.heap.size) := Lib.hid (fun i e => (hl.lt i e).2)
  have hgv : ∀ i k, gateV i k = .agg (gateC i k) := fun _ _ => rfl
  simp only [hgv] at CG
  obtain ⟨SS, hSS⟩ : ∃ q, q = L.map s.sign := ⟨_, rfl⟩
  have HSS := Lib.hid hSS
  have HSL : Hid (SS.length = m) := Lib.hid (by rw [hSS, List.length_map, hm])
  rw [← hSS]
  clear h T hl hd hA hlA hLe ok hN hLn hm hgv hSS
  subst hlv
  go_enter Tryd.func30, Tryd.ntmps30
  go_wp2_with fail
  refine (CG w T0.out O.out).out.mono ?_
  rintro e w1 ⟨rfl, b1⟩
  have B1 := Lib.hid b1
  clear b1 CG
  go_wp2_with (refine wpList_alloc_row rfl 37 rfl (gateC 0 []) gate_zero ?_)
  intro w2 b2 x2 z2
  have X2 := Lib.hid x2
  have B2 := Lib.hid (B1.out.trans (b2.mono B1.out.size))
  have S2 := Lib.hid B1.out.size
  obtain ⟨G, hG⟩ : ∃ q, q = w1.heap.size := ⟨_, rfl⟩
  rw [← hG] at X2 S2 ⊢
  clear b2 x2 z2 B1 hG
  go_wp2_with (with_reducible refine wpList_store_whole rfl 37 _ _ rfl G (gateC s.idx s.key) (by with_unfolding_all exact rfl) (by with_unfolding_all exact rfl) _ _ X2.out (gate_size _ _) rfl (gate_one _ _) ?_)
  intro w3 q3 x3 z3
  have B3 := Lib.hid (B2.out.grown q3 B2.out.size (fun k hk => by injection hk with hk; have := S2.out; omega))
  have I3 : Hid (SgAt w w3 b (.slice A m cap) L s g v u 0 G) := Lib.hid ⟨by simpa using H0.out.below B3.out rfl, O.out.below B3.out, x3, Keeps.of_below B3.out⟩
  clear q3 x3 z3 X2 B2 B3 H0 O
  go_wp2_with fail
  go_loopw [12] (fun i wr => ∃ k : Nat, k ≤ m ∧ i = .int .i64 (k : Int) ∧ SgAt w wr b (.slice A m cap) L s g v u k G) (fun i _ => m - (intOf i).toNat)
  case atStart => exact ⟨0, Nat.zero_le _, rfl, I3.out⟩
  case round =>
    clear I3
    obtain ⟨k, hk, rfl, hr⟩ := hrel
    have I := Lib.hid hr
    clear hr
    by_cases hlt : k < m
    · have dk : decide ((k : Int) < (m : Int)) = true := by simp; omega
      have jk : (k : Int) < (m : Int) := by omega
      have r4 : IntKind.i64.wrap ((k : Int) + 1) = ((k + 1 : Nat) : Int) := by have := HM.out; have := HN.out.2; rw [IntWalk.i64_in _ (by omega)]; omega
      obtain ⟨x, hx⟩ : ∃ x, L[k]? = some x := ⟨_, List.getElem?_eq_getElem (by rw [← HM.out]; exact hlt)⟩
      have hxa : (((L.take k).map s.sign ++ L.drop k).map Ent.enc)[k]? = some x.enc := by rw [List.getElem?_map, half_at _ _ _ _ hx]; rfl
      obtain ⟨gl, cap2, e1, -, -, hc⟩ := I.out.rows.spot (by intro e; rw [e] at hxa; simp at hxa)
      injection e1 with e1 e2 e3
      subst e1 e3
      have HC := Lib.hid (hc k _ hxa)
      obtain ⟨LL, hLL⟩ : ∃ q, q = ((L.take k).map s.sign ++ L.drop k).map Ent.enc := ⟨_, rfl⟩
      have HLL := Lib.hid hLL
      have HS : Hid (LL.set k (s.sign x).enc = ((L.take (k + 1)).map s.sign ++ L.drop (k + 1)).map Ent.enc) := Lib.hid (by rw [hLL, set_map, set_half s.sign L k x hx])
      have HI : Hid (k < LL.length) := Lib.hid (by rw [hLL, List.length_map, half_length, ← HM.out]; exact hlt)
      have CS := fun w4 t => Lib.hid (tkSign_any s.key { x with index := s.idx } HK.out (HE.out x (List.mem_of_getElem? hx)).1 w4 t)
      rw [show signE s.key { x with index := s.idx } = s.sign x from rfl] at CS
      clear hx hxa hc e2 hLL
      go_wp2_with (first | (with_reducible refine wpList_load_rec Ent.isRec rfl _ rfl gl (k * 6) (by with_unfolding_all exact rfl) x.enc (Ent.len _) HC.out ?_) | (refine wpList_alloc_row rfl 48 rfl ent0.cells ent_zero ?_))
      intro w1 b1 x1 z1
      have X1 := Lib.hid x1
      have B1 := Lib.hid b1
      have S1 := Lib.hid I.out.gate.lt
      obtain ⟨E, hE⟩ : ∃ q, q = wr.heap.size := ⟨_, rfl⟩
      have HEE := Lib.hid hE
      rw [← hE] at X1 S1 ⊢
      clear b1 x1 z1 hE HC
      go_wp2_with (with_reducible refine wpList_store_whole rfl 48 _ _ rfl E x.cells (by with_unfolding_all exact rfl) (by with_unfolding_all exact rfl) _ _ X1.out (ent_size' _) rfl (Ent.cells_one _) ?_)
      intro w2 q2 x2 z2
      have X2 := Lib.hid x2
      have B2 := Lib.hid (B1.out.grown q2 B1.out.size (fun k hk => by injection hk with hk; have := HEE.out; omega))
      have I2 := Lib.hid (I.out.below B2.out)
      clear q2 x2 z2 X1 B1
      have c0 : w2.cell? ⟨G, 0, none⟩ = some (.int .i64 s.idx) := I2.out.gate.at_ 0
      go_wp2_with (with_reducible refine wpList_put_cell 3 ⟨by kernel_rfl, by kernel_rfl⟩ rfl _ _ rfl E 4 (by with_unfolding_all exact rfl) (.int .i64 s.idx) (by with_unfolding_all exact rfl) (by with_unfolding_all exact rfl) (by with_unfolding_all exact rfl) _ _ X2.out _ (by with_unfolding_all exact rfl) ?_)
      intro w3 q3 x3 z3
      have X3 : Hid (EntAt w3 E { x with index := s.idx }) := Lib.hid x3
      have B3 := Lib.hid (B2.out.grown q3 B2.out.size (fun k hk => by injection hk with hk; have := HEE.out; omega))
      have I3 := Lib.hid (I.out.below B3.out)
      clear q3 x3 z3 X2 B2 I2 c0 B3 I HEE
      have c1 : w3.cell? ⟨G, 1, none⟩ = some (.string ⟨s.key.toArray⟩) := I3.out.gate.at_ 1
      go_wp2_with (with_reducible refine wpList_load_ent rfl _ rfl E (by with_unfolding_all exact rfl) { x with index := s.idx } X3.out ?_)
      refine (CS w3 (T0.out.keeps I3.out.keeps HLA.out)).out.mono ?_
      rintro e w4 ⟨rfl, b4⟩
      have I4 := Lib.hid (I3.out.below b4)
      have R4 : Hid (OwnRows w4 b 48 6 (.slice (some ⟨gl, 0, none⟩) m cap) LL) := Lib.hid (by rw [HLL.out]; exact I4.out.rows)
      clear b4 CS I3 X3 c1
      go_wp2_with (with_reducible refine wpList_put_row rfl _ _ rfl ent_size (some ⟨gl, 0, none⟩) m cap k gl R4.out HI.out rfl (by with_unfolding_all exact rfl) (s.sign x).enc (by with_unfolding_all exact rfl) (by with_unfolding_all exact Ent.len _) (by with_unfolding_all exact (Ent.fits _).one) ?_)
      intro w5 o5 q5 z5
      rw [HS.out] at o5
      have I5 : Hid (SgAt w w5 b (.slice (some ⟨gl, 0, none⟩) m cap) L s g v u (k + 1) G) := Lib.hid ⟨o5, I4.out.off.keeps (F := fun i => i = gl) (Keeps.of_grown q5 (fun k hk => .inl (by injection hk with hk; exact hk.symm))) (fun i hi e => HD.out gl rfl (e ▸ hi)), grown_far I4.out.gate q5 (by have := HG.out gl rfl; have := S2.out; omega), I4.out.keeps.trans (Keeps.of_grown q5 (fun k hk => .inl hk))⟩
      clear o5 q5 z5 I4 R4
      go_wp2
      exact ⟨⟨k + 1, by omega, by go_num, I5.out⟩, by simp [intOf]; omega⟩
    · have dk : decide ((k : Int) < (m : Int)) = false := by simp; omega
      have HR : Hid (OwnRows wr b 48 6 (.slice A m cap) (SS.map Ent.enc)) := Lib.hid (by rw [HSS.out]; have q := I.out.rows; rw [List.take_of_length_le (by rw [← HM.out]; omega), List.drop_eq_nil_of_le (by rw [← HM.out]; omega), List.append_nil] at q; exact q)
      have HL : Hid ((s.issued.map Ent.enc).length + (SS.map Ent.enc).length ≤ 10000000) := Lib.hid (by simp only [List.length_map]; rw [HSL.out, HM.out]; exact HN.out.1)
      have c4 := OffAt.c4 I.out.off
      go_wp2_with (with_reducible refine wpList_append_rows_at entZ rfl _ _ rfl v (by with_unfolding_all exact rfl) I.out.off.rows _ (SS.map Ent.enc) (by with_unfolding_all exact rfl) HR.out.rows (entC_one _) HL.out (Nat.zero_le _) ?_)
      intro v' w2 o2 q2 h2
      have X2 : Hid (Whole w2 g 63 (offC v u s).toArray) := Lib.hid (I.out.off.whole.grown_own q2 I.out.off.gv)
      have R2 : Hid (OwnRows w2 b 48 6 (.slice A m cap) (SS.map Ent.enc)) := Lib.hid ⟨HR.out.1.kept q2 (by
        cases e : Value.ownBlock (.slice A m cap) with
        | none => exact .inl rfl
        | some i => exact .inr (fun k => HD.out i e (.inr (.inl k.symm)))), HR.out.2⟩
      rw [← List.map_append] at o2
      obtain ⟨A', cap', hu⟩ := o2.form
      rw [List.length_map, List.length_append] at hu
      have o2' := Lib.hid o2
      have q2' := Lib.hid q2
      have h2' := Lib.hid h2
      subst hu
      clear o2 q2 h2 c4 HR
      go_wp2_with (with_reducible refine wpList_put_cell 40 ⟨by kernel_rfl, by kernel_rfl⟩ rfl _ _ rfl g 4 (by with_unfolding_all exact rfl) _ (by with_unfolding_all exact rfl) (by with_unfolding_all exact rfl) (by with_unfolding_all exact rfl) _ _ X2.out _ (by with_unfolding_all exact rfl) ?_)
      intro w3 q3 x3 z3
      have R3 := Lib.hid (R2.out.far q3 (fun e => HD.out g e (.inl rfl)))
      have E := Lib.hid (I.out.off.issued_more (l := SS) q2'.out o2'.out h2'.out q3 x3)
      clear q3 x3 z3 X2 o2' q2' h2' R2
      go_wp2
      go_ret
      exact ⟨rfl, _, R3.out, E.out.1, (I.out.keeps.mono (fun i h => .inr h)).trans (E.out.2.keeps.mono (fun i h => .inl h)), fun i h => (E.out.2.foot i h).imp id (fun q => Nat.le_trans I.out.keeps.size q)⟩

set_option maxHeartbeats 1000000 in
theorem issue_nil (n : List UInt8) (id : Nat) (f t : Int) (w : World) :
    Calls Tryd.prog 18 #[.pointer none, .string ⟨n.toArray⟩, .int .u64 (id : Int), .int .i64 f, .int .i64 t] w fun e w' => e = .returned (.tuple #[ent0.val, .int .i64 1]) ∧ Below w.heap.size w w' := by
  go_enter Tryd.func18, Tryd.ntmps18
  go_wp2_with (refine wpList_alloc_row rfl 48 rfl ent0.cells ent_zero ?_)
  intro w1 b1 x1 z1
  have X1 := Lib.hid x1
  have B1 := Lib.hid b1
  clear b1 x1 z1
  go_wp2_with (with_reducible refine wpList_store_whole rfl 48 _ _ rfl w.heap.size ent0.cells (by with_unfolding_all exact rfl) (by with_unfolding_all exact rfl) _ _ X1.out (ent_size' _) rfl (Ent.cells_one _) ?_)
  intro w2 q2 x2 z2
  have X2 := Lib.hid x2
  have B2 := Lib.hid (B1.out.grown q2 B1.out.size (fun k hk => by injection hk with hk; omega))
  clear q2 x2 z2 X1 B1
  go_wp2
  exact bodyPost_ret (results_ent_tmp rfl _ _ _ _ rfl X2.out) rfl ⟨rfl, B2.out⟩
/-- What is refused. -/
theorem iss_bad {s : OS} {n : List UInt8} {id : Nat} {f t : Int} (h : issC s n f t ≠ 0) : issE s n id f t = ent0 ∧ issS s n id f t = s := by rw [issE, issS, if_neg h, if_neg h]; exact ⟨rfl, rfl⟩
set_option maxHeartbeats 1000000 in
theorem issue_name (g : Nat) (n : List UInt8) (id : Nat) (f t : Int) (hb : nameB n = false) (w : World) :
    Calls Tryd.prog 18 #[.pointer (some ⟨g, 0, none⟩), .string ⟨n.toArray⟩, .int .u64 (id : Int), .int .i64 f, .int .i64 t] w fun e w' => e = .returned (.tuple #[ent0.val, .int .i64 30]) ∧ Below w.heap.size w w' := by
  have CN := fun w => Lib.hid (labelName_any n w)
  rw [hb] at CN
  clear hb
  go_enter Tryd.func18, Tryd.ntmps18
  go_wp2_with (refine wpList_alloc_row rfl 48 rfl ent0.cells ent_zero ?_)
  intro w1 b1 x1 z1
  have X1 := Lib.hid x1
  have B1 := Lib.hid b1
  clear b1 x1 z1
  go_wp2_with fail
  refine (CN w1).out.mono ?_
  rintro e w1' ⟨rfl, b1⟩
  have X1' := Lib.hid (Whole.below X1.out b1 X1.out.lt)
  have B1' := Lib.hid (B1.out.trans (b1.mono B1.out.size))
  clear b1 CN B1 X1
  go_wp2_with (with_reducible refine wpList_store_whole rfl 48 _ _ rfl w.heap.size ent0.cells (by with_unfolding_all exact rfl) (by with_unfolding_all exact rfl) _ _ X1'.out (ent_size' _) rfl (Ent.cells_one _) ?_)
  intro w2 q2 x2 z2
  have X2 := Lib.hid x2
  have B2 := Lib.hid (B1'.out.grown q2 B1'.out.size (fun k hk => by injection hk with hk; omega))
  clear q2 x2 z2 X1' B1'
  go_wp2
  exact bodyPost_ret (results_ent_tmp rfl _ _ _ _ rfl X2.out) rfl ⟨rfl, B2.out⟩
end Go.Proofs.YtfcjemedheccgaaDoor
