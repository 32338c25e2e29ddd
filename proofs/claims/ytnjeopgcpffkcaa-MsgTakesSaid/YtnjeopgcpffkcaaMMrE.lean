/- The document's reader of messages: the fields that are lists. (Written by tools/mkmrlist.py.) -/
import Derived.Test.YtnjeopgcpffkcaaMMrD
import Derived.Test.YtnjeopgcpffkcaaGbb
import Derived.Test.YtnjeopgcpffkcaaGv
import Derived.Test.YtnjeopgcpffkcaaMEnX
import Derived.Test.YtnjeopgcpffkcaaMGenP
import Derived.Deep.LoopGhost
namespace Go.Proofs.Ytnjeopgcpffkcaa
set_option maxRecDepth 100000
open Go.RowKit

theorem textO_length (s : RS) (most : Nat) : (textO s most).length ≤ most := by
  rw [textO]
  split
  · simp
  · split
    · simp
    · have := rawO_length (rawS s 2) (numO s 2)
      omega
theorem wp_one_ent {o : Oper} {a : Act} {w : World} {K : Act → World → Prop} {Q : Exit → Act → World → Prop} (y : Operand) (ho : o.op = .buildSlice 24 1 #[(0, y)]) (x : Ent) (hy : a.eval y = x.val)
    (h : ∀ w', Below w.heap.size w w' → RowsAt w' (.slice (some ⟨w.heap.size, 0, none⟩) 1 1) 6 [x.enc] → K (a.put o.dst (.slice (some ⟨w.heap.size, 0, none⟩) 1 1)) w') : o.wp Try.prog a w K Q := by
  obtain ⟨i, h1, h2, h3⟩ := Ent.info
  have hr := run_buildSlice (P := Try.prog) (w := w) Try.underlying24 h1 h2 1 (by rw [h3]; decide) (by rw [h3]; decide) #[(0, x.val)] x.enc.toArray (by rw [h3]; exact Ent.build_one x)
  have q := h (w.alloc (.cells x.enc.toArray 51)) ((Below.refl _ _).alloc (Nat.le_refl _) _) (rows_one (Whole.new w 51 x.enc.toArray) (Nat.le_refl _))
  unfold Oper.wp execOp
  simp only [ho, List.map_toArray, List.map_cons, List.map_nil, hy, hr, Sem.run_bind, Sem.run_pure, Result.andThen_ok, Oper.upon]
  exact q
/-- The message with these lists. -/
abbrev Mg.with7 (m : Mg) (l : List Ent) : Mg := { m with es := l }
abbrev Mg.with8 (m : Mg) (l : List Item) : Mg := { m with its := l }
section
variable {w0 w w' : World} {gT gQ gO base cap : Nat} {A : Option Addr} {b : List UInt8} {T : Tk} {e t : Row}
/-- Another block is written. -/
theorem Ttz.aside (hb : Ttb w0 gT gQ gO base A b) (h : Ttz w0 gT gQ gO base A cap b T e t w) {g : Nat} (q : w.grownBy w' (some g)) (hg : base ≤ g) (h1 : e.v.ownBlock ≠ some g) (h2 : t.v.ownBlock ≠ some g) : Ttz w0 gT gQ gO base A cap b T e t w' :=
  let ⟨a1, a2, a3, a4, a5⟩ := h.grows hb q (fun _ e => by injection e with e; omega)
  ⟨a1, ⟨h.lists.es.far q h1, h.lists.its.far q h2⟩, a2, a3, a4, a5, h.apt⟩
/-- Its entries have grown. -/
theorem Ttz.more7 (hb : Ttb w0 gT gQ gO base A b) {l : List Ent} {x : Ent} {m : Mg} {r : RS} {bad big : Bool} (h : Ttz w0 gT gQ gO base A cap b ⟨r, m.with7 l, bad, big⟩ e t w) {v9 : Row} (ho : OwnRows w' base 51 6 v9.v (l.map Ent.enc ++ [x.enc])) (q : w.grownBy w' e.v.ownBlock) (hat : v9.v.ownBlock = e.v.ownBlock ∨ v9.v.ownBlock = some w.heap.size) :
    (Tt.At w' gT ⟨gQ, (m.with7 l).raw e t, bad, big⟩ ∧ RfS w' gQ A cap b r ∧ Mr.At w' gO Mr.zero ∧ Below w0.heap.size w0 w' ∧ base ≤ w'.heap.size) ∧ OwnLists w' base v9 t (m.with7 (l ++ [x])) ∧ Apt v9.v t.v :=
  ⟨h.grows hb q (fun g e => (h.lists.es.lt g e).1), ⟨by show OwnRows w' base _ 6 v9.v ((l ++ [x]).map Ent.enc); rw [List.map_append]; exact ho, ⟨World.ownsRow.kept h.lists.its.1 q h.apt.far, h.lists.its.2⟩⟩, h.apt.next h.lists.its.1 hat rfl⟩
theorem Ttz.more8 (hb : Ttb w0 gT gQ gO base A b) {l : List Item} {x : Item} {m : Mg} {r : RS} {bad big : Bool} (h : Ttz w0 gT gQ gO base A cap b ⟨r, m.with8 l, bad, big⟩ e t w) {v9 : Row} (ho : OwnRows w' base 29 4 v9.v (l.map Item.enc ++ [x.enc])) (q : w.grownBy w' t.v.ownBlock) (hat : v9.v.ownBlock = t.v.ownBlock ∨ v9.v.ownBlock = some w.heap.size) :
    (Tt.At w' gT ⟨gQ, (m.with8 l).raw e t, bad, big⟩ ∧ RfS w' gQ A cap b r ∧ Mr.At w' gO Mr.zero ∧ Below w0.heap.size w0 w' ∧ base ≤ w'.heap.size) ∧ OwnLists w' base e v9 (m.with8 (l ++ [x])) ∧ Apt e.v v9.v :=
  ⟨h.grows hb q (fun g e => (h.lists.its.lt g e).1), ⟨⟨World.ownsRow.kept h.lists.es.1 q h.apt.turn.far, h.lists.es.2⟩, by show OwnRows w' base _ 4 v9.v ((l ++ [x]).map Item.enc); rw [List.map_append]; exact ho⟩, (h.apt.turn.next h.lists.es.1 hat rfl).turn⟩
theorem Ttz.stored (hb : Ttb w0 gT gQ gO base A b) {r : RS} {m : Mg} {bad big : Bool} {m' : Mg} {e' t' : Row} (h : Tt.At w gT ⟨gQ, m.raw e t, bad, big⟩ ∧ RfS w gQ A cap b r ∧ Mr.At w gO Mr.zero ∧ Below w0.heap.size w0 w ∧ base ≤ w.heap.size) (hl : OwnLists w base e' t' m') (ha : Apt e'.v t'.v) (q : w.grownBy w' (some gT)) (x : Tt.At w' gT ⟨gQ, m'.raw e' t', bad, big⟩) :
    Ttz w0 gT gQ gO base A cap b ⟨r, m', bad, big⟩ e' t' w' :=
  ⟨x, hl.far q hb.t, h.2.1.apart q hb.ne.symm (fun hne ad hA => by have := hb.far hne ad hA; have := hb.t0; omega), grown_far h.2.2.1 q hb.o.1, h.2.2.2.1.grown q h.2.2.2.1.size (fun k hk => by injection hk with hk; have := hb.t0; omega), Nat.le_trans h.2.2.2.2 q.size, ha⟩
end

set_option maxHeartbeats 2000000 in
theorem refTake_7 (w0 : World) (gT gQ gO base : Nat) (A : Option Addr) (cap : Nat) (b : List UInt8) (hb : Ttb w0 gT gQ gO base A b) (T : Tk) (hes : T.m.es = []) (w : World) (hh : Ttk w0 gT gQ gO base A cap b T w) :
    Calls Try.prog 52 #[.pointer (some ⟨gT, 0, none⟩), .int .u8 101] w fun x w' => x = .returned (.tuple #[]) ∧ Ttk w0 gT gQ gO base A cap b (takeF T 7) w' := by
  obtain ⟨e, t, h⟩ := hh
  have HK := Lib.hid hb
  have CC := Lib.hid (list_any w0 gT gQ gO base A cap b hb T e t w h 8)
  obtain ⟨n, hn⟩ : ∃ n, n = manyN T.r 8 := ⟨_, rfl⟩
  have HN : Hid (n ≤ 8) := Lib.hid (by rw [hn]; exact manyN_le _ _)
  obtain ⟨R, hR⟩ : ∃ R, R = entsT n (rawS T.r 1) T.bad [] := ⟨_, rfl⟩
  obtain ⟨bigX, hbig⟩ : ∃ q, q = (T.big || manyX T.r 8) := ⟨_, rfl⟩
  have HF : Hid (takeF T 7 = ⟨R.1, T.m.with7 R.2.2, R.2.1, bigX⟩) := Lib.hid (by rw [hR, hn, hbig]; rfl)
  have HR : Hid (entsT (n - 0) (rawS T.r 1) T.bad [] = R) := Lib.hid hR.symm
  have HM : Hid (T.m = T.m.with7 []) := Lib.hid (by have := hes; cases hT : T.m; rw [hT] at this; simp only at this; subst this; rfl)
  rw [← hn, ← hbig] at CC
  rw [HF.out]
  clear h hb hn hR hbig hes
  go_enter Try.func52, Try.ntmps52
  go_wp2_with fail
  refine CC.out.mono ?_
  rintro x w1 ⟨rfl, h1⟩
  rw [HM.out] at h1
  have H1 := Lib.hid h1
  clear h1 CC
  go_wp2_with fail
  go_loopw [5] (fun i wr => ∃ (k : Nat) (r : RS) (x : Bool) (l : List Ent) (e t : Row), k ≤ n ∧ i = .int .i64 (k : Int) ∧ Ttz w0 gT gQ gO base A cap b ⟨r, T.m.with7 l, x, bigX⟩ e t wr ∧ entsT (n - k) r x l = R ∧ l.length = k) (fun i _ => n - (intOf i).toNat)
  case atStart => exact ⟨0, _, _, [], e, t, Nat.zero_le _, rfl, H1.out, HR.out, rfl⟩
  case round =>
    obtain ⟨k, r, x, l, e1, t1, hk, rfl, hz, hT, hl⟩ := hrel
    obtain ⟨vA, vN, vC⟩ := e1
    have H0 := Lib.hid hz
    have T0 := Lib.hid hT
    have L0 := Lib.hid hl
    clear hz hT hl H1 HR
    by_cases hlt : k < n
    · have dk : decide ((k : Int) < (n : Int)) = true := by simp; omega
      have dk2 : decide (k < n) = true := by simpa using hlt
      have jk : (k : Int) < (n : Int) := by omega
      have r4 : IntKind.i64.wrap ((k : Int) + 1) = ((k + 1 : Nat) : Int) := by have := HN.out; rw [IntWalk.i64_in _ (by omega)]; omega
      have HT : Hid (entsT (n - (k + 1)) (textS r 128) (x || decide (readX (textO r 128) ≠ 0)) (l ++ [readE (textO r 128)]) = R) := Lib.hid (by
        have q := T0.out
        rw [show n - k = (n - (k + 1)) + 1 by omega, entsT] at q
        exact q)
      have CT := Lib.hid (rfText gQ 128 A cap b r wr H0.out.rd HK.out.small)
      have HX := Lib.hid (textO_length r 128)
      have c0 : wr.cell? ⟨gT, 0, none⟩ = some (.pointer (some ⟨gQ, 0, none⟩)) := H0.out.tt.at_ 0
      generalize textO r 128 = tx at *
      generalize textS r 128 = r' at *
      go_wp2_with fail
      refine CT.out.mono ?_
      rintro y w2 ⟨rfl, hr2, hg2⟩
      have H2 := Lib.hid (H0.out.read HK.out hr2 hg2)
      clear hr2 hg2 CT H0 c0 T0
      obtain ⟨vs, w3, rc, y3, b3⟩ := conv_str w2 ⟨tx.toArray⟩
      have H3 := Lib.hid (H2.out.below b3)
      obtain ⟨As, caps, rfl, -⟩ := id y3
      have y3' : BytesAt w3 (.slice As tx.length caps) tx := by simpa using y3
      have CR := Lib.hid (refRead_any As tx.length caps tx w3 (by have := HX.out; omega) y3')
      clear y3'
      generalize readE tx = re at *
      generalize readX tx = rx at *
      clear b3 H2 y3
      go_wp2_with fail
      refine CR.out.mono ?_
      rintro y w4 ⟨rfl, b4⟩
      have H4 := Lib.hid (H3.out.below b4)
      clear b4 H3 CR rc
      go_wp2_with (refine wpList_alloc_row rfl 51 rfl Ent.zero.enc.toArray Ent.zero_is ?_)
      intro w5 b5 x5 z5
      obtain ⟨gE, hgE⟩ : ∃ q, q = w4.heap.size := ⟨_, rfl⟩
      rw [← hgE] at x5 ⊢
      have X5 : Hid (Ent.At w5 gE Ent.zero) := Lib.hid x5
      have H5 := Lib.hid (H4.out.below b5)
      have NE := Lib.hid (show (Value.slice vA vN vC).ownBlock ≠ some gE from fun e => by have := (H4.out.lists.es.lt _ e).2; omega)
      have NI := Lib.hid (show t1.v.ownBlock ≠ some gE from fun e => by have := (H4.out.lists.its.lt _ e).2; omega)
      have NT := Lib.hid (show gE ≠ gT from by have := H4.out.tt.lt; omega)
      have NB := Lib.hid (show base ≤ gE from by have := H4.out.base; omega)
      clear b5 x5 z5 H4 hgE
      go_wp2_with (with_reducible refine wpList_store_whole rfl 51 _ _ rfl gE re.enc.toArray (by with_unfolding_all exact rfl) (by with_unfolding_all exact rfl) _ _ X5.out (Ent.size _) rfl (Ent.one _) ?_)
      intro w6 q6 x6 z6
      have X6 : Hid (Ent.At w6 gE re) := Lib.hid x6
      have H6 := Lib.hid (H5.out.aside HK.out q6 NB.out NE.out NI.out)
      clear q6 x6 z6 X5 H5
      by_cases h0 : rx = 0
      · have d2 : (rx != 0) = false := by simp [h0]
        have HY : Hid ((x || decide (rx ≠ 0)) = x) := Lib.hid (by simp [h0])
        rw [HY.out] at HT
        clear h0
        go_wp2_with fail
        refine regG_begin [12] (fun w' => w'.cell? ⟨gT, 10, none⟩ = some (.slice vA vN vC)) (fun w' => Ent.At w' gE re) (by kernel_rfl) ?_
        have bd : Below w6.heap.size w6 w6.drew := (Below.refl _ _).drew
        have HD := Lib.hid (H6.out.below bd)
        have hS1 : Ent.At w6.drew gE re := Whole.below X6.out bd X6.out.lt
        have hS0 : w6.drew.cell? ⟨gT, 10, none⟩ = some (.slice vA vN vC) := HD.out.tt.at_ 10
        generalize w6.drew = z0 at *
        clear bd H6 X6
        refine regG_take (i := 0) (v := ?_) rfl (by kernel_rfl) (by kernel_rfl) (by kernel_rfl) (by kernel_rfl) (by kernel_rfl) (fun _ _ _ h => h) (by rfl) ⟨hS1, .inl hS0⟩ ?hy0 ?_
        case hy0 => intro w' hw'; go_simp; (try with_reducible rfl)
        simp only [Act.put, List.setIfInBounds_toArray, List.set_cons_zero, List.set_cons_succ]
        refine regG_take (i := 1) (v := ?_) rfl (by kernel_rfl) (by kernel_rfl) (by kernel_rfl) (by kernel_rfl) (by kernel_rfl) (fun _ _ _ h => h) (by rfl) ⟨hS1, .inl hS0⟩ ?hy1 ?_
        case hy1 => intro w' hw'; go_simp; (try with_reducible rfl)
        simp only [Act.put, List.setIfInBounds_toArray, List.set_cons_zero, List.set_cons_succ]
        refine regG_take (i := 2) (v := ?_) rfl (by kernel_rfl) (by kernel_rfl) (by kernel_rfl) (by kernel_rfl) (by kernel_rfl) (fun _ _ _ h => h) (by rfl) ⟨hS1, .inl hS0⟩ ?hy2 ?_
        case hy2 => intro w' hw'; go_simp; (try with_reducible rfl)
        simp only [Act.put, List.setIfInBounds_toArray, List.set_cons_zero, List.set_cons_succ]
        refine regG_take (i := 3) (v := ?_) rfl (by kernel_rfl) (by kernel_rfl) (by kernel_rfl) (by kernel_rfl) (by kernel_rfl) (fun _ _ _ h => h) (by rfl) ⟨hS1, .inl hS0⟩ ?hy3 ?_
        case hy3 => intro w' hw'; go_simp; (try with_reducible rfl)
        simp only [Act.put, List.setIfInBounds_toArray, List.set_cons_zero, List.set_cons_succ]
        refine regG_take (i := 4) (v := ?_) rfl (by kernel_rfl) (by kernel_rfl) (by kernel_rfl) (by kernel_rfl) (by kernel_rfl) (fun _ _ _ h => h) (by rfl) ⟨hS1, .inl hS0⟩ ?hy4 ?_
        case hy4 => intro w' hw'; go_simp; (try with_reducible rfl)
        simp only [Act.put, List.setIfInBounds_toArray, List.set_cons_zero, List.set_cons_succ]
        refine regG_read (i := 5) (v := ?_) rfl (by kernel_rfl) (by kernel_rfl) (by kernel_rfl) (by kernel_rfl) (by kernel_rfl) (by kernel_rfl) (fun _ _ _ h => h) (by rfl) ⟨hS1, .inl hS0⟩ ?hy5 ?_
        case hy5 => intro w' hw'; go_simp; (try with_reducible rfl)
        simp only [Act.put, List.setIfInBounds_toArray, List.set_cons_zero, List.set_cons_succ]
        refine regG_take (i := 6) (v := Ent.val re) rfl (by kernel_rfl) (by kernel_rfl) (by kernel_rfl) (by kernel_rfl) (by kernel_rfl) (fun _ _ _ h => h) (by rfl) ⟨hS1, .inl hS0⟩ ?hy6 ?_
        case hy6 => intro w' hw'; exact exec_load_whole Ent.isRec _ rfl gE rfl _ _ (Ent.len _) w' hw'
        simp only [Act.put, List.setIfInBounds_toArray, List.set_cons_zero, List.set_cons_succ]
        refine regG_do (i := 7) rfl (by kernel_rfl) (fun K' hK => ?_)
        rw [if_pos (by rfl)]
        refine wp_one_ent _ rfl re (by with_unfolding_all exact rfl) ?_
        intro z1 bz1 yz1
        have YZ := Lib.hid yz1
        have HZ1 := Lib.hid (HD.out.below bz1)
        have hS1' : Ent.At z1 gE re := Whole.below hS1 bz1 hS1.lt
        have hS0' : z1.cell? ⟨gT, 10, none⟩ = some (.slice vA vN vC) := HZ1.out.tt.at_ 10
        refine hK.out _ _ hS1' (.inl hS0') ?_
        clear hK K' bz1 yz1 HD hS1 hS0
        refine regG_do (i := 8) rfl (by kernel_rfl) (fun K' hK => ?_)
        rw [if_pos (by rfl)]
        refine wp_append_rows_at entZ _ _ rfl (.slice vA vN vC) rfl HZ1.out.lists.es _ [Ent.enc re] rfl YZ.out (fun c hc => by rw [List.mem_singleton] at hc; subst hc; exact ⟨rfl, fun u hu => (Ent.fits _).one u hu⟩) (by have := L0.out; have := HN.out; simp; omega) HZ1.out.base ?_
        intro v9 z2 o9 q9 h9
        obtain ⟨r9, rfl⟩ := raw_of o9.rows
        have hS1 : Ent.At z2 gE re := hS1'.grown_own q9 NE.out
        have hM := HZ1.out.more7 HK.out o9 q9 h9
        have M9 := Lib.hid hM
        have hS0 : z2.cell? ⟨gT, 10, none⟩ = some (.slice vA vN vC) := hM.1.1.at_ 10
        refine hK.out _ _ hS1 (.inl hS0) ?_
        clear hK K' o9 q9 h9 HZ1 YZ hS1' hS0' hM
        refine regG_take (i := 9) (v := ?_) rfl (by kernel_rfl) (by kernel_rfl) (by kernel_rfl) (by kernel_rfl) (by kernel_rfl) (fun _ _ _ h => h) (by rfl) ⟨hS1, .inl hS0⟩ ?hy9 ?_
        case hy9 => intro w' hw'; go_simp; (try with_reducible rfl)
        simp only [Act.put, List.setIfInBounds_toArray, List.set_cons_zero, List.set_cons_succ]
        refine regG_take (i := 10) (v := ?_) rfl (by kernel_rfl) (by kernel_rfl) (by kernel_rfl) (by kernel_rfl) (by kernel_rfl) (fun _ _ _ h => h) (by rfl) ⟨hS1, .inl hS0⟩ ?hy10 ?_
        case hy10 => intro w' hw'; go_simp; (try with_reducible rfl)
        simp only [Act.put, List.setIfInBounds_toArray, List.set_cons_zero, List.set_cons_succ]
        refine regG_take (i := 11) (v := ?_) rfl (by kernel_rfl) (by kernel_rfl) (by kernel_rfl) (by kernel_rfl) (by kernel_rfl) (fun _ _ _ h => h) (by rfl) ⟨hS1, .inl hS0⟩ ?hy11 ?_
        case hy11 => intro w' hw'; go_simp; (try with_reducible rfl)
        simp only [Act.put, List.setIfInBounds_toArray, List.set_cons_zero, List.set_cons_succ]
        refine regG_do (i := 12) rfl (by kernel_rfl) (fun K' hK => ?_)
        rw [if_pos (by rfl)]
        refine wp_put_cell 24 ⟨by kernel_rfl, by kernel_rfl⟩ _ _ rfl gT 10 rfl r9.v rfl rfl rfl _ _ M9.out.1.1 _ (by with_unfolding_all exact rfl) ?_
        intro z3 q3 x3 s3
        have HF := Lib.hid (Ttz.stored HK.out M9.out.1 M9.out.2.1 M9.out.2.2 q3 x3)
        have hS1'' : Ent.At z3 gE re := grown_far hS1 q3 NT.out
        refine hK.out _ _ hS1'' (.inr ⟨_, List.mem_cons_self .., by kernel_rfl⟩) ?_
        clear hK K' q3 x3 s3 M9 hS1 hS1'' hS0
        refine regG_end (by kernel_rfl) ?_
        go_wp2
        exact ⟨⟨k + 1, _, _, _, _, _, by omega, by go_num, HF.out, HT.out, by have := L0.out; simp; omega⟩, by simp [intOf]; omega⟩
      · have d2 : (rx != 0) = true := by simpa using h0
        have HY : Hid ((x || decide (rx ≠ 0)) = true) := Lib.hid (by simp [h0])
        rw [HY.out] at HT
        clear h0
        go_wp2_with (with_reducible refine wpList_put_cell 4 ⟨by kernel_rfl, by kernel_rfl⟩ rfl _ _ rfl gT 12 (by with_unfolding_all exact rfl) (.bool true) (by with_unfolding_all exact rfl) (by with_unfolding_all exact rfl) (by with_unfolding_all exact rfl) _ _ H6.out.tt _ (by with_unfolding_all exact rfl) ?_)
        intro w7 q7 x7 z7
        have H7 := Lib.hid (H6.out.put (T' := ⟨r', T.m.with7 l, true, bigX⟩) HK.out H6.out.apt q7 x7 H6.out.lists rfl)
        have X7 : Hid (Ent.At w7 gE re) := Lib.hid (grown_far X6.out q7 NT.out)
        clear q7 x7 z7 H6 X6
        go_wp2_with fail
        refine regG_begin [12] (fun w' => w'.cell? ⟨gT, 10, none⟩ = some (.slice vA vN vC)) (fun w' => Ent.At w' gE re) (by kernel_rfl) ?_
        have bd : Below w7.heap.size w7 w7.drew := (Below.refl _ _).drew
        have HD := Lib.hid (H7.out.below bd)
        have hS1 : Ent.At w7.drew gE re := Whole.below X7.out bd X7.out.lt
        have hS0 : w7.drew.cell? ⟨gT, 10, none⟩ = some (.slice vA vN vC) := HD.out.tt.at_ 10
        generalize w7.drew = z0 at *
        clear bd H7 X7
        refine regG_take (i := 0) (v := ?_) rfl (by kernel_rfl) (by kernel_rfl) (by kernel_rfl) (by kernel_rfl) (by kernel_rfl) (fun _ _ _ h => h) (by rfl) ⟨hS1, .inl hS0⟩ ?hy0 ?_
        case hy0 => intro w' hw'; go_simp; (try with_reducible rfl)
        simp only [Act.put, List.setIfInBounds_toArray, List.set_cons_zero, List.set_cons_succ]
        refine regG_take (i := 1) (v := ?_) rfl (by kernel_rfl) (by kernel_rfl) (by kernel_rfl) (by kernel_rfl) (by kernel_rfl) (fun _ _ _ h => h) (by rfl) ⟨hS1, .inl hS0⟩ ?hy1 ?_
        case hy1 => intro w' hw'; go_simp; (try with_reducible rfl)
        simp only [Act.put, List.setIfInBounds_toArray, List.set_cons_zero, List.set_cons_succ]
        refine regG_take (i := 2) (v := ?_) rfl (by kernel_rfl) (by kernel_rfl) (by kernel_rfl) (by kernel_rfl) (by kernel_rfl) (fun _ _ _ h => h) (by rfl) ⟨hS1, .inl hS0⟩ ?hy2 ?_
        case hy2 => intro w' hw'; go_simp; (try with_reducible rfl)
        simp only [Act.put, List.setIfInBounds_toArray, List.set_cons_zero, List.set_cons_succ]
        refine regG_take (i := 3) (v := ?_) rfl (by kernel_rfl) (by kernel_rfl) (by kernel_rfl) (by kernel_rfl) (by kernel_rfl) (fun _ _ _ h => h) (by rfl) ⟨hS1, .inl hS0⟩ ?hy3 ?_
        case hy3 => intro w' hw'; go_simp; (try with_reducible rfl)
        simp only [Act.put, List.setIfInBounds_toArray, List.set_cons_zero, List.set_cons_succ]
        refine regG_take (i := 4) (v := ?_) rfl (by kernel_rfl) (by kernel_rfl) (by kernel_rfl) (by kernel_rfl) (by kernel_rfl) (fun _ _ _ h => h) (by rfl) ⟨hS1, .inl hS0⟩ ?hy4 ?_
        case hy4 => intro w' hw'; go_simp; (try with_reducible rfl)
        simp only [Act.put, List.setIfInBounds_toArray, List.set_cons_zero, List.set_cons_succ]
        refine regG_read (i := 5) (v := ?_) rfl (by kernel_rfl) (by kernel_rfl) (by kernel_rfl) (by kernel_rfl) (by kernel_rfl) (by kernel_rfl) (fun _ _ _ h => h) (by rfl) ⟨hS1, .inl hS0⟩ ?hy5 ?_
        case hy5 => intro w' hw'; go_simp; (try with_reducible rfl)
        simp only [Act.put, List.setIfInBounds_toArray, List.set_cons_zero, List.set_cons_succ]
        refine regG_take (i := 6) (v := Ent.val re) rfl (by kernel_rfl) (by kernel_rfl) (by kernel_rfl) (by kernel_rfl) (by kernel_rfl) (fun _ _ _ h => h) (by rfl) ⟨hS1, .inl hS0⟩ ?hy6 ?_
        case hy6 => intro w' hw'; exact exec_load_whole Ent.isRec _ rfl gE rfl _ _ (Ent.len _) w' hw'
        simp only [Act.put, List.setIfInBounds_toArray, List.set_cons_zero, List.set_cons_succ]
        refine regG_do (i := 7) rfl (by kernel_rfl) (fun K' hK => ?_)
        rw [if_pos (by rfl)]
        refine wp_one_ent _ rfl re (by with_unfolding_all exact rfl) ?_
        intro z1 bz1 yz1
        have YZ := Lib.hid yz1
        have HZ1 := Lib.hid (HD.out.below bz1)
        have hS1' : Ent.At z1 gE re := Whole.below hS1 bz1 hS1.lt
        have hS0' : z1.cell? ⟨gT, 10, none⟩ = some (.slice vA vN vC) := HZ1.out.tt.at_ 10
        refine hK.out _ _ hS1' (.inl hS0') ?_
        clear hK K' bz1 yz1 HD hS1 hS0
        refine regG_do (i := 8) rfl (by kernel_rfl) (fun K' hK => ?_)
        rw [if_pos (by rfl)]
        refine wp_append_rows_at entZ _ _ rfl (.slice vA vN vC) rfl HZ1.out.lists.es _ [Ent.enc re] rfl YZ.out (fun c hc => by rw [List.mem_singleton] at hc; subst hc; exact ⟨rfl, fun u hu => (Ent.fits _).one u hu⟩) (by have := L0.out; have := HN.out; simp; omega) HZ1.out.base ?_
        intro v9 z2 o9 q9 h9
        obtain ⟨r9, rfl⟩ := raw_of o9.rows
        have hS1 : Ent.At z2 gE re := hS1'.grown_own q9 NE.out
        have hM := HZ1.out.more7 HK.out o9 q9 h9
        have M9 := Lib.hid hM
        have hS0 : z2.cell? ⟨gT, 10, none⟩ = some (.slice vA vN vC) := hM.1.1.at_ 10
        refine hK.out _ _ hS1 (.inl hS0) ?_
        clear hK K' o9 q9 h9 HZ1 YZ hS1' hS0' hM
        refine regG_take (i := 9) (v := ?_) rfl (by kernel_rfl) (by kernel_rfl) (by kernel_rfl) (by kernel_rfl) (by kernel_rfl) (fun _ _ _ h => h) (by rfl) ⟨hS1, .inl hS0⟩ ?hy9 ?_
        case hy9 => intro w' hw'; go_simp; (try with_reducible rfl)
        simp only [Act.put, List.setIfInBounds_toArray, List.set_cons_zero, List.set_cons_succ]
        refine regG_take (i := 10) (v := ?_) rfl (by kernel_rfl) (by kernel_rfl) (by kernel_rfl) (by kernel_rfl) (by kernel_rfl) (fun _ _ _ h => h) (by rfl) ⟨hS1, .inl hS0⟩ ?hy10 ?_
        case hy10 => intro w' hw'; go_simp; (try with_reducible rfl)
        simp only [Act.put, List.setIfInBounds_toArray, List.set_cons_zero, List.set_cons_succ]
        refine regG_take (i := 11) (v := ?_) rfl (by kernel_rfl) (by kernel_rfl) (by kernel_rfl) (by kernel_rfl) (by kernel_rfl) (fun _ _ _ h => h) (by rfl) ⟨hS1, .inl hS0⟩ ?hy11 ?_
        case hy11 => intro w' hw'; go_simp; (try with_reducible rfl)
        simp only [Act.put, List.setIfInBounds_toArray, List.set_cons_zero, List.set_cons_succ]
        refine regG_do (i := 12) rfl (by kernel_rfl) (fun K' hK => ?_)
        rw [if_pos (by rfl)]
        refine wp_put_cell 24 ⟨by kernel_rfl, by kernel_rfl⟩ _ _ rfl gT 10 rfl r9.v rfl rfl rfl _ _ M9.out.1.1 _ (by with_unfolding_all exact rfl) ?_
        intro z3 q3 x3 s3
        have HF := Lib.hid (Ttz.stored HK.out M9.out.1 M9.out.2.1 M9.out.2.2 q3 x3)
        have hS1'' : Ent.At z3 gE re := grown_far hS1 q3 NT.out
        refine hK.out _ _ hS1'' (.inr ⟨_, List.mem_cons_self .., by kernel_rfl⟩) ?_
        clear hK K' q3 x3 s3 M9 hS1 hS1'' hS0
        refine regG_end (by kernel_rfl) ?_
        go_wp2
        exact ⟨⟨k + 1, _, _, _, _, _, by omega, by go_num, HF.out, HT.out, by have := L0.out; simp; omega⟩, by simp [intOf]; omega⟩
    · obtain rfl : k = n := by omega
      have dk : decide ((k : Int) < (k : Int)) = false := by simp
      have HT : Hid ((r, x, l) = R) := Lib.hid (by have q := T0.out; rw [Nat.sub_self] at q; exact q)
      have OF : Hid (Ttk w0 gT gQ gO base A cap b ⟨R.1, T.m.with7 R.2.2, R.2.1, bigX⟩ wr) := Lib.hid ⟨⟨vA, vN, vC⟩, t1, by rw [← HT.out]; exact H0.out⟩
      go_wp2
      go_end0
      exact ⟨rfl, OF.out⟩
end Go.Proofs.Ytnjeopgcpffkcaa
