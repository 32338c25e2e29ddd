/- Package office as landed: latest (a map of places, filled in a loop). -/
import Derived.Test.YtfcjemedheccgaaDoorGx
import Derived.Maps.OwnSet
namespace Go.Proofs.YtfcjemedheccgaaDoor
set_option maxRecDepth 100000
open Go.RowKit Go.Maps

/-- Where each name stands. -/
def PlaceOk (D : DataW Unit) (ns : List (List UInt8)) : Prop := ∀ n, Maps.has D (.string n) = decide (n ∈ ns) ∧ (n ∈ ns → D.atKey (.string n) (.lit (.int .i64 0)) = .lit (.int .i64 (ns.idxOf n : Int)))
theorem PlaceOk.empty : PlaceOk (.map []) [] := fun _ => ⟨rfl, fun h => by cases h⟩
theorem PlaceOk.put {D : DataW Unit} {ns : List (List UInt8)} (h : PlaceOk D ns) (hD : IsMap D) {n : List UInt8} (hn : n ∉ ns) : PlaceOk (D.put (.string n) (.lit (.int .i64 (ns.length : Int)))) (ns ++ [n]) := fun m => by
  by_cases hm : m = n
  · subst hm
    refine ⟨?_, fun _ => ?_⟩
    · rw [has_put_same hD (show WideAt.IsKeyLit (.string m) from trivial)]; simp
    · rw [atKey_put_same hD (show WideAt.IsKeyLit (.string m) from trivial), List.idxOf_append, if_neg hn]; simp
  · have hk : (Lit.string m) ≠ Lit.string n := fun e => hm (by injection e)
    obtain ⟨h1, h2⟩ := h m
    refine ⟨?_, fun hmem => ?_⟩
    · rw [has_put_other hk, h1]; simp [hm]
    · have hin : m ∈ ns := by simpa [hm] using hmem
      rw [atKey_put_other hk, h2 hin, List.idxOf_append, if_pos hin]
theorem set_names {acc : List Ent} {x : Ent} (h : x.name ∈ acc.map (·.name)) : (acc.set ((acc.map (·.name)).idxOf x.name) x).map (·.name) = acc.map (·.name) := by
  apply List.ext_getElem?
  intro i
  rw [List.getElem?_map, List.getElem?_set, List.getElem?_map]
  split
  · next hi =>
    subst hi
    have hlt := List.idxOf_lt_length_of_mem h
    rw [if_pos (by simpa using hlt)]
    have h2 := List.getElem_idxOf hlt
    rw [List.getElem_map] at h2
    rw [List.getElem?_eq_getElem (by simpa using hlt)]
    simp only [Option.map_some]
    rw [h2]
  · rfl
theorem key_str (n : List UInt8) (h : n.length ≤ 1000) : keyOf Tryd.prog 9 (.string ⟨n.toArray⟩) = some (.string n) := by
  have q := WideMaps.keyOf_string_mk (P := Tryd.prog) (k := 9) Tryd.underlying9 (s := ⟨n.toArray⟩) (by simp only [ByteArray.size, List.size_toArray, maxLen]; omega)
  simpa using q
theorem int_zero (w : World) : (zeroValue 3).run Tryd.prog w = .ok (.int .i64 0) w := by kernel_rfl

structure LtAt (w wr : World) (s : OS) (Bm k : Nat) (v' : Value) (D : DataW Unit) : Prop where
  rows : OwnRows wr (Bm + 1) 48 6 v' ((latest s.gone (s.issued.take k)).map Ent.enc)
  map : wr.ownsMap Tryd.prog 9 (plainElem Tryd.prog 3) Bm k D
  ok : PlaceOk D ((latest s.gone (s.issued.take k)).map (·.name))
  low : Below w.heap.size w wr
theorem LtAt.below {w wr w' : World} {s : OS} {Bm k : Nat} {v' : Value} {D : DataW Unit} (h : LtAt w wr s Bm k v' D) (b : Below wr.heap.size wr w') : LtAt w w' s Bm k v' D :=
  ⟨h.rows.below b rfl, h.map.kept (row := none) ⟨b.os, b.tape, b.output, b.size, fun i hi _ => b.block i hi⟩ (by simp), h.ok, h.low.trans (b.mono h.low.size)⟩
theorem lat_at {g : List (List UInt8)} {l : List Ent} {k : Nat} {x : Ent} (h : l[k]? = some x) : latest g (l.take (k + 1)) = latStep g (latest g (l.take k)) x := by
  rw [List.take_add_one, h]
  exact latest_snoc g _ x
set_option maxHeartbeats 1000000 in
theorem latest_any (g : Nat) (v u : Value) (s : OS) (N : Nat) (ok : s.Ok N) (hN : N ≤ 4000000) (w : World) (h : OffAt w g v u s) :
    Calls Tryd.prog 32 #[.pointer (some ⟨g, 0, none⟩)] w fun e w' => ∃ x, e = .returned x ∧ OwnRows w' w.heap.size 48 6 x ((latest s.gone s.issued).map Ent.enc) ∧ Below w.heap.size w w' := by
  have O := Lib.hid h
  have CM := fun n w h => Lib.hid (marked_below g v u s n N ok hN w h)
  have HE := Lib.hid ok.ents
  obtain ⟨m, hm⟩ : ∃ m, m = s.issued.length := ⟨_, rfl⟩
  have HM := Lib.hid hm
  have HN : Hid (m ≤ 4000000) := Lib.hid (by have := ok.many; omega)
  obtain ⟨A, cap, hv⟩ := h.rows.form
  rw [List.length_map, ← hm] at hv
  have b0 : Below w.heap.size w (w.alloc (.map #[] 0)) := (Below.refl _ _).alloc (Nat.le_refl _) _
  have I0 : Hid (LtAt w (w.alloc (.map #[] 0)) s w.heap.size 0 (.slice none 0 0) (.map [])) := Lib.hid ⟨OwnRows.nil _ _ _ _, World.ownsMap_made _ _ _ _, PlaceOk.empty, b0⟩
  have c4 := OffAt.c4 (h.below b0)
  have HF := Lib.hid h.lt
  have hmm := @run_makeMap Tryd.prog
  subst hv
  clear h ok hN hm b0
  go_enter Tryd.func32, Tryd.ntmps32
  go_wp2_with fail
  obtain ⟨w0, hw0⟩ : ∃ q, q = w.alloc (.map #[] 0) := ⟨_, rfl⟩
  obtain ⟨Bm, hBm⟩ : ∃ q, q = w.heap.size := ⟨_, rfl⟩
  have HB : Hid (w.heap.size ≤ Bm) := Lib.hid (by omega)
  rw [← hw0] at I0 c4 ⊢
  rw [← hBm]
  have I0' : Hid (LtAt w w0 s Bm 0 (.slice none 0 0) (.map [])) := Lib.hid (by rw [hBm]; exact I0.out)
  clear hmm hw0 hBm c4 I0
  go_loopw [3, 15] (fun o i wr => ∃ (k : Nat) (v' : Value) (D : DataW Unit), k ≤ m ∧ v' = o ∧ i = .int .i64 (k : Int) ∧ LtAt w wr s Bm k v' D) (fun _ i _ => m - (intOf i).toNat)
  case atStart => exact ⟨0, _, _, Nat.zero_le _, rfl, rfl, I0'.out⟩
  case round =>
    clear I0'
    obtain ⟨k, v', D, hk, rfl, rfl, hr⟩ := hrel
    have I := Lib.hid hr
    clear hr
    by_cases hlt : k < m
    · have dk : decide ((k : Int) < (m : Int)) = true := by simp; omega
      have jk : (k : Int) < (m : Int) := by omega
      have r4 : IntKind.i64.wrap ((k : Int) + 1) = ((k + 1 : Nat) : Int) := by have := HN.out; rw [IntWalk.i64_in _ (by omega)]; omega
      obtain ⟨x, hx⟩ : ∃ x, s.issued[k]? = some x := ⟨_, List.getElem?_eq_getElem (by rw [← HM.out]; exact hlt)⟩
      have hxa : (s.issued.map Ent.enc)[k]? = some x.enc := by rw [List.getElem?_map, hx]; rfl
      obtain ⟨gl, cap2, e1, -, hgl, hc⟩ := O.out.rows.spot (by intro e; rw [e] at hxa; simp at hxa)
      injection e1 with e1 e2 e3
      subst e1 e3
      have HC := Lib.hid (fun j u (hj : x.enc[j]? = some u) => (I.out.low.cell (p := ⟨gl, k * 6 + j, none⟩) hgl).trans (hc k _ hxa j u hj))
      have HXN := Lib.hid (HE.out x (List.mem_of_getElem? hx)).1
      have HS := Lib.hid (lat_at (g := s.gone) hx)
      clear hx hxa hc e2 hgl
      go_wp2_with (first | (with_reducible refine wpList_load_rec Ent.isRec rfl _ rfl gl (k * 6) (by with_unfolding_all exact rfl) x.enc (Ent.len _) HC.out ?_) | (refine wpList_alloc_row rfl 48 rfl ent0.cells ent_zero ?_))
      intro w1 b1 x1 z1
      have X1 := Lib.hid x1
      have B1 := Lib.hid b1
      obtain ⟨gE, hE⟩ : ∃ q, q = wr.heap.size := ⟨_, rfl⟩
      have HEE := Lib.hid hE
      rw [← hE] at X1 ⊢
      clear b1 x1 z1 hE HC
      go_wp2_with (with_reducible refine wpList_store_whole rfl 48 _ _ rfl gE x.cells (by with_unfolding_all exact rfl) (by with_unfolding_all exact rfl) _ _ X1.out (ent_size' _) rfl (Ent.cells_one _) ?_)
      intro w2 q2 x2 z2
      have X2 : Hid (Ent.At w2 gE x) := Lib.hid x2
      have B2 := Lib.hid (B1.out.grown q2 B1.out.size (fun k hk => by injection hk with hk; have := HEE.out; omega))
      have I2 := Lib.hid (I.out.below B2.out)
      have L2 := Lib.hid I2.out.low
      have HG : Hid (∀ i, v'.ownBlock = some i → i < gE) := Lib.hid (fun i e => by have := (I.out.rows.lt i e).2; have := HEE.out; omega)
      have HG2 : Hid (Bm < gE) := Lib.hid (by have := I.out.map.lt; have := HEE.out; omega)
      clear q2 x2 z2 X1 B1 B2 I
      have I0 : Hid (LtAt w w2 s Bm k v' D) := Lib.hid (I2.out)
      clear I2
      go_wp2_with (with_reducible refine wpList_load_whole Ent.isRec rfl _ rfl gE (by with_unfolding_all exact rfl) _ _ (Ent.len _) X2.out ?_)
      refine reg_begin (by kernel_rfl) fun w1 b1 z1 => ?_
      have E1 : Hid (Ent.At w1 gE x) := Lib.hid (Whole.below X2.out b1 X2.out.lt)
      have I1 : Hid (LtAt w w1 s Bm k v' D) := Lib.hid (I0.out.below b1)
      have B1 := Lib.hid (L2.out.trans (b1.mono L2.out.size))
      clear b1 z1 X2 I0 L2
      refine reg_take (i := 0) (v := ?_) rfl (by kernel_rfl) (by kernel_rfl) (by kernel_rfl) (fun _ _ _ h => h) (by rfl) ?hy0 ?_
      case hy0 => intro w' hw'; go_simp; (try with_reducible rfl)
      simp only [Act.put, List.setIfInBounds_toArray, List.set_cons_zero, List.set_cons_succ]
      refine reg_take (i := 1) (v := ?_) rfl (by kernel_rfl) (by kernel_rfl) (by kernel_rfl) (fun _ _ _ h => h) (by rfl) ?hy1 ?_
      case hy1 => intro w' hw'; go_simp; (try with_reducible rfl)
      simp only [Act.put, List.setIfInBounds_toArray, List.set_cons_zero, List.set_cons_succ]
      refine reg_take (i := 2) (v := ?_) rfl (by kernel_rfl) (by kernel_rfl) (by kernel_rfl) (fun _ _ _ h => h) (by rfl) ?hy2 ?_
      case hy2 => intro w' hw'; go_simp; (try with_reducible rfl)
      simp only [Act.put, List.setIfInBounds_toArray, List.set_cons_zero, List.set_cons_succ]
      refine reg_take (i := 3) (v := ?_) rfl (by kernel_rfl) (by kernel_rfl) (by kernel_rfl) (fun _ _ _ h => h) (by rfl) ?hy3 ?_
      case hy3 => intro w' hw'; go_simp; (try with_reducible rfl)
      simp only [Act.put, List.setIfInBounds_toArray, List.set_cons_zero, List.set_cons_succ]
      refine reg_take (i := 4) (v := (.string ⟨(x).name.toArray⟩)) rfl (by kernel_rfl) (by kernel_rfl) (by kernel_rfl) (fun _ _ _ h => h) (by rfl) ?hy4 ?_
      case hy4 => intro w' hw'; have c := Ent.At.at_name (Whole.below E1.out hw' E1.out.lt); go_simp; (try with_reducible rfl)
      simp only [Act.put, List.setIfInBounds_toArray, List.set_cons_zero, List.set_cons_succ]
      refine reg_call (i := 5) rfl (by kernel_rfl) (fun K' hK => ?_)
      go_simp
      refine ((CM x.name w1 (O.out.below B1.out)).out).mono ?_
      rintro e2 w2 ⟨rfl, b2⟩
      have E2 : Hid (Ent.At w2 gE x) := Lib.hid (Whole.below E1.out b2 E1.out.lt)
      have I2 : Hid (LtAt w w2 s Bm k v' D) := Lib.hid (I1.out.below b2)
      have B2 := Lib.hid (B1.out.trans (b2.mono B1.out.size))
      refine hK.out _ _ b2 ?_
      clear hK K' b2 E1 I1 B1
      refine reg_end (by kernel_rfl) ?_
      have HM' : Hid (s.marked x.name = decide (x.name ∈ s.gone)) := Lib.hid rfl
      obtain ⟨q, hq⟩ : ∃ q, q = s.marked x.name := ⟨_, rfl⟩
      rw [← hq] at HM' ⊢
      clear hq
      cases q with
      | true =>
        have I4 : Hid (LtAt w w2 s Bm (k + 1) v' D) := Lib.hid (by
          have e : latest s.gone (s.issued.take (k + 1)) = latest s.gone (s.issued.take k) := by rw [HS.out, latStep, if_pos (by simpa using HM'.out.symm)]
          exact ⟨by rw [e]; exact I2.out.rows, I2.out.map.mono (Nat.le_succ _), by rw [e]; exact I2.out.ok, I2.out.low⟩)
        go_wp2
        exact ⟨⟨k + 1, v', D, by omega, rfl, by go_num, I4.out⟩, by simp [intOf]; omega⟩
      | false =>
        have hg : x.name ∉ s.gone := by simpa using HM'.out.symm
        have HG0 := Lib.hid hg
        clear hg HM'
        have c0 := Ent.At.at_name E2.out
        have KL := Lib.hid (key_str x.name HXN.out)
        obtain ⟨acc, hacc⟩ : ∃ q, q = latest s.gone (s.issued.take k) := ⟨_, rfl⟩
        have HACC := Lib.hid hacc
        have HNX : Hid (latest s.gone (s.issued.take (k + 1)) = if x.name ∈ acc.map (·.name) then acc.set ((acc.map (·.name)).idxOf x.name) x else acc ++ [x]) := Lib.hid (by rw [HS.out, latStep, if_neg HG0.out, hacc])
        have HLN : Hid (acc.length ≤ 4000000) := Lib.hid (by rw [hacc]; have h1 := latest_length s.gone (s.issued.take k); rw [List.length_take, ← HM.out] at h1; have := HN.out; omega)
        obtain ⟨LL, hLL⟩ : ∃ q, q = acc.map Ent.enc := ⟨_, rfl⟩
        have HLL := Lib.hid hLL
        have HLE : Hid (LL.length = acc.length) := Lib.hid (by rw [hLL, List.length_map])
        have R5 : Hid (OwnRows w2 (Bm + 1) 48 6 v' LL) := Lib.hid (by rw [hLL, hacc]; exact I2.out.rows)
        have P5 : Hid (PlaceOk D (acc.map (·.name))) := Lib.hid (by rw [hacc]; exact I2.out.ok)
        clear hacc HS hLL
        by_cases hmet : x.name ∈ acc.map (·.name)
        · have HH : Maps.has D (.string x.name) = true := by rw [(P5.out x.name).1, decide_eq_true hmet]
          have HK := Lib.hid ((P5.out x.name).2 hmet)
          have HP := Lib.hid (List.idxOf_lt_length_of_mem hmet)
          have HST := Lib.hid (set_names hmet)
          rw [if_pos hmet] at HNX
          obtain ⟨p, hp⟩ : ∃ p, p = (acc.map (·.name)).idxOf x.name := ⟨_, rfl⟩
          rw [← hp] at HK HP HST HNX
          clear hp hmet
          go_wp2_with (at_lookup; refine wpList_lookup_own_ok_int _ rfl _ _ 89 rfl 9 3 .i64 (string_keyed Tryd.underlying9) Tryd.underlying89 Tryd.underlying3 (int_zero _) Bm k D rfl I2.out.map _ _ rfl KL.out ?_)
          intro c hat hwc
          obtain rfl : c = (p : Int) := by
            have e := hat.symm.trans HK.out
            injection e with e
            injection e with e1 e2
          clear hat hwc
          obtain ⟨gl, cap3, rfl, hgb, hgl, -⟩ := R5.out.spot (by intro e; have h1 := HP.out; have h2 := HLE.out; rw [e] at h2; simp at h1; simp at h2; omega)
          have HPL : Hid (p < LL.length) := Lib.hid (by have h1 := HP.out; rw [HLE.out]; simpa using h1)
          have HLS : Hid (LL.set p x.enc = (acc.set p x).map Ent.enc) := Lib.hid (by rw [HLL.out, List.map_set])
          have jp : (p : Int) < (LL.length : Int) := by have := HPL.out; omega
          have HGB := Lib.hid (And.intro hgb hgl)
          clear HP HK hgb hgl
          go_wp2_with (first | (with_reducible refine wpList_load_whole Ent.isRec rfl _ rfl gE (by with_unfolding_all exact rfl) _ _ (Ent.len _) E2.out ?_) | (with_reducible refine wpList_put_row rfl _ _ rfl ent_size (some ⟨gl, 0, none⟩) LL.length cap3 p gl R5.out HPL.out rfl (by with_unfolding_all exact rfl) x.enc (by with_unfolding_all exact rfl) (by with_unfolding_all exact Ent.len _) (by with_unfolding_all exact (Ent.fits _).one) ?_))
          intro w6 o6 q6 z6
          have I6 : Hid (LtAt w w6 s Bm (k + 1) (.slice (some ⟨gl, 0, none⟩) LL.length cap3) D) := Lib.hid ⟨by rw [HNX.out, ← HLS.out]; exact o6, (I2.out.map.kept q6 (by intro e; injection e with e; have := HGB.out.1; omega)).mono (Nat.le_succ _), by rw [HNX.out, HST.out]; exact P5.out, B2.out.grown q6 B2.out.size (fun i hi => by injection hi with hi; have := HGB.out.1; have := HB.out; omega)⟩
          clear o6 q6 z6
          go_wp2
          exact ⟨⟨k + 1, _, D, by omega, rfl, by go_num, I6.out⟩, by simp [intOf]; omega⟩
        · have HH : Maps.has D (.string x.name) = false := by rw [(P5.out x.name).1, decide_eq_false hmet]
          have HNM := Lib.hid hmet
          rw [if_neg hmet] at HNX
          clear hmet
          go_wp2_with (at_lookup; refine wpList_lookup_own_ok_int _ rfl _ _ 89 rfl 9 3 .i64 (string_keyed Tryd.underlying9) Tryd.underlying89 Tryd.underlying3 (int_zero _) Bm k D rfl I2.out.map _ _ rfl KL.out ?_)
          intro c hat hwc
          clear hat hwc
          obtain ⟨A', cap3, rfl⟩ := R5.out.form
          have HKM : Hid (k < maxLen) := Lib.hid (by have := HN.out; simp only [maxLen]; omega)
          have WF : (Lit.int .i64 (LL.length : Int)).wf = true := WalkArith.wf_i64 (by have := HLE.out; have := HLN.out; omega)
          have hWF := Lib.hid WF
          clear WF
          go_wp2_with (at_mapUpdate; refine wpList_mapUpdate_own _ rfl _ _ _ 89 rfl 9 3 (string_keyed Tryd.underlying9) Tryd.underlying89 _ Bm k D rfl I2.out.map HKM.out _ _ _ rfl rfl KL.out _ [] (plainElem_int Tryd.underlying3 hWF.out) ?_)
          intro w5 m5 g5
          have R6 := Lib.hid (R5.out.far g5 (by intro e; have := (R5.out.lt _ e).1; omega))
          have E6 : Hid (Ent.At w5 gE x) := Lib.hid (grown_far E2.out g5 (by have := HG2.out; omega))
          have M6 : Hid (w5.ownsMap Tryd.prog 9 (plainElem Tryd.prog 3) Bm (k + 1) (D.put (.string x.name) (.lit (.int .i64 (LL.length : Int))))) := Lib.hid m5
          have L6 := Lib.hid (B2.out.grown g5 B2.out.size (fun i hi => by injection hi with hi; have := HB.out; omega))
          have P6 : Hid (PlaceOk (D.put (.string x.name) (.lit (.int .i64 (LL.length : Int)))) ((acc ++ [x]).map (·.name))) := Lib.hid (by
            have q := P5.out.put I2.out.map.isMap HNM.out
            rw [List.length_map, ← HLE.out] at q
            rw [List.map_append]
            exact q)
          clear m5 g5 HH
          go_wp2_with (with_reducible refine Ent.wpList_one rfl _ rfl Ent.zero (by with_unfolding_all exact rfl) ?_)
          intro w6 b6 y6 z6
          have Y7 := Lib.hid y6
          have R7 := Lib.hid (R6.out.below b6 rfl)
          have E7 : Hid (Ent.At w6 gE x) := Lib.hid (Whole.below E6.out b6 E6.out.lt)
          have M7 := Lib.hid (M6.out.kept (row := none) ⟨b6.os, b6.tape, b6.output, b6.size, fun i hi _ => b6.block i hi⟩ (by simp))
          have L7 := Lib.hid (L6.out.trans (b6.mono L6.out.size))
          have HBS : Hid (Bm + 1 ≤ w6.heap.size) := Lib.hid M7.out.lt
          have HONE : Hid (∀ c ∈ [Ent.zero.enc], c.length = 6 ∧ ∀ u ∈ c, u.oneCell' = true) := Lib.hid (entC_one [Ent.zero])
          have HSUM : Hid (LL.length + [Ent.zero.enc].length ≤ 10000000) := Lib.hid (by have h1 := HLE.out; have h2 := HLN.out; rw [List.length_singleton]; omega)
          clear b6 y6 z6 R6 E6 M6 L6
          go_wp2_with (with_reducible refine wpList_append_rows_at entZ rfl _ _ rfl (.slice A' LL.length cap3) (by with_unfolding_all exact rfl) R7.out _ [Ent.zero.enc] (by with_unfolding_all exact rfl) Y7.out HONE.out HSUM.out HBS.out ?_)
          intro v7 w7 o7 q7 h7
          obtain ⟨gl, cap4, rfl, hgb, hgl, -⟩ := o7.spot (by simp)
          have E8 : Hid (Ent.At w7 gE x) := Lib.hid (E7.out.grown_own q7 (fun e => by have := HG.out _ e; omega))
          have M8 := Lib.hid (M7.out.kept q7 (fun e => by have := (R7.out.lt _ e.symm).1; omega))
          have L8 := Lib.hid (L7.out.grown q7 L7.out.size (fun i e => by have := (R7.out.lt _ e).1; have := HB.out; omega))
          obtain ⟨len, hlen⟩ : ∃ q, q = (LL ++ [Ent.zero.enc]).length := ⟨_, rfl⟩
          have HLEN : Hid (len = LL.length + 1) := Lib.hid (by rw [hlen]; simp)
          rw [← hlen] at o7 ⊢
          obtain ⟨L9, hL9⟩ : ∃ q, q = LL ++ [Ent.zero.enc] := ⟨_, rfl⟩
          rw [← hL9] at o7
          have R8 := Lib.hid o7
          have HPL : Hid (LL.length < L9.length) := Lib.hid (by rw [hL9]; simp)
          have HLS : Hid (L9.set LL.length x.enc = (acc ++ [x]).map Ent.enc) := Lib.hid (by rw [hL9, List.set_append_right _ _ (Nat.le_refl _), Nat.sub_self, List.set_cons_zero, List.map_append, HLL.out]; rfl)
          have jp : (LL.length : Int) < (len : Int) := by have := HLEN.out; omega
          have HGB := Lib.hid (And.intro hgb hgl)
          clear o7 q7 h7 hgb hgl hlen hL9 R7 E7 M7 L7 Y7 HBS
          go_wp2_with (first | (with_reducible refine wpList_load_whole Ent.isRec rfl _ rfl gE (by with_unfolding_all exact rfl) _ _ (Ent.len _) E8.out ?_) | (with_reducible refine wpList_put_row rfl _ _ rfl ent_size (some ⟨gl, 0, none⟩) len cap4 LL.length gl R8.out HPL.out rfl (by with_unfolding_all exact rfl) x.enc (by with_unfolding_all exact rfl) (by with_unfolding_all exact Ent.len _) (by with_unfolding_all exact (Ent.fits _).one) ?_))
          intro w9 o9 q9 z9
          have I9 : Hid (LtAt w w9 s Bm (k + 1) (.slice (some ⟨gl, 0, none⟩) len cap4) (D.put (.string x.name) (.lit (.int .i64 (LL.length : Int))))) := Lib.hid ⟨by rw [HNX.out, ← HLS.out]; exact o9, M8.out.kept q9 (by intro e; injection e with e; have := HGB.out.1; omega), by rw [HNX.out]; exact P6.out, L8.out.grown q9 L8.out.size (fun i hi => by injection hi with hi; have := HGB.out.1; have := HB.out; omega)⟩
          clear o9 q9 z9 R8 E8 M8 L8
          go_wp2
          exact ⟨⟨k + 1, _, _, by omega, rfl, by go_num, I9.out⟩, by simp [intOf]; omega⟩
    · have dk : decide ((k : Int) < (m : Int)) = false := by simp; omega
      have HR : Hid (OwnRows wr (Bm + 1) 48 6 v' ((latest s.gone s.issued).map Ent.enc)) := Lib.hid (by have q := I.out.rows; rw [List.take_of_length_le (by rw [← HM.out]; omega)] at q; exact q)
      go_wp2
      go_ret
      exact ⟨_, rfl, HR.out.less (by have := HB.out; omega), I.out.low⟩
end Go.Proofs.YtfcjemedheccgaaDoor
