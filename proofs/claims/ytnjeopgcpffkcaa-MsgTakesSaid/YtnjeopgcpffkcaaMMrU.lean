/- The document's Take of some bytes. -/
import Derived.Test.YtnjeopgcpffkcaaMMrT
import Derived.Test.YtnjeopgcpffkcaaGbe
namespace Go.Proofs.Ytnjeopgcpffkcaa
set_option maxRecDepth 100000
open Go.RowKit

theorem nodup_take {l : List Nat} (hn : l.Nodup) {k f : Nat} (h : l[k]? = some f) : f ∉ l.take k := by
  induction l generalizing k with
  | nil => simp at h
  | cons x r ih =>
    rw [List.nodup_cons] at hn
    cases k with
    | zero => simp
    | succ k =>
      rw [List.getElem?_cons_succ] at h
      rw [List.take_succ_cons, List.mem_cons, not_or]
      refine ⟨?_, ih hn.2 h⟩
      rintro rfl
      exact hn.1 (List.mem_of_getElem? h)
theorem refE_eq (T : Tk) (hb : T.big = true → T.r.e = 0) : takeE T = if T.r.e ≠ 0 then (Mg.zero, T.r.e) else if T.big = true then (Mg.zero, 3) else if endE T.r ≠ 0 then (Mg.zero, endE T.r) else if T.bad = true ∨ rightM T.m = false then (Mg.zero, 11) else (T.m, 0) := by
  rw [takeE]
  cases hq : T.big with
  | true => simp [hb hq]
  | false =>
    by_cases h0 : T.r.e = 0
    · simp [h0]
    · have e1 : endE T.r = T.r.e := by rw [endE, if_pos h0]
      simp [e1, h0]

set_option maxHeartbeats 8000000 in
theorem refMsTake_some (A : Option Addr) (n cap : Nat) (c : UInt8) (r : List UInt8) (w : World) (h : BytesAt w (.slice A n cap) (c :: r)) (hk : knownK (c.toNat : Int) = true) (hn9 : n ≤ 9000) :
    Calls Try.prog 20 #[.slice A n cap] w fun x w' => ∃ e t, x = .returned (.tuple #[((takeM (c :: r)).1.raw e t).val, .int .i64 (takeM (c :: r)).2]) ∧ Lists w' e t (takeM (c :: r)).1 ∧ Below w.heap.size w w' := by
  obtain ⟨T0, hT0⟩ : ∃ T0, T0 = take0 c r := ⟨_, rfl⟩
  obtain ⟨TT, hTT⟩ : ∃ TT, TT = takeT T0 (fldK (c.toNat : Int)) := ⟨_, rfl⟩
  have HT : Hid (takeM (c :: r) = if TT.r.e ≠ 0 then (Mg.zero, TT.r.e) else if TT.big = true then (Mg.zero, 3) else if endE TT.r ≠ 0 then (Mg.zero, endE TT.r) else if TT.bad = true ∨ rightM TT.m = false then (Mg.zero, 11) else (TT.m, 0)) := Lib.hid (by
    rw [takeM, if_neg (by simp [hk]), ← hT0, ← hTT]
    exact refE_eq TT (fun hb => by rw [hTT]; rw [hTT] at hb; exact big_ok _ T0 (by rw [hT0]; rfl) (fld_last _) hb))
  obtain ⟨RM, hRM⟩ : ∃ q, q = takeM (c :: r) := ⟨_, rfl⟩
  rw [← hRM] at HT ⊢
  have HS := Lib.hid (show Small TT.m by rw [hTT]; exact takeT_small _ _ (by rw [hT0]; exact headM_small _ _))
  have HTT := Lib.hid hTT
  have HQ : Hid (T0 = ⟨rawS ⟨r, 0⟩ 4, headM (c.toNat : Int) (numO ⟨r, 0⟩ 4 : Int), false, false⟩) := Lib.hid hT0
  have HT7 : Hid (T0.m.es = [] ∧ T0.m.its = []) := Lib.hid (by rw [hT0]; exact ⟨rfl, rfl⟩)
  have rz4 := numO_i64 ⟨r, 0⟩ 4 (by decide)
  have hsz := h.size
  have hn : 0 < n := by rw [hsz.1]; simp
  have hrl : r.length = n - 1 := by rw [hsz.1]; simp
  have hrest := h.rest 1 (by omega)
  obtain ⟨g, off, rfl, hgl, hc⟩ := h.spots (by simp)
  obtain ⟨A1, hA1⟩ : ∃ A1, A1 = (if cap = 1 then some (⟨g, off, none⟩ : Addr) else (some (⟨g, off, none⟩ : Addr)).map (·.add 1)) := ⟨_, rfl⟩
  rw [← hA1] at hrest
  have hrest : BytesAt w (.slice A1 r.length (cap - 1)) r := by rw [hrl]; simpa using hrest
  have HB := Lib.hid hrest
  have HA1 : Hid (r ≠ [] → ∀ ad, A1 = some ad → ad.block < w.heap.size) := Lib.hid (fun _ ad e => by
    rw [hA1] at e
    split at e
    · injection e with e; subst e; exact hgl
    · simp only [Option.map_some] at e
      injection e with e
      subst e
      rw [add_block]
      exact hgl)
  have HC := Lib.hid (show w.cell? ⟨g, off, none⟩ = some (.int .u8 (c.toNat : Int)) from hc 0 c (by simp))
  have CK := fun w => Lib.hid (refLetters_any (c.toNat : Int) w)
  have hd := letters_dash (c.toNat : Int)
  rw [hk] at hd
  obtain ⟨L, hL⟩ : ∃ L, L = lettersK (c.toNat : Int) := ⟨_, rfl⟩
  obtain ⟨fs, hfs⟩ : ∃ fs, fs = fldK (c.toNat : Int) := ⟨_, rfl⟩
  have HLL : Hid (L = fs.map letC) := Lib.hid (by rw [hL, lettersK, if_pos hk, hfs])
  have HF9 : Hid (∀ f ∈ fs, f < 9) := Lib.hid (fun f hf => fld_lt (by rw [hfs] at hf; exact hf))
  have HND : Hid fs.Nodup := Lib.hid (by rw [hfs]; exact fld_nodup _)
  have HF5 : Hid (fs.length ≤ 5) := Lib.hid (by rw [hfs]; exact fld_len _)
  rw [← hfs] at HTT
  rw [← hL] at CK hd
  have r0 : (L == [45]) = false := by simpa using hd
  have rz : IntKind.i64.wrap (c.toNat : Int) = (c.toNat : Int) := by have := c.toNat_lt; rw [IntWalk.i64_in _ (by omega)]
  have e0 : ((n : Int) == 0) = false := by simp; omega
  have HN := Lib.hid (And.intro hn (And.intro hsz.2 (And.intro hrl (by rw [hrl]; omega : r.length ≤ 9000))))
  have HA2 := Lib.hid hA1
  clear h hc hk hd hL hfs hT0 hTT hRM hrest hA1 hn9 hrl hsz
  go_enter Try.func20, Try.ntmps20
  go_wp2_with (refine wpList_alloc_row rfl 27 rfl Mr.zero.enc.toArray Mr.zero_is ?_)
  intro w1 b1 x1 z1
  obtain ⟨gO, hgO⟩ : ∃ g, g = w.heap.size := ⟨_, rfl⟩
  have M_O := Lib.hid (show w.heap.size ≤ gO from by rw [hgO]; exact Nat.le_refl _)
  have B1 := Lib.hid b1
  rw [← hgO] at x1 ⊢
  have O1 : Hid (Mr.At w1 gO Mr.zero) := Lib.hid x1
  clear b1 x1 z1 hgO 
  have c0 : w1.cell? ⟨g, off, none⟩ = some (.int .u8 (c.toNat : Int)) := (B1.out.cell (p := ⟨g, off, none⟩) hgl).trans HC.out
  go_wp2_with (with_reducible refine wpList_load_whole_st Mr.isRec rfl _ rfl gO (by with_unfolding_all exact rfl) _ _ (Mr.len _) O1.out ?_)
  refine ((CK w1).out).mono ?_
  rintro e2 w2 ⟨rfl, b2⟩
  have O2 : Hid (Mr.At w2 gO Mr.zero) := Lib.hid (Whole.below O1.out b2 O1.out.lt)
  have B2 := Lib.hid (B1.out.trans (b2.mono B1.out.size))
  clear b2 O1 B1
  clear c0
  have c0 : w2.cell? ⟨g, off, none⟩ = some (.int .u8 (c.toNat : Int)) := (B2.out.cell (p := ⟨g, off, none⟩) hgl).trans HC.out
  go_wp2_with fail
  refine regS_begin (fun w' => w'.cell? ⟨g, off, none⟩ = some (.int .u8 (c.toNat : Int))) (by kernel_rfl) c0 ?_
  have hS : w2.drew.cell? ⟨g, off, none⟩ = some (.int .u8 (c.toNat : Int)) := c0
  have bd : Below w2.heap.size w2 w2.drew := (Below.refl _ _).drew
  have O4 : Hid (Mr.At w2.drew gO Mr.zero) := Lib.hid (Whole.below O2.out bd O2.out.lt)
  have B4 := Lib.hid (B2.out.trans (bd.mono B2.out.size))
  generalize w2.drew = v4 at *
  clear bd c0 O2 B2
  refine regS_take (i := 0) (v := ?_) rfl (by kernel_rfl) (by kernel_rfl) (by kernel_rfl) (fun _ _ _ h => h) (by rfl) hS ?hy0 ?_
  case hy0 => intro w' hw'; go_simp; (try with_reducible rfl)
  simp only [Act.put, List.setIfInBounds_toArray, List.set_cons_zero, List.set_cons_succ]
  refine regS_take (i := 1) (v := .slice A1 r.length (cap - 1)) rfl (by kernel_rfl) (by kernel_rfl) (by kernel_rfl) (fun _ _ _ h => h) (by rfl) hS ?hy1 ?_
  case hy1 =>
    intro w' hw'
    have h1 := HN.out.1
    have h2 := HN.out.2.1
    have h3 := HN.out.2.2.1
    rw [h3, HA2.out]
    by_cases hc1 : cap = 1
    · subst hc1
      go_simp
      intro hx
      omega
    · go_simp
      intro hx
      omega
  simp only [Act.put, List.setIfInBounds_toArray, List.set_cons_zero, List.set_cons_succ]
  refine regS_take (i := 3) (v := ?_) rfl (by kernel_rfl) (by kernel_rfl) (by kernel_rfl) (fun _ _ _ h => h) (by rfl) hS ?hy3 ?_
  case hy3 => intro w' hw'; go_simp; (try with_reducible rfl)
  simp only [Act.put, List.setIfInBounds_toArray, List.set_cons_zero, List.set_cons_succ]
  refine regS_take (i := 4) (v := ?_) rfl (by kernel_rfl) (by kernel_rfl) (by kernel_rfl) (fun _ _ _ h => h) (by rfl) hS ?hy4 ?_
  case hy4 => intro w' hw'; go_simp; (try with_reducible rfl)
  simp only [Act.put, List.setIfInBounds_toArray, List.set_cons_zero, List.set_cons_succ]
  refine regS_take (i := 5) (v := ?_) rfl (by kernel_rfl) (by kernel_rfl) (by kernel_rfl) (fun _ _ _ h => h) (by rfl) hS ?hy5 ?_
  case hy5 => intro w' hw'; go_simp; (try with_reducible rfl)
  simp only [Act.put, List.setIfInBounds_toArray, List.set_cons_zero, List.set_cons_succ]
  refine regS_take (i := 6) (v := ?_) rfl (by kernel_rfl) (by kernel_rfl) (by kernel_rfl) (fun _ _ _ h => h) (by rfl) hS ?hy6 ?_
  case hy6 => intro w' hw'; go_simp; (try with_reducible rfl)
  simp only [Act.put, List.setIfInBounds_toArray, List.set_cons_zero, List.set_cons_succ]
  refine regS_take (i := 7) (v := .agg ((headM (c.toNat : Int) 0).raw Row.nil Row.nil).enc.toArray) rfl (by kernel_rfl) (by kernel_rfl) (by kernel_rfl) (fun _ _ _ h => h) (by rfl) hS ?hy7 ?_
  case hy7 => intro w' hw'; exact exec_build_rec 27 _ rfl #[(0, .int .i64 (c.toNat : Int))] (by with_unfolding_all exact rfl) _ (by kernel_rfl) w'
  simp only [Act.put, List.setIfInBounds_toArray, List.set_cons_zero, List.set_cons_succ]
  refine regS_do (i := 2) rfl (by kernel_rfl) (fun K' hK => ?_)
  go_simp
  refine (rfOpen A1 (cap - 1) r v4 (HB.out.below B4.out)).mono ?_
  rintro x v5 ⟨rfl, hr5, b5⟩
  obtain ⟨gQ, hgQ⟩ : ∃ q, q = v4.heap.size := ⟨_, rfl⟩
  have NOQ := Lib.hid (show gO < gQ from by rw [hgQ]; exact O4.out.lt)
  have NQ0 := Lib.hid (show w.heap.size ≤ gQ from by rw [hgQ]; exact B4.out.size)
  have O5 : Hid (Mr.At v5 gO Mr.zero) := Lib.hid (Whole.below O4.out b5 O4.out.lt)
  have B5 := Lib.hid (B4.out.trans (b5.mono B4.out.size))
  rw [← hgQ] at hr5 ⊢
  have Q5 := Lib.hid hr5
  have NQ5 := Lib.hid (show gQ < v5.heap.size from by obtain ⟨p, hrf, -⟩ := hr5; exact Whole.lt hrf)
  clear hS
  have hS : v5.cell? ⟨g, off, none⟩ = some (.int .u8 (c.toNat : Int)) := (B5.out.cell (p := ⟨g, off, none⟩) hgl).trans HC.out
  refine hK.out _ _ hS ?_
  clear hK K' hr5 b5 O4 B4 hgQ
  refine regS_take (i := 8) (v := .agg (Tt.enc ⟨gQ, (headM (c.toNat : Int) 0).raw Row.nil Row.nil, false, false⟩).toArray) rfl (by kernel_rfl) (by kernel_rfl) (by kernel_rfl) (fun _ _ _ h => h) (by rfl) hS ?hy8 ?_
  case hy8 => intro w' hw'; exact exec_build_rec 79 _ rfl #[(0, .pointer (some ⟨gQ, 0, none⟩)), (1, .agg ((headM (c.toNat : Int) 0).raw Row.nil Row.nil).enc.toArray)] (by with_unfolding_all exact rfl) _ (by kernel_rfl) w'
  simp only [Act.put, List.setIfInBounds_toArray, List.set_cons_zero, List.set_cons_succ]
  refine regS_do (i := 9) rfl (by kernel_rfl) (fun K' hK => ?_)
  rw [if_pos (by rfl)]
  refine wp_box_row 79 _ rfl (Tt.enc ⟨gQ, (headM (c.toNat : Int) 0).raw Row.nil Row.nil, false, false⟩).toArray (by with_unfolding_all exact rfl) ?_
  intro v6 b6 x6 z6
  obtain ⟨gT, hgT⟩ : ∃ q, q = v5.heap.size := ⟨_, rfl⟩
  have NQT := Lib.hid (show gQ < gT from by rw [hgT]; exact NQ5.out)
  rw [← hgT] at x6 ⊢
  obtain ⟨base, hbase⟩ : ∃ q, q = v6.heap.size := ⟨_, rfl⟩
  have KB : Hid (Ttb w gT gQ gO base A1 r) := Lib.hid (by
    have h1 := NQT.out
    have h2 := NOQ.out
    have h3 := NQ0.out
    have h4 := x6.lt
    exact ⟨by omega, by omega, by omega, by omega, by omega, ⟨by omega, by omega⟩, by omega, HA1.out, HN.out.2.2.2⟩)
  have Z6 : Hid (Ttz w gT gQ gO base A1 (cap - 1) r ⟨⟨r, 0⟩, headM (c.toNat : Int) 0, false, false⟩ Row.nil Row.nil v6) := Lib.hid
    ⟨x6, ⟨OwnRows.nil _ _ _ _, OwnRows.nil _ _ _ _⟩, Q5.out.belowR b6, Whole.below O5.out b6 O5.out.lt, B5.out.trans (b6.mono B5.out.size), Nat.le_of_eq hbase, .inl ⟨rfl, rfl⟩⟩
  clear hS
  have hS : v6.cell? ⟨g, off, none⟩ = some (.int .u8 (c.toNat : Int)) := (Z6.out.low.cell (p := ⟨g, off, none⟩) hgl).trans HC.out
  refine hK.out _ _ hS ?_
  clear hK K' b6 x6 z6 O5 B5 Q5 NQ5 hgT hbase
  refine regS_take (i := 10) (v := ?_) rfl (by kernel_rfl) (by kernel_rfl) (by kernel_rfl) (fun _ _ _ h => h) (by rfl) hS ?hy10 ?_
  case hy10 => intro w' hw'; go_simp; (try with_reducible rfl)
  simp only [Act.put, List.setIfInBounds_toArray, List.set_cons_zero, List.set_cons_succ]
  refine regS_end (by kernel_rfl) ?_
  clear hS
  have c0 : v6.cell? ⟨gT, 0, none⟩ = some (.pointer (some ⟨gQ, 0, none⟩)) := Z6.out.tt.at_ 0
  have CN := Lib.hid (rfNum gQ 4 A1 (cap - 1) r ⟨r, 0⟩ v6 Z6.out.rd KB.out.small (by decide) (by decide))
  obtain ⟨rid, hrid⟩ : ∃ q, q = numO ⟨r, 0⟩ 4 := ⟨_, rfl⟩
  obtain ⟨s4, hs4⟩ : ∃ q, q = rawS ⟨r, 0⟩ 4 := ⟨_, rfl⟩
  rw [← hrid] at CN rz4 HQ
  rw [← hs4] at CN HQ
  clear hrid hs4
  go_wp2_with fail
  refine CN.out.mono ?_
  rintro x v7 ⟨rfl, hr7, hg7⟩
  have Z7 := Lib.hid (Z6.out.read KB.out hr7 hg7)
  clear hr7 hg7 CN Z6 c0
  go_wp2_with (with_reducible refine wpList_put_cell 3 ⟨by kernel_rfl, by kernel_rfl⟩ rfl _ _ rfl gT 2 (by with_unfolding_all exact rfl) (.int .i64 (rid : Int)) (by with_unfolding_all exact rfl) (by with_unfolding_all exact rfl) (by with_unfolding_all exact rfl) _ _ Z7.out.tt _ (by with_unfolding_all exact rfl) ?_)
  intro v8 q8 x8 z8
  have Z8 : Hid (Ttk w gT gQ gO base A1 (cap - 1) r (takeT T0 (fs.take 0)) v8) := Lib.hid (by
    rw [HQ.out]
    exact ⟨Row.nil, Row.nil, Z7.out.put (T' := ⟨s4, headM (c.toNat : Int) (rid : Int), false, false⟩) KB.out Z7.out.apt q8 x8 ⟨Z7.out.lists.es, Z7.out.lists.its⟩ rfl⟩)
  clear q8 x8 z8 Z7
  go_wp2_with fail
  go_loopw [6] (fun i wr => ∃ k : Nat, k ≤ fs.length ∧ i = .int .i64 (k : Int) ∧ Ttk w gT gQ gO base A1 (cap - 1) r (takeT T0 (fs.take k)) wr) (fun i _ => fs.length - (intOf i).toNat)
  case atStart => exact ⟨0, Nat.zero_le _, rfl, Z8.out⟩
  case round =>
    obtain ⟨k, hk, rfl, hz⟩ := hrel
    have Z0 := Lib.hid hz
    clear hz Z8
    have LN : L.length = fs.length := by rw [HLL.out, List.length_map]
    by_cases hlt : k < fs.length
    · have dk : decide ((k : Int) < (L.length : Int)) = true := by simp; omega
      have dk2 : decide (k < L.length) = true := by simp; omega
      have jk : (k : Int) < (L.length : Int) := by omega
      obtain ⟨f, hf⟩ : ∃ f, fs[k]? = some f := ⟨_, List.getElem?_eq_getElem hlt⟩
      have hd : L[k]? = some (letC f) := by rw [HLL.out, List.getElem?_map, hf]; rfl
      have hnd := nodup_take HND.out hf
      have rs := str_at L k (letC f) hd
      have r4 : IntKind.i64.wrap ((k : Int) + 1) = ((k + 1 : Nat) : Int) := by have := HF5.out; rw [IntWalk.i64_in _ (by omega)]; omega
      have CF := Lib.hid (refTake_any1 f (HF9.out f (List.mem_of_getElem? hf)) w gT gQ gO base A1 (cap - 1) _ KB.out (takeT T0 (fs.take k)) (fun e => by rw [take_es T0 _ (by rw [← e]; exact hnd)]; exact HT7.out.1) (fun e => by rw [take_its T0 _ (by rw [← e]; exact hnd)]; exact HT7.out.2) wr Z0.out)
      rw [← takeT_snoc, ← take_at hf] at CF
      generalize letC f = d at *
      clear hf hd hnd LN
      go_wp2_with fail
      refine CF.out.mono ?_
      rintro y u2 ⟨rfl, hz2⟩
      have Z2 := Lib.hid hz2
      clear hz2 CF Z0
      go_wp2
      exact ⟨⟨k + 1, by omega, by go_num, Z2.out⟩, by simp [intOf]; omega⟩
    · obtain rfl : k = fs.length := by omega
      have dk : decide ((fs.length : Int) < (L.length : Int)) = false := by simp; omega
      have dk2 : decide (fs.length < L.length) = false := by simp; omega
      have ZF : Hid (Ttk w gT gQ gO base A1 (cap - 1) r TT wr) := Lib.hid (by rw [HTT.out]; have := Z0.out; rwa [List.take_length] at this)
      clear Z0 LN
      obtain ⟨e, t, hz⟩ := ZF.out
      have H1 := Lib.hid hz
      obtain ⟨p, hrf, -⟩ := hz.rd
      have c0 : wr.cell? ⟨gT, 0, none⟩ = some (.pointer (some ⟨gQ, 0, none⟩)) := hz.tt.at_ 0
      have c2 : wr.cell? ⟨gQ, 2, none⟩ = some (.int .i64 TT.r.e) := hrf.at_ 2
      have cb : wr.cell? ⟨gT, 13, none⟩ = some (.bool TT.big) := hz.tt.at_ 13
      have NO0 := Lib.hid (show w.heap.size ≤ gO from M_O.out)
      have NOT := Lib.hid (show gO ≠ gT ∧ gO ≠ gQ from KB.out.o)
      have CE := Lib.hid (rfEnd gQ A1 (cap - 1) _ TT.r wr hz.rd)
      have CE2 := fun w1 h => Lib.hid (rfEnd gQ A1 (cap - 1) r TT.r w1 h)
      obtain ⟨qe, hqe⟩ : ∃ q, q = TT.r.e := ⟨_, rfl⟩
      obtain ⟨qb, hqb⟩ : ∃ q, q = TT.big := ⟨_, rfl⟩
      obtain ⟨qx, hqx⟩ : ∃ q, q = endE TT.r := ⟨_, rfl⟩
      rw [← hqe, ← hqb, ← hqx] at HT
      rw [← hqe] at c2
      rw [← hqb] at cb
      rw [← hqx] at CE
      simp only [← hqx] at CE2
      clear hz ZF hrf hqe hqb hqx
      by_cases h0 : qe = 0
      · subst h0
        cases qb with
        | true =>
          have HV : Hid (RM = (Mg.zero, 3)) := Lib.hid (by rw [HT.out]; simp)
          go_wp2_with (first | (with_reducible refine wpList_build_rec rfl 27 _ rfl #[] (by with_unfolding_all exact rfl) Mr.zero.enc.toArray (by kernel_rfl) ?_) | (with_reducible refine wpList_store_whole rfl 27 _ _ rfl gO Mr.zero.enc.toArray (by with_unfolding_all exact rfl) (by with_unfolding_all exact rfl) _ _ H1.out.res (Mr.size _) rfl (Mr.one _) ?_))
          intro y3 q3 x3 z3
          have O3 : Hid (Mr.At y3 gO Mr.zero) := Lib.hid x3
          have B3 := Lib.hid (H1.out.low.grown q3 H1.out.low.size (fun k hk => by injection hk with hk; have := NO0.out; omega))
          clear q3 x3 z3 H1
          go_wp2
          exact bodyPost_ret (results_st_tmp Mr.isRec rfl _ _ _ _ _ rfl rfl O3.out) rfl ⟨Row.nil, Row.nil, by rw [HV.out]; rfl, by rw [HV.out]; exact Lists.zero _, B3.out⟩
        | false =>
          go_wp2_with fail
          refine CE.out.mono ?_
          rintro y u2 ⟨rfl, hr2, hg2⟩
          have H2 : Hid (Ttz w gT gQ gO base A1 (cap - 1) _ TT e t u2) := Lib.hid (H1.out.read KB.out hr2 hg2)
          clear hr2 hg2 CE H1 c0 c2 cb
          have c0 : u2.cell? ⟨gT, 0, none⟩ = some (.pointer (some ⟨gQ, 0, none⟩)) := H2.out.tt.at_ 0
          have cd : u2.cell? ⟨gT, 12, none⟩ = some (.bool TT.bad) := H2.out.tt.at_ 12
          by_cases hx : qx = 0
          · subst hx
            obtain ⟨qd, hqd⟩ : ∃ q, q = TT.bad := ⟨_, rfl⟩
            rw [← hqd] at cd HT
            clear hqd CE2
            cases qd with
            | true =>
              have HV : Hid (RM = (Mg.zero, 11)) := Lib.hid (by rw [HT.out]; simp)
              go_wp2_with (first | (with_reducible refine wpList_build_rec rfl 27 _ rfl #[] (by with_unfolding_all exact rfl) Mr.zero.enc.toArray (by kernel_rfl) ?_) | (with_reducible refine wpList_store_whole rfl 27 _ _ rfl gO Mr.zero.enc.toArray (by with_unfolding_all exact rfl) (by with_unfolding_all exact rfl) _ _ H2.out.res (Mr.size _) rfl (Mr.one _) ?_))
              intro y3 q3 x3 z3
              have O3 : Hid (Mr.At y3 gO Mr.zero) := Lib.hid x3
              have B3 := Lib.hid (H2.out.low.grown q3 H2.out.low.size (fun k hk => by injection hk with hk; have := NO0.out; omega))
              clear q3 x3 z3 H2
              go_wp2
              exact bodyPost_ret (results_st_tmp Mr.isRec rfl _ _ _ _ _ rfl rfl O3.out) rfl ⟨Row.nil, Row.nil, by rw [HV.out]; rfl, by rw [HV.out]; exact Lists.zero _, B3.out⟩
            | false =>
              have CR := Lib.hid (refMsRight_any TT.m e t HS.out.1 HS.out.2 u2 H2.out.lists.lists)
              obtain ⟨qr, hqr⟩ : ∃ q, q = rightM TT.m := ⟨_, rfl⟩
              rw [← hqr] at CR HT
              clear hqr
              have m0 : u2.cell? ⟨gT, 1, none⟩ = some (.int .i64 TT.m.kind) := H2.out.tt.at_ 1
              have m1 : u2.cell? ⟨gT, 2, none⟩ = some (.int .i64 TT.m.rid) := H2.out.tt.at_ 2
              have m2 : u2.cell? ⟨gT, 3, none⟩ = some (.int .i64 TT.m.ver) := H2.out.tt.at_ 3
              have m3 : u2.cell? ⟨gT, 4, none⟩ = some (.int .i64 TT.m.error) := H2.out.tt.at_ 4
              have m4 : u2.cell? ⟨gT, 5, none⟩ = some (.int .u64 (TT.m.id : Int)) := H2.out.tt.at_ 5
              have m5 : u2.cell? ⟨gT, 6, none⟩ = some (.bool TT.m.has) := H2.out.tt.at_ 6
              have m6 : u2.cell? ⟨gT, 7, none⟩ = some (.bool TT.m.gone) := H2.out.tt.at_ 7
              have m7 : u2.cell? ⟨gT, 8, none⟩ = some (.string ⟨TT.m.key.toArray⟩) := H2.out.tt.at_ 8
              have m8 : u2.cell? ⟨gT, 9, none⟩ = some (.string ⟨TT.m.val.toArray⟩) := H2.out.tt.at_ 9
              have m9 : u2.cell? ⟨gT, 10, none⟩ = some (.slice e.a e.n e.c) := H2.out.tt.at_ 10
              have m10 : u2.cell? ⟨gT, 11, none⟩ = some (.slice t.a t.n t.c) := H2.out.tt.at_ 11
              go_wp2_with fail
              refine CR.out.mono ?_
              rintro y u3 ⟨rfl, b3⟩
              have H3 := Lib.hid (H2.out.below b3)
              clear b3 CR H2 m0 m1 m2 m3 m4 m5 m6 m7 m8 m9 m10 c0 cd
              cases qr with
              | true =>
                have HV : Hid (RM = (TT.m, 0)) := Lib.hid (by rw [HT.out]; simp)
                have OB := Lib.hid (show gO < base from KB.out.ob)
                go_wp2_with (first | (with_reducible refine wpList_load_rec_st Mr.isRec rfl _ rfl gT 1 (by with_unfolding_all exact rfl) (TT.m.raw e t).enc (Mr.len _) (Tt.At.part_m H3.out.tt) ?_) | (with_reducible refine wpList_store_whole rfl 27 _ _ rfl gO (TT.m.raw e t).enc.toArray (by with_unfolding_all exact rfl) (by with_unfolding_all exact rfl) _ _ H3.out.res (Mr.size _) rfl (Mr.one _) ?_))
                intro y4 q4 x4 z4
                have O4 : Hid (Mr.At y4 gO (TT.m.raw e t)) := Lib.hid x4
                have L4 := Lib.hid (H3.out.lists.far q4 OB.out).lists
                have B4 := Lib.hid (H3.out.low.grown q4 H3.out.low.size (fun k hk => by injection hk with hk; have := NO0.out; omega))
                clear q4 x4 z4 H3
                go_wp2
                exact bodyPost_ret (results_st_tmp Mr.isRec rfl _ _ _ _ _ rfl rfl O4.out) rfl ⟨e, t, by rw [HV.out]; rfl, by rw [HV.out]; exact L4.out, B4.out⟩
              | false =>
                have HV : Hid (RM = (Mg.zero, 11)) := Lib.hid (by rw [HT.out]; simp)
                go_wp2_with (first | (with_reducible refine wpList_build_rec rfl 27 _ rfl #[] (by with_unfolding_all exact rfl) Mr.zero.enc.toArray (by kernel_rfl) ?_) | (with_reducible refine wpList_store_whole rfl 27 _ _ rfl gO Mr.zero.enc.toArray (by with_unfolding_all exact rfl) (by with_unfolding_all exact rfl) _ _ H3.out.res (Mr.size _) rfl (Mr.one _) ?_))
                intro y4 q4 x4 z4
                have O4 : Hid (Mr.At y4 gO Mr.zero) := Lib.hid x4
                have B4 := Lib.hid (H3.out.low.grown q4 H3.out.low.size (fun k hk => by injection hk with hk; have := NO0.out; omega))
                clear q4 x4 z4 H3
                go_wp2
                exact bodyPost_ret (results_st_tmp Mr.isRec rfl _ _ _ _ _ rfl rfl O4.out) rfl ⟨Row.nil, Row.nil, by rw [HV.out]; rfl, by rw [HV.out]; exact Lists.zero _, B4.out⟩
          · have HV : Hid (RM = (Mg.zero, qx)) := Lib.hid (by rw [HT.out]; simp [hx])
            have e1 : (qx == 0) = false := by simpa using hx
            have e2 : (qx != 0) = true := by simpa using hx
            have CX := Lib.hid (CE2 u2 H2.out.rd).out
            clear CE2
            go_wp2_with (with_reducible refine wpList_build_rec rfl 27 _ rfl #[] (by with_unfolding_all exact rfl) Mr.zero.enc.toArray (by kernel_rfl) ?_)
            refine CX.out.mono ?_
            rintro y u3 ⟨rfl, hr3, hg3⟩
            have H3 : Hid (Ttz w gT gQ gO base A1 (cap - 1) _ TT e t u3) := Lib.hid (H2.out.read KB.out hr3 hg3)
            clear hr3 hg3 CX H2 c0 cd
            go_wp2_with (with_reducible refine wpList_store_whole rfl 27 _ _ rfl gO Mr.zero.enc.toArray (by with_unfolding_all exact rfl) (by with_unfolding_all exact rfl) _ _ H3.out.res (Mr.size _) rfl (Mr.one _) ?_)
            intro y4 q4 x4 z4
            have O4 : Hid (Mr.At y4 gO Mr.zero) := Lib.hid x4
            have B4 := Lib.hid (H3.out.low.grown q4 H3.out.low.size (fun k hk => by injection hk with hk; have := NO0.out; omega))
            clear q4 x4 z4 H3
            go_wp2
            exact bodyPost_ret (results_st_tmp Mr.isRec rfl _ _ _ _ _ rfl rfl O4.out) rfl ⟨Row.nil, Row.nil, by rw [HV.out]; rfl, by rw [HV.out]; exact Lists.zero _, B4.out⟩
      · have HV : Hid (RM = (Mg.zero, qe)) := Lib.hid (by rw [HT.out, if_pos h0])
        have e1 : (qe == 0) = false := by simpa using h0
        have e2 : (qe != 0) = true := by simpa using h0
        go_wp2_with fail
        refine regS_begin (fun w' => w'.cell? ⟨gT, 0, none⟩ = some (.pointer (some ⟨gQ, 0, none⟩)) ∧ w'.cell? ⟨gQ, 2, none⟩ = some (.int .i64 qe)) (by kernel_rfl) ⟨c0, c2⟩ ?_
        have hS : wr.drew.cell? ⟨gT, 0, none⟩ = some (.pointer (some ⟨gQ, 0, none⟩)) ∧ wr.drew.cell? ⟨gQ, 2, none⟩ = some (.int .i64 qe) := ⟨c0, c2⟩
        have bd : Below wr.heap.size wr wr.drew := (Below.refl _ _).drew
        have HD := Lib.hid (H1.out.below bd)
        generalize wr.drew = z0 at *
        clear bd c0 c2 cb H1
        refine regS_take (i := 0) (v := .agg Mr.zero.enc.toArray) rfl (by kernel_rfl) (by kernel_rfl) (by kernel_rfl) (fun _ _ _ h => h) (by rfl) hS ?hy0 ?_
        case hy0 => intro w' hw'; exact exec_build_rec 27 _ rfl #[] (by with_unfolding_all exact rfl) _ (by kernel_rfl) w'
        simp only [Act.put, List.setIfInBounds_toArray, List.set_cons_zero, List.set_cons_succ]
        refine regS_take (i := 1) (v := ?_) rfl (by kernel_rfl) (by kernel_rfl) (by kernel_rfl) (fun _ _ _ h => h) (by rfl) hS ?hy1 ?_
        case hy1 => intro w' hw'; obtain ⟨ca, cb⟩ := hw'; go_simp; (try with_reducible rfl)
        simp only [Act.put, List.setIfInBounds_toArray, List.set_cons_zero, List.set_cons_succ]
        refine regS_take (i := 2) (v := ?_) rfl (by kernel_rfl) (by kernel_rfl) (by kernel_rfl) (fun _ _ _ h => h) (by rfl) hS ?hy2 ?_
        case hy2 => intro w' hw'; obtain ⟨ca, cb⟩ := hw'; go_simp; (try with_reducible rfl)
        simp only [Act.put, List.setIfInBounds_toArray, List.set_cons_zero, List.set_cons_succ]
        refine regS_take (i := 3) (v := ?_) rfl (by kernel_rfl) (by kernel_rfl) (by kernel_rfl) (fun _ _ _ h => h) (by rfl) hS ?hy3 ?_
        case hy3 => intro w' hw'; obtain ⟨ca, cb⟩ := hw'; go_simp; (try with_reducible rfl)
        simp only [Act.put, List.setIfInBounds_toArray, List.set_cons_zero, List.set_cons_succ]
        refine regS_take (i := 4) (v := ?_) rfl (by kernel_rfl) (by kernel_rfl) (by kernel_rfl) (fun _ _ _ h => h) (by rfl) hS ?hy4 ?_
        case hy4 => intro w' hw'; obtain ⟨ca, cb⟩ := hw'; go_simp; (try with_reducible rfl)
        simp only [Act.put, List.setIfInBounds_toArray, List.set_cons_zero, List.set_cons_succ]
        refine regS_take (i := 5) (v := ?_) rfl (by kernel_rfl) (by kernel_rfl) (by kernel_rfl) (fun _ _ _ h => h) (by rfl) hS ?hy5 ?_
        case hy5 => intro w' hw'; obtain ⟨ca, cb⟩ := hw'; go_simp; (try with_reducible rfl)
        simp only [Act.put, List.setIfInBounds_toArray, List.set_cons_zero, List.set_cons_succ]
        refine regS_take (i := 6) (v := ?_) rfl (by kernel_rfl) (by kernel_rfl) (by kernel_rfl) (fun _ _ _ h => h) (by rfl) hS ?hy6 ?_
        case hy6 => intro w' hw'; obtain ⟨ca, cb⟩ := hw'; go_simp; (try with_reducible rfl)
        simp only [Act.put, List.setIfInBounds_toArray, List.set_cons_zero, List.set_cons_succ]
        refine regS_take (i := 7) (v := ?_) rfl (by kernel_rfl) (by kernel_rfl) (by kernel_rfl) (fun _ _ _ h => h) (by rfl) hS ?hy7 ?_
        case hy7 => intro w' hw'; obtain ⟨ca, cb⟩ := hw'; go_simp; (try with_reducible rfl)
        simp only [Act.put, List.setIfInBounds_toArray, List.set_cons_zero, List.set_cons_succ]
        refine regS_do (i := 8) rfl (by kernel_rfl) (fun K' hK => ?_)
        rw [if_pos (by rfl)]
        refine wp_store_whole 27 _ _ rfl gO Mr.zero.enc.toArray (by with_unfolding_all exact rfl) (by with_unfolding_all exact rfl) _ _ HD.out.res (Mr.size _) rfl (Mr.one _) ?_
        intro z1 q1 x1 s1
        have O1 : Hid (Mr.At z1 gO Mr.zero) := Lib.hid x1
        have B1 := Lib.hid (HD.out.low.grown q1 HD.out.low.size (fun k hk => by injection hk with hk; have := NO0.out; omega))
        have c0 : z1.cell? ⟨gT, 0, none⟩ = some (.pointer (some ⟨gQ, 0, none⟩)) := (grown_far HD.out.tt q1 (fun e => NOT.out.1 e.symm)).at_ 0
        have c2 : z1.cell? ⟨gQ, 2, none⟩ = some (.int .i64 qe) := by
          have h2 := hS.2
          have hlt := World.block_lt_of_cell? z0 _ h2
          rw [← h2]
          exact World.cell?_of_block (q1.block gQ hlt (fun e => by injection e with e; exact NOT.out.2 e.symm))
        clear hS
        have hS : z1.cell? ⟨gT, 0, none⟩ = some (.pointer (some ⟨gQ, 0, none⟩)) ∧ z1.cell? ⟨gQ, 2, none⟩ = some (.int .i64 qe) := ⟨c0, c2⟩
        refine hK.out _ _ hS ?_
        clear hK K' q1 x1 s1 HD c0 c2
        refine regS_take (i := 9) (v := ?_) rfl (by kernel_rfl) (by kernel_rfl) (by kernel_rfl) (fun _ _ _ h => h) (by rfl) hS ?hy9 ?_
        case hy9 => intro w' hw'; go_simp; (try with_reducible rfl)
        simp only [Act.put, List.setIfInBounds_toArray, List.set_cons_zero, List.set_cons_succ]
        refine regS_end (by kernel_rfl) ?_
        clear hS
        go_wp2
        exact bodyPost_ret (results_st_tmp Mr.isRec rfl _ _ _ _ _ rfl rfl O1.out) rfl ⟨Row.nil, Row.nil, by rw [HV.out]; rfl, by rw [HV.out]; exact Lists.zero _, B1.out⟩

theorem refMsTake_any (A : Option Addr) (n cap : Nat) (b : List UInt8) (w : World) (h : BytesAt w (.slice A n cap) b) (hn : n ≤ 9000) :
    Calls Try.prog 20 #[.slice A n cap] w fun x w' => ∃ e t, x = .returned (.tuple #[((takeM b).1.raw e t).val, .int .i64 (takeM b).2]) ∧ Lists w' e t (takeM b).1 ∧ Below w.heap.size w w' := by
  cases b with
  | nil =>
    have hz : n = 0 := by have := h.size.1; simpa using this
    subst hz
    exact refMsTake_none cap A w
  | cons c r =>
    cases hk : knownK (c.toNat : Int) with
    | false => exact refMsTake_kind A n cap c r w h hk
    | true => exact refMsTake_some A n cap c r w h hk hn
end Go.Proofs.Ytnjeopgcpffkcaa
