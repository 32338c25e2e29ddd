/- Injective, the landed one (a map of first places) and the document's. The table of constants out of the row's condition; what each card of layer 3 has in common. -/
import Derived.Test.YtfcjemedheccgaaDoorGbf
import Derived.Test.YtfcjemedheccgaaDoorGl
import Derived.Test.YtfcjemedheccgaaDoorTie
import Derived.Test.YtfcjemedheccgaaDoorCards
import Derived.Lib.LaidTab
import Derived.LaidMore
import Derived.Stop.Joined
import Derived.SevenTiedAt
namespace Go.Proofs.YtfcjemedheccgaaDoor
set_option maxRecDepth 100000
open Go.RowKit Go.Maps

def injB (l : List Ent) : Bool := decide (∀ a ∈ l, ∀ b ∈ l, a.id = b.id → a.name = b.name)
def PlaceN (D : DataW Unit) (ns : List Nat) : Prop := ∀ n : Nat, Maps.has D (.int .u64 (n : Int)) = decide (n ∈ ns) ∧ (n ∈ ns → D.atKey (.int .u64 (n : Int)) (.lit (.int .i64 0)) = .lit (.int .i64 (ns.idxOf n : Int)))
theorem PlaceN.empty : PlaceN (.map []) [] := fun _ => ⟨rfl, fun h => by cases h⟩
theorem PlaceN.put {D : DataW Unit} {ns : List Nat} (h : PlaceN D ns) (hD : IsMap D) {n : Nat} (hn : n ∉ ns) : PlaceN (D.put (.int .u64 (n : Int)) (.lit (.int .i64 (ns.length : Int)))) (ns ++ [n]) := fun m => by
  by_cases hm : m = n
  · subst hm
    refine ⟨?_, fun _ => ?_⟩
    · rw [has_put_same hD (show WideAt.IsKeyLit (.int .u64 (m : Int)) from trivial)]; simp
    · rw [atKey_put_same hD (show WideAt.IsKeyLit (.int .u64 (m : Int)) from trivial), List.idxOf_append, if_neg hn]; simp
  · have hk : (Lit.int .u64 (m : Int)) ≠ Lit.int .u64 (n : Int) := fun e => hm (by injection e with _ e; omega)
    obtain ⟨h1, h2⟩ := h m
    refine ⟨?_, fun hmem => ?_⟩
    · rw [has_put_other hk, h1]; simp [hm]
    · have hin : m ∈ ns := by simpa [hm] using hmem
      rw [atKey_put_other hk, h2 hin, List.idxOf_append, if_pos hin]
theorem PlaceN.more {D : DataW Unit} {ns : List Nat} (h : PlaceN D ns) {n : Nat} (hn : n ∈ ns) : PlaceN D (ns ++ [n]) := fun m => by
  obtain ⟨h1, h2⟩ := h m
  have hmem : m ∈ ns ++ [n] ↔ m ∈ ns := by
    rw [List.mem_append, List.mem_singleton]
    exact ⟨fun k => k.elim (fun q => q) (fun e => e ▸ hn), .inl⟩
  refine ⟨by rw [h1]; simp only [hmem], fun k => ?_⟩
  rw [h2 (hmem.1 k), List.idxOf_append, if_pos (hmem.1 k)]
/-- Each one has the name of the first one of its identifier. -/
def FirstOk (l : List Ent) : Prop := ∀ e ∈ l, ∃ f, l[(l.map (·.id)).idxOf e.id]? = some f ∧ f.name = e.name
theorem FirstOk.inj {l : List Ent} (h : FirstOk l) : injB l = true := by
  rw [injB, decide_eq_true_eq]
  intro a ha b hb e
  obtain ⟨f, h1, h2⟩ := h a ha
  obtain ⟨f', h3, h4⟩ := h b hb
  rw [e, h3] at h1
  injection h1 with h1
  rw [← h2, ← h4, h1]
theorem first_at {l : List Ent} {n : Nat} {f : Ent} (h : l[(l.map (·.id)).idxOf n]? = some f) : f.id = n ∧ f ∈ l := by
  obtain ⟨hi, rfl⟩ := List.getElem?_eq_some_iff.1 h
  have hi' : (l.map (·.id)).idxOf n < (l.map (·.id)).length := by rw [List.length_map]; exact hi
  have q := List.getElem_idxOf hi'
  rw [List.getElem_map] at q
  exact ⟨q, List.getElem_mem _⟩
theorem FirstOk.new {l : List Ent} (h : FirstOk l) {x : Ent} (hx : x.id ∉ l.map (·.id)) : FirstOk (l ++ [x]) := by
  intro e he
  rw [List.map_append, List.map_cons, List.map_nil]
  rcases List.mem_append.1 he with k | k
  · obtain ⟨f, h1, h2⟩ := h e k
    refine ⟨f, ?_, h2⟩
    rw [List.idxOf_append, if_pos (List.mem_map.2 ⟨e, k, rfl⟩), List.getElem?_append_left (List.getElem?_eq_some_iff.1 h1).1]
    exact h1
  · rw [List.mem_singleton] at k
    subst k
    refine ⟨e, ?_, rfl⟩
    rw [List.idxOf_append, if_neg hx]
    simp
theorem FirstOk.met {l : List Ent} (h : FirstOk l) {x f : Ent} (hf : l[(l.map (·.id)).idxOf x.id]? = some f) (hn : f.name = x.name) : FirstOk (l ++ [x]) := by
  have hm : x.id ∈ l.map (·.id) := List.mem_map.2 ⟨f, (first_at hf).2, (first_at hf).1⟩
  intro e he
  rw [List.map_append, List.map_cons, List.map_nil]
  rcases List.mem_append.1 he with k | k
  · obtain ⟨f', h1, h2⟩ := h e k
    refine ⟨f', ?_, h2⟩
    rw [List.idxOf_append, if_pos (List.mem_map.2 ⟨e, k, rfl⟩), List.getElem?_append_left (List.getElem?_eq_some_iff.1 h1).1]
    exact h1
  · rw [List.mem_singleton] at k
    subst k
    refine ⟨f, ?_, hn⟩
    rw [List.idxOf_append, if_pos hm, List.getElem?_append_left (List.getElem?_eq_some_iff.1 hf).1]
    exact hf
theorem key_u64 (n : Nat) (h : n < 18446744073709551616) : keyOf Tryd.prog 33 (.int .u64 (n : Int)) = some (.int .u64 (n : Int)) :=
  keyOf_int_mk Tryd.underlying33 (by simp only [Lit.wf, Bool.and_eq_true, decide_eq_true_eq]; exact ⟨by show (0 : Int) ≤ _; omega, by show _ ≤ (18446744073709551615 : Int); omega⟩)

structure InAt (w wr : World) (l : List Ent) (Bm k : Nat) (D : DataW Unit) : Prop where
  map : wr.ownsMap Tryd.prog 33 (plainElem Tryd.prog 3) Bm k D
  ok : PlaceN D ((l.take k).map (·.id))
  first : FirstOk (l.take k)
  low : Below w.heap.size w wr
theorem InAt.below {w wr w' : World} {l : List Ent} {Bm k : Nat} {D : DataW Unit} (h : InAt w wr l Bm k D) (b : Below wr.heap.size wr w') : InAt w w' l Bm k D :=
  ⟨h.map.kept (row := none) ⟨b.os, b.tape, b.output, b.size, fun i hi _ => b.block i hi⟩ (by simp), h.ok, h.first, h.low.trans (b.mono h.low.size)⟩
theorem take_more {l : List Ent} {k : Nat} {x : Ent} (h : l[k]? = some x) : l.take (k + 1) = l.take k ++ [x] := by rw [List.take_add_one, h]; rfl
set_option maxHeartbeats 1000000 in
theorem injective_any (A : Option Addr) (m cap : Nat) (l : List Ent) (hm : m ≤ 4000000) (hid : ∀ e ∈ l, e.id < 18446744073709551616) (w : World) (h : RowsAt w (.slice A m cap) 6 (l.map Ent.enc)) :
    Calls Tryd.prog 16 #[.slice A m cap] w fun e w' => e = .returned (.bool (injB l)) ∧ Below w.heap.size w w' := by
  have hlen := h.size.1
  rw [List.length_map] at hlen
  have H := Lib.hid h
  have HL := Lib.hid hlen
  have HN := Lib.hid hm
  have HE := Lib.hid hid
  have b0 : Below w.heap.size w (w.alloc (.map #[] 0)) := (Below.refl _ _).alloc (Nat.le_refl _) _
  have I0 : Hid (InAt w (w.alloc (.map #[] 0)) l w.heap.size 0 (.map [])) := Lib.hid ⟨World.ownsMap_made _ _ _ _, PlaceN.empty, fun e he => by simp at he, b0⟩
  have hmm := @run_makeMap Tryd.prog
  obtain ⟨R, hR⟩ : ∃ q, q = injB l := ⟨_, rfl⟩
  have HR := Lib.hid hR
  rw [← hR]
  clear h hlen hm hid b0 hR
  go_enter Tryd.func16, Tryd.ntmps16
  go_wp2_with fail
  obtain ⟨w0, hw0⟩ : ∃ q, q = w.alloc (.map #[] 0) := ⟨_, rfl⟩
  obtain ⟨Bm, hBm⟩ : ∃ q, q = w.heap.size := ⟨_, rfl⟩
  have HB : Hid (w.heap.size ≤ Bm) := Lib.hid (by omega)
  rw [← hw0] at I0 ⊢
  rw [← hBm]
  have I0' : Hid (InAt w w0 l Bm 0 (.map [])) := Lib.hid (by rw [hBm]; exact I0.out)
  clear hmm hw0 hBm I0
  go_loopw [11] (fun i wr => ∃ (k : Nat) (D : DataW Unit), k ≤ m ∧ i = .int .i64 (k : Int) ∧ InAt w wr l Bm k D) (fun i _ => m - (intOf i).toNat)
  case atStart => exact ⟨0, _, Nat.zero_le _, rfl, I0'.out⟩
  case round =>
    clear I0'
    obtain ⟨k, D, hk, rfl, hr⟩ := hrel
    have I := Lib.hid hr
    clear hr
    by_cases hlt : k < m
    · have dk : decide ((k : Int) < (m : Int)) = true := by simp; omega
      have jk : (k : Int) < (m : Int) := by omega
      have r4 : IntKind.i64.wrap ((k : Int) + 1) = ((k + 1 : Nat) : Int) := by have := HN.out; rw [IntWalk.i64_in _ (by omega)]; omega
      obtain ⟨x, hx⟩ : ∃ x, l[k]? = some x := ⟨_, List.getElem?_eq_getElem (by rw [← HL.out]; exact hlt)⟩
      obtain ⟨gl, off, rfl, hgl, hc⟩ := H.out.row (fun c hc => (entC_one l c hc).1) (by decide) (by rw [List.getElem?_map, hx]; rfl : (l.map Ent.enc)[k]? = some x.enc)
      have HC := Lib.hid (fun j u (hj : x.enc[j]? = some u) => (I.out.low.cell (p := ⟨gl, off + k * 6 + j, none⟩) hgl).trans (hc j u hj))
      have HT := Lib.hid (take_more hx)
      have HXM := Lib.hid (List.mem_of_getElem? hx)
      have HXI := Lib.hid (HE.out x (List.mem_of_getElem? hx))
      have HGL := Lib.hid hgl
      have HLT : Hid ((l.take k).length = k) := Lib.hid (by rw [List.length_take, ← HL.out]; omega)
      clear hx hc hgl
      go_wp2_with (first | (with_reducible refine wpList_load_rec Ent.isRec rfl _ rfl gl (off + k * 6) (by with_unfolding_all exact rfl) x.enc (Ent.len _) HC.out ?_) | (refine wpList_alloc_row rfl 48 rfl ent0.cells ent_zero ?_))
      intro w1 b1 x1 z1
      have X1 := Lib.hid x1
      have B1 := Lib.hid b1
      obtain ⟨gE, hE⟩ : ∃ q, q = wr.heap.size := ⟨_, rfl⟩
      have HEE := Lib.hid hE
      rw [← hE] at X1 ⊢
      clear b1 x1 z1 hE HC
      go_wp2_with (with_reducible refine wpList_store_whole rfl 48 _ _ rfl gE x.cells (by with_unfolding_all exact rfl) (by with_unfolding_all exact rfl) _ _ X1.out (ent_size' _) rfl (Ent.cells_one _) ?_)
      intro w2 q2 x2 z2
      have E2 : Hid (Ent.At w2 gE x) := Lib.hid x2
      have B2 := Lib.hid (B1.out.grown q2 B1.out.size (fun k hk => by injection hk with hk; have := HEE.out; omega))
      have I2 := Lib.hid (I.out.below B2.out)
      clear q2 x2 z2 X1 B1 B2 I HEE
      have KL := Lib.hid (key_u64 x.id HXI.out)
      obtain ⟨-, c1, -⟩ := Ent.At.cells E2.out
      by_cases hmet : x.id ∈ (l.take k).map (·.id)
      · have HH : Maps.has D (.int .u64 (x.id : Int)) = true := by rw [(I2.out.ok x.id).1, decide_eq_true hmet]
        have HK := Lib.hid ((I2.out.ok x.id).2 hmet)
        have HP := Lib.hid (List.idxOf_lt_length_of_mem hmet)
        obtain ⟨p, hp⟩ : ∃ p, p = ((l.take k).map (·.id)).idxOf x.id := ⟨_, rfl⟩
        have HPP := Lib.hid hp
        have HMT := Lib.hid hmet
        rw [← hp] at HK HP
        clear hp hmet
        go_wp2_with (at_lookup; refine wpList_lookup_own_ok_int _ rfl _ _ 71 rfl 33 3 .i64 (int_keyed Tryd.underlying33) Tryd.underlying71 Tryd.underlying3 (int_zero _) Bm k D rfl I2.out.map _ _ rfl KL.out ?_)
        intro c hat hwc
        obtain rfl : c = (p : Int) := by
          have e := hat.symm.trans HK.out
          injection e with e
          injection e with e1 e2
        clear hat hwc
        obtain ⟨f, hf⟩ : ∃ f, (l.take k)[p]? = some f := ⟨_, List.getElem?_eq_getElem (by have := HP.out; simpa using this)⟩
        have HPK : Hid (p < k) := Lib.hid (by have := HP.out; rw [List.length_map, HLT.out] at this; exact this)
        have hfl : l[p]? = some f := by rw [List.getElem?_take_of_lt HPK.out] at hf; exact hf
        have HF : Hid ((l.take k)[((l.take k).map (·.id)).idxOf x.id]? = some f) := Lib.hid (by rw [← HPP.out]; exact hf)
        obtain ⟨gl', off', e', hgl', hc'⟩ := H.out.row (fun c hc => (entC_one l c hc).1) (by decide) (by rw [List.getElem?_map, hfl]; rfl : (l.map Ent.enc)[p]? = some f.enc)
        injection e' with e'
        injection e' with e1 e2
        subst e1 e2
        have C0 : Hid (w2.cell? ⟨gl, off + p * 6, none⟩ = some (.string ⟨f.name.toArray⟩)) := Lib.hid ((I2.out.low.cell (p := ⟨gl, off + p * 6, none⟩) HGL.out).trans (hc' 0 _ rfl))
        have HFM := Lib.hid (List.mem_of_getElem? hfl)
        clear hf hfl hc' hgl' HK HP HPP
        have jp : (p : Int) < (m : Int) := by have := HPK.out; omega
        have E0 : Hid (w2.cell? ⟨gE, 0, none⟩ = some (.string ⟨x.name.toArray⟩)) := Lib.hid (Ent.At.at_name E2.out)
        go_wp2_with fail
        refine still_all (by kernel_rfl) (by kernel_rfl) fun w3 h3 b3 => ?_
        have d0 := (World.cell?_of_block (w := w2) (w' := w3) (a := ⟨gl, off + p * 6, none⟩) (by rw [h3])).trans C0.out
        have d1 := (World.cell?_of_block (w := w2) (w' := w3) (a := ⟨gE, 0, none⟩) (by rw [h3])).trans E0.out
        have I3 := Lib.hid (I2.out.below b3)
        clear h3 b3 I2 C0 E0 c1 E2
        by_cases hn : f.name = x.name
        · have r : (f.name == x.name) = true := by simp [hn]
          have r' : (f.name != x.name) = false := by simp [hn]
          have I4 : Hid (InAt w w3 l Bm (k + 1) D) := Lib.hid ⟨I3.out.map.mono (Nat.le_succ _), by rw [HT.out, List.map_append]; exact I3.out.ok.more HMT.out, by rw [HT.out]; exact I3.out.first.met HF.out hn, I3.out.low⟩
          clear hn
          repeat still_step
          refine wpStill_nil ?_
          clear d0 d1
          go_wp2
          exact ⟨⟨k + 1, D, by omega, by go_num, I4.out⟩, by simp [intOf]; omega⟩
        · have r : (f.name == x.name) = false := by simp [hn]
          have r' : (f.name != x.name) = true := by simp [hn]
          have HV : Hid (R = false) := Lib.hid (by
            rw [HR.out, injB, decide_eq_false_iff_not]
            intro q
            exact hn (q f HFM.out x HXM.out (first_at HF.out).1))
          clear hn
          repeat still_step
          refine wpStill_nil ?_
          clear d0 d1
          go_wp2
          go_ret
          exact ⟨by rw [HV.out]; rfl, I3.out.low⟩
      · have HH : Maps.has D (.int .u64 (x.id : Int)) = false := by rw [(I2.out.ok x.id).1, decide_eq_false hmet]
        have HNM := Lib.hid hmet
        clear hmet
        go_wp2_with (at_lookup; refine wpList_lookup_own_ok_int _ rfl _ _ 71 rfl 33 3 .i64 (int_keyed Tryd.underlying33) Tryd.underlying71 Tryd.underlying3 (int_zero _) Bm k D rfl I2.out.map _ _ rfl KL.out ?_)
        intro c hat hwc
        clear hat hwc
        have HKM : Hid (k < maxLen) := Lib.hid (by have := HN.out; simp only [maxLen]; omega)
        have hWF := Lib.hid (show (Lit.int .i64 (k : Int)).wf = true from WalkArith.wf_i64 (by have := HN.out; omega))
        go_wp2_with (at_mapUpdate; refine wpList_mapUpdate_own _ rfl _ _ _ 71 rfl 33 3 (int_keyed Tryd.underlying33) Tryd.underlying71 _ Bm k D rfl I2.out.map HKM.out _ _ _ rfl rfl KL.out _ [] (plainElem_int Tryd.underlying3 hWF.out) ?_)
        intro w5 m5 g5
        have I5 : Hid (InAt w w5 l Bm (k + 1) (D.put (.int .u64 (x.id : Int)) (.lit (.int .i64 (k : Int))))) := Lib.hid ⟨m5, by
          have q := I2.out.ok.put I2.out.map.isMap HNM.out
          rw [List.length_map, HLT.out] at q
          rw [HT.out, List.map_append]
          exact q, by rw [HT.out]; exact I2.out.first.new HNM.out, I2.out.low.grown g5 I2.out.low.size (fun i hi => by injection hi with hi; have := HB.out; omega)⟩
        clear m5 g5 HH c1
        go_wp2
        exact ⟨⟨k + 1, _, by omega, by go_num, I5.out⟩, by simp [intOf]; omega⟩
    · have dk : decide ((k : Int) < (m : Int)) = false := by simp; omega
      have HV : Hid (R = true) := Lib.hid (by
        have q := I.out.first
        rw [List.take_of_length_le (by rw [← HL.out]; omega)] at q
        rw [HR.out]
        exact q.inj)
      go_wp2
      go_ret
      exact ⟨by rw [HV.out]; rfl, I.out.low⟩
end Go.Proofs.YtfcjemedheccgaaDoor

namespace Go.Proofs.YtfcjemedheccgaaDoor
set_option maxRecDepth 100000
open Go.RowKit Go.ChangeShapes Go.WideShapes Go.ChangeAt

def laidC : List (String × DataW Unit) := [("carcanet/digest.constants", Rows.laid_carcanet_digest_constants)]
theorem gC : Tryd.prog.globalNamed "carcanet/digest.constants" = some 0 := by kernel_rfl
theorem tC : (Tryd.prog.globals[0]?).map (·.type) = some 125 := by kernel_rfl
def ktI : List Int := kt.map fun x => (x.toNat : Int)
theorem ktI_length : ktI.length = 64 := by kernel_rfl
theorem laid_tab : laidC = ("carcanet/digest.constants", Lib.tabData .u32 ktI) :: [] := by kernel_rfl

/-- The door's own heap meets the condition. -/
theorem door_met (os : Os) (args : Array Value) : laidMetH Tryd.prog laidC ((World.doorLaid Tryd.prog 400 os).forCall (fun _ _ => 0) ⟨#[], args, []⟩).memory :=
  laidMetH_of_parts3 (fuel := 8) (laidMet_of_run' 8 (by kernel_rfl) (by kernel_rfl)) (by kernel_rfl) (by kernel_rfl)

theorem tab_of_laid {W : World} (h : laidMetH Tryd.prog laidC W) : Tab W := by
  rw [MakeChecks.laidMetH_plain _ _ _ (by kernel_rfl), laid_tab] at h
  have q := Lib.tabIs_of_head gC tC Tryd.underlying125 Tryd.underlying110 (by kernel_rfl) (by kernel_rfl) h
  intro k hk
  have hk64 : kt.length = 64 := by kernel_rfl
  have hl : k < kt.length := by omega
  have c := q.cell gC k (by rw [ktI_length]; exact hk)
  rw [c]
  simp [ktI, wd, List.getD, List.getElem?_eq_getElem hl]
end Go.Proofs.YtfcjemedheccgaaDoor
