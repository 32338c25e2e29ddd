/- What package equal's calls answer: contracts. gather and Bytes change no memory that was there; Xor answers new bytes. What package mac's Check answers. A statement that leaves its order open, in which all stores wait for all reads: two conditions on the world, S0 until the first store, S1 from the beginning to the end. -/
import Derived.Test.YtpcdbpijgmninaaDoorGw
import Derived.RegionTactic
import Derived.ChangeAlike
import Derived.Test.YtpcdbpijgmninaaDoorGc
namespace Go.Proofs.YtpcdbpijgmninaaDoor
set_option maxRecDepth 100000
open Go.RowKit

set_option maxHeartbeats 400000 in
theorem gather_any (v : Value) (l : List UInt8) (w : World) (h : BytesAt w v l) (hl : l.length ≤ 1000000) :
    Calls Tryd.prog 86 #[v] w fun e w' => e = .returned (.int .u8 ((orAll l).toNat : Int)) ∧ w = w' := by
  have hs := h
  obtain ⟨A, cap, rfl, hcap, -⟩ := hs
  have H := Lib.hid h
  clear h
  go_enter Tryd.func86, Tryd.ntmps86
  go_wp2_with fail
  go_loop [3, 8] (fun u i => ∃ k : Nat, k ≤ l.length ∧ i = .int .i64 k ∧ u = .int .u8 ((orAll (l.take k)).toNat : Int)) (fun _ i => l.length - (intOf i).toNat)
  case atStart => exact ⟨0, Nat.zero_le _, rfl, by simp [orAll]⟩
  case round =>
    obtain ⟨k, hk, rfl, rfl⟩ := hrel
    by_cases hlt : k < l.length
    · obtain ⟨b, off, rfl, hb, hcell⟩ := H.out.spots (by rintro rfl; simp at hlt)
      have hx : l[k]? = some l[k] := List.getElem?_eq_getElem hlt
      have c0 := hcell k _ hx
      have HB : Hid (bits .or .u8 ((orAll (l.take k)).toNat : Int) (l[k].toNat : Int) = ((orAll (l.take (k + 1))).toNat : Int)) := by rw [take_at hx, orAll_snoc]; exact or_cell _ _
      generalize l[k] = c at *
      generalize orAll (l.take k) = o at *
      clear hcell hx
      go_wp2
      go_round
      case rel => exact ⟨k + 1, by omega, by go_num, by rw [HB.out]⟩
      case measure => simp [intOf]; omega
    · obtain rfl : k = l.length := by omega
      go_wp2
      go_ret
      exact ⟨by simp, rfl⟩

theorem zero_test (l : List UInt8) : (((orAll l).toNat : Int) == 0) = decide (∀ c ∈ l, c = 0) := by
  rw [Bool.eq_iff_iff]
  simp only [beq_iff_eq, decide_eq_true_eq, ← orAll_zero]
  rw [← UInt8.toNat_inj]
  simp

set_option maxHeartbeats 1000000 in
theorem xor_any (v0 v1 : Value) (l0 l1 : List UInt8) (w : World) (h0 : BytesAt w v0 l0) (h1 : BytesAt w v1 l1) (hl0 : l0.length ≤ 1000000) (hl1 : l1.length ≤ 1000000) :
    Calls Tryd.prog 87 #[v0, v1] w fun e w' => ∃ v', e = .returned v' ∧ BytesAt w' v' (xorL l0 l1) ∧ Below w.heap.size w w' := by
  obtain ⟨i0, hi0, hz0, hz1, hz2⟩ := info_parts byte_info
  have hs0 := h0
  have hs1 := h1
  obtain ⟨A0, cap0, rfl, hcap0, -⟩ := hs0
  obtain ⟨A1, cap1, rfl, hcap1, -⟩ := hs1
  have H0 := Lib.hid h0
  have H1 := Lib.hid h1
  clear h0 h1
  obtain ⟨n, hn⟩ : ∃ n, n = min l0.length l1.length := ⟨_, rfl⟩
  have HF : Hid ((xorL l0 l1).length = n) := by rw [xorL_length, hn]; exact rfl
  have hn0 : n ≤ l0.length := by omega
  have hn1 : n ≤ l1.length := by omega
  have HN := Lib.hid hn
  clear hn
  rcases Nat.lt_or_ge l1.length l0.length with hlt | hge
  all_goals
    go_enter Tryd.func87, Tryd.ntmps87
    go_wp2_with (at_make; refine wpList_make_full _ rfl (.tmp 11) (.tmp 11) 42 rfl w.heap.size 5 i0 (.int .u8 0) 1 Tryd.underlying42 hi0 hz0 hz1 .i64 .i64 _ _ n rfl rfl ?c1 ?c2 ?c3 ?c4 ?c5 ?_)
    case c1 => have := HN.out; omega
    case c2 => have := HN.out; omega
    case c3 => rw [hz2]; omega
    case c4 => simp only [maxLen]; omega
    case c5 => exact Nat.le_refl _
    intro w1 ho1 hg1
    rw [made_bytes, ← doneTo_zero (xorL l0 l1) n] at ho1
    have hb1 : Below w.heap.size w w1 := (Below.refl _ _).grown hg1 (Nat.le_refl _) (fun k hk => by cases hk)
    have HO1 := Lib.hid ho1
    have HB1 := Lib.hid hb1
    clear ho1 hg1 hb1
    go_wp2_with fail
    go_loopw [15] (fun i wr => ∃ k : Nat, k ≤ n ∧ i = .int .i64 k ∧ wr.ownsRow w.heap.size 5 1 (.slice (some ⟨w.heap.size, 0, none⟩) n n) n (bv (doneTo (xorL l0 l1) n k)) ∧ Below w.heap.size w wr) (fun i _ => n - (intOf i).toNat)
    case atStart => exact ⟨0, Nat.zero_le _, rfl, HO1.out, HB1.out⟩
    case round =>
      obtain ⟨k, hk, rfl, ho, hbel⟩ := hrel
      have HO := Lib.hid ho
      have HBe := Lib.hid hbel
      have zr := hbel.size
      clear ho hbel
      by_cases hkn : k < n
      · have hk0 : k < l0.length := by omega
        have hk1 : k < l1.length := by omega
        obtain ⟨b0, off0, rfl, hb0, hcell0⟩ := H0.out.spots (by rintro rfl; simp at hk0)
        obtain ⟨b1, off1, rfl, hb1, hcell1⟩ := H1.out.spots (by rintro rfl; simp at hk1)
        have hx0 : l0[k]? = some l0[k] := List.getElem?_eq_getElem hk0
        have hx1 : l1[k]? = some l1[k] := List.getElem?_eq_getElem hk1
        have c0 : wr.cell? ⟨b0, off0 + k, none⟩ = some (.int .u8 (l0[k].toNat : Int)) := (HBe.out.cell (p := ⟨b0, off0 + k, none⟩) hb0).trans (hcell0 k _ hx0)
        have c1 : wr.cell? ⟨b1, off1 + k, none⟩ = some (.int .u8 (l1[k].toNat : Int)) := (HBe.out.cell (p := ⟨b1, off1 + k, none⟩) hb1).trans (hcell1 k _ hx1)
        have HS := Lib.hid (doneTo_set (xorL l0 l1) n k _ HF.out (xorL_at l0 l1 k _ _ hx0 hx1))
        have HX := Lib.hid (xor_cell l0[k] l1[k])
        have c2 := HO.out.cellAt k (by omega)
        have f2 := HO.out.frozenAt k
        have hlen : k < (bv (doneTo (xorL l0 l1) n k)).length := by rw [bv_length, doneTo_length _ _ _ HF.out hk]; exact hkn
        rw [List.getElem?_eq_getElem hlen] at c2
        generalize (bv (doneTo (xorL l0 l1) n k))[k] = old at c2
        generalize l0[k] = x0 at *
        generalize l1[k] = x1 at *
        clear hx0 hx1 hcell0 hcell1 hlen
        go_wp2_with fail
        go_region
        all_goals
          go_wp2
          refine ⟨⟨k + 1, by omega, by go_num, ?_, (HBe.out.setCell (Nat.le_refl _) _).drew⟩, by simp [intOf]; omega⟩
          have q := HO.out.stored k (.int .u8 ((x0 ^^^ x1).toNat : Int))
          rw [HS.out] at q
          rw [HX.out]
          exact q.1
      · obtain rfl : k = n := by omega
        have ho := HO.out
        rw [doneTo_all _ _ HF.out] at ho
        have hy : BytesAt wr (.slice (some ⟨w.heap.size, 0, none⟩) k k) (xorL l0 l1) := by
          apply BytesAt.of_own (base := w.heap.size)
          rw [HF.out]
          exact ho
        have HY := Lib.hid hy
        clear ho hy
        go_wp2
        go_ret
        exact ⟨_, rfl, HY.out, HBe.out⟩

theorem bytes_test (l0 l1 : List UInt8) (h : l0.length = l1.length) : (((orAll (xorL l0 l1)).toNat : Int) == 0) = decide (l0 = l1) := by
  rw [zero_test, Bool.eq_iff_iff]
  simp only [decide_eq_true_eq]
  exact xorL_zero l0 l1 h

set_option maxHeartbeats 400000 in
theorem bytes_any (v0 v1 : Value) (l0 l1 : List UInt8) (w : World) (h0 : BytesAt w v0 l0) (h1 : BytesAt w v1 l1) (hl0 : l0.length ≤ 1000000) (hl1 : l1.length ≤ 1000000) :
    Calls Tryd.prog 70 #[v0, v1] w fun e w' => e = .returned (.bool (decide (l0 = l1))) ∧ Below w.heap.size w w' := by
  have C := Lib.hid (xor_any v0 v1 l0 l1 w h0 h1 hl0 hl1)
  obtain ⟨A0, cap0, rfl, hcap0, -⟩ := h0
  obtain ⟨A1, cap1, rfl, hcap1, -⟩ := h1
  by_cases hlen : l0.length = l1.length
  · have hb : ((l0.length : Int) == (l1.length : Int)) = true := by simp; omega
    rw [← bytes_test l0 l1 hlen]
    have HL : Hid ((xorL l0 l1).length ≤ 1000000) := by rw [xorL_length]; exact Lib.hid (by omega)
    have G : Hid (∀ v2 w2, BytesAt w2 v2 (xorL l0 l1) → Calls Tryd.prog 86 #[v2] w2 fun e w' => e = .returned (.int .u8 ((orAll (xorL l0 l1)).toNat : Int)) ∧ w2 = w') := fun v2 w2 hy => gather_any v2 _ w2 hy HL.out
    generalize ((orAll (xorL l0 l1)).toNat : Int) = o at *
    clear hlen
    go_enter Tryd.func70, Tryd.ntmps70
    go_wp2_with fail
    refine C.out.mono ?_
    rintro e w1 ⟨v1, rfl, hy, hbe⟩
    have HY := Lib.hid hy
    clear hy
    go_wp2_with fail
    refine (G.out v1 w1 HY.out).mono ?_
    rintro e w2 ⟨rfl, rfl⟩
    go_wp2
    go_ret
    exact ⟨rfl, hbe⟩
  · have hb : ((l0.length : Int) == (l1.length : Int)) = false := by simp; omega
    have hd : decide (l0 = l1) = false := by
      simp only [decide_eq_false_iff_not]
      rintro rfl
      exact hlen rfl
    rw [hd]
    clear hlen hd
    go_enter Tryd.func70, Tryd.ntmps70
    go_wp2
    go_ret
    exact ⟨rfl, Below.refl _ _⟩

end Go.Proofs.YtpcdbpijgmninaaDoor

namespace Go.Proofs.YtpcdbpijgmninaaDoor
set_option maxRecDepth 100000
open Go.RowKit

set_option maxHeartbeats 1000000 in
theorem check_any (v0 v1 v2 : Value) (k m t : List UInt8) (w : World) (h0 : BytesAt w v0 k) (h1 : BytesAt w v1 m) (h2 : BytesAt w v2 t) (hk : k.length ≤ 5000) (hm : m.length ≤ 90000) (ht : t.length ≤ 1000000) (T : Tab w) :
    Calls Tryd.prog 40 #[v0, v1, v2] w fun e w' => e = .returned (.bool (decide (macL k m = t))) ∧ Below w.heap.size w w' := by
  have T0 := Lib.hid T
  have H0 := Lib.hid h0
  have H1 := Lib.hid h1
  have H2 := Lib.hid h2
  have ML := Lib.hid (macL_length k m)
  obtain ⟨A0, cap0, rfl, -, -⟩ := h0
  obtain ⟨A1, cap1, rfl, -, -⟩ := h1
  obtain ⟨A2, cap2, rfl, -, -⟩ := h2
  clear T
  go_enter Tryd.func40, Tryd.ntmps40
  go_wp2_with fail
  refine (mac_any _ _ k m w H0.out H1.out hk hm T0.out).mono ?_
  rintro e w1 ⟨v1, rfl, y1, b1⟩
  have B1 := Lib.hid b1
  have Y1 := Lib.hid y1
  clear y1 b1
  generalize hM : macL k m = M at *
  have HM := Lib.hid hM
  clear hM
  go_wp2_with fail
  refine (bytes_any v1 _ M t w1 Y1.out (H2.out.below B1.out) (by have := ML.out; omega) ht).mono ?_
  rintro e w2 ⟨rfl, b2⟩
  have B2 := Lib.hid (B1.out.trans (b2.mono B1.out.size))
  clear b2
  go_wp2
  go_ret
  refine ⟨?_, B2.out⟩
  rw [HM.out]
  rfl
end Go.Proofs.YtpcdbpijgmninaaDoor

namespace Go.Proofs.YtpcdbpijgmninaaDoor
set_option maxRecDepth 100000
open Go.RowKit

/-- One of these has come up. -/
def AnyDone (st : List Nat) (L : Array Bool) : Prop := ∃ k, k ∈ st ∧ L.getD k false = true
/-- The condition at hand. -/
def HoldG (st : List Nat) (S0 S1 : World → Prop) (L : Array Bool) (w : World) : Prop := S1 w ∧ (S0 w ∨ AnyDone st L)
/-- Whatever has come up came up behind all that it waits for. -/
def ClosedG (md : Region.Mode) (ops : Array Oper) (L : Array Bool) : Prop :=
  ∀ k o, ops[k]? = some o → L.getD k false = true → ∀ e ∈ o.after, Region.binds md e = true → L.getD e.on false = true
def closedGB (md : Region.Mode) (ops : Array Oper) (L : Array Bool) : Bool :=
  (List.range ops.size).all fun k => !L.getD k false || (match ops[k]? with | none => true | some o => o.after.all fun e => !Region.binds md e || L.getD e.on false)
/-- Each of these waits for number i by itself. -/
def waitGB (md : Region.Mode) (ops : Array Oper) (st : List Nat) (i : Nat) : Bool :=
  st.all fun k => match ops[k]? with | none => false | some o => o.after.any fun e => Region.binds md e && e.on == i

theorem closedG_of {md : Region.Mode} {ops : Array Oper} {L : Array Bool} (h : closedGB md ops L = true) : ClosedG md ops L := by
  intro k o hk hL e he hb
  simp only [closedGB, List.all_eq_true, List.mem_range] at h
  have h1 := h k (Array.getElem?_eq_some_iff.1 hk).1
  rw [hL, hk] at h1
  simp only [Bool.not_true, Bool.false_or] at h1
  have h2 := Array.all_eq_true_iff_forall_mem.1 h1 e he
  rw [hb] at h2
  simpa using h2

/-- Whatever order is picked from here on. -/
def wpAnyG (P : Program) (md : Region.Mode) (ops : Array Oper) (Q : Exit → Act → World → Prop) (st : List Nat) (S0 S1 : World → Prop) : Nat → Array Bool → Act → World → Prop
  | 0, L, a, w => Region.ready md ops L = [] ∧ Q .normal a w
  | fuel + 1, L, a, w => (Region.ready md ops L = [] → Q .normal a w) ∧
      ∀ i ∈ Region.ready md ops L, wpOp P ops Q i (fun a' w' => HoldG st S0 S1 (L.setIfInBounds i true) w' ∧ wpAnyG P md ops Q st S0 S1 fuel (L.setIfInBounds i true) a' w') a w

section
variable {P : Program} {md : Region.Mode} {ops : Array Oper} {Q : Exit → Act → World → Prop} {st : List Nat} {S0 S1 : World → Prop}

theorem any_of_G : ∀ (fuel : Nat) (L : Array Bool) (a : Act) (w : World), wpAnyG P md ops Q st S0 S1 fuel L a w → wpAny P md ops Q fuel L a w
  | 0, _, _, _, h => h
  | fuel + 1, _, _, _, h => ⟨h.1, fun i hi => wpOp_mono (fun a' w' h' => any_of_G fuel _ a' w' h'.2) (h.2 i hi)⟩

theorem done_of_set {L : Array Bool} {i : Nat} (hi : i ∉ st) (h : AnyDone st (L.setIfInBounds i true)) : AnyDone st L := by
  obtain ⟨k, hk, h1⟩ := h
  refine ⟨k, hk, ?_⟩
  rw [getD_set_ne false (fun e => hi (by rw [e]; exact hk))] at h1
  exact h1
theorem done_set {L : Array Bool} (i : Nat) (h : AnyDone st L) : AnyDone st (L.setIfInBounds i true) := by
  obtain ⟨k, hk, h1⟩ := h
  exact ⟨k, hk, getD_set_true h1⟩
theorem not_both {L : Array Bool} {i : Nat} (h : L.getD i true = false) : L.getD i false = false := by
  rcases Nat.lt_or_ge i L.size with k | k
  · simp [k] at h ⊢
    exact h
  · simp [Array.getElem?_eq_none k]
theorem closed_set {L : Array Bool} {j : Nat} (hc : ClosedG md ops L) (hj : j ∈ Region.ready md ops L) : ClosedG md ops (L.setIfInBounds j true) := by
  intro k o hk hL e he hb
  by_cases hkj : j = k
  · subst hkj
    obtain ⟨_, o', ho', hall⟩ := mem_ready.1 hj
    rw [hk] at ho'
    cases ho'
    exact getD_set_true (hall e he hb)
  · rw [getD_set_ne false hkj] at hL
    exact getD_set_true (hc k o hk hL e he hb)

/-- Whoever has not come up, and does not wait for number i, lies apart from it. -/
def ApartG (md : Region.Mode) (ops : Array Oper) (i : Nat) (oi : Oper) (L : Array Bool) : Prop :=
  ∀ j oj, ops[j]? = some oj → j ≠ i → L.getD j true = false → (∀ e ∈ oj.after, Region.binds md e = true → e.on ≠ i) → oi.apart ops oj = true
theorem unlisted_set {L : Array Bool} {j k : Nat} (h : (L.setIfInBounds j true).getD k true = false) : L.getD k true = false := by
  by_cases e : j = k
  · subst e
    rcases Nat.lt_or_ge j L.size with q | q
    · simp [q] at h
    · simp at h
  · rwa [getD_set_ne true e] at h
theorem ApartG.set {i : Nat} {oi : Oper} {L : Array Bool} (h : ApartG md ops i oi L) (j : Nat) : ApartG md ops i oi (L.setIfInBounds j true) :=
  fun k ok h1 h2 h3 h4 => h k ok h1 h2 (unlisted_set h3) h4
/-- Who may come up together with number i does not wait for it. -/
theorem no_wait {i j : Nat} {oj : Oper} {L : Array Bool} (hi : i ∈ Region.ready md ops L) (hoj : ops[j]? = some oj) (hj : j ∈ Region.ready md ops L) : ∀ e ∈ oj.after, Region.binds md e = true → e.on ≠ i := by
  obtain ⟨-, o, ho, hall⟩ := mem_ready.1 hj
  rw [hoj] at ho
  cases ho
  intro e he hb h
  have q := hall e he hb
  rw [h, not_both (mem_ready.1 hi).1] at q
  cases q

/-- What number i yields wherever it may still come. -/
abbrev YieldG (P : Program) (md : Region.Mode) (ops : Array Oper) (st : List Nat) (S0 S1 : World → Prop) (i : Nat) (oi : Oper) (v : Value) (a : Act) : Prop :=
  YieldsIf P ops (fun w' => ∃ L', ClosedG md ops L' ∧ L'.getD i true = false ∧ HoldG st S0 S1 L' w') oi v a

theorem anyG_first {i : Nat} {oi : Oper} {v : Value} (hi : ops[i]? = some oi) (hsel : ∀ (j : Nat) (o : Oper) cs b, ops[j]? = some o → o.op ≠ .select cs b)
    (hQ : ∀ c a w, Q (.panic c) (a.put oi.dst v) w → Q (.panic c) a w) (hst : i ∉ st) (fuel : Nat) : ∀ (L : Array Bool) (a : Act) (w : World),
      ApartG md ops i oi L → i ∈ Region.ready md ops L → ClosedG md ops L → YieldG P md ops st S0 S1 i oi v a → HoldG st S0 S1 L w →
      wpAnyG P md ops Q st S0 S1 fuel (L.setIfInBounds i true) (a.put oi.dst v) w → wpAnyG P md ops Q st S0 S1 (fuel + 1) L a w := by
  induction fuel with
  | zero =>
    intro L a w hap hr hc hy hS H
    have only : ∀ j ∈ Region.ready md ops L, j = i := fun j hj => Classical.byContradiction fun e => by
      have q := ready_mono hj e
      rw [H.1] at q
      cases q
    exact ⟨fun h => (by rw [h] at hr; cases hr), fun j hj => by
      cases only j hj
      exact hy.wpOp hi ⟨L, hc, (mem_ready.1 hr).1, hS⟩ ⟨⟨hS.1, hS.2.imp id (done_set _)⟩, H⟩⟩
  | succ fuel ih =>
    intro L a w hap hr hc hy hS H
    refine ⟨fun h => (by rw [h] at hr; cases hr), fun j hj => ?_⟩
    rcases Decidable.em (j = i) with rfl | hji
    · exact hy.wpOp hi ⟨L, hc, (mem_ready.1 hr).1, hS⟩ ⟨⟨hS.1, hS.2.imp id (done_set _)⟩, H⟩
    · obtain ⟨un, oj, hoj, -⟩ := mem_ready.1 hj
      refine wpOp_mono (fun a' w' h3 => ?_) (wpOp_putIf hoj (hap j oj hoj hji un (no_wait hr hoj hj)) (fun cs b => hsel i oi cs b hi) (fun cs b => hsel j oj cs b hoj) hQ hy (H.2 j (ready_mono hj hji)))
      obtain ⟨hy3, hS3, hG3⟩ := h3
      rw [Array.setIfInBounds_comm _ _ (Ne.symm hji)] at hS3 hG3
      have hS4 : HoldG st S0 S1 (L.setIfInBounds j true) w' := ⟨hS3.1, hS3.2.imp id (done_of_set hst)⟩
      exact ⟨hS4, ih (L.setIfInBounds j true) a' w' (hap.set j) (ready_mono hr (Ne.symm hji)) (closed_set hc hj) hy3 hS4 hG3⟩
end

section
variable {P : Program} {md : Region.Mode} {l : List Oper} {Q : Exit → Act → World → Prop} {st : List Nat} {S0 S1 : World → Prop} {fuel : Nat} {L : Array Bool} {a : Act} {w : World} {i : Nat} {o : Oper} {rest : List Oper}

/-- It begins. -/
theorem regG_begin (st : List Nat) (S0 S1 : World → Prop) {id : Nat} (hm : P.follows .mixedOrders = true) (h : wpAnyG P .any l.toArray Q st S0 S1 l.length (Array.replicate l.length false) a w.drew) : (Code.region id l.toArray true).wp P Q a w :=
  wp_region_any hm (by simpa using any_of_G _ _ _ _ h)
/-- An operation that reads no memory, or none that a store changes, is taken first. -/
theorem regG_take {v : Value} (hi : l.drop i = o :: rest) (hs : Region.noSelect l.toArray = true) (hf : Region.free md l.toArray L i = true) (hr : (Region.ready md l.toArray L).contains i = true) (hc : closedGB md l.toArray L = true) (hst : st.contains i = false)
    (hQ : ∀ c a w, Q (.panic c) (a.put o.dst v) w → Q (.panic c) a w) (hw : Region.wanted o (yielded l.toArray a.tmps) = true) (hS : HoldG st S0 S1 L w) (hy : ∀ w', S1 w' → (execOp a.eval o).run P w' = .ok (.value v) w')
    (h : wpAnyG P md l.toArray Q st S0 S1 fuel (L.setIfInBounds i true) (a.put o.dst v) w) : wpAnyG P md l.toArray Q st S0 S1 (fuel + 1) L a w :=
  anyG_first (drop_nth hi) (Region.noSelect_spec hs) hQ (by simpa using hst) fuel L a w (Region.free_spec (drop_nth hi) hf) (by simpa using hr) (closedG_of hc) (Or.inl ⟨hw, fun w' h' => by
    obtain ⟨_, _, _, h1, _⟩ := h'
    exact hy w' h1⟩) hS h
/-- One that reads memory that a store changes: each store waits for it. -/
theorem regG_read {v : Value} (hi : l.drop i = o :: rest) (hs : Region.noSelect l.toArray = true) (hf : Region.free md l.toArray L i = true) (hr : (Region.ready md l.toArray L).contains i = true) (hc : closedGB md l.toArray L = true) (hst : st.contains i = false) (hb : waitGB md l.toArray st i = true)
    (hQ : ∀ c a w, Q (.panic c) (a.put o.dst v) w → Q (.panic c) a w) (hw : Region.wanted o (yielded l.toArray a.tmps) = true) (hS : HoldG st S0 S1 L w) (hy : ∀ w', S0 w' → (execOp a.eval o).run P w' = .ok (.value v) w')
    (h : wpAnyG P md l.toArray Q st S0 S1 fuel (L.setIfInBounds i true) (a.put o.dst v) w) : wpAnyG P md l.toArray Q st S0 S1 (fuel + 1) L a w :=
  anyG_first (drop_nth hi) (Region.noSelect_spec hs) hQ (by simpa using hst) fuel L a w (Region.free_spec (drop_nth hi) hf) (by simpa using hr) (closedG_of hc) (Or.inl ⟨hw, fun w' h' => by
    obtain ⟨L', c', u', _, h0 | ⟨k, hk, hd⟩⟩ := h'
    · exact hy w' h0
    · exfalso
      have q := List.all_eq_true.1 hb k hk
      cases hok : l.toArray[k]? with
      | none => rw [hok] at q; cases q
      | some ok =>
        rw [hok] at q
        simp only [Array.any_eq_true', Bool.and_eq_true, beq_iff_eq] at q
        obtain ⟨e, he, hbe, hon⟩ := q
        have z := c' k ok hok hd e he hbe
        rw [hon, not_both u'] at z
        cases z⟩) hS h
/-- One that alone may come up is carried out. -/
theorem regG_do (hi : l.drop i = o :: rest) (hr : Region.ready md l.toArray L = [i])
    (h : ∀ K' : Act → World → Prop, Shut (∀ a w', S1 w' → (S0 w' ∨ AnyDone st (L.setIfInBounds i true)) → wpAnyG P md l.toArray Q st S0 S1 fuel (L.setIfInBounds i true) a w' → K' a w') → if Region.wanted o (yielded l.toArray a.tmps) = true then Oper.wp P o a w K' Q else K' (a.put o.dst undef) w) :
    wpAnyG P md l.toArray Q st S0 S1 (fuel + 1) L a w := by
  refine ⟨fun e => (by rw [hr] at e; cases e), fun j hj => ?_⟩
  rw [hr] at hj
  obtain rfl : j = i := by simpa using hj
  unfold wpOp
  rw [drop_nth hi]
  have q := h (fun a' w' => HoldG st S0 S1 (L.setIfInBounds j true) w' ∧ wpAnyG P md l.toArray Q st S0 S1 fuel (L.setIfInBounds j true) a' w') (fun a' w' h1 h2 h3 => ⟨⟨h1, h2⟩, h3⟩)
  by_cases hw : Region.wanted o (yielded l.toArray a.tmps) = true
  · simp only [hw, if_true] at q ⊢
    exact .inl q
  · simp only [hw] at q ⊢
    exact q
theorem regG_end {n : Nat} (hr : Region.ready md l.toArray L = []) (h : Q .normal a w) : wpAnyG P md l.toArray Q st S0 S1 n L a w := by
  cases n with
  | zero => exact ⟨hr, h⟩
  | succ n => exact ⟨fun _ => h, fun i hi => by rw [hr] at hi; cases hi⟩
end

/-- One of three that may come up is (XGenS's regions). -/
theorem regS_three {P : Program} {md : Region.Mode} {l : List Oper} {Q : Exit → Act → World → Prop} {S : World → Prop} {fuel : Nat} {listed : Array Bool} {a : Act} {w : World} {i j k : Nat} {o o' o'' : Oper} {rest rest' rest'' : List Oper}
    (hi : l.drop i = o :: rest) (hj : l.drop j = o' :: rest') (hk : l.drop k = o'' :: rest'') (hr : Region.ready md l.toArray listed = [i, j, k])
    (h : ∀ K' : Act → World → Prop, Shut (∀ a w', S w' → wpAnyH P md l.toArray Q S fuel (listed.setIfInBounds i true) a w' → K' a w') → if Region.wanted o (yielded l.toArray a.tmps) = true then Oper.wp P o a w K' Q else K' (a.put o.dst undef) w)
    (h' : ∀ K' : Act → World → Prop, Shut (∀ a w', S w' → wpAnyH P md l.toArray Q S fuel (listed.setIfInBounds j true) a w' → K' a w') → if Region.wanted o' (yielded l.toArray a.tmps) = true then Oper.wp P o' a w K' Q else K' (a.put o'.dst undef) w)
    (h'' : ∀ K' : Act → World → Prop, Shut (∀ a w', S w' → wpAnyH P md l.toArray Q S fuel (listed.setIfInBounds k true) a w' → K' a w') → if Region.wanted o'' (yielded l.toArray a.tmps) = true then Oper.wp P o'' a w K' Q else K' (a.put o''.dst undef) w) :
    wpAnyH P md l.toArray Q S (fuel + 1) listed a w :=
  wpAnyH_ready hr (by simp) (AllReadyH.cons (drop_nth hi) (fun K' hK => h K' (fun a w' hS hn => hK.out a w' hS fun _ => hn))
    (AllReadyH.cons (drop_nth hj) (fun K' hK => h' K' (fun a w' hS hn => hK.out a w' hS fun _ => hn)) (AllReadyH.cons (drop_nth hk) (fun K' hK => h'' K' (fun a w' hS hn => hK.out a w' hS fun _ => hn)) AllReadyH.nil)))
end Go.Proofs.YtpcdbpijgmninaaDoor
