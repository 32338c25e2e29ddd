/- The document's Sign, Check and Valid of layer 13. Plain mathematics of package derive: Extract, Expand; the chapter's example. It speaks of no program. Plain mathematics of chains: a key's Step, so many of them, a chain's keys, which leads to which. -/
import Derived.Test.YtehalcopkjfdkaaDoorGi
import Derived.Test.YtehalcopkjfdkaaDoorGs
import Derived.Test.YtehalcopkjfdkaaDoorGa
import Derived.Test.YtehalcopkjfdkaaDoorGe
import Derived.Test.YtehalcopkjfdkaaDoorGb
namespace Go.Proofs.YtehalcopkjfdkaaDoor
set_option maxRecDepth 100000
open Go.RowKit

set_option maxRecDepth 100000 in
set_option maxHeartbeats 1000000 in
theorem refSign_any (k : List UInt8) (a : Ent) (hk : k.length ≤ 4000) (hn : a.name.length ≤ 1000) (hi : a.id < 18446744073709551616) (w : World) :
    Calls Tryd.prog 47 #[.string ⟨k.toArray⟩, a.val] w fun e w' => e = .returned (signE k a).val ∧ Below w.heap.size w w' := by
  have HN := Lib.hid (And.intro hn hi)
  have HKL := Lib.hid hk
  have BL := Lib.hid (show (bodyL a).length ≤ 1020 by rw [bodyL_length]; omega)
  have hv : a.val = .agg a.cells := rfl
  have HS : Hid (signE k a = { a with tag := macL k (bodyL a) }) := Lib.hid rfl
  obtain ⟨M, hM⟩ : ∃ M, M = macL k (bodyL a) := ⟨_, rfl⟩
  have HM := Lib.hid hM
  rw [← hM] at HS
  obtain ⟨S, hS⟩ : ∃ S, S = signE k a := ⟨_, rfl⟩
  rw [← hS] at HS ⊢
  rw [hv]
  clear hk hn hi hv hM hS
  go_enter Tryd.func47, Tryd.ntmps47
  go_wp2_with (refine wpList_box_row rfl 29 (.tmp 1) rfl a.cells rfl ?_)
  intro w1 b1 x1 z1
  have X1 : Hid (EntAt w1 w.heap.size a) := Lib.hid x1
  have B1 := Lib.hid b1
  clear b1 x1 z1
  go_wp2_with (refine wpList_alloc_row rfl 29 rfl ent0.cells ent_zero ?_)
  intro w2 b2 x2 z2
  have X2 : Hid (EntAt w2 w.heap.size a) := Lib.hid (Whole.below X1.out b2 X1.out.lt)
  have R2 : Hid (Whole w2 w1.heap.size 29 ent0.cells) := Lib.hid x2
  have B2 := Lib.hid (B1.out.trans (b2.mono B1.out.size))
  have Z2 := Lib.hid (And.intro B1.out.size X1.out.lt)
  obtain ⟨g, hg⟩ : ∃ g, g = w.heap.size := ⟨_, rfl⟩
  have GG := Lib.hid hg
  rw [← hg] at X2 Z2 ⊢
  obtain ⟨x, hx⟩ : ∃ x, x = w1.heap.size := ⟨_, rfl⟩
  rw [← hx] at R2 Z2 ⊢
  clear b2 x2 z2 X1 B1 hg hx
  obtain ⟨vs, w3, r3, y3, b3⟩ := conv_str w2 ⟨k.toArray⟩
  have X3 : Hid (EntAt w3 g a) := Lib.hid (Whole.below X2.out b3 X2.out.lt)
  have R3 : Hid (Whole w3 x 29 ent0.cells) := Lib.hid (Whole.below R2.out b3 R2.out.lt)
  have B3 := Lib.hid (B2.out.trans (b3.mono B2.out.size))
  have Y3 : Hid (BytesAt w3 vs k) := Lib.hid (by simpa using y3)
  clear b3 y3 X2 R2 B2
  go_wp2_with (with_reducible refine wpList_load_ent rfl _ rfl g (by with_unfolding_all exact rfl) a X3.out ?_)
  refine (refBody_any a HN.out.1 HN.out.2 w3).mono ?_
  rintro e w4 ⟨v4, rfl, o4, b4⟩
  have Y4 := Lib.hid (BytesAt.of_own o4)
  have X4 : Hid (EntAt w4 g a) := Lib.hid (Whole.below X3.out b4 X3.out.lt)
  have R4 : Hid (Whole w4 x 29 ent0.cells) := Lib.hid (Whole.below R3.out b4 R3.out.lt)
  have B4 := Lib.hid (B3.out.trans (b4.mono B3.out.size))
  have C := Lib.hid (refMac_any vs v4 k (bodyL a) w4 (Y3.out.below b4) Y4.out (by have := HKL.out; omega) (by have := BL.out; omega))
  rw [← HM.out] at C
  clear o4 b4 X3 R3 B3 r3 Y3
  go_wp2_with fail
  refine C.out.mono ?_
  rintro e w5 ⟨v5, rfl, y5, b5⟩
  have r5 := conv_bytes y5
  have X5 : Hid (EntAt w5 g a) := Lib.hid (Whole.below X4.out b5 X4.out.lt)
  have R5 : Hid (Whole w5 x 29 ent0.cells) := Lib.hid (Whole.below R4.out b5 R4.out.lt)
  have B5 := Lib.hid (B4.out.trans (b5.mono B4.out.size))
  have f5 := X5.out.free 5
  have c5 := (EntAt.six X5.out).2.2.2.2.2
  have X6 : Hid (EntAt (w5.setCell ⟨g, 5, none⟩ (.string ⟨M.toArray⟩)) g S) := Lib.hid (by rw [HS.out]; exact X5.out.tag M)
  have R6 : Hid (Whole (w5.setCell ⟨g, 5, none⟩ (.string ⟨M.toArray⟩)) x 29 ent0.cells) := Lib.hid (R5.out.far (by have := Z2.out; simp; omega) _)
  have B6 : Hid (Below w.heap.size w (w5.setCell ⟨g, 5, none⟩ (.string ⟨M.toArray⟩))) := Lib.hid (B5.out.grown (grown_store w5 g 5 _) B5.out.size (fun k hk => by injection hk with hk; have := GG.out; omega))
  clear y5 b5 X4 R4 B4 C
  go_wp2_with (first | (with_reducible refine wpList_load_ent rfl _ rfl g (by with_unfolding_all exact rfl) S X6.out ?_) | (with_reducible refine wpList_store_whole rfl 29 _ _ rfl x S.cells (by with_unfolding_all exact rfl) (by with_unfolding_all exact rfl) _ _ R6.out (ent_size' _) rfl (Ent.cells_one _) ?_))
  intro w7 g7 x7 z7
  have R7 : Hid (EntAt w7 x S) := Lib.hid x7
  have B7 := Lib.hid (B6.out.grown g7 B6.out.size (fun k hk => by injection hk with hk; have := GG.out; have := Z2.out; omega))
  clear g7 x7 z7 X6 R6 B6 X5 R5 B5 f5 c5 r5
  go_wp2
  exact bodyPost_ret (results_ent rfl _ _ _ _ rfl R7.out) rfl ⟨rfl, B7.out⟩

theorem ent_tag (S : Ent) (w : World) : (Instr.field 29 S.val 5).run Tryd.prog w = .ok (.string ⟨S.tag.toArray⟩) w := by
  obtain ⟨n, i, f, u, x, t⟩ := S
  simp only [Ent.val, Ent.enc]
  kernel_rfl
theorem exec_ent_tag {ev : Operand → Value} {o : Oper} (x : Operand) (ho : o.op = .field 29 x 5) (S : Ent) (hx : ev x = S.val) (w : World) :
    (execOp ev o).run Tryd.prog w = .ok (.value (.string ⟨S.tag.toArray⟩)) w := by
  have h := ent_tag S w
  unfold execOp
  simp [ho, hx, h]

set_option maxRecDepth 100000 in
set_option maxHeartbeats 1000000 in
theorem refCheckT_any (k : List UInt8) (a : Ent) (hk : k.length ≤ 4000) (hn : a.name.length ≤ 1000) (hi : a.id < 18446744073709551616) (w : World) :
    Calls Tryd.prog 34 #[.string ⟨k.toArray⟩, a.val] w fun e w' => e = .returned (.bool (checkT k a)) ∧ Below w.heap.size w w' := by
  have C := Lib.hid (fun w => refSign_any k a hk hn hi w)
  have hv : a.val = .agg a.cells := rfl
  obtain ⟨S, hS⟩ : ∃ S, S = signE k a := ⟨_, rfl⟩
  obtain ⟨q, hq⟩ : ∃ q, q = checkT k a := ⟨_, rfl⟩
  have hq2 : q = decide (S.tag = a.tag) := by rw [hq, hS]; rfl
  have d1 : (S.tag == a.tag) = q := by rw [hq2]; by_cases h : S.tag = a.tag <;> simp [h]
  have d2 : decide (S.tag = a.tag) = q := hq2.symm
  rw [← hS] at C
  rw [← hq, hv]
  clear hS hq hq2 hv hk hn hi
  go_enter Tryd.func34, Tryd.ntmps34
  go_wp2_with (refine wpList_box_row rfl 29 (.tmp 1) rfl a.cells rfl ?_)
  intro w1 b1 x1 z1
  have X1 : Hid (EntAt w1 w.heap.size a) := Lib.hid x1
  have B1 := Lib.hid b1
  obtain ⟨g, hg⟩ : ∃ g, g = w.heap.size := ⟨_, rfl⟩
  rw [← hg] at X1 ⊢
  clear b1 x1 z1 hg
  go_wp2_with fail
  refine reg_begin (by kernel_rfl) fun w3 hb hz => ?_
  have X3 : Hid (EntAt w3 g a) := Lib.hid (Whole.below X1.out hb X1.out.lt)
  have B3 := Lib.hid (B1.out.trans (hb.mono B1.out.size))
  clear hb hz X1 B1
  have rc : ∀ w', Below w3.heap.size w3 w' → w'.cell? ⟨g, 5, none⟩ = some (.string ⟨a.tag.toArray⟩) := fun w' h => (EntAt.six (Whole.below X3.out h X3.out.lt)).2.2.2.2.2
  refine reg_take (i := 0) (v := ?_) rfl (by kernel_rfl) (by kernel_rfl) (by kernel_rfl) (fun _ _ _ h => h) (by rfl) ?hy0 ?_
  case hy0 => intro w' hw'; go_simp; (try with_reducible rfl)
  simp only [Act.put, List.setIfInBounds_toArray, List.set_cons_zero, List.set_cons_succ]
  refine reg_take (i := 4) (v := ?_) rfl (by kernel_rfl) (by kernel_rfl) (by kernel_rfl) (fun _ _ _ h => h) (by rfl) ?hy4 ?_
  case hy4 => intro w' hw'; go_simp; (try with_reducible rfl)
  simp only [Act.put, List.setIfInBounds_toArray, List.set_cons_zero, List.set_cons_succ]
  refine reg_take (i := 1) (v := a.val) rfl (by kernel_rfl) (by kernel_rfl) (by kernel_rfl) (fun _ _ _ h => h) (by rfl) ?hy1 ?_
  case hy1 => intro w' hw'; exact exec_load_ent _ rfl g rfl a w' (Whole.below X3.out hw' X3.out.lt)
  simp only [Act.put, List.setIfInBounds_toArray, List.set_cons_zero, List.set_cons_succ]
  refine reg_take (i := 5) (v := .string ⟨a.tag.toArray⟩) rfl (by kernel_rfl) (by kernel_rfl) (by kernel_rfl) (fun _ _ _ h => h) (by rfl) ?hy5 ?_
  case hy5 => intro w' hw'; have c := rc w' hw'; go_simp; (try with_reducible rfl)
  simp only [Act.put, List.setIfInBounds_toArray, List.set_cons_zero, List.set_cons_succ]
  refine reg_call (i := 2) rfl (by kernel_rfl) (fun K' hK => ?_)
  go_simp
  refine (C.out w3).mono ?_
  rintro e w4 ⟨rfl, hb⟩
  have B4 := Lib.hid (B3.out.trans (hb.mono B3.out.size))
  refine hK.out _ _ hb ?_
  clear hK K' hb X3 B3 rc C
  refine reg_take (i := 3) (v := .string ⟨S.tag.toArray⟩) rfl (by kernel_rfl) (by kernel_rfl) (by kernel_rfl) (fun _ _ _ h => h) (by rfl) ?hy3 ?_
  case hy3 => intro w' hw'; exact exec_ent_tag _ rfl S rfl w'
  simp only [Act.put, List.setIfInBounds_toArray, List.set_cons_zero, List.set_cons_succ]
  refine reg_take (i := 6) (v := .bool q) rfl (by kernel_rfl) (by kernel_rfl) (by kernel_rfl) (fun _ _ _ h => h) (by rfl) ?hy6 ?_
  case hy6 => intro w' hw'; go_simp; (try with_reducible rfl)
  simp only [Act.put, List.setIfInBounds_toArray, List.set_cons_zero, List.set_cons_succ]
  refine reg_take (i := 7) (v := ?_) rfl (by kernel_rfl) (by kernel_rfl) (by kernel_rfl) (fun _ _ _ h => h) (by rfl) ?hy7 ?_
  case hy7 => intro w' hw'; go_simp; (try with_reducible rfl)
  simp only [Act.put, List.setIfInBounds_toArray, List.set_cons_zero, List.set_cons_succ]
  refine reg_end (by kernel_rfl) ?_
  clear d1 d2
  go_wp2
  go_ret
  exact ⟨rfl, B4.out⟩

set_option maxRecDepth 100000 in
set_option maxHeartbeats 2000000 in
theorem refValid_any (gi : Int) (gk : List UInt8) (a : Ent) (now : Int) (hk : gk.length ≤ 4000) (hn : a.name.length ≤ 1000) (hi : a.id < 18446744073709551616) (w : World) :
    Calls Tryd.prog 22 #[gateV gi gk, a.val, .int .i64 now] w fun e w' => e = .returned (.int .i64 (validX gi gk a now)) ∧ Below w.heap.size w w' := by
  have CC := Lib.hid (fun w => refCheckT_any gk a hk hn hi w)
  have CR := Lib.hid (fun w => refRight_any a w)
  have hv : a.val = .agg a.cells := rfl
  have hg0 : gateV gi gk = .agg (gateC gi gk) := rfl
  have HX : Hid (validX gi gk a now = if entR a = false then 11 else if a.index < gi then 33 else if gi < a.index then 34 else if checkT gk a = false then 20 else if now < a.since ∨ a.till < now then 32 else 0) := Lib.hid rfl
  obtain ⟨X, hX⟩ : ∃ X, X = validX gi gk a now := ⟨_, rfl⟩
  obtain ⟨qr, hqr⟩ : ∃ q, q = entR a := ⟨_, rfl⟩
  obtain ⟨qc, hqc⟩ : ∃ q, q = checkT gk a := ⟨_, rfl⟩
  rw [← hX, ← hqr, ← hqc] at HX
  simp only [← hqr] at CR
  simp only [← hqc] at CC
  rw [← hX, hv, hg0]
  clear hX hqr hqc hv hg0 hk hn hi
  go_enter Tryd.func22, Tryd.ntmps22
  go_wp2_with (refine wpList_box_row rfl 23 (.tmp 0) rfl (gateC gi gk) rfl ?_)
  intro w1 b1 x1 z1
  have X1 : Hid (GateAt w1 w.heap.size gi gk) := Lib.hid x1
  have B1 := Lib.hid b1
  clear b1 x1 z1
  go_wp2_with (refine wpList_box_row rfl 29 _ rfl a.cells rfl ?_)
  intro w2 b2 x2 z2
  have X2 : Hid (GateAt w2 w.heap.size gi gk) := Lib.hid (Whole.below X1.out b2 X1.out.lt)
  have Y2 : Hid (EntAt w2 w1.heap.size a) := Lib.hid x2
  have B2 := Lib.hid (B1.out.trans (b2.mono B1.out.size))
  obtain ⟨g, hg⟩ : ∃ g, g = w.heap.size := ⟨_, rfl⟩
  rw [← hg] at X2 ⊢
  obtain ⟨x, hx⟩ : ∃ x, x = w1.heap.size := ⟨_, rfl⟩
  rw [← hx] at Y2 ⊢
  clear b2 x2 z2 X1 B1 hg hx
  obtain ⟨a0, a1, a2, a3, a4, a5⟩ := Y2.out.six
  go_wp2_with fail
  refine (CR.out w2).mono ?_
  rintro e w3 ⟨rfl, b3⟩
  have X3 : Hid (GateAt w3 g gi gk) := Lib.hid (Whole.below X2.out b3 X2.out.lt)
  have Y3 : Hid (EntAt w3 x a) := Lib.hid (Whole.below Y2.out b3 Y2.out.lt)
  have B3 := Lib.hid (B2.out.trans (b3.mono B2.out.size))
  clear b3 X2 Y2 B2 CR a0 a1 a2 a3 a4 a5
  cases qr with
  | false =>
    have HF : Hid (X = 11) := Lib.hid (by have q := HX.out; rw [if_pos rfl] at q; exact q)
    go_wp2
    go_ret
    exact ⟨by rw [HF.out]; rfl, B3.out⟩
  | true =>
    have HX2 : Hid (X = if a.index < gi then 33 else if gi < a.index then 34 else if qc = false then 20 else if now < a.since ∨ a.till < now then 32 else 0) := Lib.hid (by have q := HX.out; rw [if_neg (by decide)] at q; exact q)
    obtain ⟨g0, g1⟩ := X3.out.two
    obtain ⟨a0, a1, a2, a3, a4, a5⟩ := Y3.out.six
    clear HX
    by_cases h1 : a.index < gi
    · have d1 : decide (a.index < gi) = true := by simpa using h1
      have HF : Hid (X = 33) := Lib.hid (by have q := HX2.out; rw [if_pos h1] at q; exact q)
      clear h1
      go_wp2
      go_ret
      exact ⟨by rw [HF.out]; rfl, B3.out⟩
    have d1 : decide (a.index < gi) = false := by simpa using h1
    by_cases h2 : gi < a.index
    · have d2 : decide (gi < a.index) = true := by simpa using h2
      have HF : Hid (X = 34) := Lib.hid (by have q := HX2.out; rw [if_neg h1, if_pos h2] at q; exact q)
      clear h1 h2
      go_wp2
      go_ret
      exact ⟨by rw [HF.out]; rfl, B3.out⟩
    have d2 : decide (gi < a.index) = false := by simpa using h2
    have HX3 : Hid (X = if qc = false then 20 else if now < a.since ∨ a.till < now then 32 else 0) := Lib.hid (by have q := HX2.out; rw [if_neg h1, if_neg h2] at q; exact q)
    clear HX2 h1 h2
    go_wp2_with fail
    refine (CC.out w3).mono ?_
    rintro e w4 ⟨rfl, b4⟩
    have Y4 : Hid (EntAt w4 x a) := Lib.hid (Whole.below Y3.out b4 Y3.out.lt)
    have B4 := Lib.hid (B3.out.trans (b4.mono B3.out.size))
    clear b4 X3 Y3 B3 CC g0 g1 a0 a1 a2 a3 a4 a5
    cases qc with
    | false =>
      have HF : Hid (X = 20) := Lib.hid (by have q := HX3.out; rw [if_pos rfl] at q; exact q)
      go_wp2
      go_ret
      exact ⟨by rw [HF.out]; rfl, B4.out⟩
    | true =>
      have HX4 : Hid (X = if now < a.since ∨ a.till < now then 32 else 0) := Lib.hid (by have q := HX3.out; rw [if_neg (by decide)] at q; exact q)
      obtain ⟨a0, a1, a2, a3, a4, a5⟩ := Y4.out.six
      clear HX3
      by_cases h3 : now < a.since
      · have d3 : decide (now < a.since) = true := by simpa using h3
        have HF : Hid (X = 32) := Lib.hid (by have q := HX4.out; rw [if_pos (.inl h3)] at q; exact q)
        clear h3
        go_wp2
        go_ret
        exact ⟨by rw [HF.out]; rfl, B4.out⟩
      have d3 : decide (now < a.since) = false := by simpa using h3
      by_cases h4 : a.till < now
      · have d4 : decide (a.till < now) = true := by simpa using h4
        have HF : Hid (X = 32) := Lib.hid (by have q := HX4.out; rw [if_pos (.inr h4)] at q; exact q)
        clear h3 h4
        go_wp2
        go_ret
        exact ⟨by rw [HF.out]; rfl, B4.out⟩
      · have d4 : decide (a.till < now) = false := by simpa using h4
        have HF : Hid (X = 0) := Lib.hid (by have q := HX4.out; rw [if_neg (by omega)] at q; exact q)
        clear h3 h4
        go_wp2
        go_ret
        exact ⟨by rw [HF.out]; rfl, B4.out⟩
end Go.Proofs.YtehalcopkjfdkaaDoor

namespace Go.Proofs.YtehalcopkjfdkaaDoor
set_option maxRecDepth 100000

def extractL (salt secret : List UInt8) : List UInt8 := macL (if salt.length = 0 then List.replicate 32 0 else salt) secret
theorem extractL_length (a b : List UInt8) : (extractL a b).length = 32 := macL_length _ _
/-- t(i). -/
def exT (key info : List UInt8) : Nat → List UInt8
  | 0 => []
  | i + 1 => macL key (exT key info i ++ info ++ [UInt8.ofNat (i + 1)])
/-- t(1) to t(i), one behind the other. -/
def exOut (key info : List UInt8) : Nat → List UInt8
  | 0 => []
  | i + 1 => exOut key info i ++ exT key info (i + 1)
theorem exT_length (key info : List UInt8) (i : Nat) : (exT key info (i + 1)).length = 32 := macL_length _ _
theorem exT_most (key info : List UInt8) (i : Nat) : (exT key info i).length ≤ 32 := by
  cases i with
  | zero => simp [exT]
  | succ i => rw [exT_length]; exact Nat.le_refl _
theorem exOut_length (key info : List UInt8) (i : Nat) : (exOut key info i).length = 32 * i := by
  induction i with
  | zero => rfl
  | succ i ih => rw [exOut, List.length_append, ih, exT_length]; omega
/-- More parts go on where fewer end. -/
theorem exOut_take (key info : List UInt8) (i j n : Nat) (hij : i ≤ j) (hn : n ≤ 32 * i) : (exOut key info j).take n = (exOut key info i).take n := by
  induction j with
  | zero => obtain rfl : i = 0 := by omega
            rfl
  | succ j ih =>
    by_cases h : i = j + 1
    · rw [h]
    · rw [exOut, List.take_append_of_le_length (by rw [exOut_length]; omega)]
      exact ih (by omega)
/-- How many parts. -/
def partsFor (n : Nat) : Nat := (n + 31) / 32
def expandL (key info : List UInt8) (n : Nat) : List UInt8 := (exOut key info (partsFor n)).take n
theorem expandL_length (key info : List UInt8) (n : Nat) : (expandL key info n).length = n := by
  rw [expandL, List.length_take, exOut_length, partsFor]
  omega
theorem expandL_take (key info : List UInt8) (n m : Nat) (h : n ≤ m) : (expandL key info m).take n = expandL key info n := by
  rw [expandL, expandL, List.take_take, Nat.min_eq_left h]
  exact exOut_take key info (partsFor n) (partsFor m) n (by simp only [partsFor]; omega) (by simp only [partsFor]; omega)
theorem expandL_at (key info : List UInt8) (n i : Nat) (h : n ≤ 32 * i) (h' : 32 * i < n + 32) : (exOut key info i).take n = expandL key info n := by
  have : i = partsFor n := by simp only [partsFor]; omega
  rw [this]
  rfl
def carc : List UInt8 := [99, 97, 114, 99, 97, 110, 101, 116, 32]
def namedL (key name : List UInt8) : List UInt8 := expandL key (carc ++ name) 32
theorem namedL_length (k n : List UInt8) : (namedL k n).length = 32 := expandL_length _ _ _
end Go.Proofs.YtehalcopkjfdkaaDoor

namespace Go.Proofs.YtehalcopkjfdkaaDoor
set_option maxRecDepth 100000
open Go.RowKit

def linkL : List UInt8 := [99, 97, 114, 99, 97, 110, 101, 116, 32, 108, 105, 110, 107]
def chainN : List UInt8 := [99, 104, 97, 105, 110]
def stepL (k : List UInt8) : List UInt8 := sumL (linkL ++ k)
theorem stepL_length (k : List UInt8) : (stepL k).length = 32 := sumL_length _
def backL (k : List UInt8) : Nat → List UInt8
  | 0 => k
  | n + 1 => backL (stepL k) n
theorem backL_succ (k : List UInt8) (n : Nat) : backL k (n + 1) = stepL (backL k n) := by
  induction n generalizing k with
  | zero => rfl
  | succ n ih => rw [backL, ih, backL]
theorem backL_add (k : List UInt8) (m n : Nat) : backL (backL k m) n = backL k (m + n) := by
  induction n with
  | zero => rfl
  | succ n ih => rw [backL_succ, ih, ← backL_succ]; rfl
theorem backL_length (k : List UInt8) (n : Nat) (h : k.length ≤ 4000) : (backL k n).length ≤ 4000 := by
  cases n with
  | zero => exact h
  | succ n => rw [backL_succ, stepL_length]; omega
theorem backL_32 (k : List UInt8) (n : Nat) (h : k.length = 32) : (backL k n).length = 32 := by
  cases n with
  | zero => exact h
  | succ n => rw [backL_succ, stepL_length]
def backA (k : List UInt8) (z : Int) : List UInt8 := if z < 0 ∨ 64 < z then [] else backL k z.toNat
def backC (z : Int) : Int := if z < 0 ∨ 64 < z then 2 else 0
def keyBad (len idx : Int) : Prop := len < 1 ∨ 64 < len ∨ idx < 0 ∨ len < idx
instance (len idx : Int) : Decidable (keyBad len idx) := inferInstanceAs (Decidable (_ ∨ _))
def keyA (seed : List UInt8) (len idx : Int) : List UInt8 := if keyBad len idx then [] else backL (namedL seed chainN) (len - idx).toNat
def chKeyC (len idx : Int) : Int := if keyBad len idx then 2 else 0
def leadsB (yi : Int) (yk : List UInt8) (oi : Int) (ok : List UInt8) : Bool := decide (0 ≤ oi ∧ oi ≤ yi ∧ yk.length = 32 ∧ yi - oi ≤ 64 ∧ backL yk (yi - oi).toNat = ok)

theorem key_len (seed : List UInt8) (len idx : Int) (h : ¬ keyBad len idx) : (keyA seed len idx).length = 32 := by
  rw [keyA, if_neg h]
  exact backL_32 _ _ (namedL_length _ _)
/-- Each key of a chain leads to those of lesser indexes. -/
theorem keys_lead (seed : List UInt8) (len i j : Int) (h : ¬ keyBad len i) (hj : 0 ≤ j) (hi : j ≤ i) : leadsB i (keyA seed len i) j (keyA seed len j) = true := by
  have hb : ¬ keyBad len j := by simp only [keyBad, not_or, Int.not_lt] at h ⊢; omega
  simp only [keyBad, not_or, Int.not_lt] at h
  obtain ⟨h1, h2, h3, h4⟩ := h
  rw [leadsB, decide_eq_true_eq]
  refine ⟨hj, hi, key_len seed len i (by simp only [keyBad, not_or, Int.not_lt]; omega), by omega, ?_⟩
  rw [keyA, keyA, if_neg (by simp only [keyBad, not_or, Int.not_lt]; omega), if_neg hb, backL_add]
  congr 1
  omega
/-- A key is the Step of the next one. -/
theorem key_step (seed : List UInt8) (len i : Int) (h : ¬ keyBad len i) (hi : 1 ≤ i) : stepL (keyA seed len i) = keyA seed len (i - 1) := by
  have hb : ¬ keyBad len (i - 1) := by simp only [keyBad, not_or, Int.not_lt] at h ⊢; omega
  have h' := h
  simp only [keyBad, not_or, Int.not_lt] at h'
  rw [keyA, keyA, if_neg h, if_neg hb, ← backL_succ]
  congr 1
  omega
end Go.Proofs.YtehalcopkjfdkaaDoor
