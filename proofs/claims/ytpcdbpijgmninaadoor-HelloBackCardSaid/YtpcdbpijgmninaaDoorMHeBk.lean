/- HelloBack's core: what is greeted checks, what is answered agrees; with one byte of a tag changed it does not; what may be is taken as it was put (tools/mkheback.py writes it). -/
import Derived.Test.YtpcdbpijgmninaaDoorGbg
import Derived.Test.YtpcdbpijgmninaaDoorGx
import Derived.Test.YtpcdbpijgmninaaDoorMStrB
import Derived.Test.YtpcdbpijgmninaaDoorGw
namespace Go.Proofs.YtpcdbpijgmninaaDoor
set_option maxRecDepth 100000
open Go.RowKit

theorem not_same {ks : List CK} {cs : List Value} (h : Fits ks cs) : false = !eqCells cs cs := by rw [eqCells_refl h]; rfl
/-- A text's first so many bytes. -/
theorem cut_at (k : List UInt8) : (if (300 : Int) < (k.length : Int) then (300 : Int) else (k.length : Int)) = ((k.take 300).length : Int) := by
  rw [List.length_take]
  split <;> omega
theorem cut_is (k : List UInt8) : (⟨k.toArray⟩ : ByteArray).extract 0 (k.take 300).length = ⟨(k.take 300).toArray⟩ := by
  rw [ext_take, List.length_take, ← List.take_take]
  simp
theorem xor_same (c x : UInt8) : (c = c ^^^ x) ↔ x = 0 := by
  constructor
  · intro h
    have e2 : c ^^^ (c ^^^ x) = c ^^^ c := by rw [← h]
    rw [← UInt8.xor_assoc, UInt8.xor_self, UInt8.zero_xor] at e2
    exact e2
  · intro h
    rw [h, UInt8.xor_zero]
theorem set_same (t : List UInt8) (j : Nat) (c x : UInt8) (hc : t[j]? = some c) : decide (t = t.set j (c ^^^ x)) = ((x.toNat : Int) == 0) := by
  have h1 : (t = t.set j (c ^^^ x)) ↔ x = 0 := by
    rw [← xor_same c x]
    constructor
    · intro h
      have q : (t.set j (c ^^^ x))[j]? = some (c ^^^ x) := List.getElem?_set_self (List.getElem?_eq_some_iff.1 hc).1
      rw [← h, hc] at q
      exact Option.some.inj q
    · intro h
      rw [← h]
      apply List.ext_getElem?
      intro i
      rw [List.getElem?_set]
      split
      · rename_i e
        subst e
        rw [if_pos (List.getElem?_eq_some_iff.1 hc).1]
        exact hc
      · rfl
  rw [Bool.eq_iff_iff, decide_eq_true_eq, beq_iff_eq, h1]
  constructor
  · intro h; rw [h]; rfl
  · intro h
    apply UInt8.toNat_inj.1
    show x.toNat = 0
    omega
/-- A tag is made bytes, and one of them is to be changed. -/
theorem tag_set (w : World) (t : List UInt8) (ht : t.length = 32) (j : Nat) (hj : j < 32) (x : UInt8) : ∃ cap w2 c, t[j]? = some c ∧ (convert 9 42 (.string ⟨t.toArray⟩)).run Tryd.prog w = .ok (.slice (some ⟨w.heap.size, 0, none⟩) 32 cap) w2 ∧ 32 ≤ cap ∧ Below w.heap.size w w2 ∧ w.heap.size < w2.heap.size ∧
    w2.cell? ⟨w.heap.size, j, none⟩ = some (.int .u8 (c.toNat : Int)) ∧ w2.frozen? ⟨w.heap.size, j, none⟩ = false ∧ BytesAt (w2.setCell ⟨w.heap.size, j, none⟩ (.int .u8 ((c ^^^ x).toNat : Int))) (.slice (some ⟨w.heap.size, 0, none⟩) 32 cap) (t.set j (c ^^^ x)) := by
  obtain ⟨cap, w2, r, hcap, -, b, hlt, hat⟩ := conv_str_set w t
  obtain ⟨c, hc⟩ : ∃ c, t[j]? = some c := ⟨_, List.getElem?_eq_getElem (by omega)⟩
  obtain ⟨q1, q2, q3⟩ := hat j _ hc
  have q4 := q3 (c ^^^ x)
  rw [ht] at r hcap q4
  exact ⟨cap, w2, c, hc, r, hcap, b, hlt, q1, q2, q4⟩
theorem checks_changed (k d : List UInt8) (n : Nat) (a : Ent) (j : Nat) (c x : UInt8) (hc : (greetH k d n a).tag[j]? = some c) : checksB k ⟨d, n, a, (greetH k d n a).tag.set j (c ^^^ x)⟩ = ((x.toNat : Int) == 0) :=
  set_same (macL k (greetT d n a)) j c x hc
theorem agrees_changed (k : List UInt8) (h : Hel) (s : Nat) (b : Ent) (j : Nat) (c x : UInt8) (hc : (answerW k h s b).tag[j]? = some c) : agreesB k ⟨h.nonce, s, b, (answerW k h s b).tag.set j (c ^^^ x)⟩ h.entry = ((x.toNat : Int) == 0) :=
  set_same (macL k (welcT h.nonce s h.entry b)) j c x hc
theorem greetH_parts (k d : List UInt8) (n : Nat) (a : Ent) : greetH k d n a = ⟨d, n, a, (greetH k d n a).tag⟩ := rfl
theorem answerW_parts (k : List UInt8) (h : Hel) (s : Nat) (b : Ent) : answerW k h s b = ⟨h.nonce, s, b, (answerW k h s b).tag⟩ := rfl
theorem rightW_is (k : List UInt8) (h : Hel) (s : Nat) (b : Ent) : rightW (answerW k h s b) = (decide (h.nonce ≠ 0) && decide (s ≠ 0) && entR b) := by
  have e : decide ((answerW k h s b).tag.length = 32) = true := decide_eq_true (answerW_tag_length _ _ _ _)
  rw [rightW, e, Bool.and_true]
  rfl
theorem takeW_nothing : takeWX [] = 13 := by rw [takeWX, if_pos (by decide)]

set_option maxRecDepth 100000 in
set_option maxHeartbeats 4000000 in
theorem helloBack_core (k d : List UInt8) (f s : Nat) (a b : Ent) (j : Nat) (c : UInt8) (jo : j < 256) (an : a.name.length ≤ 140737488355328) (tn : a.tag.length ≤ 140737488355328) (ao : a.id < 18446744073709551616) (bo : b.id < 18446744073709551616) (fo : f < 18446744073709551616) (so : s < 18446744073709551616) (w : World) (T : Tab w) :
    Calls Tryd.prog 6 #[.string ⟨k.toArray⟩, .string ⟨d.toArray⟩, .int .u64 (f : Int), .int .u64 (s : Int), a.val, b.val, .int .u8 (j : Int), .int .u8 (c.toNat : Int)] w fun e w' => e = .returned (.bool true) ∧ Below w.heap.size w w' := by
  have T0 := Lib.hid T
  have CW := fun w T => Lib.hid (works17 w T)
  obtain ⟨K, hK⟩ : ∃ K, K = k.take 300 := ⟨_, rfl⟩
  obtain ⟨D, hD⟩ : ∃ D, D = d.take 300 := ⟨_, rfl⟩
  have MK := Lib.hid (cut_at k)
  have MD := Lib.hid (cut_at d)
  have EK := Lib.hid (cut_is k)
  have ED := Lib.hid (cut_is d)
  have LK := Lib.hid (show (k.take 300).length ≤ k.length by rw [List.length_take]; omega)
  have LD := Lib.hid (show (d.take 300).length ≤ d.length by rw [List.length_take]; omega)
  rw [← hK] at MK EK LK
  rw [← hD] at MD ED LD
  have kl : K.length ≤ 300 := by rw [hK, List.length_take]; omega
  have dl : D.length ≤ 300 := by rw [hD, List.length_take]; omega
  have CG := fun w T => Lib.hid (heGreet_any K D f a w (by omega) dl an tn T)
  obtain ⟨R, hR⟩ : ∃ R, R = greetH K D f a := ⟨_, rfl⟩
  rw [← hR] at CG
  obtain ⟨ga, hga⟩ : ∃ q, q = greatB a := ⟨_, rfl⟩
  obtain ⟨gb, hgb⟩ : ∃ q, q = greatB b := ⟨_, rfl⟩
  have C1 := fun w => Lib.hid (great_any a w)
  have C2 := fun w => Lib.hid (great_any b w)
  simp only [← hga] at C1
  simp only [← hgb] at C2
  have HGR := Lib.hid (And.intro hga hgb)
  have HI := Lib.hid (And.intro ao (And.intro bo (And.intro fo (And.intro so jo))))
  have HR := Lib.hid hR
  have KL := Lib.hid (And.intro kl dl)
  clear hK hD hR an tn ao bo fo so jo kl dl T hga hgb
  go_enter Tryd.func6, Tryd.ntmps6
  go_wp2_with (refine wpList_box_row rfl 24 _ rfl a.enc.toArray (by with_unfolding_all exact rfl) ?_)
  intro w1 b1 x1 z1
  obtain ⟨gA, hgA⟩ : ∃ g, g = w.heap.size := ⟨_, rfl⟩
  have M_A := Lib.hid (show w.heap.size ≤ gA from by rw [hgA]; exact Nat.le_refl _)
  have B1 := Lib.hid b1
  rw [← hgA] at x1 ⊢
  have A1 : Hid (Ent.At w1 gA a) := Lib.hid x1
  clear b1 x1 z1 hgA 
  go_wp2_with (first | (with_reducible refine wpList_load_whole Ent.isRec rfl _ rfl gA (by with_unfolding_all exact rfl) _ _ (Ent.len _) A1.out ?_) | (refine wpList_box_row rfl 24 _ rfl b.enc.toArray (by with_unfolding_all exact rfl) ?_))
  intro w2 b2 x2 z2
  obtain ⟨gE, hgE⟩ : ∃ g, g = w1.heap.size := ⟨_, rfl⟩
  have N_A_E := Lib.hid (show gA < gE from by rw [hgE]; exact A1.out.lt)
  have M_E := Lib.hid (show w.heap.size ≤ gE from by rw [hgE]; exact B1.out.size)
  have A2 : Hid (Ent.At w2 gA a) := Lib.hid (Whole.below A1.out b2 A1.out.lt)
  have B2 := Lib.hid (B1.out.trans (b2.mono B1.out.size))
  rw [← hgE] at x2 ⊢
  have E2 : Hid (Ent.At w2 gE b) := Lib.hid x2
  clear b2 x2 z2 hgE A1 B1
  go_wp2_with (first | (with_reducible refine wpList_load_whole Ent.isRec rfl _ rfl gA (by with_unfolding_all exact rfl) _ _ (Ent.len _) A2.out ?_) | (with_reducible refine wpList_load_whole Ent.isRec rfl _ rfl gE (by with_unfolding_all exact rfl) _ _ (Ent.len _) E2.out ?_))
  refine ((CW w2 (T0.out.below B2.out T0.out.pos)).out).mono ?_
  rintro e3 w3 ⟨rfl, b3⟩
  have A3 : Hid (Ent.At w3 gA a) := Lib.hid (Whole.below A2.out b3 A2.out.lt)
  have E3 : Hid (Ent.At w3 gE b) := Lib.hid (Whole.below E2.out b3 E2.out.lt)
  have B3 := Lib.hid (B2.out.trans (b3.mono B2.out.size))
  clear b3 A2 E2 B2
  clear CW
  go_upto_region 3 with fail
  go_cut [17] (fun p wx => ∃ g, p = .pointer (some ⟨g, 0, none⟩) ∧ gE < g ∧ Hel.At wx g R ∧ Ent.At wx gA a ∧ Ent.At wx gE b ∧ Below w.heap.size w wx)
  case first =>
    go_wp2_with (first | (with_reducible refine wpList_load_whole Ent.isRec rfl _ rfl gA (by with_unfolding_all exact rfl) _ _ (Ent.len _) A3.out ?_) | (with_reducible refine wpList_load_whole Ent.isRec rfl _ rfl gE (by with_unfolding_all exact rfl) _ _ (Ent.len _) E3.out ?_))
    refine regS_begin (From w3) (by kernel_rfl) (Below.refl _ _).drew ?_
    have b4 : Below w3.heap.size w3 w3.drew := (Below.refl _ _).drew
    generalize w3.drew = w4 at b4 ⊢
    have A4 : Hid (Ent.At w4 gA a) := Lib.hid (Whole.below A3.out b4 A3.out.lt)
    have E4 : Hid (Ent.At w4 gE b) := Lib.hid (Whole.below E3.out b4 E3.out.lt)
    have B4 := Lib.hid (B3.out.trans (b4.mono B3.out.size))
    have HS4 : Hid (From w3 w4) := Lib.hid b4
    clear b4
    refine regS_take (i := 0) (v := ?_) rfl (by kernel_rfl) (by kernel_rfl) (by kernel_rfl) (fun _ _ _ h => h) (by rfl) HS4.out ?hy0 ?_
    case hy0 => intro w' hw'; go_simp; (try with_reducible rfl)
    simp only [Act.put, List.setIfInBounds_toArray, List.set_cons_zero, List.set_cons_succ]
    refine regS_take (i := 1) (v := ?_) rfl (by kernel_rfl) (by kernel_rfl) (by kernel_rfl) (fun _ _ _ h => h) (by rfl) HS4.out ?hy1 ?_
    case hy1 => intro w' hw'; go_simp; (try with_reducible rfl)
    simp only [Act.put, List.setIfInBounds_toArray, List.set_cons_zero, List.set_cons_succ]
    refine regS_take (i := 2) (v := ?_) rfl (by kernel_rfl) (by kernel_rfl) (by kernel_rfl) (fun _ _ _ h => h) (by rfl) HS4.out ?hy2 ?_
    case hy2 => intro w' hw'; go_simp; (try with_reducible rfl)
    simp only [Act.put, List.setIfInBounds_toArray, List.set_cons_zero, List.set_cons_succ]
    refine regS_take (i := 3) (v := .int .i64 (K.length : Int)) rfl (by kernel_rfl) (by kernel_rfl) (by kernel_rfl) (fun _ _ _ h => h) (by rfl) HS4.out ?hy3 ?_
    case hy3 => intro w' hw'; exact (by go_simp; first | done | rw [MK.out] | simp [MK.out])
    simp only [Act.put, List.setIfInBounds_toArray, List.set_cons_zero, List.set_cons_succ]
    refine regS_take (i := 4) (v := .string ⟨K.toArray⟩) rfl (by kernel_rfl) (by kernel_rfl) (by kernel_rfl) (fun _ _ _ h => h) (by rfl) HS4.out ?hy4 ?_
    case hy4 => intro w' hw'; exact (by have := LK.out; go_simp; first | done | simp [EK.out] | (rw [if_pos ⟨by omega, by omega⟩]; simp [EK.out]))
    simp only [Act.put, List.setIfInBounds_toArray, List.set_cons_zero, List.set_cons_succ]
    refine regS_take (i := 5) (v := ?_) rfl (by kernel_rfl) (by kernel_rfl) (by kernel_rfl) (fun _ _ _ h => h) (by rfl) HS4.out ?hy5 ?_
    case hy5 => intro w' hw'; go_simp; (try with_reducible rfl)
    simp only [Act.put, List.setIfInBounds_toArray, List.set_cons_zero, List.set_cons_succ]
    refine regS_take (i := 6) (v := ?_) rfl (by kernel_rfl) (by kernel_rfl) (by kernel_rfl) (fun _ _ _ h => h) (by rfl) HS4.out ?hy6 ?_
    case hy6 => intro w' hw'; go_simp; (try with_reducible rfl)
    simp only [Act.put, List.setIfInBounds_toArray, List.set_cons_zero, List.set_cons_succ]
    refine regS_take (i := 7) (v := ?_) rfl (by kernel_rfl) (by kernel_rfl) (by kernel_rfl) (fun _ _ _ h => h) (by rfl) HS4.out ?hy7 ?_
    case hy7 => intro w' hw'; go_simp; (try with_reducible rfl)
    simp only [Act.put, List.setIfInBounds_toArray, List.set_cons_zero, List.set_cons_succ]
    refine regS_take (i := 8) (v := .int .i64 (D.length : Int)) rfl (by kernel_rfl) (by kernel_rfl) (by kernel_rfl) (fun _ _ _ h => h) (by rfl) HS4.out ?hy8 ?_
    case hy8 => intro w' hw'; exact (by go_simp; first | done | rw [MD.out] | simp [MD.out])
    simp only [Act.put, List.setIfInBounds_toArray, List.set_cons_zero, List.set_cons_succ]
    refine regS_take (i := 9) (v := .string ⟨D.toArray⟩) rfl (by kernel_rfl) (by kernel_rfl) (by kernel_rfl) (fun _ _ _ h => h) (by rfl) HS4.out ?hy9 ?_
    case hy9 => intro w' hw'; exact (by have := LD.out; go_simp; first | done | simp [ED.out] | (rw [if_pos ⟨by omega, by omega⟩]; simp [ED.out]))
    simp only [Act.put, List.setIfInBounds_toArray, List.set_cons_zero, List.set_cons_succ]
    refine regS_take (i := 10) (v := ?_) rfl (by kernel_rfl) (by kernel_rfl) (by kernel_rfl) (fun _ _ _ h => h) (by rfl) HS4.out ?hy10 ?_
    case hy10 => intro w' hw'; go_simp; (try with_reducible rfl)
    simp only [Act.put, List.setIfInBounds_toArray, List.set_cons_zero, List.set_cons_succ]
    refine regS_take (i := 11) (v := Ent.val (a)) rfl (by kernel_rfl) (by kernel_rfl) (by kernel_rfl) (fun _ _ _ h => h) (by rfl) HS4.out ?hy11 ?_
    case hy11 => intro w' hw'; exact exec_load_whole Ent.isRec _ rfl gA rfl _ _ (Ent.len _) w' (Whole.below A3.out hw' A3.out.lt)
    simp only [Act.put, List.setIfInBounds_toArray, List.set_cons_zero, List.set_cons_succ]
    refine regS_two (i := 12) (j := 13) rfl rfl (by kernel_rfl) (fun K' hK => ?_) (fun K' hK => ?_)
    · go_simp
      refine ((CG w4 (T0.out.below B4.out T0.out.pos)).out).mono ?_
      rintro e5 w5 ⟨rfl, b5⟩
      have A5 : Hid (Ent.At w5 gA a) := Lib.hid (Whole.below A4.out b5 A4.out.lt)
      have E5 : Hid (Ent.At w5 gE b) := Lib.hid (Whole.below E4.out b5 E4.out.lt)
      have B5 := Lib.hid (B4.out.trans (b5.mono B4.out.size))
      have HS5 : Hid (From w3 w5) := Lib.hid (HS4.out.trans (b5.mono HS4.out.size))
      clear b5
      refine hK.out _ _ HS5.out ?_
      clear hK K' A4 E4 B4 HS4
      refine regS_do (i := 13) rfl (by kernel_rfl) (fun K' hK => ?_)
      refine (if_pos (by kernel_rfl)).mpr ?_
      refine wp_alloc_row 26 rfl Hel.zero.enc.toArray Hel.zero_is ?_
      intro w6 b6 x6 z6
      obtain ⟨gH, hgH⟩ : ∃ g, g = w5.heap.size := ⟨_, rfl⟩
      have N_A_H := Lib.hid (show gA < gH from by rw [hgH]; exact A5.out.lt)
      have N_E_H := Lib.hid (show gE < gH from by rw [hgH]; exact E5.out.lt)
      have M_H := Lib.hid (show w.heap.size ≤ gH from by rw [hgH]; exact B5.out.size)
      have L_H := Lib.hid (show w3.heap.size ≤ gH from by rw [hgH]; exact HS5.out.size)
      have A6 : Hid (Ent.At w6 gA a) := Lib.hid (Whole.below A5.out b6 A5.out.lt)
      have E6 : Hid (Ent.At w6 gE b) := Lib.hid (Whole.below E5.out b6 E5.out.lt)
      have B6 := Lib.hid (B5.out.trans (b6.mono B5.out.size))
      have HS6 : Hid (From w3 w6) := Lib.hid (HS5.out.trans (b6.mono HS5.out.size))
      clear b6
      rw [← hgH] at x6 ⊢
      have H6 : Hid (Hel.At w6 gH Hel.zero) := Lib.hid x6
      clear x6 z6 hgH
      refine hK.out _ _ HS6.out ?_
      clear hK K' A5 E5 B5 HS5
      refine regS_do (i := 14) rfl (by kernel_rfl) (fun K' hK => ?_)
      refine (if_pos (by kernel_rfl)).mpr ?_
      refine wp_store_whole 26 _ _ rfl gH R.enc.toArray (by with_unfolding_all exact rfl) (by with_unfolding_all exact rfl) _ _ H6.out (Hel.size _) rfl (Hel.one _) ?_
      intro w7 q7 x7 z7
      have H7 : Hid (Hel.At w7 gH R) := Lib.hid x7
      have A7 : Hid (Ent.At w7 gA a) := Lib.hid (grown_far A6.out q7 (by have := N_A_H.out; omega))
      have E7 : Hid (Ent.At w7 gE b) := Lib.hid (grown_far E6.out q7 (by have := N_E_H.out; omega))
      have B7 := Lib.hid (B6.out.grown q7 B6.out.size (fun k hk => by injection hk with hk; have := M_H.out; omega))
      have HS7 := Lib.hid (HS6.out.grown q7 HS6.out.size (fun k hk => by injection hk with hk; have := L_H.out; omega))
      clear q7 x7 z7
      refine hK.out _ _ HS7.out ?_
      clear hK K' H6 A6 E6 B6 HS6
      refine regS_end (by kernel_rfl) ?_
      clear HS7 A3 E3
      go_wp2_with fail
      go_meet
      case rel => exact ⟨_, rfl, N_E_H.out, H7.out, A7.out, E7.out, B7.out⟩
    · refine (if_pos (by kernel_rfl)).mpr ?_
      refine wp_alloc_row 26 rfl Hel.zero.enc.toArray Hel.zero_is ?_
      intro w5 b5 x5 z5
      obtain ⟨gH, hgH⟩ : ∃ g, g = w4.heap.size := ⟨_, rfl⟩
      have N_A_H := Lib.hid (show gA < gH from by rw [hgH]; exact A4.out.lt)
      have N_E_H := Lib.hid (show gE < gH from by rw [hgH]; exact E4.out.lt)
      have M_H := Lib.hid (show w.heap.size ≤ gH from by rw [hgH]; exact B4.out.size)
      have L_H := Lib.hid (show w3.heap.size ≤ gH from by rw [hgH]; exact HS4.out.size)
      have A5 : Hid (Ent.At w5 gA a) := Lib.hid (Whole.below A4.out b5 A4.out.lt)
      have E5 : Hid (Ent.At w5 gE b) := Lib.hid (Whole.below E4.out b5 E4.out.lt)
      have B5 := Lib.hid (B4.out.trans (b5.mono B4.out.size))
      have HS5 : Hid (From w3 w5) := Lib.hid (HS4.out.trans (b5.mono HS4.out.size))
      clear b5
      rw [← hgH] at x5 ⊢
      have H5 : Hid (Hel.At w5 gH Hel.zero) := Lib.hid x5
      clear x5 z5 hgH
      refine hK.out _ _ HS5.out ?_
      clear hK K' A4 E4 B4 HS4
      refine regS_do (i := 12) rfl (by kernel_rfl) (fun K' hK => ?_)
      go_simp
      refine ((CG w5 (T0.out.below B5.out T0.out.pos)).out).mono ?_
      rintro e6 w6 ⟨rfl, b6⟩
      have A6 : Hid (Ent.At w6 gA a) := Lib.hid (Whole.below A5.out b6 A5.out.lt)
      have E6 : Hid (Ent.At w6 gE b) := Lib.hid (Whole.below E5.out b6 E5.out.lt)
      have H6 : Hid (Hel.At w6 gH Hel.zero) := Lib.hid (Whole.below H5.out b6 H5.out.lt)
      have B6 := Lib.hid (B5.out.trans (b6.mono B5.out.size))
      have HS6 : Hid (From w3 w6) := Lib.hid (HS5.out.trans (b6.mono HS5.out.size))
      clear b6
      refine hK.out _ _ HS6.out ?_
      clear hK K' A5 E5 H5 B5 HS5
      refine regS_do (i := 14) rfl (by kernel_rfl) (fun K' hK => ?_)
      refine (if_pos (by kernel_rfl)).mpr ?_
      refine wp_store_whole 26 _ _ rfl gH R.enc.toArray (by with_unfolding_all exact rfl) (by with_unfolding_all exact rfl) _ _ H6.out (Hel.size _) rfl (Hel.one _) ?_
      intro w7 q7 x7 z7
      have H7 : Hid (Hel.At w7 gH R) := Lib.hid x7
      have A7 : Hid (Ent.At w7 gA a) := Lib.hid (grown_far A6.out q7 (by have := N_A_H.out; omega))
      have E7 : Hid (Ent.At w7 gE b) := Lib.hid (grown_far E6.out q7 (by have := N_E_H.out; omega))
      have B7 := Lib.hid (B6.out.grown q7 B6.out.size (fun k hk => by injection hk with hk; have := M_H.out; omega))
      have HS7 := Lib.hid (HS6.out.grown q7 HS6.out.size (fun k hk => by injection hk with hk; have := L_H.out; omega))
      clear q7 x7 z7
      refine hK.out _ _ HS7.out ?_
      clear hK K' H6 A6 E6 B6 HS6
      refine regS_end (by kernel_rfl) ?_
      clear HS7 A3 E3
      go_wp2_with fail
      go_meet
      case rel => exact ⟨_, rfl, N_E_H.out, H7.out, A7.out, E7.out, B7.out⟩
  case rest =>
    obtain ⟨gH, rfl, hE, h1, h2, h3, hb⟩ := hcut
    have N_A_H := Lib.hid (Nat.lt_trans N_A_E.out hE)
    have N_E_H := Lib.hid hE
    have M_H := Lib.hid (Nat.le_trans M_E.out (Nat.le_of_lt hE))
    obtain ⟨wr, hwr⟩ : ∃ wr, wr = wc := ⟨_, rfl⟩
    rw [← hwr] at h1 h2 h3 hb ⊢
    have H0 : Hid (Hel.At wr gH R) := Lib.hid h1
    have A0 : Hid (Ent.At wr gA a) := Lib.hid h2
    have E0 : Hid (Ent.At wr gE b) := Lib.hid h3
    have B0 := Lib.hid hb
    clear hE h1 h2 h3 hb CG hwr MD ED LD
    go_wp2_with (first | (with_reducible refine wpList_load_whole Ent.isRec rfl _ rfl gA (by with_unfolding_all exact rfl) _ _ (Ent.len _) A0.out ?_) | (with_reducible refine wpList_load_whole Ent.isRec rfl _ rfl gE (by with_unfolding_all exact rfl) _ _ (Ent.len _) E0.out ?_) | (with_reducible refine wpList_load_whole Hel.isRec rfl _ rfl gH (by with_unfolding_all exact rfl) _ _ (Hel.len _) H0.out ?_) | (with_reducible refine wpList_load_rec Ent.isRec rfl _ rfl gH 2 (by with_unfolding_all exact rfl) _ (Ent.len _) (Hel.At.part_entry H0.out) ?_))
    refine ((C1 wr).out).mono ?_
    rintro e8 w8 ⟨rfl, b8⟩
    have A8 : Hid (Ent.At w8 gA a) := Lib.hid (Whole.below A0.out b8 A0.out.lt)
    have E8 : Hid (Ent.At w8 gE b) := Lib.hid (Whole.below E0.out b8 E0.out.lt)
    have H8 : Hid (Hel.At w8 gH R) := Lib.hid (Whole.below H0.out b8 H0.out.lt)
    have B8 := Lib.hid (B0.out.trans (b8.mono B0.out.size))
    clear b8 A0 E0 H0 B0
    clear C1
    cases ga with
    | true =>
      go_wp2
      go_ret
      exact ⟨rfl, B8.out⟩
    | false =>
      go_wp2_with (first | (with_reducible refine wpList_load_whole Ent.isRec rfl _ rfl gA (by with_unfolding_all exact rfl) _ _ (Ent.len _) A8.out ?_) | (with_reducible refine wpList_load_whole Ent.isRec rfl _ rfl gE (by with_unfolding_all exact rfl) _ _ (Ent.len _) E8.out ?_) | (with_reducible refine wpList_load_whole Hel.isRec rfl _ rfl gH (by with_unfolding_all exact rfl) _ _ (Hel.len _) H8.out ?_) | (with_reducible refine wpList_load_rec Ent.isRec rfl _ rfl gH 2 (by with_unfolding_all exact rfl) _ (Ent.len _) (Hel.At.part_entry H8.out) ?_) | (with_reducible refine wpList_load_whole_w Ent.isRec (by kernel_rfl) _ rfl gE (by with_unfolding_all exact rfl) _ _ (Ent.len _) E8.out ?_))
      refine ((C2 w8).out).mono ?_
      rintro e9 w9 ⟨rfl, b9⟩
      have A9 : Hid (Ent.At w9 gA a) := Lib.hid (Whole.below A8.out b9 A8.out.lt)
      have E9 : Hid (Ent.At w9 gE b) := Lib.hid (Whole.below E8.out b9 E8.out.lt)
      have H9 : Hid (Hel.At w9 gH R) := Lib.hid (Whole.below H8.out b9 H8.out.lt)
      have B9 := Lib.hid (B8.out.trans (b9.mono B8.out.size))
      clear b9 A8 E8 H8 B8
      clear C2
      cases gb with
      | true =>
        go_wp2
        go_ret
        exact ⟨rfl, B9.out⟩
      | false =>
        go_upto_region 6 with fail
        go_cut [18] (fun p wx => p = .string ⟨K.toArray⟩ ∧ w9 = wx)
        case first =>
          by_cases hk : 300 < k.length
          · have d1 : decide ((300 : Int) < (k.length : Int)) = true := by simp; omega
            have kk : K.length = 300 := by have q := MK.out; rw [if_pos (by omega)] at q; omega
            have e1 := EK.out
            rw [kk] at e1
            clear kk
            go_wp2_with fail
            go_meet
            case rel => exact ⟨by first | rfl | simp [e1], rfl⟩
          · have d1 : decide ((300 : Int) < (k.length : Int)) = false := by simp; omega
            have kk : K.length = k.length := by have q := MK.out; rw [if_neg (by omega)] at q; omega
            have e1 := EK.out
            rw [kk] at e1
            clear kk
            go_wp2_with fail
            go_meet
            case rel => exact ⟨by first | rfl | simp [e1], rfl⟩
        case rest =>
          obtain ⟨rfl, rfl⟩ := hcut
          clear MK EK LK
          obtain ⟨na, ta⟩ := greatB_small HGR.out.1.symm
          obtain ⟨nb, tb⟩ := greatB_small HGR.out.2.symm
          obtain ⟨ao, bo, fo, so, jo⟩ := HI.out
          obtain ⟨kl, dl⟩ := KL.out
          have hR := HR.out
          have re : R.entry = a := by rw [hR]; rfl
          have rd : R.dest = D := by rw [hR]; rfl
          have rn : R.nonce = f := by rw [hR]; rfl
          have rt : R.tag.length = 32 := by rw [hR]; exact greetH_tag_length _ _ _ _
          obtain ⟨S, hS⟩ : ∃ S, S = answerW K R s b := ⟨_, rfl⟩
          have se : S.entry = b := by rw [hS]; rfl
          have sf : S.fst = f := by rw [hS, ← rn]; rfl
          have sn : S.snd = s := by rw [hS]; rfl
          have st : S.tag.length = 32 := by rw [hS]; exact answerW_tag_length _ _ _ _
          have CA := fun w T => heAnswer_any K R s b w (by omega) (by rw [re]; exact na) (by rw [re]; exact ta) nb tb T
          simp only [← hS] at CA
          replace CA := fun w T => Lib.hid (CA w T)
          have CC := fun w T => heChecks_any K R w (by omega) (by rw [rd]; exact dl) (by rw [re]; exact na) (by rw [re]; exact ta) (by omega) T
          have z1 : checksB K R = true := by rw [hR]; exact checks_greet _ _ _ _
          simp only [z1] at CC
          replace CC := fun w T => Lib.hid (CC w T)
          have CV := fun w T => heAgrees_any K S a w (by omega) (by rw [se]; exact nb) (by rw [se]; exact tb) na ta (by omega) T
          have z2 : agreesB K S a = true := by rw [hS, ← re]; exact agrees_answer _ _ _ _
          simp only [z2] at CV
          replace CV := fun w T => Lib.hid (CV w T)
          have CP := fun w => Lib.hid (hePutHello_any R w)
          have HQ : Hid (((if rightH R then (0 : Int) else 2) = 0 ∧ takeH (if rightH R then helloB R else []) = R ∧ takeHX (if rightH R then helloB R else []) = 0 ∧ kindB (if rightH R then helloB R else []) = 1) ∨ (if rightH R then (0 : Int) else 2) = 2) := Lib.hid (by
            cases hq : rightH R with
            | false => exact .inr rfl
            | true =>
              obtain ⟨q1, q2, q3⟩ := takeH_back R hq (by rw [rn]; exact fo) (by rw [re]; exact ao)
              exact .inl ⟨rfl, q2, q1, q3⟩)
          have CU := fun w => Lib.hid (hePutWelcome_any S w)
          have HW : Hid (((if rightW S then (0 : Int) else 2) = 0 ∧ takeW (if rightW S then welcB S else []) = S ∧ takeWX (if rightW S then welcB S else []) = 0 ∧ f ≠ 0 ∧ s ≠ 0 ∧ entR b = true) ∨ ((if rightW S then (0 : Int) else 2) = 2 ∧ ¬ (f ≠ 0 ∧ s ≠ 0 ∧ entR b = true))) := Lib.hid (by
            have hq := rightW_is K R s b
            rw [← hS, rn] at hq
            cases hr : rightW S with
            | false =>
              rw [hr] at hq
              refine .inr ⟨rfl, fun ⟨q1, q2, q3⟩ => ?_⟩
              rw [decide_eq_true q1, decide_eq_true q2, q3] at hq
              cases hq
            | true =>
              obtain ⟨q1, q2⟩ := takeW_back S hr (by rw [sf]; exact fo) (by rw [sn]; exact so) (by rw [se]; exact bo)
              obtain ⟨q3, q4, q5, -⟩ := rightW_parts hr
              rw [sf] at q3
              rw [sn] at q4
              rw [se] at q5
              exact .inl ⟨rfl, q2, q1, q3, q4, q5⟩)
          generalize (if rightH R then helloB R else []) = l at CP HQ
          generalize (if rightH R then (0 : Int) else 2) = c0 at CP HQ
          generalize (if rightW S then welcB S else []) = m at CU HW
          generalize (if rightW S then (0 : Int) else 2) = d0 at CU HW
          have CT := fun v w h => Lib.hid (heTakeHello_any v l w h)
          have CK := fun v w h => Lib.hid (heKindOf_any v l w h)
          have CX := fun v w h => Lib.hid (heTakeWelcome_any v m w h)
          generalize takeH l = l1 at CT HQ
          generalize takeHX l = l2 at CT HQ
          generalize kindB l = l3 at CK HQ
          generalize takeW m = m1 at CX HW
          generalize takeWX m = m2 at CX HW
          have CB := fun w => Lib.hid (right_any b w)
          generalize entR b = rb at CB HW
          have RT := Lib.hid rt
          have ST := Lib.hid st
          have HS := Lib.hid hS
          have RE := Lib.hid (And.intro re (And.intro rd (And.intro rn (And.intro se (And.intro sf sn)))))
          have NB := Lib.hid (And.intro na (And.intro ta (And.intro nb tb)))
          clear na ta nb tb ao bo fo so jo kl dl hR re rd rn rt hS se sf sn st z1 z2 HGR
          go_wp2_with (first | (with_reducible refine wpList_load_whole Ent.isRec rfl _ rfl gA (by with_unfolding_all exact rfl) _ _ (Ent.len _) A9.out ?_) | (with_reducible refine wpList_load_whole Ent.isRec rfl _ rfl gE (by with_unfolding_all exact rfl) _ _ (Ent.len _) E9.out ?_) | (with_reducible refine wpList_load_whole Hel.isRec rfl _ rfl gH (by with_unfolding_all exact rfl) _ _ (Hel.len _) H9.out ?_) | (with_reducible refine wpList_load_rec Ent.isRec rfl _ rfl gH 2 (by with_unfolding_all exact rfl) _ (Ent.len _) (Hel.At.part_entry H9.out) ?_))
          refine ((CA w9 (T0.out.below B9.out T0.out.pos)).out).mono ?_
          rintro e10 w10 ⟨rfl, b10⟩
          have A10 : Hid (Ent.At w10 gA a) := Lib.hid (Whole.below A9.out b10 A9.out.lt)
          have E10 : Hid (Ent.At w10 gE b) := Lib.hid (Whole.below E9.out b10 E9.out.lt)
          have H10 : Hid (Hel.At w10 gH R) := Lib.hid (Whole.below H9.out b10 H9.out.lt)
          have B10 := Lib.hid (B9.out.trans (b10.mono B9.out.size))
          clear b10 A9 E9 H9 B9
          go_wp2_with (first | (with_reducible refine wpList_load_whole Ent.isRec rfl _ rfl gA (by with_unfolding_all exact rfl) _ _ (Ent.len _) A10.out ?_) | (with_reducible refine wpList_load_whole Ent.isRec rfl _ rfl gE (by with_unfolding_all exact rfl) _ _ (Ent.len _) E10.out ?_) | (with_reducible refine wpList_load_whole Hel.isRec rfl _ rfl gH (by with_unfolding_all exact rfl) _ _ (Hel.len _) H10.out ?_) | (with_reducible refine wpList_load_rec Ent.isRec rfl _ rfl gH 2 (by with_unfolding_all exact rfl) _ (Ent.len _) (Hel.At.part_entry H10.out) ?_) | (refine wpList_alloc_row rfl 28 rfl Wel.zero.enc.toArray Wel.zero_is ?_))
          intro w11 b11 x11 z11
          obtain ⟨gV, hgV⟩ : ∃ g, g = w10.heap.size := ⟨_, rfl⟩
          have N_A_V := Lib.hid (show gA < gV from by rw [hgV]; exact A10.out.lt)
          have N_E_V := Lib.hid (show gE < gV from by rw [hgV]; exact E10.out.lt)
          have N_H_V := Lib.hid (show gH < gV from by rw [hgV]; exact H10.out.lt)
          have M_V := Lib.hid (show w.heap.size ≤ gV from by rw [hgV]; exact B10.out.size)
          have A11 : Hid (Ent.At w11 gA a) := Lib.hid (Whole.below A10.out b11 A10.out.lt)
          have E11 : Hid (Ent.At w11 gE b) := Lib.hid (Whole.below E10.out b11 E10.out.lt)
          have H11 : Hid (Hel.At w11 gH R) := Lib.hid (Whole.below H10.out b11 H10.out.lt)
          have B11 := Lib.hid (B10.out.trans (b11.mono B10.out.size))
          rw [← hgV] at x11 ⊢
          have V11 : Hid (Wel.At w11 gV Wel.zero) := Lib.hid x11
          clear b11 x11 z11 hgV A10 E10 H10 B10
          go_wp2_with (first | (with_reducible refine wpList_load_whole Ent.isRec rfl _ rfl gA (by with_unfolding_all exact rfl) _ _ (Ent.len _) A11.out ?_) | (with_reducible refine wpList_load_whole Ent.isRec rfl _ rfl gE (by with_unfolding_all exact rfl) _ _ (Ent.len _) E11.out ?_) | (with_reducible refine wpList_load_whole Hel.isRec rfl _ rfl gH (by with_unfolding_all exact rfl) _ _ (Hel.len _) H11.out ?_) | (with_reducible refine wpList_load_rec Ent.isRec rfl _ rfl gH 2 (by with_unfolding_all exact rfl) _ (Ent.len _) (Hel.At.part_entry H11.out) ?_) | (with_reducible refine wpList_load_whole Wel.isRec rfl _ rfl gV (by with_unfolding_all exact rfl) _ _ (Wel.len _) V11.out ?_) | (with_reducible refine wpList_load_rec Ent.isRec rfl _ rfl gV 2 (by with_unfolding_all exact rfl) _ (Ent.len _) (Wel.At.part_entry V11.out) ?_) | (with_reducible refine wpList_store_whole rfl 28 _ _ rfl gV S.enc.toArray (by with_unfolding_all exact rfl) (by with_unfolding_all exact rfl) _ _ V11.out (Wel.size _) rfl (Wel.one _) ?_))
          intro w12 q12 x12 z12
          have V12 : Hid (Wel.At w12 gV S) := Lib.hid x12
          have A12 : Hid (Ent.At w12 gA a) := Lib.hid (grown_far A11.out q12 (by have := N_A_V.out; omega))
          have E12 : Hid (Ent.At w12 gE b) := Lib.hid (grown_far E11.out q12 (by have := N_E_V.out; omega))
          have H12 : Hid (Hel.At w12 gH R) := Lib.hid (grown_far H11.out q12 (by have := N_H_V.out; omega))
          have B12 := Lib.hid (B11.out.grown q12 B11.out.size (fun k hk => by injection hk with hk; have := M_V.out; omega))
          clear q12 x12 z12 V11 A11 E11 H11 B11
          go_wp2_with (first | (with_reducible refine wpList_load_whole Ent.isRec rfl _ rfl gA (by with_unfolding_all exact rfl) _ _ (Ent.len _) A12.out ?_) | (with_reducible refine wpList_load_whole Ent.isRec rfl _ rfl gE (by with_unfolding_all exact rfl) _ _ (Ent.len _) E12.out ?_) | (with_reducible refine wpList_load_whole Hel.isRec rfl _ rfl gH (by with_unfolding_all exact rfl) _ _ (Hel.len _) H12.out ?_) | (with_reducible refine wpList_load_rec Ent.isRec rfl _ rfl gH 2 (by with_unfolding_all exact rfl) _ (Ent.len _) (Hel.At.part_entry H12.out) ?_) | (with_reducible refine wpList_load_whole Wel.isRec rfl _ rfl gV (by with_unfolding_all exact rfl) _ _ (Wel.len _) V12.out ?_) | (with_reducible refine wpList_load_rec Ent.isRec rfl _ rfl gV 2 (by with_unfolding_all exact rfl) _ (Ent.len _) (Wel.At.part_entry V12.out) ?_))
          refine ((CC w12 (T0.out.below B12.out T0.out.pos)).out).mono ?_
          rintro e13 w13 ⟨rfl, b13⟩
          have A13 : Hid (Ent.At w13 gA a) := Lib.hid (Whole.below A12.out b13 A12.out.lt)
          have E13 : Hid (Ent.At w13 gE b) := Lib.hid (Whole.below E12.out b13 E12.out.lt)
          have H13 : Hid (Hel.At w13 gH R) := Lib.hid (Whole.below H12.out b13 H12.out.lt)
          have V13 : Hid (Wel.At w13 gV S) := Lib.hid (Whole.below V12.out b13 V12.out.lt)
          have B13 := Lib.hid (B12.out.trans (b13.mono B12.out.size))
          clear b13 A12 E12 H12 V12 B12
          go_wp2_with (first | (with_reducible refine wpList_load_whole Ent.isRec rfl _ rfl gA (by with_unfolding_all exact rfl) _ _ (Ent.len _) A13.out ?_) | (with_reducible refine wpList_load_whole Ent.isRec rfl _ rfl gE (by with_unfolding_all exact rfl) _ _ (Ent.len _) E13.out ?_) | (with_reducible refine wpList_load_whole Hel.isRec rfl _ rfl gH (by with_unfolding_all exact rfl) _ _ (Hel.len _) H13.out ?_) | (with_reducible refine wpList_load_rec Ent.isRec rfl _ rfl gH 2 (by with_unfolding_all exact rfl) _ (Ent.len _) (Hel.At.part_entry H13.out) ?_) | (with_reducible refine wpList_load_whole Wel.isRec rfl _ rfl gV (by with_unfolding_all exact rfl) _ _ (Wel.len _) V13.out ?_) | (with_reducible refine wpList_load_rec Ent.isRec rfl _ rfl gV 2 (by with_unfolding_all exact rfl) _ (Ent.len _) (Wel.At.part_entry V13.out) ?_) | (first | (with_reducible refine wpList_load_whole_w Wel.isRec (by kernel_rfl) _ rfl gV (by with_unfolding_all exact rfl) _ _ (Wel.len _) V13.out ?_) | (with_reducible refine wpList_load_whole_w Ent.isRec (by kernel_rfl) _ rfl gA (by with_unfolding_all exact rfl) _ _ (Ent.len _) A13.out ?_)))
          refine ((CV w13 (T0.out.below B13.out T0.out.pos)).out).mono ?_
          rintro e14 w14 ⟨rfl, b14⟩
          have A14 : Hid (Ent.At w14 gA a) := Lib.hid (Whole.below A13.out b14 A13.out.lt)
          have E14 : Hid (Ent.At w14 gE b) := Lib.hid (Whole.below E13.out b14 E13.out.lt)
          have H14 : Hid (Hel.At w14 gH R) := Lib.hid (Whole.below H13.out b14 H13.out.lt)
          have V14 : Hid (Wel.At w14 gV S) := Lib.hid (Whole.below V13.out b14 V13.out.lt)
          have B14 := Lib.hid (B13.out.trans (b14.mono B13.out.size))
          clear b14 A13 E13 H13 V13 B13
          have ct1 := Hel.At.at_tag H14.out
          have ct2 := Wel.At.at_tag V14.out
          have dr1 : ((R.tag.length : Int) != 32) = false := by rw [RT.out]; rfl
          have dr2 : (R.tag.length != 32) = false := by rw [RT.out]; rfl
          have ds1 : ((S.tag.length : Int) != 32) = false := by rw [ST.out]; rfl
          have ds2 : (S.tag.length != 32) = false := by rw [ST.out]; rfl
          go_wp2_with (first | (with_reducible refine wpList_load_whole Ent.isRec rfl _ rfl gA (by with_unfolding_all exact rfl) _ _ (Ent.len _) A14.out ?_) | (with_reducible refine wpList_load_whole Ent.isRec rfl _ rfl gE (by with_unfolding_all exact rfl) _ _ (Ent.len _) E14.out ?_) | (with_reducible refine wpList_load_whole Hel.isRec rfl _ rfl gH (by with_unfolding_all exact rfl) _ _ (Hel.len _) H14.out ?_) | (with_reducible refine wpList_load_rec Ent.isRec rfl _ rfl gH 2 (by with_unfolding_all exact rfl) _ (Ent.len _) (Hel.At.part_entry H14.out) ?_) | (with_reducible refine wpList_load_whole Wel.isRec rfl _ rfl gV (by with_unfolding_all exact rfl) _ _ (Wel.len _) V14.out ?_) | (with_reducible refine wpList_load_rec Ent.isRec rfl _ rfl gV 2 (by with_unfolding_all exact rfl) _ (Ent.len _) (Wel.At.part_entry V14.out) ?_))
          refine ((CP w14).out).mono ?_
          rintro e15 w15 ⟨v10, rfl, y10, b15⟩
          have A15 : Hid (Ent.At w15 gA a) := Lib.hid (Whole.below A14.out b15 A14.out.lt)
          have E15 : Hid (Ent.At w15 gE b) := Lib.hid (Whole.below E14.out b15 E14.out.lt)
          have H15 : Hid (Hel.At w15 gH R) := Lib.hid (Whole.below H14.out b15 H14.out.lt)
          have V15 : Hid (Wel.At w15 gV S) := Lib.hid (Whole.below V14.out b15 V14.out.lt)
          have B15 := Lib.hid (B14.out.trans (b15.mono B14.out.size))
          have P15 : Hid (BytesAt w15 v10 l) := Lib.hid y10
          clear b15 A14 E14 H14 V14 B14 y10
          clear ct1 ct2 dr1 dr2 ds1 ds2 CP CA CC CV
          go_upto_if 89 with fail
          go_cut [] (fun wx => Ent.At wx gA a ∧ Ent.At wx gE b ∧ Hel.At wx gH R ∧ Wel.At wx gV S ∧ Below w.heap.size w wx)
          case first =>
            rcases HQ.out with ⟨h0, h1, h2, h3⟩ | h0
            · have h1 := h1.symm
              subst h0 h1 h2 h3
              have P0 := P15
              have D15 : Hid (Since w15 w15) := Lib.hid (⟨Below.refl _ _⟩)
              go_wp2_with (first | (with_reducible refine wpList_load_whole Ent.isRec rfl _ rfl gA (by with_unfolding_all exact rfl) _ _ (Ent.len _) A15.out ?_) | (with_reducible refine wpList_load_whole Ent.isRec rfl _ rfl gE (by with_unfolding_all exact rfl) _ _ (Ent.len _) E15.out ?_) | (with_reducible refine wpList_load_whole Hel.isRec rfl _ rfl gH (by with_unfolding_all exact rfl) _ _ (Hel.len _) H15.out ?_) | (with_reducible refine wpList_load_rec Ent.isRec rfl _ rfl gH 2 (by with_unfolding_all exact rfl) _ (Ent.len _) (Hel.At.part_entry H15.out) ?_) | (with_reducible refine wpList_load_whole Wel.isRec rfl _ rfl gV (by with_unfolding_all exact rfl) _ _ (Wel.len _) V15.out ?_) | (with_reducible refine wpList_load_rec Ent.isRec rfl _ rfl gV 2 (by with_unfolding_all exact rfl) _ (Ent.len _) (Wel.At.part_entry V15.out) ?_))
              refine ((CT v10 w15 P15.out).out).mono ?_
              rintro e16 w16 ⟨rfl, b16⟩
              have A16 : Hid (Ent.At w16 gA a) := Lib.hid (Whole.below A15.out b16 A15.out.lt)
              have E16 : Hid (Ent.At w16 gE b) := Lib.hid (Whole.below E15.out b16 E15.out.lt)
              have H16 : Hid (Hel.At w16 gH R) := Lib.hid (Whole.below H15.out b16 H15.out.lt)
              have V16 : Hid (Wel.At w16 gV S) := Lib.hid (Whole.below V15.out b16 V15.out.lt)
              have P16 : Hid (BytesAt w16 v10 l) := Lib.hid (P15.out.below b16)
              have D16 : Hid (Since w15 w16) := Lib.hid (D15.out.below b16)
              have B16 := Lib.hid (B15.out.trans (b16.mono B15.out.size))
              clear b16 A15 E15 H15 V15 P15 D15 B15
              clear P16
              go_wp2_with (first | (with_reducible refine wpList_load_whole Ent.isRec rfl _ rfl gA (by with_unfolding_all exact rfl) _ _ (Ent.len _) A16.out ?_) | (with_reducible refine wpList_load_whole Ent.isRec rfl _ rfl gE (by with_unfolding_all exact rfl) _ _ (Ent.len _) E16.out ?_) | (with_reducible refine wpList_load_whole Hel.isRec rfl _ rfl gH (by with_unfolding_all exact rfl) _ _ (Hel.len _) H16.out ?_) | (with_reducible refine wpList_load_rec Ent.isRec rfl _ rfl gH 2 (by with_unfolding_all exact rfl) _ (Ent.len _) (Hel.At.part_entry H16.out) ?_) | (with_reducible refine wpList_load_whole Wel.isRec rfl _ rfl gV (by with_unfolding_all exact rfl) _ _ (Wel.len _) V16.out ?_) | (with_reducible refine wpList_load_rec Ent.isRec rfl _ rfl gV 2 (by with_unfolding_all exact rfl) _ (Ent.len _) (Wel.At.part_entry V16.out) ?_) | (refine wpList_alloc_row rfl 26 rfl Hel.zero.enc.toArray Hel.zero_is ?_))
              intro w17 b17 x17 z17
              obtain ⟨gQ, hgQ⟩ : ∃ g, g = w16.heap.size := ⟨_, rfl⟩
              have N_A_Q := Lib.hid (show gA < gQ from by rw [hgQ]; exact A16.out.lt)
              have N_E_Q := Lib.hid (show gE < gQ from by rw [hgQ]; exact E16.out.lt)
              have N_H_Q := Lib.hid (show gH < gQ from by rw [hgQ]; exact H16.out.lt)
              have N_V_Q := Lib.hid (show gV < gQ from by rw [hgQ]; exact V16.out.lt)
              have L_D_Q := Lib.hid (show w15.heap.size ≤ gQ from by rw [hgQ]; exact D16.out.b.size)
              have M_Q := Lib.hid (show w.heap.size ≤ gQ from by rw [hgQ]; exact B16.out.size)
              have A17 : Hid (Ent.At w17 gA a) := Lib.hid (Whole.below A16.out b17 A16.out.lt)
              have E17 : Hid (Ent.At w17 gE b) := Lib.hid (Whole.below E16.out b17 E16.out.lt)
              have H17 : Hid (Hel.At w17 gH R) := Lib.hid (Whole.below H16.out b17 H16.out.lt)
              have V17 : Hid (Wel.At w17 gV S) := Lib.hid (Whole.below V16.out b17 V16.out.lt)
              have D17 : Hid (Since w15 w17) := Lib.hid (D16.out.below b17)
              have B17 := Lib.hid (B16.out.trans (b17.mono B16.out.size))
              rw [← hgQ] at x17 ⊢
              have Q17 : Hid (Hel.At w17 gQ Hel.zero) := Lib.hid x17
              clear b17 x17 z17 hgQ A16 E16 H16 V16 D16 B16
              go_wp2_with (first | (with_reducible refine wpList_load_whole Ent.isRec rfl _ rfl gA (by with_unfolding_all exact rfl) _ _ (Ent.len _) A17.out ?_) | (with_reducible refine wpList_load_whole Ent.isRec rfl _ rfl gE (by with_unfolding_all exact rfl) _ _ (Ent.len _) E17.out ?_) | (with_reducible refine wpList_load_whole Hel.isRec rfl _ rfl gH (by with_unfolding_all exact rfl) _ _ (Hel.len _) H17.out ?_) | (with_reducible refine wpList_load_rec Ent.isRec rfl _ rfl gH 2 (by with_unfolding_all exact rfl) _ (Ent.len _) (Hel.At.part_entry H17.out) ?_) | (with_reducible refine wpList_load_whole Wel.isRec rfl _ rfl gV (by with_unfolding_all exact rfl) _ _ (Wel.len _) V17.out ?_) | (with_reducible refine wpList_load_rec Ent.isRec rfl _ rfl gV 2 (by with_unfolding_all exact rfl) _ (Ent.len _) (Wel.At.part_entry V17.out) ?_) | (with_reducible refine wpList_load_whole Hel.isRec rfl _ rfl gQ (by with_unfolding_all exact rfl) _ _ (Hel.len _) Q17.out ?_) | (with_reducible refine wpList_load_rec Ent.isRec rfl _ rfl gQ 2 (by with_unfolding_all exact rfl) _ (Ent.len _) (Hel.At.part_entry Q17.out) ?_) | (with_reducible refine wpList_store_whole rfl 26 _ _ rfl gQ R.enc.toArray (by with_unfolding_all exact rfl) (by with_unfolding_all exact rfl) _ _ Q17.out (Hel.size _) rfl (Hel.one _) ?_))
              intro w18 q18 x18 z18
              have Q18 : Hid (Hel.At w18 gQ R) := Lib.hid x18
              have A18 : Hid (Ent.At w18 gA a) := Lib.hid (grown_far A17.out q18 (by have := N_A_Q.out; omega))
              have E18 : Hid (Ent.At w18 gE b) := Lib.hid (grown_far E17.out q18 (by have := N_E_Q.out; omega))
              have H18 : Hid (Hel.At w18 gH R) := Lib.hid (grown_far H17.out q18 (by have := N_H_Q.out; omega))
              have V18 : Hid (Wel.At w18 gV S) := Lib.hid (grown_far V17.out q18 (by have := N_V_Q.out; omega))
              have D18 : Hid (Since w15 w18) := Lib.hid (D17.out.far q18 L_D_Q.out)
              have B18 := Lib.hid (B17.out.grown q18 B17.out.size (fun k hk => by injection hk with hk; have := M_Q.out; omega))
              clear q18 x18 z18 Q17 A17 E17 H17 V17 D17 B17
              go_wp2_with (first | (with_reducible refine wpList_load_whole Ent.isRec rfl _ rfl gA (by with_unfolding_all exact rfl) _ _ (Ent.len _) A18.out ?_) | (with_reducible refine wpList_load_whole Ent.isRec rfl _ rfl gE (by with_unfolding_all exact rfl) _ _ (Ent.len _) E18.out ?_) | (with_reducible refine wpList_load_whole Hel.isRec rfl _ rfl gH (by with_unfolding_all exact rfl) _ _ (Hel.len _) H18.out ?_) | (with_reducible refine wpList_load_rec Ent.isRec rfl _ rfl gH 2 (by with_unfolding_all exact rfl) _ (Ent.len _) (Hel.At.part_entry H18.out) ?_) | (with_reducible refine wpList_load_whole Wel.isRec rfl _ rfl gV (by with_unfolding_all exact rfl) _ _ (Wel.len _) V18.out ?_) | (with_reducible refine wpList_load_rec Ent.isRec rfl _ rfl gV 2 (by with_unfolding_all exact rfl) _ (Ent.len _) (Wel.At.part_entry V18.out) ?_) | (with_reducible refine wpList_load_whole Hel.isRec rfl _ rfl gQ (by with_unfolding_all exact rfl) _ _ (Hel.len _) Q18.out ?_) | (with_reducible refine wpList_load_rec Ent.isRec rfl _ rfl gQ 2 (by with_unfolding_all exact rfl) _ (Ent.len _) (Hel.At.part_entry Q18.out) ?_) | (first | (with_reducible refine wpList_load_whole_w Hel.isRec (by kernel_rfl) _ rfl gQ (by with_unfolding_all exact rfl) _ _ (Hel.len _) Q18.out ?_) | (with_reducible refine wpList_load_whole_w Hel.isRec (by kernel_rfl) _ rfl gH (by with_unfolding_all exact rfl) _ _ (Hel.len _) H18.out ?_) | (with_reducible refine wpList_neq_rec_w Hel.isRec (by kernel_rfl) _ _ rfl (Hel.enc R) (Hel.enc R) (Hel.fits _) (Hel.fits _) (by with_unfolding_all exact rfl) (by with_unfolding_all exact rfl) false (not_same (Hel.fits _)) ?_)))
              refine ((CK v10 w18 (P0.out.below D18.out.b)).out).mono ?_
              rintro e19 w19 ⟨rfl, b19⟩
              have A19 : Hid (Ent.At w19 gA a) := Lib.hid (Whole.below A18.out b19 A18.out.lt)
              have E19 : Hid (Ent.At w19 gE b) := Lib.hid (Whole.below E18.out b19 E18.out.lt)
              have H19 : Hid (Hel.At w19 gH R) := Lib.hid (Whole.below H18.out b19 H18.out.lt)
              have V19 : Hid (Wel.At w19 gV S) := Lib.hid (Whole.below V18.out b19 V18.out.lt)
              have D19 : Hid (Since w15 w19) := Lib.hid (D18.out.below b19)
              have Q19 : Hid (Hel.At w19 gQ R) := Lib.hid (Whole.below Q18.out b19 Q18.out.lt)
              have B19 := Lib.hid (B18.out.trans (b19.mono B18.out.size))
              clear b19 A18 E18 H18 V18 D18 Q18 B18
              go_wp2_with fail
              go_meet
              case rel => exact ⟨A19.out, E19.out, H19.out, V19.out, B19.out⟩
            · subst h0
              go_wp2_with fail
              go_meet
              case rel => exact ⟨A15.out, E15.out, H15.out, V15.out, B15.out⟩
          case rest =>
            obtain ⟨h1, h2, h3, h4, hb⟩ := hcut
            obtain ⟨ws, hws⟩ : ∃ ws, ws = wc := ⟨_, rfl⟩
            rw [← hws] at h1 h2 h3 h4 hb ⊢
            have As : Hid (Ent.At ws gA a) := Lib.hid h1
            have Es : Hid (Ent.At ws gE b) := Lib.hid h2
            have Hs : Hid (Hel.At ws gH R) := Lib.hid h3
            have Vs : Hid (Wel.At ws gV S) := Lib.hid h4
            have Bs := Lib.hid hb
            clear h1 h2 h3 h4 hb hws CT CK HQ
            go_wp2_with (first | (with_reducible refine wpList_load_whole Ent.isRec rfl _ rfl gA (by with_unfolding_all exact rfl) _ _ (Ent.len _) As.out ?_) | (with_reducible refine wpList_load_whole Ent.isRec rfl _ rfl gE (by with_unfolding_all exact rfl) _ _ (Ent.len _) Es.out ?_) | (with_reducible refine wpList_load_whole Hel.isRec rfl _ rfl gH (by with_unfolding_all exact rfl) _ _ (Hel.len _) Hs.out ?_) | (with_reducible refine wpList_load_rec Ent.isRec rfl _ rfl gH 2 (by with_unfolding_all exact rfl) _ (Ent.len _) (Hel.At.part_entry Hs.out) ?_) | (with_reducible refine wpList_load_whole Wel.isRec rfl _ rfl gV (by with_unfolding_all exact rfl) _ _ (Wel.len _) Vs.out ?_) | (with_reducible refine wpList_load_rec Ent.isRec rfl _ rfl gV 2 (by with_unfolding_all exact rfl) _ (Ent.len _) (Wel.At.part_entry Vs.out) ?_))
            refine ((CU ws).out).mono ?_
            rintro e16 w16 ⟨v15, rfl, y15, b16⟩
            have A16 : Hid (Ent.At w16 gA a) := Lib.hid (Whole.below As.out b16 As.out.lt)
            have E16 : Hid (Ent.At w16 gE b) := Lib.hid (Whole.below Es.out b16 Es.out.lt)
            have H16 : Hid (Hel.At w16 gH R) := Lib.hid (Whole.below Hs.out b16 Hs.out.lt)
            have V16 : Hid (Wel.At w16 gV S) := Lib.hid (Whole.below Vs.out b16 Vs.out.lt)
            have B16 := Lib.hid (Bs.out.trans (b16.mono Bs.out.size))
            have P16 : Hid (BytesAt w16 v15 m) := Lib.hid y15
            clear b16 As Es Hs Vs Bs y15
            go_wp2_with (first | (with_reducible refine wpList_load_whole Ent.isRec rfl _ rfl gA (by with_unfolding_all exact rfl) _ _ (Ent.len _) A16.out ?_) | (with_reducible refine wpList_load_whole Ent.isRec rfl _ rfl gE (by with_unfolding_all exact rfl) _ _ (Ent.len _) E16.out ?_) | (with_reducible refine wpList_load_whole Hel.isRec rfl _ rfl gH (by with_unfolding_all exact rfl) _ _ (Hel.len _) H16.out ?_) | (with_reducible refine wpList_load_rec Ent.isRec rfl _ rfl gH 2 (by with_unfolding_all exact rfl) _ (Ent.len _) (Hel.At.part_entry H16.out) ?_) | (with_reducible refine wpList_load_whole Wel.isRec rfl _ rfl gV (by with_unfolding_all exact rfl) _ _ (Wel.len _) V16.out ?_) | (with_reducible refine wpList_load_rec Ent.isRec rfl _ rfl gV 2 (by with_unfolding_all exact rfl) _ (Ent.len _) (Wel.At.part_entry V16.out) ?_))
            refine ((CX v15 w16 P16.out).out).mono ?_
            rintro e17 w17 ⟨rfl, b17⟩
            have A17 : Hid (Ent.At w17 gA a) := Lib.hid (Whole.below A16.out b17 A16.out.lt)
            have E17 : Hid (Ent.At w17 gE b) := Lib.hid (Whole.below E16.out b17 E16.out.lt)
            have H17 : Hid (Hel.At w17 gH R) := Lib.hid (Whole.below H16.out b17 H16.out.lt)
            have V17 : Hid (Wel.At w17 gV S) := Lib.hid (Whole.below V16.out b17 V16.out.lt)
            have P17 : Hid (BytesAt w17 v15 m) := Lib.hid (P16.out.below b17)
            have B17 := Lib.hid (B16.out.trans (b17.mono B16.out.size))
            clear b17 A16 E16 H16 V16 P16 B16
            clear P17
            clear CU CX
            go_wp2_with (first | (with_reducible refine wpList_load_whole Ent.isRec rfl _ rfl gA (by with_unfolding_all exact rfl) _ _ (Ent.len _) A17.out ?_) | (with_reducible refine wpList_load_whole Ent.isRec rfl _ rfl gE (by with_unfolding_all exact rfl) _ _ (Ent.len _) E17.out ?_) | (with_reducible refine wpList_load_whole Hel.isRec rfl _ rfl gH (by with_unfolding_all exact rfl) _ _ (Hel.len _) H17.out ?_) | (with_reducible refine wpList_load_rec Ent.isRec rfl _ rfl gH 2 (by with_unfolding_all exact rfl) _ (Ent.len _) (Hel.At.part_entry H17.out) ?_) | (with_reducible refine wpList_load_whole Wel.isRec rfl _ rfl gV (by with_unfolding_all exact rfl) _ _ (Wel.len _) V17.out ?_) | (with_reducible refine wpList_load_rec Ent.isRec rfl _ rfl gV 2 (by with_unfolding_all exact rfl) _ (Ent.len _) (Wel.At.part_entry V17.out) ?_) | (refine wpList_alloc_row rfl 28 rfl Wel.zero.enc.toArray Wel.zero_is ?_))
            intro w18 b18 x18 z18
            obtain ⟨gZ, hgZ⟩ : ∃ g, g = w17.heap.size := ⟨_, rfl⟩
            have N_A_Z := Lib.hid (show gA < gZ from by rw [hgZ]; exact A17.out.lt)
            have N_E_Z := Lib.hid (show gE < gZ from by rw [hgZ]; exact E17.out.lt)
            have N_H_Z := Lib.hid (show gH < gZ from by rw [hgZ]; exact H17.out.lt)
            have N_V_Z := Lib.hid (show gV < gZ from by rw [hgZ]; exact V17.out.lt)
            have M_Z := Lib.hid (show w.heap.size ≤ gZ from by rw [hgZ]; exact B17.out.size)
            have A18 : Hid (Ent.At w18 gA a) := Lib.hid (Whole.below A17.out b18 A17.out.lt)
            have E18 : Hid (Ent.At w18 gE b) := Lib.hid (Whole.below E17.out b18 E17.out.lt)
            have H18 : Hid (Hel.At w18 gH R) := Lib.hid (Whole.below H17.out b18 H17.out.lt)
            have V18 : Hid (Wel.At w18 gV S) := Lib.hid (Whole.below V17.out b18 V17.out.lt)
            have B18 := Lib.hid (B17.out.trans (b18.mono B17.out.size))
            rw [← hgZ] at x18 ⊢
            have Z18 : Hid (Wel.At w18 gZ Wel.zero) := Lib.hid x18
            clear b18 x18 z18 hgZ A17 E17 H17 V17 B17
            go_wp2_with (first | (with_reducible refine wpList_load_whole Ent.isRec rfl _ rfl gA (by with_unfolding_all exact rfl) _ _ (Ent.len _) A18.out ?_) | (with_reducible refine wpList_load_whole Ent.isRec rfl _ rfl gE (by with_unfolding_all exact rfl) _ _ (Ent.len _) E18.out ?_) | (with_reducible refine wpList_load_whole Hel.isRec rfl _ rfl gH (by with_unfolding_all exact rfl) _ _ (Hel.len _) H18.out ?_) | (with_reducible refine wpList_load_rec Ent.isRec rfl _ rfl gH 2 (by with_unfolding_all exact rfl) _ (Ent.len _) (Hel.At.part_entry H18.out) ?_) | (with_reducible refine wpList_load_whole Wel.isRec rfl _ rfl gV (by with_unfolding_all exact rfl) _ _ (Wel.len _) V18.out ?_) | (with_reducible refine wpList_load_rec Ent.isRec rfl _ rfl gV 2 (by with_unfolding_all exact rfl) _ (Ent.len _) (Wel.At.part_entry V18.out) ?_) | (with_reducible refine wpList_load_whole Wel.isRec rfl _ rfl gZ (by with_unfolding_all exact rfl) _ _ (Wel.len _) Z18.out ?_) | (with_reducible refine wpList_load_rec Ent.isRec rfl _ rfl gZ 2 (by with_unfolding_all exact rfl) _ (Ent.len _) (Wel.At.part_entry Z18.out) ?_) | (with_reducible refine wpList_store_whole rfl 28 _ _ rfl gZ m1.enc.toArray (by with_unfolding_all exact rfl) (by with_unfolding_all exact rfl) _ _ Z18.out (Wel.size _) rfl (Wel.one _) ?_))
            intro w19 q19 x19 z19
            have Z19 : Hid (Wel.At w19 gZ m1) := Lib.hid x19
            have A19 : Hid (Ent.At w19 gA a) := Lib.hid (grown_far A18.out q19 (by have := N_A_Z.out; omega))
            have E19 : Hid (Ent.At w19 gE b) := Lib.hid (grown_far E18.out q19 (by have := N_E_Z.out; omega))
            have H19 : Hid (Hel.At w19 gH R) := Lib.hid (grown_far H18.out q19 (by have := N_H_Z.out; omega))
            have V19 : Hid (Wel.At w19 gV S) := Lib.hid (grown_far V18.out q19 (by have := N_V_Z.out; omega))
            have B19 := Lib.hid (B18.out.grown q19 B18.out.size (fun k hk => by injection hk with hk; have := M_Z.out; omega))
            clear q19 x19 z19 Z18 A18 E18 H18 V18 B18
            go_upto_region 17 with fail
            go_cut [142] (fun p wx => p = .bool false ∧ Ent.At wx gA a ∧ Ent.At wx gE b ∧ Hel.At wx gH R ∧ Wel.At wx gV S ∧ Below w.heap.size w wx)
            case first =>
              rcases HW.out with ⟨h0, h1, h2, hf, hs, hb⟩ | ⟨h0, hn⟩
              · have f1 : ((f : Int) != 0) = true := by rw [bne_iff_ne]; omega
                have f2 : (f != 0) = true := by simpa using hf
                have s1 : ((s : Int) != 0) = true := by rw [bne_iff_ne]; omega
                have s2 : (s != 0) = true := by simpa using hs
                have f3 : (!decide (f = 0)) = true := by simpa using hf
                have s3 : (!decide (s = 0)) = true := by simpa using hs
                have h1 := h1.symm
                subst h0 h1 h2 hb
                go_wp2_with (first | (with_reducible refine wpList_load_whole Ent.isRec rfl _ rfl gA (by with_unfolding_all exact rfl) _ _ (Ent.len _) A19.out ?_) | (with_reducible refine wpList_load_whole Ent.isRec rfl _ rfl gE (by with_unfolding_all exact rfl) _ _ (Ent.len _) E19.out ?_) | (with_reducible refine wpList_load_whole Hel.isRec rfl _ rfl gH (by with_unfolding_all exact rfl) _ _ (Hel.len _) H19.out ?_) | (with_reducible refine wpList_load_rec Ent.isRec rfl _ rfl gH 2 (by with_unfolding_all exact rfl) _ (Ent.len _) (Hel.At.part_entry H19.out) ?_) | (with_reducible refine wpList_load_whole Wel.isRec rfl _ rfl gV (by with_unfolding_all exact rfl) _ _ (Wel.len _) V19.out ?_) | (with_reducible refine wpList_load_rec Ent.isRec rfl _ rfl gV 2 (by with_unfolding_all exact rfl) _ (Ent.len _) (Wel.At.part_entry V19.out) ?_) | (with_reducible refine wpList_load_whole Wel.isRec rfl _ rfl gZ (by with_unfolding_all exact rfl) _ _ (Wel.len _) Z19.out ?_) | (with_reducible refine wpList_load_rec Ent.isRec rfl _ rfl gZ 2 (by with_unfolding_all exact rfl) _ (Ent.len _) (Wel.At.part_entry Z19.out) ?_) | (with_reducible refine wpList_load_whole_w Ent.isRec (by kernel_rfl) _ rfl gE (by with_unfolding_all exact rfl) _ _ (Ent.len _) E19.out ?_))
                refine ((CB w19).out).mono ?_
                rintro e20 w20 ⟨rfl, b20⟩
                have A20 : Hid (Ent.At w20 gA a) := Lib.hid (Whole.below A19.out b20 A19.out.lt)
                have E20 : Hid (Ent.At w20 gE b) := Lib.hid (Whole.below E19.out b20 E19.out.lt)
                have H20 : Hid (Hel.At w20 gH R) := Lib.hid (Whole.below H19.out b20 H19.out.lt)
                have V20 : Hid (Wel.At w20 gV S) := Lib.hid (Whole.below V19.out b20 V19.out.lt)
                have Z20 : Hid (Wel.At w20 gZ S) := Lib.hid (Whole.below Z19.out b20 Z19.out.lt)
                have B20 := Lib.hid (B19.out.trans (b20.mono B19.out.size))
                clear b20 A19 E19 H19 V19 Z19 B19
                go_wp2_with (first | (with_reducible refine wpList_load_whole_w Wel.isRec (by kernel_rfl) _ rfl gZ (by with_unfolding_all exact rfl) _ _ (Wel.len _) Z20.out ?_) | (with_reducible refine wpList_load_whole_w Wel.isRec (by kernel_rfl) _ rfl gV (by with_unfolding_all exact rfl) _ _ (Wel.len _) V20.out ?_) | (with_reducible refine wpList_neq_rec_w Wel.isRec (by kernel_rfl) _ _ rfl (Wel.enc S) (Wel.enc S) (Wel.fits _) (Wel.fits _) (by with_unfolding_all exact rfl) (by with_unfolding_all exact rfl) false (not_same (Wel.fits _)) ?_))
                go_meet
                case rel => exact ⟨rfl, A20.out, E20.out, H20.out, V20.out, B20.out⟩
              · subst h0
                by_cases hf : f = 0
                · have f1 : ((f : Int) != 0) = false := by rw [hf]; rfl
                  have f2 : (f != 0) = false := by rw [hf]; rfl
                  clear hf hn
                  go_wp2_with fail
                  go_meet
                  case rel => exact ⟨rfl, A19.out, E19.out, H19.out, V19.out, B19.out⟩
                · have f1 : ((f : Int) != 0) = true := by rw [bne_iff_ne]; omega
                  have f2 : (f != 0) = true := by simpa using hf
                  have f3 : (!decide (f = 0)) = true := by simpa using hf
                  by_cases hs : s = 0
                  · have s1 : ((s : Int) != 0) = false := by rw [hs]; rfl
                    have s2 : (s != 0) = false := by rw [hs]; rfl
                    clear hf hs hn
                    go_wp2_with fail
                    go_meet
                    case rel => exact ⟨rfl, A19.out, E19.out, H19.out, V19.out, B19.out⟩
                  · have s1 : ((s : Int) != 0) = true := by rw [bne_iff_ne]; omega
                    have s2 : (s != 0) = true := by simpa using hs
                    have s3 : (!decide (s = 0)) = true := by simpa using hs
                    have hb : rb = false := by
                      cases rb with
                      | false => rfl
                      | true => exact absurd ⟨hf, hs, rfl⟩ hn
                    subst hb
                    clear hn
                    go_wp2_with (first | (with_reducible refine wpList_load_whole Ent.isRec rfl _ rfl gA (by with_unfolding_all exact rfl) _ _ (Ent.len _) A19.out ?_) | (with_reducible refine wpList_load_whole Ent.isRec rfl _ rfl gE (by with_unfolding_all exact rfl) _ _ (Ent.len _) E19.out ?_) | (with_reducible refine wpList_load_whole Hel.isRec rfl _ rfl gH (by with_unfolding_all exact rfl) _ _ (Hel.len _) H19.out ?_) | (with_reducible refine wpList_load_rec Ent.isRec rfl _ rfl gH 2 (by with_unfolding_all exact rfl) _ (Ent.len _) (Hel.At.part_entry H19.out) ?_) | (with_reducible refine wpList_load_whole Wel.isRec rfl _ rfl gV (by with_unfolding_all exact rfl) _ _ (Wel.len _) V19.out ?_) | (with_reducible refine wpList_load_rec Ent.isRec rfl _ rfl gV 2 (by with_unfolding_all exact rfl) _ (Ent.len _) (Wel.At.part_entry V19.out) ?_) | (with_reducible refine wpList_load_whole Wel.isRec rfl _ rfl gZ (by with_unfolding_all exact rfl) _ _ (Wel.len _) Z19.out ?_) | (with_reducible refine wpList_load_rec Ent.isRec rfl _ rfl gZ 2 (by with_unfolding_all exact rfl) _ (Ent.len _) (Wel.At.part_entry Z19.out) ?_) | (with_reducible refine wpList_load_whole_w Ent.isRec (by kernel_rfl) _ rfl gE (by with_unfolding_all exact rfl) _ _ (Ent.len _) E19.out ?_))
                    refine ((CB w19).out).mono ?_
                    rintro e20 w20 ⟨rfl, b20⟩
                    have A20 : Hid (Ent.At w20 gA a) := Lib.hid (Whole.below A19.out b20 A19.out.lt)
                    have E20 : Hid (Ent.At w20 gE b) := Lib.hid (Whole.below E19.out b20 E19.out.lt)
                    have H20 : Hid (Hel.At w20 gH R) := Lib.hid (Whole.below H19.out b20 H19.out.lt)
                    have V20 : Hid (Wel.At w20 gV S) := Lib.hid (Whole.below V19.out b20 V19.out.lt)
                    have Z20 : Hid (Wel.At w20 gZ m1) := Lib.hid (Whole.below Z19.out b20 Z19.out.lt)
                    have B20 := Lib.hid (B19.out.trans (b20.mono B19.out.size))
                    clear b20 A19 E19 H19 V19 Z19 B19
                    go_wp2_with fail
                    go_meet
                    case rel => exact ⟨rfl, A20.out, E20.out, H20.out, V20.out, B20.out⟩
            case rest =>
              obtain ⟨rfl, h1, h2, h3, h4, hb⟩ := hcut
              obtain ⟨wt, hwt⟩ : ∃ wt, wt = wc := ⟨_, rfl⟩
              rw [← hwt] at h1 h2 h3 h4 hb ⊢
              have At : Hid (Ent.At wt gA a) := Lib.hid h1
              have Ht : Hid (Hel.At wt gH R) := Lib.hid h3
              have Vt : Hid (Wel.At wt gV S) := Lib.hid h4
              have Bt := Lib.hid hb
              clear h1 h2 h3 h4 hb hwt CB HW
              obtain ⟨J, hJ⟩ : ∃ J, J = j % 32 := ⟨_, rfl⟩
              have JL := Lib.hid (show J < 32 by omega)
              have jm : (j : Int).tmod 32 = (J : Int) := by
                rw [hJ, Int.tmod_eq_emod_of_nonneg (by omega)]
                simp
              have ji : (J : Int) < 32 := by have := JL.out; omega
              have RP : Hid (R = ⟨D, f, a, R.tag⟩) := Lib.hid (by have q := greetH_parts K D f a; rw [← HR.out] at q; exact q)
              have SP : Hid (S = ⟨f, s, b, S.tag⟩) := Lib.hid (by have q := answerW_parts K R s b; rw [← HS.out, RE.out.2.2.1] at q; exact q)
              clear hJ
              obtain ⟨cpx, wax, cx, hcx, rax, hcapx, bax, hltx, qax, qbx, ytx⟩ := tag_set wt R.tag RT.out J JL.out c
              have xcx := xor_cell cx c
              obtain ⟨dx, hdx⟩ : ∃ d, d = cx ^^^ c := ⟨_, rfl⟩
              rw [← hdx] at xcx ytx
              have HDx := Lib.hid (And.intro hcx hdx)
              have ctx := Hel.At.at_tag Ht.out
              have Ax := Whole.below At.out bax At.out.lt
              have Hx := Whole.below Ht.out bax Ht.out.lt
              have Vx := Whole.below Vt.out bax Vt.out.lt
              have Bx : Below w.heap.size w wax := Bt.out.trans (bax.mono Bt.out.size)
              have ZZx := Lib.hid (show gA < wt.heap.size ∧ gH < wt.heap.size ∧ gV < wt.heap.size ∧ w.heap.size ≤ wt.heap.size from ⟨At.out.lt, Ht.out.lt, Vt.out.lt, Bt.out.size⟩)
              obtain ⟨tx, htx⟩ : ∃ g, g = wt.heap.size := ⟨_, rfl⟩
              rw [← htx] at rax qax qbx ytx ZZx
              obtain ⟨wbx, hwbx⟩ : ∃ z, z = wax.setCell ⟨tx, J, none⟩ (.int .u8 (dx.toNat : Int)) := ⟨_, rfl⟩
              have Ax2 : Hid (Ent.At wbx gA a) := Lib.hid (by rw [hwbx]; exact Whole.far Ax (by have := ZZx.out; show gA ≠ tx; omega) _)
              have Hx2 : Hid (Hel.At wbx gH R) := Lib.hid (by rw [hwbx]; exact Whole.far Hx (by have := ZZx.out; show gH ≠ tx; omega) _)
              have Vx2 : Hid (Wel.At wbx gV S) := Lib.hid (by rw [hwbx]; exact Whole.far Vx (by have := ZZx.out; show gV ≠ tx; omega) _)
              have Bx2 : Hid (Below w.heap.size w wbx) := Lib.hid (by rw [hwbx]; exact Bx.grown (grown_store wax tx J _) Bx.size (fun k hk => by injection hk with hk; have := ZZx.out; omega))
              obtain ⟨Gx, hGx⟩ : ∃ z, z = R.tag.set J dx := ⟨_, rfl⟩
              rw [← hGx] at ytx
              have HGx := Lib.hid hGx
              have YTx : Hid (BytesAt wbx (.slice (some ⟨tx, 0, none⟩) 32 cpx) Gx) := Lib.hid (by rw [hwbx]; exact ytx)
              clear htx ytx hcapx bax hltx Ax Hx Vx Bx hdx hcx hGx At Ht Vt Bt
              go_upto_region 21 with fail
              rw [← hwbx]
              clear rax qax qbx xcx ctx hwbx
              have rcx := conv_bytes YTx.out
              obtain ⟨H2, hH2⟩ : ∃ z : Hel, z = ⟨D, f, a, Gx⟩ := ⟨_, rfl⟩
              have Sx : Hid (Hel.At (wbx.setCell ⟨gH, 8, none⟩ (.string ⟨Gx.toArray⟩)) gH H2) := Lib.hid (by
                have q := Hx2.out
                rw [RP.out] at q
                rw [hH2]
                exact Hel.At.set_tag q Gx)
              have HH2 := Lib.hid hH2
              have f8x := Hx2.out.free 8
              have c8x := Hel.At.at_tag Hx2.out
              clear hH2
              go_cut [] (fun wx => Ent.At wx gA a ∧ Hel.At wx gH H2 ∧ Wel.At wx gV S ∧ Below w.heap.size w wx)
              case first =>
                go_wp2_with fail
                go_meet
                case rel =>
                  have Ax3 := Whole.far Ax2.out (by have := ZZx.out; have := N_A_H.out; show gA ≠ gH; omega) (p := ⟨gH, 8, none⟩) (.string ⟨Gx.toArray⟩)
                  have Ox3 := Whole.far Vx2.out (by have := N_H_V.out; show gV ≠ gH; omega) (p := ⟨gH, 8, none⟩) (.string ⟨Gx.toArray⟩)
                  have Bx3 := Bx2.out.grown (grown_store wbx gH 8 (.string ⟨Gx.toArray⟩)) Bx2.out.size (fun k hk => by injection hk with hk; have := M_H.out; omega)
                  exact ⟨Ax3, Sx.out, Ox3, Bx3⟩
              case rest =>
                obtain ⟨h1, h2, h3, hb⟩ := hcut
                obtain ⟨wu, hwu⟩ : ∃ wu, wu = wc := ⟨_, rfl⟩
                rw [← hwu] at h1 h2 h3 hb ⊢
                have Au : Hid (Ent.At wu gA a) := Lib.hid h1
                have Hu : Hid (Hel.At wu gH H2) := Lib.hid h2
                have Vu : Hid (Wel.At wu gV S) := Lib.hid h3
                have Bu := Lib.hid hb
                clear h1 h2 h3 hb hwu Ax2 Hx2 Vx2 Bx2 YTx rcx Sx f8x c8x ZZx
                obtain ⟨cpy, way, cy, hcy, ray, hcapy, bay, hlty, qay, qby, yty⟩ := tag_set wu S.tag ST.out J JL.out c
                have xcy := xor_cell cy c
                obtain ⟨dy, hdy⟩ : ∃ d, d = cy ^^^ c := ⟨_, rfl⟩
                rw [← hdy] at xcy yty
                have HDy := Lib.hid (And.intro hcy hdy)
                have cty := Wel.At.at_tag Vu.out
                have Ay := Whole.below Au.out bay Au.out.lt
                have Hy := Whole.below Hu.out bay Hu.out.lt
                have Vy := Whole.below Vu.out bay Vu.out.lt
                have By : Below w.heap.size w way := Bu.out.trans (bay.mono Bu.out.size)
                have ZZy := Lib.hid (show gA < wu.heap.size ∧ gH < wu.heap.size ∧ gV < wu.heap.size ∧ w.heap.size ≤ wu.heap.size from ⟨Au.out.lt, Hu.out.lt, Vu.out.lt, Bu.out.size⟩)
                obtain ⟨ty, hty⟩ : ∃ g, g = wu.heap.size := ⟨_, rfl⟩
                rw [← hty] at ray qay qby yty ZZy
                obtain ⟨wby, hwby⟩ : ∃ z, z = way.setCell ⟨ty, J, none⟩ (.int .u8 (dy.toNat : Int)) := ⟨_, rfl⟩
                have Ay2 : Hid (Ent.At wby gA a) := Lib.hid (by rw [hwby]; exact Whole.far Ay (by have := ZZy.out; show gA ≠ ty; omega) _)
                have Hy2 : Hid (Hel.At wby gH H2) := Lib.hid (by rw [hwby]; exact Whole.far Hy (by have := ZZy.out; show gH ≠ ty; omega) _)
                have Vy2 : Hid (Wel.At wby gV S) := Lib.hid (by rw [hwby]; exact Whole.far Vy (by have := ZZy.out; show gV ≠ ty; omega) _)
                have By2 : Hid (Below w.heap.size w wby) := Lib.hid (by rw [hwby]; exact By.grown (grown_store way ty J _) By.size (fun k hk => by injection hk with hk; have := ZZy.out; omega))
                obtain ⟨Gy, hGy⟩ : ∃ z, z = S.tag.set J dy := ⟨_, rfl⟩
                rw [← hGy] at yty
                have HGy := Lib.hid hGy
                have YTy : Hid (BytesAt wby (.slice (some ⟨ty, 0, none⟩) 32 cpy) Gy) := Lib.hid (by rw [hwby]; exact yty)
                clear hty yty hcapy bay hlty Ay Hy Vy By hdy hcy hGy Au Hu Vu Bu
                go_upto_region 24 with fail
                rw [← hwby]
                clear ray qay qby xcy cty hwby
                have rcy := conv_bytes YTy.out
                obtain ⟨V2, hV2⟩ : ∃ z : Wel, z = ⟨f, s, b, Gy⟩ := ⟨_, rfl⟩
                have Sy : Hid (Wel.At (wby.setCell ⟨gV, 8, none⟩ (.string ⟨Gy.toArray⟩)) gV V2) := Lib.hid (by
                  have q := Vy2.out
                  rw [SP.out] at q
                  rw [hV2]
                  exact Wel.At.set_tag q Gy)
                have HV2 := Lib.hid hV2
                have f8y := Vy2.out.free 8
                have c8y := Wel.At.at_tag Vy2.out
                clear hV2
                go_cut [] (fun wx => Ent.At wx gA a ∧ Hel.At wx gH H2 ∧ Wel.At wx gV V2 ∧ Below w.heap.size w wx)
                case first =>
                  go_wp2_with fail
                  go_meet
                  case rel =>
                    have Ay3 := Whole.far Ay2.out (by have := ZZy.out; have := N_A_V.out; show gA ≠ gV; omega) (p := ⟨gV, 8, none⟩) (.string ⟨Gy.toArray⟩)
                    have Oy3 := Whole.far Hy2.out (by have := N_H_V.out; show gH ≠ gV; omega) (p := ⟨gV, 8, none⟩) (.string ⟨Gy.toArray⟩)
                    have By3 := By2.out.grown (grown_store wby gV 8 (.string ⟨Gy.toArray⟩)) By2.out.size (fun k hk => by injection hk with hk; have := M_V.out; omega)
                    exact ⟨Ay3, Oy3, Sy.out, By3⟩
                case rest =>
                  obtain ⟨h1, h2, h3, hb⟩ := hcut
                  obtain ⟨wv, hwv⟩ : ∃ wv, wv = wc := ⟨_, rfl⟩
                  rw [← hwv] at h1 h2 h3 hb ⊢
                  have Av : Hid (Ent.At wv gA a) := Lib.hid h1
                  have Hv : Hid (Hel.At wv gH H2) := Lib.hid h2
                  have Vv : Hid (Wel.At wv gV V2) := Lib.hid h3
                  have Bv := Lib.hid hb
                  clear h1 h2 h3 hb hwv Ay2 Hy2 Vy2 By2 YTy rcy Sy f8y c8y ZZy
                  have CC := fun w T => heChecks_any K H2 w (by have := KL.out.1; omega) (by rw [HH2.out]; exact KL.out.2) (by rw [HH2.out]; exact NB.out.1) (by rw [HH2.out]; exact NB.out.2.1) (by rw [HH2.out]; show Gx.length ≤ 1000; rw [HGx.out, List.length_set, RT.out]; decide) T
                  have CV := fun w T => heAgrees_any K V2 a w (by have := KL.out.1; omega) (by rw [HV2.out]; exact NB.out.2.2.1) (by rw [HV2.out]; exact NB.out.2.2.2) NB.out.1 NB.out.2.1 (by rw [HV2.out]; show Gy.length ≤ 1000; rw [HGy.out, List.length_set, ST.out]; decide) T
                  have z1 : checksB K H2 = ((c.toNat : Int) == 0) := by
                    have e := HR.out
                    have hc := HDx.out.1
                    rw [HH2.out, HGx.out, HDx.out.2]
                    rw [e] at hc ⊢
                    exact checks_changed K D f a J cx c hc
                  have z2 : agreesB K V2 a = ((c.toNat : Int) == 0) := by
                    have e := HS.out
                    have hc := HDy.out.1
                    have er := RE.out.1
                    have en := RE.out.2.2.1
                    rw [HV2.out, HGy.out, HDy.out.2]
                    rw [e] at hc ⊢
                    have q := agrees_changed K R s b J cy c hc
                    rw [er, en] at q
                    exact q
                  simp only [z1] at CC
                  simp only [z2] at CV
                  replace CC := fun w T => Lib.hid (CC w T)
                  replace CV := fun w T => Lib.hid (CV w T)
                  obtain ⟨q, hq⟩ : ∃ q, q = ((c.toNat : Int) == 0) := ⟨_, rfl⟩
                  have rq := hq.symm
                  simp only [rq] at CC CV
                  clear z1 z2 hq
                  cases q with
                  | true =>
                    go_wp2_with (first | (with_reducible refine wpList_load_whole Ent.isRec rfl _ rfl gA (by with_unfolding_all exact rfl) _ _ (Ent.len _) Av.out ?_) | (with_reducible refine wpList_load_whole Hel.isRec rfl _ rfl gH (by with_unfolding_all exact rfl) _ _ (Hel.len _) Hv.out ?_) | (with_reducible refine wpList_load_rec Ent.isRec rfl _ rfl gH 2 (by with_unfolding_all exact rfl) _ (Ent.len _) (Hel.At.part_entry Hv.out) ?_) | (with_reducible refine wpList_load_whole Wel.isRec rfl _ rfl gV (by with_unfolding_all exact rfl) _ _ (Wel.len _) Vv.out ?_) | (with_reducible refine wpList_load_rec Ent.isRec rfl _ rfl gV 2 (by with_unfolding_all exact rfl) _ (Ent.len _) (Wel.At.part_entry Vv.out) ?_))
                    refine ((CC wv (T0.out.below Bv.out T0.out.pos)).out).mono ?_
                    rintro e21 w21 ⟨rfl, b21⟩
                    have A21 : Hid (Ent.At w21 gA a) := Lib.hid (Whole.below Av.out b21 Av.out.lt)
                    have H21 : Hid (Hel.At w21 gH H2) := Lib.hid (Whole.below Hv.out b21 Hv.out.lt)
                    have V21 : Hid (Wel.At w21 gV V2) := Lib.hid (Whole.below Vv.out b21 Vv.out.lt)
                    have B21 := Lib.hid (Bv.out.trans (b21.mono Bv.out.size))
                    clear b21 Av Hv Vv Bv
                    go_wp2_with (first | (with_reducible refine wpList_load_whole Ent.isRec rfl _ rfl gA (by with_unfolding_all exact rfl) _ _ (Ent.len _) A21.out ?_) | (with_reducible refine wpList_load_whole Hel.isRec rfl _ rfl gH (by with_unfolding_all exact rfl) _ _ (Hel.len _) H21.out ?_) | (with_reducible refine wpList_load_rec Ent.isRec rfl _ rfl gH 2 (by with_unfolding_all exact rfl) _ (Ent.len _) (Hel.At.part_entry H21.out) ?_) | (with_reducible refine wpList_load_whole Wel.isRec rfl _ rfl gV (by with_unfolding_all exact rfl) _ _ (Wel.len _) V21.out ?_) | (with_reducible refine wpList_load_rec Ent.isRec rfl _ rfl gV 2 (by with_unfolding_all exact rfl) _ (Ent.len _) (Wel.At.part_entry V21.out) ?_) | (first | (with_reducible refine wpList_load_whole_w Wel.isRec (by kernel_rfl) _ rfl gV (by with_unfolding_all exact rfl) _ _ (Wel.len _) V21.out ?_) | (with_reducible refine wpList_load_whole_w Ent.isRec (by kernel_rfl) _ rfl gA (by with_unfolding_all exact rfl) _ _ (Ent.len _) A21.out ?_)))
                    refine ((CV w21 (T0.out.below B21.out T0.out.pos)).out).mono ?_
                    rintro e22 w22 ⟨rfl, b22⟩
                    have A22 : Hid (Ent.At w22 gA a) := Lib.hid (Whole.below A21.out b22 A21.out.lt)
                    have H22 : Hid (Hel.At w22 gH H2) := Lib.hid (Whole.below H21.out b22 H21.out.lt)
                    have V22 : Hid (Wel.At w22 gV V2) := Lib.hid (Whole.below V21.out b22 V21.out.lt)
                    have B22 := Lib.hid (B21.out.trans (b22.mono B21.out.size))
                    clear b22 A21 H21 V21 B21
                    go_wp2
                    go_ret
                    exact ⟨rfl, B22.out⟩
                  | false =>
                    go_wp2_with (first | (with_reducible refine wpList_load_whole Ent.isRec rfl _ rfl gA (by with_unfolding_all exact rfl) _ _ (Ent.len _) Av.out ?_) | (with_reducible refine wpList_load_whole Hel.isRec rfl _ rfl gH (by with_unfolding_all exact rfl) _ _ (Hel.len _) Hv.out ?_) | (with_reducible refine wpList_load_rec Ent.isRec rfl _ rfl gH 2 (by with_unfolding_all exact rfl) _ (Ent.len _) (Hel.At.part_entry Hv.out) ?_) | (with_reducible refine wpList_load_whole Wel.isRec rfl _ rfl gV (by with_unfolding_all exact rfl) _ _ (Wel.len _) Vv.out ?_) | (with_reducible refine wpList_load_rec Ent.isRec rfl _ rfl gV 2 (by with_unfolding_all exact rfl) _ (Ent.len _) (Wel.At.part_entry Vv.out) ?_))
                    refine ((CC wv (T0.out.below Bv.out T0.out.pos)).out).mono ?_
                    rintro e21 w21 ⟨rfl, b21⟩
                    have A21 : Hid (Ent.At w21 gA a) := Lib.hid (Whole.below Av.out b21 Av.out.lt)
                    have H21 : Hid (Hel.At w21 gH H2) := Lib.hid (Whole.below Hv.out b21 Hv.out.lt)
                    have V21 : Hid (Wel.At w21 gV V2) := Lib.hid (Whole.below Vv.out b21 Vv.out.lt)
                    have B21 := Lib.hid (Bv.out.trans (b21.mono Bv.out.size))
                    clear b21 Av Hv Vv Bv
                    go_wp2_with (first | (with_reducible refine wpList_load_whole Ent.isRec rfl _ rfl gA (by with_unfolding_all exact rfl) _ _ (Ent.len _) A21.out ?_) | (with_reducible refine wpList_load_whole Hel.isRec rfl _ rfl gH (by with_unfolding_all exact rfl) _ _ (Hel.len _) H21.out ?_) | (with_reducible refine wpList_load_rec Ent.isRec rfl _ rfl gH 2 (by with_unfolding_all exact rfl) _ (Ent.len _) (Hel.At.part_entry H21.out) ?_) | (with_reducible refine wpList_load_whole Wel.isRec rfl _ rfl gV (by with_unfolding_all exact rfl) _ _ (Wel.len _) V21.out ?_) | (with_reducible refine wpList_load_rec Ent.isRec rfl _ rfl gV 2 (by with_unfolding_all exact rfl) _ (Ent.len _) (Wel.At.part_entry V21.out) ?_) | (first | (with_reducible refine wpList_load_whole_w Wel.isRec (by kernel_rfl) _ rfl gV (by with_unfolding_all exact rfl) _ _ (Wel.len _) V21.out ?_) | (with_reducible refine wpList_load_whole_w Ent.isRec (by kernel_rfl) _ rfl gA (by with_unfolding_all exact rfl) _ _ (Ent.len _) A21.out ?_)))
                    refine ((CV w21 (T0.out.below B21.out T0.out.pos)).out).mono ?_
                    rintro e22 w22 ⟨rfl, b22⟩
                    have A22 : Hid (Ent.At w22 gA a) := Lib.hid (Whole.below A21.out b22 A21.out.lt)
                    have H22 : Hid (Hel.At w22 gH H2) := Lib.hid (Whole.below H21.out b22 H21.out.lt)
                    have V22 : Hid (Wel.At w22 gV V2) := Lib.hid (Whole.below V21.out b22 V21.out.lt)
                    have B22 := Lib.hid (B21.out.trans (b22.mono B21.out.size))
                    clear b22 A21 H21 V21 B21
                    go_wp2
                    go_ret
                    exact ⟨rfl, B22.out⟩
end Go.Proofs.YtpcdbpijgmninaaDoor
