/- What package digest's Sum, Two and Id answer, and the chapter's example (works). -/
import Derived.Test.YtmnhpkdldeifgaaGreatDoorGy
namespace Go.Proofs.YtmnhpkdldeifgaaGreatDoor
set_option maxRecDepth 100000
open Go.RowKit

/-- The bytes from a place on. -/
theorem BytesAt.from {w : World} {A : Option Addr} {n cap : Nat} {l : List UInt8} (h : BytesAt w (.slice A n cap) l) (m : Nat) (hm : m ≤ n) : BytesAt w (.slice (if cap = m then A else A.map (·.add m)) (n - m) (cap - m)) (l.drop m) := by
  obtain ⟨hn, hcap⟩ := h.size
  refine ⟨_, cap - m, by rw [List.length_drop, ← hn], by rw [List.length_drop]; omega, fun hne => ?_⟩
  have hl : l ≠ [] := by rintro rfl; simp at hne
  obtain ⟨b, off, rfl, _, hc⟩ := h.spots hl
  have hd : ¬ cap = m := by
    intro e
    apply hne
    apply List.drop_eq_nil_of_le
    omega
  have ha' : (⟨b, off, none⟩ : Addr).add m = ⟨b, off + m, none⟩ := by unfold Addr.add; split <;> simp_all
  rw [if_neg hd, Option.map_some, ha']
  refine ⟨_, rfl, fun j c hj => ?_⟩
  have ha : (⟨b, off + m, none⟩ : Addr).add j = ⟨b, off + (m + j), none⟩ := by unfold Addr.add; split <;> simp_all [Nat.add_assoc]
  rw [ha]
  rw [List.getElem?_drop] at hj
  exact hc _ c hj

theorem sumS_split (l : List UInt8) (m q : Nat) (hm : m = l.length / 64) (hq : q = 64 * m) : sumS l = blocks (blocks start (l.take q) m) (l.drop q ++ padL l.length) ((l.drop q ++ padL l.length).length / 64) ∧
    (l.drop q ++ padL l.length).length = 64 * ((l.drop q ++ padL l.length).length / 64) := by
  have e : allOf l = l.take q ++ (l.drop q ++ padL l.length) := by rw [← List.append_assoc, List.take_append_drop]; rfl
  have ht : (l.take q).length = 64 * m := by simp only [List.length_take]; omega
  have hp := padL_whole l.length
  have hd : (l.drop q ++ padL l.length).length = l.length - q + (padL l.length).length := by simp
  have hn : (allOf l).length / 64 = m + (l.drop q ++ padL l.length).length / 64 := by rw [e, List.length_append, ht]; omega
  refine ⟨?_, by omega⟩
  rw [sumS, hn, e, blocks_add start (l.take q) _ m _ ht]

theorem index_words (l : List UInt32) (hl : l.length = 8) (k : Nat) (c : UInt32) (hk : l[k]? = some c) (w : World) : (Instr.index 135 (.agg (wv l)) (.int .i64 (k : Int))).run Tryz.prog w = .ok (wd c) w := by
  have h : k < 8 := by rw [← hl]; exact (List.getElem?_eq_some_iff.1 hk).1
  have hz : (sizeOf 57).run Tryz.prog w = .ok 1 w := by kernel_rfl
  have hc : (wv l)[k]? = some (wd c) := wv_at l k c hk
  simp [Instr.index, asIntOf, run_underlying Tryz.underlying135, h, hz, part, hc]
theorem stBytes_next (s : List UInt32) (k : Nat) (x : UInt32) (h : s[k]? = some x) : stBytes (s.take (k + 1)) = stBytes (s.take k) ++ bytes4 x := by
  rw [take_at h, stBytes, stBytes, List.flatMap_append]
  simp
theorem lit4 (w : World) (a b c d : UInt8) : BytesAt (w.alloc (.cells #[.int .u8 (a.toNat : Int), .int .u8 (b.toNat : Int), .int .u8 (c.toNat : Int), .int .u8 (d.toNat : Int)] 5)) (.slice (some ⟨w.heap.size, 0, none⟩) 4 4) [a, b, c, d] :=
  BytesAt.lit w [a, b, c, d] _ rfl

set_option maxRecDepth 100000 in
set_option maxHeartbeats 2000000 in
theorem sum_own (v : Value) (l : List UInt8) (hl : l.length ≤ 100000) (w : World) (hv : BytesAt w v l) (T : Tab w) :
    Calls Tryz.prog 113 #[v] w fun e w' => ∃ v', e = .returned v' ∧ w'.ownsRow w.heap.size 5 1 v' (sumL l).length (bv (sumL l)) ∧ Below w.heap.size w w' := by
  have T0 := Lib.hid T
  have HV := Lib.hid hv
  obtain ⟨A, cap, rfl, hcap, -⟩ := hv
  clear T
  obtain ⟨m, hm⟩ : ∃ m, m = l.length / 64 := ⟨_, rfl⟩
  obtain ⟨q, hq⟩ : ∃ q, q = 64 * m := ⟨_, rfl⟩
  have hi : (l.length : Int) - (l.length : Int) % 64 = (q : Int) := by omega
  have hle : q ≤ l.length := by omega
  have hle2 : q ≤ cap := by omega
  have hpos := Lib.hid T0.out.pos
  have CT : Hid (∀ W, Below w.heap.size w W → Calls Tryz.prog 119 #[.agg (wv start), .slice A q cap] W fun e w' => e = .returned (.agg (wv (blocks start (l.take q) m))) ∧ Below W.heap.size W w') := fun W hb =>
    take_any start rfl _ (l.take q) m (by simp only [List.length_take]; omega) (by omega) W ((HV.out.below hb).first q hle) (T0.out.below hb hpos.out)
  have H1 : Hid ((blocks start (l.take q) m).length = 8) := blocks_length _ _ _ rfl
  generalize hS1 : blocks start (l.take q) m = S1 at *
  have HS1 := Lib.hid hS1
  have Z1 : Hid ((Tryz.prog.info? 135).map (·.size) = some (wv S1).size ∧ (wv (zw 8)).size = (wv S1).size) := by
    rw [wv_size S1, H1.out]
    exact ⟨size23, rfl⟩
  have HQ := Lib.hid (And.intro hm hq)
  clear hm hq hS1
  go_enter Tryz.func113, Tryz.ntmps113
  go_upto_region 2 with fail
  go_cut [4] (fun p wx => ∃ g, p = .pointer (some ⟨g, 0, none⟩) ∧ w.heap.size ≤ g ∧ Whole wx g 135 (wv S1) ∧ Below w.heap.size w wx)
  case first =>
    refine regS_begin (fun w' => Below w.heap.size w w') (by kernel_rfl) ((Below.refl _ _).drew) ?_
    have hS : Below w.heap.size w w.drew := (Below.refl _ _).drew
    generalize w.drew = w1 at *
    refine regS_take (i := 1) (v := ?_) rfl (by kernel_rfl) (by kernel_rfl) (by kernel_rfl) (fun _ _ _ h => h) (by rfl) hS ?hy1 ?_
    case hy1 => intro w' hw'; go_simp; (try with_reducible rfl)
    simp only [Act.put, List.setIfInBounds_toArray, List.set_cons_zero, List.set_cons_succ]
    refine regS_take (i := 2) (v := ?_) rfl (by kernel_rfl) (by kernel_rfl) (by kernel_rfl) (fun _ _ _ h => h) (by rfl) hS ?hy2 ?_
    case hy2 => intro w' hw'; go_simp; (try with_reducible rfl)
    simp only [Act.put, List.setIfInBounds_toArray, List.set_cons_zero, List.set_cons_succ]
    refine regS_take (i := 3) (v := ?_) rfl (by kernel_rfl) (by kernel_rfl) (by kernel_rfl) (fun _ _ _ h => h) (by rfl) hS ?hy3 ?_
    case hy3 => intro w' hw'; go_simp; (try with_reducible rfl)
    simp only [Act.put, List.setIfInBounds_toArray, List.set_cons_zero, List.set_cons_succ]
    refine regS_two (i := 0) (j := 5) rfl rfl (by kernel_rfl) (fun K' hK => ?_) (fun K' hK => ?_)
    · skip
      go_simp
      refine (start_any _).mono ?_
      rintro e wa1 ⟨rfl, bwa1⟩
      have swa1 : Below w.heap.size w wa1 := hS.trans (bwa1.mono hS.size)
      refine hK.out _ _ swa1 ?_
      clear hK K' bwa1
      refine regS_two (i := 4) (j := 5) rfl rfl (by kernel_rfl) (fun K' hK => ?_) (fun K' hK => ?_)
      · skip
        go_simp
        refine (CT.out _ swa1).mono ?_
        rintro e wa2 ⟨rfl, bwa2⟩
        have swa2 : Below w.heap.size w wa2 := swa1.trans (bwa2.mono swa1.size)
        refine hK.out _ _ swa2 ?_
        clear hK K' bwa2
        refine regS_do (i := 5) rfl (by kernel_rfl) (fun K' hK => ?_)
        rw [if_pos (by rfl)]
        refine wp_alloc_row 135 rfl _ zero23 ?_
        intro wa3 bwa3 xwa3 zwa3
        have swa3 : Below w.heap.size w wa3 := swa2.trans (bwa3.mono swa2.size)
        have gwa3 := swa2.size
        refine hK.out _ _ swa3 ?_
        clear hK K' bwa3 zwa3
        simp only [Act.put, List.setIfInBounds_toArray, List.set_cons_zero, List.set_cons_succ]
        refine regS_do (i := 6) rfl (by kernel_rfl) (fun K' hK => ?_)
        rw [if_pos (by rfl)]
        refine wp_store_whole 135 _ _ rfl _ (wv S1) rfl rfl _ _ xwa3 Z1.out.1 Z1.out.2 (wv_one _) ?_
        intro wa4 bwa4 xwa4 zwa4
        have swa4 : Below w.heap.size w wa4 := swa3.grown bwa4 swa3.size (fun k hk => by injection hk; omega)
        refine hK.out _ _ swa4 ?_
        clear hK K' bwa4 zwa4
        simp only [Act.put]
        refine regS_end (by kernel_rfl) ?_
        have XX := Lib.hid xwa4
        have SS := Lib.hid swa4
        have GG := Lib.hid gwa3
        clear xwa4 swa4
        go_wp2_with fail
        go_meet
        case rel => exact ⟨_, rfl, GG.out, XX.out, SS.out⟩
      · skip
        rw [if_pos (by rfl)]
        refine wp_alloc_row 135 rfl _ zero23 ?_
        intro wa5 bwa5 xwa5 zwa5
        have swa5 : Below w.heap.size w wa5 := swa1.trans (bwa5.mono swa1.size)
        have gwa5 := swa1.size
        refine hK.out _ _ swa5 ?_
        clear hK K' bwa5 zwa5
        simp only [Act.put, List.setIfInBounds_toArray, List.set_cons_zero, List.set_cons_succ]
        refine regS_do (i := 4) rfl (by kernel_rfl) (fun K' hK => ?_)
        go_simp
        refine (CT.out _ swa5).mono ?_
        rintro e wa6 ⟨rfl, bwa6⟩
        have swa6 : Below w.heap.size w wa6 := swa5.trans (bwa6.mono swa5.size)
        have xwa6 := xwa5.below bwa6 xwa5.lt
        refine hK.out _ _ swa6 ?_
        clear hK K' bwa6
        refine regS_do (i := 6) rfl (by kernel_rfl) (fun K' hK => ?_)
        rw [if_pos (by rfl)]
        refine wp_store_whole 135 _ _ rfl _ (wv S1) rfl rfl _ _ xwa6 Z1.out.1 Z1.out.2 (wv_one _) ?_
        intro wa7 bwa7 xwa7 zwa7
        have swa7 : Below w.heap.size w wa7 := swa6.grown bwa7 swa6.size (fun k hk => by injection hk; omega)
        refine hK.out _ _ swa7 ?_
        clear hK K' bwa7 zwa7
        simp only [Act.put]
        refine regS_end (by kernel_rfl) ?_
        have XX := Lib.hid xwa7
        have SS := Lib.hid swa7
        have GG := Lib.hid gwa5
        clear xwa7 swa7
        go_wp2_with fail
        go_meet
        case rel => exact ⟨_, rfl, GG.out, XX.out, SS.out⟩
    · skip
      rw [if_pos (by rfl)]
      refine wp_alloc_row 135 rfl _ zero23 ?_
      intro wa8 bwa8 xwa8 zwa8
      have swa8 : Below w.heap.size w wa8 := hS.trans (bwa8.mono hS.size)
      have gwa8 := hS.size
      refine hK.out _ _ swa8 ?_
      clear hK K' bwa8 zwa8
      simp only [Act.put, List.setIfInBounds_toArray, List.set_cons_zero, List.set_cons_succ]
      refine regS_do (i := 0) rfl (by kernel_rfl) (fun K' hK => ?_)
      go_simp
      refine (start_any _).mono ?_
      rintro e wa9 ⟨rfl, bwa9⟩
      have swa9 : Below w.heap.size w wa9 := swa8.trans (bwa9.mono swa8.size)
      have xwa9 := xwa8.below bwa9 xwa8.lt
      refine hK.out _ _ swa9 ?_
      clear hK K' bwa9
      refine regS_do (i := 4) rfl (by kernel_rfl) (fun K' hK => ?_)
      go_simp
      refine (CT.out _ swa9).mono ?_
      rintro e wa10 ⟨rfl, bwa10⟩
      have swa10 : Below w.heap.size w wa10 := swa9.trans (bwa10.mono swa9.size)
      have xwa10 := xwa9.below bwa10 xwa9.lt
      refine hK.out _ _ swa10 ?_
      clear hK K' bwa10
      refine regS_do (i := 6) rfl (by kernel_rfl) (fun K' hK => ?_)
      rw [if_pos (by rfl)]
      refine wp_store_whole 135 _ _ rfl _ (wv S1) rfl rfl _ _ xwa10 Z1.out.1 Z1.out.2 (wv_one _) ?_
      intro wa11 bwa11 xwa11 zwa11
      have swa11 : Below w.heap.size w wa11 := swa10.grown bwa11 swa10.size (fun k hk => by injection hk; omega)
      refine hK.out _ _ swa11 ?_
      clear hK K' bwa11 zwa11
      simp only [Act.put]
      refine regS_end (by kernel_rfl) ?_
      have XX := Lib.hid xwa11
      have SS := Lib.hid swa11
      have GG := Lib.hid gwa8
      clear xwa11 swa11
      go_wp2_with fail
      go_meet
      case rel => exact ⟨_, rfl, GG.out, XX.out, SS.out⟩
  case rest =>
    obtain ⟨g, rfl, hg, x, hb⟩ := hcut
    have XG := Lib.hid x
    have HB := Lib.hid hb
    clear x hb CT
    obtain ⟨w1, hw1⟩ : ∃ w1, w1 = wc := ⟨_, rfl⟩
    subst hw1
    have HD : Hid (∀ W, Below w.heap.size w W → BytesAt W (.slice (if cap = q then A else A.map (fun x => x.add q)) (l.length - q) (cap - q)) (l.drop q)) := fun W h => (HV.out.below h).from q hle
    have LD : Hid ((l.drop q).length ≤ 1000000) := Lib.hid (by rw [List.length_drop]; omega)
    have LP : Hid ((padL l.length).length ≤ 1000000) := Lib.hid (by have := (padL_most l.length).2; omega)
    obtain ⟨hs1, hs2⟩ := sumS_split l m q HQ.out.1 HQ.out.2
    rw [HS1.out] at hs1
    have hs3 : (l.drop q ++ padL l.length).length / 64 ≤ 100000 := by
      have := (padL_most l.length).2
      have h1 : (l.drop q ++ padL l.length).length = l.length - q + (padL l.length).length := by simp
      omega
    have CT2 : Hid (∀ W vc, Below w.heap.size w W → BytesAt W vc (l.drop q ++ padL l.length) → Calls Tryz.prog 119 #[.agg (wv S1), vc] W fun e w' => e = .returned (.agg (wv (sumS l))) ∧ Below W.heap.size W w') := fun W vc hb hy => by
      rw [hs1]
      exact take_any S1 H1.out vc _ _ hs2 hs3 W hy (T0.out.below hb hpos.out)
    have Z2 : Hid ((Tryz.prog.info? 135).map (·.size) = some (wv (sumS l)).size ∧ (wv S1).size = (wv (sumS l)).size) := by
      rw [wv_size (sumS l), sumS_length, wv_size, H1.out]
      exact ⟨size23, rfl⟩
    clear hs1 hs2 hs3
    go_upto_region 3 with fail
    go_cut [3] (fun p wx => p = .int .i64 (q : Int) ∧ Whole wx g 135 (wv (sumS l)) ∧ Below w.heap.size w wx)
    case first =>
      refine regS_begin (fun _ => True) (by kernel_rfl) trivial ?_
      have hS : True := trivial
      have hS0 : Below w.heap.size w w1.drew := HB.out.drew
      have x0 : Whole w1.drew g 135 (wv S1) := XG.out
      generalize w1.drew = w2 at *
      refine regS_take (i := 1) (v := ?_) rfl (by kernel_rfl) (by kernel_rfl) (by kernel_rfl) (fun _ _ _ h => h) (by rfl) hS ?hy1 ?_
      case hy1 => intro w' hw'; go_simp; (try with_reducible rfl)
      simp only [Act.put, List.setIfInBounds_toArray, List.set_cons_zero, List.set_cons_succ]
      refine regS_take (i := 2) (v := ?_) rfl (by kernel_rfl) (by kernel_rfl) (by kernel_rfl) (fun _ _ _ h => h) (by rfl) hS ?hy2 ?_
      case hy2 => intro w' hw'; go_simp; (try with_reducible rfl)
      simp only [Act.put, List.setIfInBounds_toArray, List.set_cons_zero, List.set_cons_succ]
      refine regS_take (i := 3) (v := ?_) rfl (by kernel_rfl) (by kernel_rfl) (by kernel_rfl) (fun _ _ _ h => h) (by rfl) hS ?hy3 ?_
      case hy3 => intro w' hw'; go_simp; (try with_reducible rfl)
      simp only [Act.put, List.setIfInBounds_toArray, List.set_cons_zero, List.set_cons_succ]
      refine regS_take (i := 4) (v := ?_) rfl (by kernel_rfl) (by kernel_rfl) (by kernel_rfl) (fun _ _ _ h => h) (by rfl) hS ?hy4 ?_
      case hy4 => intro w' hw'; go_simp; (try with_reducible rfl)
      simp only [Act.put, List.setIfInBounds_toArray, List.set_cons_zero, List.set_cons_succ]
      refine regS_take (i := 5) (v := ?_) rfl (by kernel_rfl) (by kernel_rfl) (by kernel_rfl) (fun _ _ _ h => h) (by rfl) hS ?hy5 ?_
      case hy5 => intro w' hw'; go_simp; (try with_reducible rfl)
      simp only [Act.put, List.setIfInBounds_toArray, List.set_cons_zero, List.set_cons_succ]
      generalize (if cap = q then A else Option.map (fun x => x.add q) A) = AD at *
      refine regS_two (i := 0) (j := 6) rfl rfl (by kernel_rfl) (fun K' hK => ?_) (fun K' hK => ?_)
      · skip
        rw [if_pos (by rfl)]
        refine wp_load_row 135 _ rfl g rfl _ _ _ _ x0 Tryz.underlying135 rfl Z1.out.1 ?_
        refine hK.out _ _ trivial ?_
        clear hK K'
        simp only [Act.put, List.setIfInBounds_toArray, List.set_cons_zero, List.set_cons_succ]
        refine regS_do (i := 6) rfl (by kernel_rfl) (fun K' hK => ?_)
        go_simp
        refine (pad_any l.length (by omega) _).mono ?_
        rintro e wa12 ⟨vpwa12, rfl, pwa12, bwa12⟩
        have swa12 : Below w.heap.size w wa12 := hS0.trans (bwa12.mono hS0.size)
        have xwa12 := x0.below bwa12 x0.lt
        obtain ⟨Apwa12, cpwa12, rfl, -, -⟩ := id pwa12
        refine hK.out _ _ trivial ?_
        clear hK K' bwa12
        refine regS_do (i := 7) rfl (by kernel_rfl) (fun K' hK => ?_)
        go_simp
        refine hK.out _ _ trivial ?_
        clear hK K'
        have ywa13 := Whole.new wa12 25 #[.slice AD (l.length - q) (cap - q), .slice Apwa12 (padL l.length).length cpwa12]
        have bwa13 : Below wa12.heap.size wa12 (wa12.alloc (.cells #[.slice AD (l.length - q) (cap - q), .slice Apwa12 (padL l.length).length cpwa12] 25)) := (Below.refl _ _).alloc (Nat.le_refl _) _
        generalize wa12.alloc (.cells #[.slice AD (l.length - q) (cap - q), .slice Apwa12 (padL l.length).length cpwa12] 25) = wa13 at *
        have swa13 : Below w.heap.size w wa13 := swa12.trans (bwa13.mono swa12.size)
        have xwa13 := xwa12.below bwa13 xwa12.lt
        have pwa13 := pwa12.below bwa13
        clear bwa13
        refine regS_do (i := 8) rfl (by kernel_rfl) (fun K' hK => ?_)
        go_simp
        refine (concat_any _ _ _ (l.drop q) (padL l.length) wa13 (ywa13.at_ 0) (ywa13.at_ 1) (HD.out _ swa13) pwa13 LD.out LP.out).mono ?_
        rintro e wa14 ⟨vcwa14, rfl, cwa14, bwa14⟩
        have swa14 : Below w.heap.size w wa14 := swa13.trans (bwa14.mono swa13.size)
        have xwa14 := xwa13.below bwa14 xwa13.lt
        refine hK.out _ _ trivial ?_
        clear hK K' bwa14
        refine regS_do (i := 9) rfl (by kernel_rfl) (fun K' hK => ?_)
        go_simp
        refine (CT2.out _ _ swa14 cwa14).mono ?_
        rintro e wa15 ⟨rfl, bwa15⟩
        have swa15 : Below w.heap.size w wa15 := swa14.trans (bwa15.mono swa14.size)
        have xwa15 := xwa14.below bwa15 xwa14.lt
        refine hK.out _ _ trivial ?_
        clear hK K' bwa15
        refine regS_do (i := 10) rfl (by kernel_rfl) (fun K' hK => ?_)
        rw [if_pos (by rfl)]
        refine wp_store_whole 135 _ _ rfl _ (wv (sumS l)) rfl rfl _ _ xwa15 Z2.out.1 Z2.out.2 (wv_one _) ?_
        intro wa16 bwa16 xwa16 zwa16
        have swa16 : Below w.heap.size w wa16 := swa15.grown bwa16 swa15.size (fun k hk => by injection hk; omega)
        refine hK.out _ _ trivial ?_
        clear hK K' bwa16 zwa16
        simp only [Act.put]
        refine regS_end (by kernel_rfl) ?_
        have XX := Lib.hid xwa16
        have SS := Lib.hid swa16
        clear xwa16 swa16
        go_wp2_with fail
        go_meet
        case rel => exact ⟨rfl, XX.out, SS.out⟩
      · skip
        go_simp
        refine (pad_any l.length (by omega) _).mono ?_
        rintro e wa17 ⟨vpwa17, rfl, pwa17, bwa17⟩
        have swa17 : Below w.heap.size w wa17 := hS0.trans (bwa17.mono hS0.size)
        have xwa17 := x0.below bwa17 x0.lt
        obtain ⟨Apwa17, cpwa17, rfl, -, -⟩ := id pwa17
        refine hK.out _ _ trivial ?_
        clear hK K' bwa17
        refine regS_two (i := 0) (j := 7) rfl rfl (by kernel_rfl) (fun K' hK => ?_) (fun K' hK => ?_)
        · skip
          rw [if_pos (by rfl)]
          refine wp_load_row 135 _ rfl g rfl _ _ _ _ xwa17 Tryz.underlying135 rfl Z1.out.1 ?_
          refine hK.out _ _ trivial ?_
          clear hK K'
          simp only [Act.put, List.setIfInBounds_toArray, List.set_cons_zero, List.set_cons_succ]
          refine regS_do (i := 7) rfl (by kernel_rfl) (fun K' hK => ?_)
          go_simp
          refine hK.out _ _ trivial ?_
          clear hK K'
          have ywa18 := Whole.new wa17 25 #[.slice AD (l.length - q) (cap - q), .slice Apwa17 (padL l.length).length cpwa17]
          have bwa18 : Below wa17.heap.size wa17 (wa17.alloc (.cells #[.slice AD (l.length - q) (cap - q), .slice Apwa17 (padL l.length).length cpwa17] 25)) := (Below.refl _ _).alloc (Nat.le_refl _) _
          generalize wa17.alloc (.cells #[.slice AD (l.length - q) (cap - q), .slice Apwa17 (padL l.length).length cpwa17] 25) = wa18 at *
          have swa18 : Below w.heap.size w wa18 := swa17.trans (bwa18.mono swa17.size)
          have xwa18 := xwa17.below bwa18 xwa17.lt
          have pwa18 := pwa17.below bwa18
          clear bwa18
          refine regS_do (i := 8) rfl (by kernel_rfl) (fun K' hK => ?_)
          go_simp
          refine (concat_any _ _ _ (l.drop q) (padL l.length) wa18 (ywa18.at_ 0) (ywa18.at_ 1) (HD.out _ swa18) pwa18 LD.out LP.out).mono ?_
          rintro e wa19 ⟨vcwa19, rfl, cwa19, bwa19⟩
          have swa19 : Below w.heap.size w wa19 := swa18.trans (bwa19.mono swa18.size)
          have xwa19 := xwa18.below bwa19 xwa18.lt
          refine hK.out _ _ trivial ?_
          clear hK K' bwa19
          refine regS_do (i := 9) rfl (by kernel_rfl) (fun K' hK => ?_)
          go_simp
          refine (CT2.out _ _ swa19 cwa19).mono ?_
          rintro e wa20 ⟨rfl, bwa20⟩
          have swa20 : Below w.heap.size w wa20 := swa19.trans (bwa20.mono swa19.size)
          have xwa20 := xwa19.below bwa20 xwa19.lt
          refine hK.out _ _ trivial ?_
          clear hK K' bwa20
          refine regS_do (i := 10) rfl (by kernel_rfl) (fun K' hK => ?_)
          rw [if_pos (by rfl)]
          refine wp_store_whole 135 _ _ rfl _ (wv (sumS l)) rfl rfl _ _ xwa20 Z2.out.1 Z2.out.2 (wv_one _) ?_
          intro wa21 bwa21 xwa21 zwa21
          have swa21 : Below w.heap.size w wa21 := swa20.grown bwa21 swa20.size (fun k hk => by injection hk; omega)
          refine hK.out _ _ trivial ?_
          clear hK K' bwa21 zwa21
          simp only [Act.put]
          refine regS_end (by kernel_rfl) ?_
          have XX := Lib.hid xwa21
          have SS := Lib.hid swa21
          clear xwa21 swa21
          go_wp2_with fail
          go_meet
          case rel => exact ⟨rfl, XX.out, SS.out⟩
        · skip
          go_simp
          refine hK.out _ _ trivial ?_
          clear hK K'
          have ywa22 := Whole.new wa17 25 #[.slice AD (l.length - q) (cap - q), .slice Apwa17 (padL l.length).length cpwa17]
          have bwa22 : Below wa17.heap.size wa17 (wa17.alloc (.cells #[.slice AD (l.length - q) (cap - q), .slice Apwa17 (padL l.length).length cpwa17] 25)) := (Below.refl _ _).alloc (Nat.le_refl _) _
          generalize wa17.alloc (.cells #[.slice AD (l.length - q) (cap - q), .slice Apwa17 (padL l.length).length cpwa17] 25) = wa22 at *
          have swa22 : Below w.heap.size w wa22 := swa17.trans (bwa22.mono swa17.size)
          have xwa22 := xwa17.below bwa22 xwa17.lt
          have pwa22 := pwa17.below bwa22
          clear bwa22
          refine regS_two (i := 0) (j := 8) rfl rfl (by kernel_rfl) (fun K' hK => ?_) (fun K' hK => ?_)
          · skip
            rw [if_pos (by rfl)]
            refine wp_load_row 135 _ rfl g rfl _ _ _ _ xwa22 Tryz.underlying135 rfl Z1.out.1 ?_
            refine hK.out _ _ trivial ?_
            clear hK K'
            simp only [Act.put, List.setIfInBounds_toArray, List.set_cons_zero, List.set_cons_succ]
            refine regS_do (i := 8) rfl (by kernel_rfl) (fun K' hK => ?_)
            go_simp
            refine (concat_any _ _ _ (l.drop q) (padL l.length) wa22 (ywa22.at_ 0) (ywa22.at_ 1) (HD.out _ swa22) pwa22 LD.out LP.out).mono ?_
            rintro e wa23 ⟨vcwa23, rfl, cwa23, bwa23⟩
            have swa23 : Below w.heap.size w wa23 := swa22.trans (bwa23.mono swa22.size)
            have xwa23 := xwa22.below bwa23 xwa22.lt
            refine hK.out _ _ trivial ?_
            clear hK K' bwa23
            refine regS_do (i := 9) rfl (by kernel_rfl) (fun K' hK => ?_)
            go_simp
            refine (CT2.out _ _ swa23 cwa23).mono ?_
            rintro e wa24 ⟨rfl, bwa24⟩
            have swa24 : Below w.heap.size w wa24 := swa23.trans (bwa24.mono swa23.size)
            have xwa24 := xwa23.below bwa24 xwa23.lt
            refine hK.out _ _ trivial ?_
            clear hK K' bwa24
            refine regS_do (i := 10) rfl (by kernel_rfl) (fun K' hK => ?_)
            rw [if_pos (by rfl)]
            refine wp_store_whole 135 _ _ rfl _ (wv (sumS l)) rfl rfl _ _ xwa24 Z2.out.1 Z2.out.2 (wv_one _) ?_
            intro wa25 bwa25 xwa25 zwa25
            have swa25 : Below w.heap.size w wa25 := swa24.grown bwa25 swa24.size (fun k hk => by injection hk; omega)
            refine hK.out _ _ trivial ?_
            clear hK K' bwa25 zwa25
            simp only [Act.put]
            refine regS_end (by kernel_rfl) ?_
            have XX := Lib.hid xwa25
            have SS := Lib.hid swa25
            clear xwa25 swa25
            go_wp2_with fail
            go_meet
            case rel => exact ⟨rfl, XX.out, SS.out⟩
          · skip
            go_simp
            refine (concat_any _ _ _ (l.drop q) (padL l.length) wa22 (ywa22.at_ 0) (ywa22.at_ 1) (HD.out _ swa22) pwa22 LD.out LP.out).mono ?_
            rintro e wa26 ⟨vcwa26, rfl, cwa26, bwa26⟩
            have swa26 : Below w.heap.size w wa26 := swa22.trans (bwa26.mono swa22.size)
            have xwa26 := xwa22.below bwa26 xwa22.lt
            refine hK.out _ _ trivial ?_
            clear hK K' bwa26
            refine regS_do (i := 0) rfl (by kernel_rfl) (fun K' hK => ?_)
            rw [if_pos (by rfl)]
            refine wp_load_row 135 _ rfl g rfl _ _ _ _ xwa26 Tryz.underlying135 rfl Z1.out.1 ?_
            refine hK.out _ _ trivial ?_
            clear hK K'
            simp only [Act.put, List.setIfInBounds_toArray, List.set_cons_zero, List.set_cons_succ]
            refine regS_do (i := 9) rfl (by kernel_rfl) (fun K' hK => ?_)
            go_simp
            refine (CT2.out _ _ swa26 cwa26).mono ?_
            rintro e wa27 ⟨rfl, bwa27⟩
            have swa27 : Below w.heap.size w wa27 := swa26.trans (bwa27.mono swa26.size)
            have xwa27 := xwa26.below bwa27 xwa26.lt
            refine hK.out _ _ trivial ?_
            clear hK K' bwa27
            refine regS_do (i := 10) rfl (by kernel_rfl) (fun K' hK => ?_)
            rw [if_pos (by rfl)]
            refine wp_store_whole 135 _ _ rfl _ (wv (sumS l)) rfl rfl _ _ xwa27 Z2.out.1 Z2.out.2 (wv_one _) ?_
            intro wa28 bwa28 xwa28 zwa28
            have swa28 : Below w.heap.size w wa28 := swa27.grown bwa28 swa27.size (fun k hk => by injection hk; omega)
            refine hK.out _ _ trivial ?_
            clear hK K' bwa28 zwa28
            simp only [Act.put]
            refine regS_end (by kernel_rfl) ?_
            have XX := Lib.hid xwa28
            have SS := Lib.hid swa28
            clear xwa28 swa28
            go_wp2_with fail
            go_meet
            case rel => exact ⟨rfl, XX.out, SS.out⟩
    case rest =>
      obtain ⟨rfl, x, hb⟩ := hcut
      have X3 := Lib.hid x
      have HB3 := Lib.hid hb
      obtain ⟨i0, hi0, hz0, hz1, hz2⟩ := info_parts byte_info
      have hbase := hb.size
      obtain ⟨w3, hw3⟩ : ∃ w3, w3 = wc := ⟨_, rfl⟩
      subst hw3
      have L8 := Lib.hid (sumS_length l)
      have HSL : Hid (sumL l = stBytes (sumS l)) := Lib.hid rfl
      generalize sumS l = R at *
      clear x hb XG HB HD LD LP CT2 HV T0 hpos HQ HS1 Z1 hi hle hle2 hcap H1
      go_upto_region 4 with fail
      refine wp_region_lit (wpList_make_own _ rfl _ _ 25 rfl w.heap.size 5 i0 (.int .u8 0) 1 Tryz.underlying25 hi0 hz0 hz1 .i64 .i64 32 32 rfl rfl rfl (by rw [hz2]; decide) (by simp [maxLen]) hbase ?_)
      intro w4 ho4 hg4
      have HO4 := Lib.hid ho4
      have X4 := Lib.hid (X3.out.grown hg4 (by simp))
      have HB4 := Lib.hid (HB3.out.grown hg4 HB3.out.size (fun k hk => by cases hk))
      clear ho4 hg4 X3 HB3 hbase
      go_upto_region 5 with fail
      refine wp_region_lit (wpList_load_row rfl 135 _ rfl _ rfl _ _ _ _ X4.out Tryz.underlying135 rfl Z2.out.1 ?_)
      clear X4
      go_wp2_with fail
      go_loopw [5, 31] (fun v i wr => ∃ k : Nat, k ≤ 8 ∧ i = .int .i64 k ∧ wr.ownsRow w.heap.size 5 1 v (4 * k) (bv (stBytes (R.take k))) ∧ Below w.heap.size w wr) (fun _ i _ => 8 - (intOf i).toNat)
      case atStart => exact ⟨0, Nat.zero_le _, rfl, HO4.out, HB4.out⟩
      case round =>
        obtain ⟨k, hk, rfl, ho, hb⟩ := hrel
        clear HO4 HB4
        have HO := Lib.hid ho
        have HB := Lib.hid hb
        by_cases hlt : k < 8
        · obtain ⟨x, hx⟩ : ∃ x, R[k]? = some x := ⟨_, List.getElem?_eq_getElem (show k < R.length by rw [L8.out]; exact hlt)⟩
          have ix := index_words R L8.out k _ hx
          have hn : stBytes (R.take (k + 1)) = stBytes (R.take k) ++ [(x >>> 24).toUInt8, (x >>> 16).toUInt8, (x >>> 8).toUInt8, x.toUInt8] := stBytes_next R k _ hx
          have HN := Lib.hid hn
          have d1 : decide ((k : Int) < 8) = true := by simp; omega
          have s24 := run_shr 24 (by decide) 24 rfl
          have s16 := run_shr 16 (by decide) 16 rfl
          have s8 := run_shr 8 (by decide) 8 rfl
          have c24 := wd_byte (x >>> 24)
          have c16 := wd_byte (x >>> 16)
          have c8 := wd_byte (x >>> 8)
          have c0 := wd_byte x
          clear ho hb hx hn
          generalize (x >>> 24).toUInt8 = y3 at *
          generalize (x >>> 16).toUInt8 = y2 at *
          generalize (x >>> 8).toUInt8 = y1 at *
          generalize x.toUInt8 = y0 at *
          go_wp2_with (with_reducible refine wpList_append_bytes rfl _ _ rfl w.heap.size _ _ _ ?hv (HO.out.alloc _) _ _ ?hx (lit4 wr y3 y2 y1 y0) ?hlen ?hbase ?_)
          case hv => exact rfl
          case hx => exact rfl
          case hlen => simp; omega
          case hbase => simp; have := HB.out.size; omega
          intro v' w5 ho5 hg5
          have hlt5 := HO.out.lt
          have HB5 := Lib.hid ((HB.out.alloc HB.out.size (.cells #[.int .u8 (y3.toNat : Int), .int .u8 (y2.toNat : Int), .int .u8 (y1.toNat : Int), .int .u8 (y0.toNat : Int)] 5)).grown hg5 (by simp; have := HB.out.size; omega) (fun k hk => (hlt5 k hk).1))
          rw [← bv_append, ← HN.out] at ho5
          have HO5 := Lib.hid ho5
          clear ho5 hg5 hlt5 ix s24 s16 s8 c24 c16 c8 c0 d1
          go_wp2_with fail
          refine ⟨⟨k + 1, by omega, by go_num, ?_, HB5.out⟩, by simp [intOf]; omega⟩
          have q5 := HO5.out
          have e : 4 * k + 4 = 4 * (k + 1) := by omega
          rw [e] at q5
          exact q5
        · have hk8 : k = 8 := by omega
          have d1 : decide ((k : Int) < 8) = false := by simp; omega
          have HY : Hid (wr.ownsRow w.heap.size 5 1 u5 (sumL l).length (bv (sumL l))) := by
            show wr.ownsRow w.heap.size 5 1 u5 (sumL l).length (bv (sumL l))
            have e : R.take k = R := List.take_of_length_le (by rw [L8.out]; omega)
            rw [e] at ho
            rw [HSL.out, stBytes_length, L8.out, ← hk8]
            exact ho
          clear ho hb HO hk8 hlt
          go_wp2
          go_ret
          exact ⟨_, rfl, HY.out, HB.out⟩
theorem sum_any (v : Value) (l : List UInt8) (hl : l.length ≤ 100000) (w : World) (hv : BytesAt w v l) (T : Tab w) :
    Calls Tryz.prog 113 #[v] w fun e w' => ∃ v', e = .returned v' ∧ BytesAt w' v' (sumL l) ∧ Below w.heap.size w w' :=
  (sum_own v l hl w hv T).mono fun _ _ ⟨v', he, ho, hb⟩ => ⟨v', he, BytesAt.of_own ho, hb⟩
end Go.Proofs.YtmnhpkdldeifgaaGreatDoor
