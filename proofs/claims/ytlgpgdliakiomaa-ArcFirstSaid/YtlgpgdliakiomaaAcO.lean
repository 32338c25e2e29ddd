/- What the document's Order of layer 9 answers. -/
import Derived.Test.YtlgpgdliakiomaaAcN
namespace Go.Proofs.Ytlgpgdliakiomaa
open Go.RowKit

theorem own_empty_us (w : World) : (w.alloc (.cells #[] 22)).ownsRow w.heap.size 22 1 (.slice (some ⟨w.heap.size, 0, none⟩) 0 0) 0 [] :=
  World.ownsRow_lit w #[] 0 (Nat.le_refl _) (by simp [maxLen]) rfl

set_option maxRecDepth 100000 in
set_option maxHeartbeats 4000000 in
theorem refOrder_any (A : Option Addr) (n cap a : Nat) (ids : List Nat) (ha : a < 18446744073709551616) (hids : ∀ x ∈ ids, x < 18446744073709551616) (hn : n ≤ 100000) (w : World) (h : UsAt w (.slice A n cap) ids) :
    Calls Try.prog 18 #[.int .u64 (a : Int), .slice A n cap] w fun e w' => ∃ v', e = .returned v' ∧ UsAt w' v' (orderL a ids) ∧ Below w.heap.size w w' := by
  have HZ := Lib.hid h.size
  have H := Lib.hid h
  have HK := Lib.hid (And.intro ha hn)
  have HI := Lib.hid hids
  clear h ha hids hn
  obtain ⟨i0, hi0, hz0, hz1, hz2⟩ := info_parts u64_info
  go_enter Try.func18, Try.ntmps18
  go_wp2_with fail
  go_loopw [5, 6] (fun v i wr => ∃ k : Nat, k ≤ n ∧ i = .int .i64 (k : Int) ∧ wr.ownsRow w.heap.size 22 1 v k (us (orderTo a ids k)) ∧ Below w.heap.size w wr) (fun _ i _ => n - (intOf i).toNat)
  case atStart => exact ⟨0, Nat.zero_le _, rfl, World.ownsRow_nil _ _ _ _, Below.refl _ _⟩
  case round =>
    obtain ⟨k, hk, rfl, ho, hb⟩ := hrel
    obtain ⟨Ao, co, rfl⟩ := own_form ho
    have HO := Lib.hid ho
    have HB := Lib.hid hb
    clear ho hb
    have OL := Lib.hid (orderTo_length a ids k)
    by_cases hlt : k < n
    · have dk : decide ((k : Int) < (n : Int)) = true := by simp; omega
      have hkl : k < ids.length := by have := HZ.out.1; omega
      obtain ⟨x, hx⟩ : ∃ x, ids[k]? = some x := ⟨_, List.getElem?_eq_getElem hkl⟩
      have hxl : x < 18446744073709551616 := HI.out x (List.mem_of_getElem? hx)
      obtain ⟨b, off, rfl, hb, hcell⟩ := H.out.spots (by intro e; rw [e] at hkl; simp at hkl)
      have HB0 := Lib.hid hb
      have CX : Hid (∀ w', Below w.heap.size w w' → w'.cell? ⟨b, off + k, none⟩ = some (.int .u64 (x : Int))) := Lib.hid fun w' hw => (hw.cell (p := ⟨b, off + k, none⟩) hb).trans (hcell k x hx)
      have HN : Hid (orderTo a ids (k + 1) = insR a x (orderTo a ids k)) := Lib.hid (by
        have e : ids.getD k 0 = x := by simp [List.getD, hx]
        rw [orderTo, e])
      have HP : Hid (insR a x (orderTo a ids k) = _) := Lib.hid (insR_pos a x (orderTo a ids k) (orderTo_rising a ids k))
      have HM : Hid (∀ y ∈ orderTo a ids k, y < 18446744073709551616) := Lib.hid fun y hy => HI.out y (List.mem_of_mem_take ((orderTo_mem a ids k (by omega) y).1 hy))
      rw [OL.out] at HP
      obtain ⟨N, hN⟩ : ∃ N, N = orderTo a ids (k + 1) := ⟨_, rfl⟩
      rw [← hN] at HN
      have HNN := Lib.hid hN
      obtain ⟨O, hO⟩ : ∃ O, O = orderTo a ids k := ⟨_, rfl⟩
      rw [← hO] at HO OL HN HP HM
      clear hcell hx hb hN hO
      have D1 := fun w => Lib.hid (refDist_any a x HK.out.1 hxl w)
      obtain ⟨dx, hdx⟩ : ∃ dx, dx = distN a x := ⟨_, rfl⟩
      simp only [← hdx] at D1
      have HDX := Lib.hid hdx
      clear hdx hxl hkl
      obtain ⟨wo, hwo⟩ : ∃ wo, wo = wr := ⟨_, rfl⟩
      subst hwo
      go_wp2_with fail
      go_loopw [7] (fun t wr => ∃ m : Nat, m ≤ k ∧ t = .int .i64 (m : Int) ∧ posN a x O k = posN a x O m ∧ Below wo.heap.size wo wr) (fun t _ => (intOf t).toNat)
      case atStart => exact ⟨k, Nat.le_refl _, rfl, rfl, Below.refl _ _⟩
      case round =>
        obtain ⟨m, hm, rfl, hpos, hb⟩ := hrel
        have HBi := Lib.hid hb
        have HPO := Lib.hid hpos
        clear hb hpos
        have HU : Hid (UsAt wo (.slice Ao k co) O) := Lib.hid (UsAt.of_own (base := w.heap.size) (by rw [OL.out]; exact HO.out))
        by_cases h0 : m = 0
        · have d : decide ((0 : Int) < (m : Int)) = false := by simp; omega
          have d2 : decide (0 < m) = false := by simp; omega
          have HPM : Hid (posN a x O k = m) := Lib.hid (by rw [HPO.out, h0]; rfl)
          clear h0 HPO
          go_wp2_with fail
          go_quiet (fail)
          rename_i nq
          obtain ⟨wz, hwz⟩ : ∃ wz, wz = wr.drewN nq := ⟨_, rfl⟩
          have BZ : Hid (Below wo.heap.size wo wz) := Lib.hid (by rw [hwz]; exact below_drewN HBi.out _)
          rw [← hwz]
          clear hwz HBi
          have HU2 := Lib.hid (HU.out.below BZ.out)
          have jm : (m : Int) ≤ (k : Int) := by omega
          have jc : (k : Int) ≤ (co : Int) := by have := HU.out.size.2; omega
          have jmc : (m : Int) ≤ (co : Int) := by omega
          have HMK := Lib.hid hm
          go_wp2_with (at_builtin; refine wpList_append_us rfl _ _ rfl wz.heap.size _ 0 [] rfl (own_empty_us wz) _ (O.take m) rfl ?c1 ?c2 ?c3 ?_)
          case c1 => exact (HU2.out.below ((Below.refl _ _).alloc (Nat.le_refl _) (.cells #[] 22))).first m HMK.out
          case c2 => have := OL.out; have := HK.out; have := HMK.out; rw [List.length_take]; omega
          case c3 => simp
          intro v1 w1 o1 g1
          have D1 := Lib.hid (((Below.refl wz.heap.size wz).alloc (Nat.le_refl _) (.cells #[] 22)).grown g1 (by simp) (fun k hk => by simp [Value.ownBlock] at hk; omega))
          have O1 : Hid (w1.ownsRow wz.heap.size 22 1 v1 m (us (O.take m))) := Lib.hid (by
            have e : min m O.length = m := by rw [OL.out]; exact Nat.min_eq_left HMK.out
            rw [e] at o1
            exact o1)
          clear o1 g1
          have BW := Lib.hid (HB.out.trans (BZ.out.mono HB.out.size))
          have c1 := CX.out w1 (BW.out.trans (D1.out.mono BW.out.size))
          have zr := D1.out.size
          have ZR := Lib.hid zr
          go_wp2_with (at_builtin; refine wpList_append_own _ rfl (.tmp 42) (.tmp 47) 28 rfl wz.heap.size 22 i0 (.int .u64 0) 1 8 Try.underlying28 hi0 hz0 hz1 hz2 rfl (by decide) _ m _ rfl (O1.out.alloc _) ⟨w1.heap.size, 0, none⟩ 1 1 [.int .u64 (x : Int)] rfl rfl ?c1 ?c2 ?c3 ?c4 ?c5 ?_)
          case c1 => exact cell_one_new _ _ _
          case c2 => intro u hu; simp at hu; subst hu; rfl
          case c3 => have h1 := HMK.out; have h2 := HK.out; simp only [maxLen]; omega
          case c4 => have h1 := HMK.out; have h2 := HK.out; omega
          case c5 => have := ZR.out; simp; omega
          intro v2 w2 o2 g2 _
          have hr := (O1.out.alloc (.cells #[.int .u64 (x : Int)] 22)).lt
          have D2 := Lib.hid ((D1.out.alloc ZR.out (.cells #[.int .u64 (x : Int)] 22)).grown g2 (by have := ZR.out; simp; omega) (fun g hg => (hr g hg).1))
          have O2 : Hid (w2.ownsRow wz.heap.size 22 1 v2 (m + 1) (us (O.take m ++ [x]))) := Lib.hid (by rw [us_append]; exact o2)
          clear o2 g2 hr c1 D1 O1 zr ZR
          by_cases hco : m = co
          · subst hco
            have u2 := (HU2.out.below D2.out).rest m HMK.out
            rw [if_pos rfl, Nat.sub_self] at u2
            have U2 := Lib.hid u2
            clear u2
            go_wp2_with (at_builtin; refine wpList_append_us rfl _ _ rfl wz.heap.size _ (m + 1) _ rfl O2.out _ (O.drop m) rfl U2.out ?d1 ?d2 ?_)
            case d1 => have h1 := OL.out; have h2 := HK.out; have h3 := HMK.out; rw [List.length_drop]; omega
            case d2 => exact D2.out.size
            intro v3 w3 o3 g3
            have O3 : Hid (w3.ownsRow w.heap.size 22 1 v3 (k + 1) (us (orderTo a ids (k + 1)))) := Lib.hid (by
              rw [← HNN.out, HN.out, HP.out, HPM.out]
              have e : m + 1 + (O.length - m) = k + 1 := by rw [OL.out]; have := HMK.out; omega
              rw [e, ← us_append, List.append_assoc] at o3
              exact own_less o3 BW.out.size)
            have D3 := Lib.hid (D2.out.grown g3 D2.out.size (fun k hk => (O2.out.lt k hk).1))
            have B3 := Lib.hid (BW.out.trans (D3.out.mono BW.out.size))
            clear o3 g3 D2 O2 U2 D3
            have tk : IntKind.i64.wrap ((k : Int) + 1) = (k : Int) + 1 := by have := HK.out; rw [IntWalk.i64_in _ (by omega)]
            go_wp2_with fail
            exact ⟨⟨k + 1, by omega, by go_num, O3.out, B3.out⟩, by simp [intOf] <;> omega⟩
          · have j5 : co ≠ m := fun e => hco e.symm
            have u2 := (HU2.out.below D2.out).rest m HMK.out
            rw [if_neg j5] at u2
            have U2 := Lib.hid u2
            clear u2 hco
            go_wp2_with (at_builtin; refine wpList_append_us rfl _ _ rfl wz.heap.size _ (m + 1) _ rfl O2.out _ (O.drop m) rfl U2.out ?d1 ?d2 ?_)
            case d1 => have h1 := OL.out; have h2 := HK.out; have h3 := HMK.out; rw [List.length_drop]; omega
            case d2 => exact D2.out.size
            intro v3 w3 o3 g3
            have O3 : Hid (w3.ownsRow w.heap.size 22 1 v3 (k + 1) (us (orderTo a ids (k + 1)))) := Lib.hid (by
              rw [← HNN.out, HN.out, HP.out, HPM.out]
              have e : m + 1 + (O.length - m) = k + 1 := by rw [OL.out]; have := HMK.out; omega
              rw [e, ← us_append, List.append_assoc] at o3
              exact own_less o3 BW.out.size)
            have D3 := Lib.hid (D2.out.grown g3 D2.out.size (fun k hk => (O2.out.lt k hk).1))
            have B3 := Lib.hid (BW.out.trans (D3.out.mono BW.out.size))
            clear o3 g3 D2 O2 U2 D3
            have tk : IntKind.i64.wrap ((k : Int) + 1) = (k : Int) + 1 := by have := HK.out; rw [IntWalk.i64_in _ (by omega)]
            go_wp2_with fail
            exact ⟨⟨k + 1, by omega, by go_num, O3.out, B3.out⟩, by simp [intOf] <;> omega⟩
        · obtain ⟨j, rfl⟩ : ∃ j, m = j + 1 := ⟨m - 1, by omega⟩
          have d : decide ((0 : Int) < ((j + 1 : Nat) : Int)) = true := by simp <;> omega
          have hjl : j < O.length := by rw [OL.out]; omega
          obtain ⟨y, hy⟩ : ∃ y, O[j]? = some y := ⟨_, List.getElem?_eq_getElem hjl⟩
          have hyl := HM.out y (List.mem_of_getElem? hy)
          obtain ⟨b2, off2, rfl, hb2, hcell2⟩ := HU.out.spots (by intro e; rw [e] at hjl; simp at hjl)
          have cy := (HBi.out.cell (p := ⟨b2, off2 + j, none⟩) hb2).trans (hcell2 j y hy)
          have cx := CX.out wr (HB.out.trans (HBi.out.mono HB.out.size))
          have D2 := fun w => Lib.hid (refDist_any a y HK.out.1 hyl w)
          have eP : posN a x O (j + 1) = if distN a x < distN a y then posN a x O j else j + 1 := by rw [posN, show O.getD j 0 = y by simp [List.getD, hy]]
          rw [← HDX.out] at eP
          obtain ⟨dy, hdy⟩ : ∃ dy, dy = distN a y := ⟨_, rfl⟩
          rw [← hdy] at eP
          simp only [← hdy] at D2
          obtain ⟨q, hq⟩ : ∃ q, q = j + 1 := ⟨_, rfl⟩
          have d5 : decide (0 < q) = true := by simp; omega
          have t1 : IntKind.i64.wrap ((q : Int) - 1) = (j : Int) := by have := HK.out; rw [IntWalk.i64_in _ (by omega)]; omega
          have jj : (j : Int) < (k : Int) := by omega
          have jk : (k : Int) < (n : Int) := by omega
          have CXw := Lib.hid cx
          have CYw := Lib.hid cy
          rw [← hq] at HPO eP d ⊢
          have HQ := Lib.hid (And.intro hq hm)
          clear hdy hy hyl hb2 hcell2 cy cx hq hm
          by_cases hc : dx < dy
          · rw [if_pos hc] at eP
            have HE := Lib.hid eP
            have d3 : decide ((dx : Int) < (dy : Int)) = true := by simp; omega
            have d4 : decide (dx < dy) = true := by simp; omega
            clear eP hc
            go_wp2_with fail
            refine regS_begin (fun w' => Below wo.heap.size wo w' ∧ w'.cell? ⟨b, off + k, none⟩ = some (.int .u64 (x : Int)) ∧ w'.cell? ⟨b2, off2 + j, none⟩ = some (.int .u64 (y : Int))) (by kernel_rfl) ⟨HBi.out.drew, CXw.out, CYw.out⟩ ?_
            have hS : Below wo.heap.size wo wr.drew ∧ wr.drew.cell? ⟨b, off + k, none⟩ = some (.int .u64 (x : Int)) ∧ wr.drew.cell? ⟨b2, off2 + j, none⟩ = some (.int .u64 (y : Int)) := ⟨HBi.out.drew, CXw.out, CYw.out⟩
            obtain ⟨wz, hwz⟩ : ∃ wz, wz = wr.drew := ⟨_, rfl⟩
            rw [← hwz] at hS ⊢
            clear hwz HBi CXw CYw
            refine regS_take (i := 0) (v := ?_) rfl (by kernel_rfl) (by kernel_rfl) (by kernel_rfl) (fun _ _ _ h => h) (by rfl) hS ?hy0 ?_
            case hy0 => intro w' hw'; go_simp; (try with_reducible rfl)
            simp only [Act.put, List.setIfInBounds_toArray, List.set_cons_zero, List.set_cons_succ]
            refine regS_take (i := 1) (v := ?_) rfl (by kernel_rfl) (by kernel_rfl) (by kernel_rfl) (fun _ _ _ h => h) (by rfl) hS ?hy1 ?_
            case hy1 => intro w' hw'; go_simp; (try with_reducible rfl)
            simp only [Act.put, List.setIfInBounds_toArray, List.set_cons_zero, List.set_cons_succ]
            refine regS_take (i := 2) (v := ?_) rfl (by kernel_rfl) (by kernel_rfl) (by kernel_rfl) (fun _ _ _ h => h) (by rfl) hS ?hy2 ?_
            case hy2 => intro w' hw'; go_simp; (try with_reducible rfl)
            simp only [Act.put, List.setIfInBounds_toArray, List.set_cons_zero, List.set_cons_succ]
            refine regS_take (i := 3) (v := ?_) rfl (by kernel_rfl) (by kernel_rfl) (by kernel_rfl) (fun _ _ _ h => h) (by rfl) hS ?hy3 ?_
            case hy3 => intro w' hw'; go_simp; (try with_reducible rfl)
            simp only [Act.put, List.setIfInBounds_toArray, List.set_cons_zero, List.set_cons_succ]
            refine regS_take (i := 4) (v := ?_) rfl (by kernel_rfl) (by kernel_rfl) (by kernel_rfl) (fun _ _ _ h => h) (by rfl) hS ?hy4 ?_
            case hy4 => intro w' hw'; go_simp; (try with_reducible rfl)
            simp only [Act.put, List.setIfInBounds_toArray, List.set_cons_zero, List.set_cons_succ]
            refine regS_take (i := 5) (v := ?_) rfl (by kernel_rfl) (by kernel_rfl) (by kernel_rfl) (fun _ _ _ h => h) (by rfl) hS ?hy5 ?_
            case hy5 => intro w' hw'; go_simp; (try with_reducible rfl)
            simp only [Act.put, List.setIfInBounds_toArray, List.set_cons_zero, List.set_cons_succ]
            refine regS_take (i := 6) (v := ?_) rfl (by kernel_rfl) (by kernel_rfl) (by kernel_rfl) (fun _ _ _ h => h) (by rfl) hS ?hy6 ?_
            case hy6 => intro w' hw'; go_simp; (try with_reducible rfl)
            simp only [Act.put, List.setIfInBounds_toArray, List.set_cons_zero, List.set_cons_succ]
            refine regS_take (i := 7) (v := ?_) rfl (by kernel_rfl) (by kernel_rfl) (by kernel_rfl) (fun _ _ _ h => h) (by rfl) hS ?hy7 ?_
            case hy7 => intro w' hw'; go_simp; (try with_reducible rfl)
            simp only [Act.put, List.setIfInBounds_toArray, List.set_cons_zero, List.set_cons_succ]
            refine regS_take (i := 9) (v := ?_) rfl (by kernel_rfl) (by kernel_rfl) (by kernel_rfl) (fun _ _ _ h => h) (by rfl) hS ?hy9 ?_
            case hy9 => intro w' hw'; go_simp; (try with_reducible rfl)
            simp only [Act.put, List.setIfInBounds_toArray, List.set_cons_zero, List.set_cons_succ]
            refine regS_take (i := 10) (v := ?_) rfl (by kernel_rfl) (by kernel_rfl) (by kernel_rfl) (fun _ _ _ h => h) (by rfl) hS ?hy10 ?_
            case hy10 => intro w' hw'; go_simp; (try with_reducible rfl)
            simp only [Act.put, List.setIfInBounds_toArray, List.set_cons_zero, List.set_cons_succ]
            refine regS_take (i := 11) (v := ?_) rfl (by kernel_rfl) (by kernel_rfl) (by kernel_rfl) (fun _ _ _ h => h) (by rfl) hS ?hy11 ?_
            case hy11 => intro w' hw'; go_simp; (try with_reducible rfl)
            simp only [Act.put, List.setIfInBounds_toArray, List.set_cons_zero, List.set_cons_succ]
            refine regS_take (i := 12) (v := ?_) rfl (by kernel_rfl) (by kernel_rfl) (by kernel_rfl) (fun _ _ _ h => h) (by rfl) hS ?hy12 ?_
            case hy12 => intro w' hw'; go_simp; (try with_reducible rfl)
            simp only [Act.put, List.setIfInBounds_toArray, List.set_cons_zero, List.set_cons_succ]
            refine regS_take (i := 13) (v := ?_) rfl (by kernel_rfl) (by kernel_rfl) (by kernel_rfl) (fun _ _ _ h => h) (by rfl) hS ?hy13 ?_
            case hy13 => intro w' hw'; go_simp; (try with_reducible rfl)
            simp only [Act.put, List.setIfInBounds_toArray, List.set_cons_zero, List.set_cons_succ]
            refine regS_take (i := 14) (v := ?_) rfl (by kernel_rfl) (by kernel_rfl) (by kernel_rfl) (fun _ _ _ h => h) (by rfl) hS ?hy14 ?_
            case hy14 => intro w' hw'; go_simp; (try with_reducible rfl)
            simp only [Act.put, List.setIfInBounds_toArray, List.set_cons_zero, List.set_cons_succ]
            refine regS_do (i := 8) rfl (by kernel_rfl) (fun K' hK => ?_)
            go_simp
            refine (D1 wz).out.mono ?_
            rintro e w6 ⟨rfl, rfl⟩
            refine hK.out _ _ hS ?_
            clear hK K'
            refine regS_do (i := 15) rfl (by kernel_rfl) (fun K' hK => ?_)
            go_simp
            refine (D2 wz).out.mono ?_
            rintro e w6 ⟨rfl, rfl⟩
            refine hK.out _ _ hS ?_
            clear hK K'
            refine regS_take (i := 16) (v := ?_) rfl (by kernel_rfl) (by kernel_rfl) (by kernel_rfl) (fun _ _ _ h => h) (by rfl) hS ?hy16 ?_
            case hy16 => intro w' hw'; go_simp; (try with_reducible rfl)
            simp only [Act.put, List.setIfInBounds_toArray, List.set_cons_zero, List.set_cons_succ]
            refine regS_take (i := 17) (v := ?_) rfl (by kernel_rfl) (by kernel_rfl) (by kernel_rfl) (fun _ _ _ h => h) (by rfl) hS ?hy17 ?_
            case hy17 => intro w' hw'; go_simp; (try with_reducible rfl)
            simp only [Act.put, List.setIfInBounds_toArray, List.set_cons_zero, List.set_cons_succ]
            refine regS_end (by kernel_rfl) ?_
            have BZ := Lib.hid hS.1
            clear hS D1 D2
            go_wp2
            exact ⟨⟨j, by have := HQ.out; omega, rfl, by rw [HPO.out, HE.out], BZ.out⟩, by have := HQ.out; simp [intOf]; omega⟩
          · rw [if_neg hc] at eP
            have HPM : Hid (posN a x O k = q) := Lib.hid (by rw [HPO.out, eP, HQ.out.1])
            have hm : q ≤ k := by have := HQ.out; omega
            have d3 : decide ((dx : Int) < (dy : Int)) = false := by simp; omega
            have d4 : decide (dx < dy) = false := by simp; omega
            clear eP hc HPO
            go_wp2_with fail
            refine regS_begin (fun w' => Below wo.heap.size wo w' ∧ w'.cell? ⟨b, off + k, none⟩ = some (.int .u64 (x : Int)) ∧ w'.cell? ⟨b2, off2 + j, none⟩ = some (.int .u64 (y : Int))) (by kernel_rfl) ⟨HBi.out.drew, CXw.out, CYw.out⟩ ?_
            have hS : Below wo.heap.size wo wr.drew ∧ wr.drew.cell? ⟨b, off + k, none⟩ = some (.int .u64 (x : Int)) ∧ wr.drew.cell? ⟨b2, off2 + j, none⟩ = some (.int .u64 (y : Int)) := ⟨HBi.out.drew, CXw.out, CYw.out⟩
            obtain ⟨wz, hwz⟩ : ∃ wz, wz = wr.drew := ⟨_, rfl⟩
            rw [← hwz] at hS ⊢
            clear hwz HBi CXw CYw
            refine regS_take (i := 0) (v := ?_) rfl (by kernel_rfl) (by kernel_rfl) (by kernel_rfl) (fun _ _ _ h => h) (by rfl) hS ?hy0 ?_
            case hy0 => intro w' hw'; go_simp; (try with_reducible rfl)
            simp only [Act.put, List.setIfInBounds_toArray, List.set_cons_zero, List.set_cons_succ]
            refine regS_take (i := 1) (v := ?_) rfl (by kernel_rfl) (by kernel_rfl) (by kernel_rfl) (fun _ _ _ h => h) (by rfl) hS ?hy1 ?_
            case hy1 => intro w' hw'; go_simp; (try with_reducible rfl)
            simp only [Act.put, List.setIfInBounds_toArray, List.set_cons_zero, List.set_cons_succ]
            refine regS_take (i := 2) (v := ?_) rfl (by kernel_rfl) (by kernel_rfl) (by kernel_rfl) (fun _ _ _ h => h) (by rfl) hS ?hy2 ?_
            case hy2 => intro w' hw'; go_simp; (try with_reducible rfl)
            simp only [Act.put, List.setIfInBounds_toArray, List.set_cons_zero, List.set_cons_succ]
            refine regS_take (i := 3) (v := ?_) rfl (by kernel_rfl) (by kernel_rfl) (by kernel_rfl) (fun _ _ _ h => h) (by rfl) hS ?hy3 ?_
            case hy3 => intro w' hw'; go_simp; (try with_reducible rfl)
            simp only [Act.put, List.setIfInBounds_toArray, List.set_cons_zero, List.set_cons_succ]
            refine regS_take (i := 4) (v := ?_) rfl (by kernel_rfl) (by kernel_rfl) (by kernel_rfl) (fun _ _ _ h => h) (by rfl) hS ?hy4 ?_
            case hy4 => intro w' hw'; go_simp; (try with_reducible rfl)
            simp only [Act.put, List.setIfInBounds_toArray, List.set_cons_zero, List.set_cons_succ]
            refine regS_take (i := 5) (v := ?_) rfl (by kernel_rfl) (by kernel_rfl) (by kernel_rfl) (fun _ _ _ h => h) (by rfl) hS ?hy5 ?_
            case hy5 => intro w' hw'; go_simp; (try with_reducible rfl)
            simp only [Act.put, List.setIfInBounds_toArray, List.set_cons_zero, List.set_cons_succ]
            refine regS_take (i := 6) (v := ?_) rfl (by kernel_rfl) (by kernel_rfl) (by kernel_rfl) (fun _ _ _ h => h) (by rfl) hS ?hy6 ?_
            case hy6 => intro w' hw'; go_simp; (try with_reducible rfl)
            simp only [Act.put, List.setIfInBounds_toArray, List.set_cons_zero, List.set_cons_succ]
            refine regS_take (i := 7) (v := ?_) rfl (by kernel_rfl) (by kernel_rfl) (by kernel_rfl) (fun _ _ _ h => h) (by rfl) hS ?hy7 ?_
            case hy7 => intro w' hw'; go_simp; (try with_reducible rfl)
            simp only [Act.put, List.setIfInBounds_toArray, List.set_cons_zero, List.set_cons_succ]
            refine regS_take (i := 9) (v := ?_) rfl (by kernel_rfl) (by kernel_rfl) (by kernel_rfl) (fun _ _ _ h => h) (by rfl) hS ?hy9 ?_
            case hy9 => intro w' hw'; go_simp; (try with_reducible rfl)
            simp only [Act.put, List.setIfInBounds_toArray, List.set_cons_zero, List.set_cons_succ]
            refine regS_take (i := 10) (v := ?_) rfl (by kernel_rfl) (by kernel_rfl) (by kernel_rfl) (fun _ _ _ h => h) (by rfl) hS ?hy10 ?_
            case hy10 => intro w' hw'; go_simp; (try with_reducible rfl)
            simp only [Act.put, List.setIfInBounds_toArray, List.set_cons_zero, List.set_cons_succ]
            refine regS_take (i := 11) (v := ?_) rfl (by kernel_rfl) (by kernel_rfl) (by kernel_rfl) (fun _ _ _ h => h) (by rfl) hS ?hy11 ?_
            case hy11 => intro w' hw'; go_simp; (try with_reducible rfl)
            simp only [Act.put, List.setIfInBounds_toArray, List.set_cons_zero, List.set_cons_succ]
            refine regS_take (i := 12) (v := ?_) rfl (by kernel_rfl) (by kernel_rfl) (by kernel_rfl) (fun _ _ _ h => h) (by rfl) hS ?hy12 ?_
            case hy12 => intro w' hw'; go_simp; (try with_reducible rfl)
            simp only [Act.put, List.setIfInBounds_toArray, List.set_cons_zero, List.set_cons_succ]
            refine regS_take (i := 13) (v := ?_) rfl (by kernel_rfl) (by kernel_rfl) (by kernel_rfl) (fun _ _ _ h => h) (by rfl) hS ?hy13 ?_
            case hy13 => intro w' hw'; go_simp; (try with_reducible rfl)
            simp only [Act.put, List.setIfInBounds_toArray, List.set_cons_zero, List.set_cons_succ]
            refine regS_take (i := 14) (v := ?_) rfl (by kernel_rfl) (by kernel_rfl) (by kernel_rfl) (fun _ _ _ h => h) (by rfl) hS ?hy14 ?_
            case hy14 => intro w' hw'; go_simp; (try with_reducible rfl)
            simp only [Act.put, List.setIfInBounds_toArray, List.set_cons_zero, List.set_cons_succ]
            refine regS_do (i := 8) rfl (by kernel_rfl) (fun K' hK => ?_)
            go_simp
            refine (D1 wz).out.mono ?_
            rintro e w6 ⟨rfl, rfl⟩
            refine hK.out _ _ hS ?_
            clear hK K'
            refine regS_do (i := 15) rfl (by kernel_rfl) (fun K' hK => ?_)
            go_simp
            refine (D2 wz).out.mono ?_
            rintro e w6 ⟨rfl, rfl⟩
            refine hK.out _ _ hS ?_
            clear hK K'
            refine regS_take (i := 16) (v := ?_) rfl (by kernel_rfl) (by kernel_rfl) (by kernel_rfl) (fun _ _ _ h => h) (by rfl) hS ?hy16 ?_
            case hy16 => intro w' hw'; go_simp; (try with_reducible rfl)
            simp only [Act.put, List.setIfInBounds_toArray, List.set_cons_zero, List.set_cons_succ]
            refine regS_take (i := 17) (v := ?_) rfl (by kernel_rfl) (by kernel_rfl) (by kernel_rfl) (fun _ _ _ h => h) (by rfl) hS ?hy17 ?_
            case hy17 => intro w' hw'; go_simp; (try with_reducible rfl)
            simp only [Act.put, List.setIfInBounds_toArray, List.set_cons_zero, List.set_cons_succ]
            refine regS_end (by kernel_rfl) ?_
            have BZ := Lib.hid hS.1
            clear hS D1 D2
            have HU2 := Lib.hid (HU.out.below BZ.out)
            have jm : (q : Int) ≤ (k : Int) := by omega
            have jc : (k : Int) ≤ (co : Int) := by have := HU.out.size.2; omega
            have jmc : (q : Int) ≤ (co : Int) := by omega
            have HQM := Lib.hid hm
            go_wp2_with (at_builtin; refine wpList_append_us rfl _ _ rfl wz.heap.size _ 0 [] rfl (own_empty_us wz) _ (O.take q) rfl ?c1 ?c2 ?c3 ?_)
            case c1 => exact (HU2.out.below ((Below.refl _ _).alloc (Nat.le_refl _) (.cells #[] 22))).first q HQM.out
            case c2 => have := OL.out; have := HK.out; have := HQM.out; rw [List.length_take]; omega
            case c3 => simp
            intro v1 w1 o1 g1
            have D1 := Lib.hid (((Below.refl wz.heap.size wz).alloc (Nat.le_refl _) (.cells #[] 22)).grown g1 (by simp) (fun k hk => by simp [Value.ownBlock] at hk; omega))
            have O1 : Hid (w1.ownsRow wz.heap.size 22 1 v1 q (us (O.take q))) := Lib.hid (by
              have e : min q O.length = q := by rw [OL.out]; exact Nat.min_eq_left HQM.out
              rw [e] at o1
              exact o1)
            clear o1 g1
            have BW := Lib.hid (HB.out.trans (BZ.out.mono HB.out.size))
            have c1 := CX.out w1 (BW.out.trans (D1.out.mono BW.out.size))
            have zr := D1.out.size
            have ZR := Lib.hid zr
            go_wp2_with (at_builtin; refine wpList_append_own _ rfl (.tmp 42) (.tmp 47) 28 rfl wz.heap.size 22 i0 (.int .u64 0) 1 8 Try.underlying28 hi0 hz0 hz1 hz2 rfl (by decide) _ q _ rfl (O1.out.alloc _) ⟨w1.heap.size, 0, none⟩ 1 1 [.int .u64 (x : Int)] rfl rfl ?c1 ?c2 ?c3 ?c4 ?c5 ?_)
            case c1 => exact cell_one_new _ _ _
            case c2 => intro u hu; simp at hu; subst hu; rfl
            case c3 => have h1 := HQM.out; have h2 := HK.out; simp only [maxLen]; omega
            case c4 => have h1 := HQM.out; have h2 := HK.out; omega
            case c5 => have := ZR.out; simp; omega
            intro v2 w2 o2 g2 _
            have hr := (O1.out.alloc (.cells #[.int .u64 (x : Int)] 22)).lt
            have D2 := Lib.hid ((D1.out.alloc ZR.out (.cells #[.int .u64 (x : Int)] 22)).grown g2 (by have := ZR.out; simp; omega) (fun g hg => (hr g hg).1))
            have O2 : Hid (w2.ownsRow wz.heap.size 22 1 v2 (q + 1) (us (O.take q ++ [x]))) := Lib.hid (by rw [us_append]; exact o2)
            clear o2 g2 hr c1 D1 O1 zr ZR
            by_cases hco : q = co
            · subst hco
              have u2 := (HU2.out.below D2.out).rest q HQM.out
              rw [if_pos rfl, Nat.sub_self] at u2
              have U2 := Lib.hid u2
              clear u2
              go_wp2_with (at_builtin; refine wpList_append_us rfl _ _ rfl wz.heap.size _ (q + 1) _ rfl O2.out _ (O.drop q) rfl U2.out ?d1 ?d2 ?_)
              case d1 => have h1 := OL.out; have h2 := HK.out; have h3 := HQM.out; rw [List.length_drop]; omega
              case d2 => exact D2.out.size
              intro v3 w3 o3 g3
              have O3 : Hid (w3.ownsRow w.heap.size 22 1 v3 (k + 1) (us (orderTo a ids (k + 1)))) := Lib.hid (by
                rw [← HNN.out, HN.out, HP.out, HPM.out]
                have e : q + 1 + (O.length - q) = k + 1 := by rw [OL.out]; have := HQM.out; omega
                rw [e, ← us_append, List.append_assoc] at o3
                exact own_less o3 BW.out.size)
              have D3 := Lib.hid (D2.out.grown g3 D2.out.size (fun k hk => (O2.out.lt k hk).1))
              have B3 := Lib.hid (BW.out.trans (D3.out.mono BW.out.size))
              clear o3 g3 D2 O2 U2 D3
              have tk : IntKind.i64.wrap ((k : Int) + 1) = (k : Int) + 1 := by have := HK.out; rw [IntWalk.i64_in _ (by omega)]
              go_wp2_with fail
              exact ⟨⟨k + 1, by omega, by go_num, O3.out, B3.out⟩, by simp [intOf] <;> omega⟩
            · have j5 : co ≠ q := fun e => hco e.symm
              have u2 := (HU2.out.below D2.out).rest q HQM.out
              rw [if_neg j5, Option.map_some, show (⟨b2, off2, none⟩ : Addr).add q = ⟨b2, off2 + q, none⟩ by unfold Addr.add; split <;> simp_all] at u2
              have U2 := Lib.hid u2
              clear u2 hco
              go_wp2_with (at_builtin; refine wpList_append_us rfl _ _ rfl wz.heap.size _ (q + 1) _ rfl O2.out _ (O.drop q) rfl U2.out ?d1 ?d2 ?_)
              case d1 => have h1 := OL.out; have h2 := HK.out; have h3 := HQM.out; rw [List.length_drop]; omega
              case d2 => exact D2.out.size
              intro v3 w3 o3 g3
              have O3 : Hid (w3.ownsRow w.heap.size 22 1 v3 (k + 1) (us (orderTo a ids (k + 1)))) := Lib.hid (by
                rw [← HNN.out, HN.out, HP.out, HPM.out]
                have e : q + 1 + (O.length - q) = k + 1 := by rw [OL.out]; have := HQM.out; omega
                rw [e, ← us_append, List.append_assoc] at o3
                exact own_less o3 BW.out.size)
              have D3 := Lib.hid (D2.out.grown g3 D2.out.size (fun k hk => (O2.out.lt k hk).1))
              have B3 := Lib.hid (BW.out.trans (D3.out.mono BW.out.size))
              clear o3 g3 D2 O2 U2 D3
              have tk : IntKind.i64.wrap ((k : Int) + 1) = (k : Int) + 1 := by have := HK.out; rw [IntWalk.i64_in _ (by omega)]
              go_wp2_with fail
              exact ⟨⟨k + 1, by omega, by go_num, O3.out, B3.out⟩, by simp [intOf] <;> omega⟩
    · obtain rfl : k = n := by omega
      have dk : decide ((k : Int) < (k : Int)) = false := by simp
      have Y : Hid (UsAt wr (.slice Ao k co) (orderL a ids)) := Lib.hid (by
        have e : orderL a ids = orderTo a ids k := by rw [orderL, HZ.out.1]
        rw [e]
        exact UsAt.of_own (base := w.heap.size) (by rw [OL.out]; exact HO.out))
      clear HO
      go_wp2
      go_ret
      exact ⟨_, rfl, Y.out, HB.out⟩
end Go.Proofs.Ytlgpgdliakiomaa
