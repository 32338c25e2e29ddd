/- Package keys, as landed: Roots, Epoch. -/
import Derived.Test.YtieidemmajdpmaaDoorGl
import Derived.Test.YtieidemmajdpmaaDoorGs
namespace Go.Proofs.YtieidemmajdpmaaDoor
set_option maxRecDepth 100000
open Go.RowKit

/-- Rows of structs that fill a block from its beginning. -/
theorem rows_flat {w : World} {g k cap : Nat} {t : TypeId} {L : List (List Value)} (h : Whole w g t L.flatten.toArray) (hk : ∀ c ∈ L, c.length = k) (hcap : L.length ≤ cap) : RowsAt w (.slice (some ⟨g, 0, none⟩) L.length cap) k L :=
  ⟨_, cap, rfl, hcap, fun _ => ⟨_, rfl, fun i c hi j u hj => by
    have ha : (⟨g, 0, none⟩ : Addr).add (i * k + j) = ⟨g, i * k + j, none⟩ := by unfold Addr.add; split <;> simp_all
    rw [ha]
    exact (h.at_ (i * k + j)).trans (by simpa using flat_at hk i c hi j u hj)⟩⟩
/-- A slice of two entries. -/
theorem build_two (x y : Ent) : filled 6 2 Ent.zero.enc.toArray [(0, x.val), (1, y.val)] = some [x.enc, y.enc].flatten.toArray := by kernel_rfl
theorem wp_two_ent {o : Oper} {a : Act} {w : World} {K : Act → World → Prop} {Q : Exit → Act → World → Prop} (y z : Operand) (ho : o.op = .buildSlice 46 2 #[(0, y), (1, z)]) (b c : Ent) (hy : a.eval y = b.val) (hz : a.eval z = c.val)
    (h : ∀ w', Below w.heap.size w w' → RowsAt w' (.slice (some ⟨w.heap.size, 0, none⟩) 2 2) 6 [b.enc, c.enc] → K (a.put o.dst (.slice (some ⟨w.heap.size, 0, none⟩) 2 2)) w') : o.wp Tryd.prog a w K Q := by
  obtain ⟨i, h1, h2, h3⟩ := Ent.info
  have hr := run_buildSlice (P := Tryd.prog) (w := w) Tryd.underlying46 h1 h2 2 (by rw [h3]; decide) (by rw [h3]; decide) #[(0, b.val), (1, c.val)] [b.enc, c.enc].flatten.toArray (by rw [h3]; exact build_two b c)
  have q := h (w.alloc (.cells [b.enc, c.enc].flatten.toArray 24)) ((Below.refl _ _).alloc (Nat.le_refl _) _) (rows_flat (L := [b.enc, c.enc]) (Whole.new w 24 [b.enc, c.enc].flatten.toArray) (fun r hr => by
    simp only [List.mem_cons, List.not_mem_nil, or_false] at hr
    rcases hr with rfl | rfl <;> rfl) (Nat.le_refl _))
  unfold Oper.wp execOp
  simp only [ho, List.map_toArray, List.map_cons, List.map_nil, hy, hz, hr, Sem.run_bind, Sem.run_pure, Result.andThen_ok, Oper.upon]
  exact q

/-- Both halves of 64 bytes. -/
theorem halves {w : World} {v : Value} {l : List UInt8} (h : BytesAt w v l) (hl : l.length = 64) : ∃ (ad : Addr) (cap : Nat), v = .slice (some ad) 64 cap ∧ 64 ≤ cap ∧ BytesAt w (.slice (some ad) 32 cap) (l.take 32) ∧ BytesAt w (.slice (some ⟨ad.block, ad.off + 32, none⟩) 32 (cap - 32)) (l.drop 32) := by
  obtain ⟨A, cap, rfl, hcap, -⟩ := id h
  rw [hl] at h hcap
  obtain ⟨ad, rfl, -⟩ := h.lt (by intro e; rw [e] at hl; simp at hl)
  have h2 := h.from 32 (by decide)
  rw [if_neg (show ¬ cap = 32 by omega), Option.map_some] at h2
  have e : ad.add 32 = ⟨ad.block, ad.off + 32, none⟩ := by simp [Addr.add]
  rw [e] at h2
  exact ⟨ad, cap, by rw [hl], hcap, h.first 32 (by decide), h2⟩

set_option maxRecDepth 100000 in
set_option maxHeartbeats 2000000 in
theorem keRoots_any (k : List UInt8) (f s : Nat) (a b : Ent) (w : World) (hk : k.length ≤ 4900) (hn : a.name.length ≤ 1000) (ht : a.tag.length ≤ 1000) (kn : b.name.length ≤ 1000) (kt : b.tag.length ≤ 1000) (T : Tab w) :
    Calls Tryd.prog 7 #[.string ⟨k.toArray⟩, .int .u64 (f : Int), .int .u64 (s : Int), a.val, b.val] w fun e w' => e = .returned (.tuple #[.string ⟨(rootT k f s a b).toArray⟩, .string ⟨(rootB k f s a b).toArray⟩]) ∧ Below w.heap.size w w' := by
  have T0 := Lib.hid T
  have HK := Lib.hid hk
  have CS := fun w => Lib.hid (keSalt_any f s w)
  have CI := fun A n cap w h => Lib.hid (keInfo_any A n cap [a, b] w h (by simp) (fun x hx => by
    simp only [List.mem_cons, List.not_mem_nil, or_false] at hx
    rcases hx with rfl | rfl
    · exact ⟨hn, ht⟩
    · exact ⟨kn, kt⟩))
  have LS := Lib.hid (show (saltL f s).length ≤ 5000 by rw [saltL_length]; decide)
  have LI := Lib.hid (Nat.le_trans (infoL_two hn ht kn kt) (by decide : 4060 ≤ 4800))
  have GL := Lib.hid (bothL_length k f s a b)
  have ET : Hid ((bothL k f s a b).take 32 = rootT k f s a b) := Lib.hid rfl
  have EB : Hid ((bothL k f s a b).drop 32 = rootB k f s a b) := Lib.hid rfl
  have CK := fun v0 v1 v2 w h0 h1 h2 T => Lib.hid (show Calls Tryd.prog 13 #[v0, v1, v2, .int .i64 64] w fun e w' => ∃ v', e = .returned (.tuple #[v', .int .i64 0]) ∧ BytesAt w' v' (bothL k f s a b) ∧ Below w.heap.size w w' from
    derKey_any v0 v1 v2 (saltL f s) k (infoL [a, b]) 64 w h0 h1 h2 LS.out HK.out LI.out (by decide) T)
  generalize saltL f s = S at *
  generalize infoL [a, b] = I at *
  generalize bothL k f s a b = G at *
  generalize rootT k f s a b = RT at *
  generalize rootB k f s a b = RB at *
  clear T hk hn ht kn kt LS LI HK
  go_enter Tryd.func7, Tryd.ntmps7
  go_wp2_with (refine wpList_box_row rfl 24 _ rfl a.enc.toArray (by with_unfolding_all exact rfl) ?_)
  intro w1 b1 x1 z1
  obtain ⟨gX, hgX⟩ : ∃ g, g = w.heap.size := ⟨_, rfl⟩
  have M_X := Lib.hid (show w.heap.size ≤ gX from by rw [hgX]; exact Nat.le_refl _)
  have B1 := Lib.hid b1
  rw [← hgX] at x1 ⊢
  have X1 : Hid (Ent.At w1 gX a) := Lib.hid x1
  clear b1 x1 z1 hgX 
  go_wp2_with (first | (with_reducible refine wpList_load_whole Ent.isRec rfl _ rfl gX (by with_unfolding_all exact rfl) _ _ (Ent.len _) X1.out ?_) | (refine wpList_box_row rfl 24 _ rfl b.enc.toArray (by with_unfolding_all exact rfl) ?_))
  intro w2 b2 x2 z2
  obtain ⟨gY, hgY⟩ : ∃ g, g = w1.heap.size := ⟨_, rfl⟩
  have N_X_Y := Lib.hid (show gX < gY from by rw [hgY]; exact X1.out.lt)
  have M_Y := Lib.hid (show w.heap.size ≤ gY from by rw [hgY]; exact B1.out.size)
  have X2 : Hid (Ent.At w2 gX a) := Lib.hid (Whole.below X1.out b2 X1.out.lt)
  have B2 := Lib.hid (B1.out.trans (b2.mono B1.out.size))
  rw [← hgY] at x2 ⊢
  have Y2 : Hid (Ent.At w2 gY b) := Lib.hid x2
  clear b2 x2 z2 hgY X1 B1
  go_wp2_with (first | (with_reducible refine wpList_load_whole Ent.isRec rfl _ rfl gX (by with_unfolding_all exact rfl) _ _ (Ent.len _) X2.out ?_) | (with_reducible refine wpList_load_whole Ent.isRec rfl _ rfl gY (by with_unfolding_all exact rfl) _ _ (Ent.len _) Y2.out ?_))
  refine regS_begin (From w2) (by kernel_rfl) (Below.refl _ _).drew ?_
  have b3 : Below w2.heap.size w2 w2.drew := (Below.refl _ _).drew
  generalize w2.drew = w3 at b3 ⊢
  have X3 : Hid (Ent.At w3 gX a) := Lib.hid (Whole.below X2.out b3 X2.out.lt)
  have Y3 : Hid (Ent.At w3 gY b) := Lib.hid (Whole.below Y2.out b3 Y2.out.lt)
  have B3 := Lib.hid (B2.out.trans (b3.mono B2.out.size))
  have HS3 : Hid (From w2 w3) := Lib.hid b3
  clear b3
  refine regS_take (i := 0) (v := ?_) rfl (by kernel_rfl) (by kernel_rfl) (by kernel_rfl) (fun _ _ _ h => h) (by rfl) HS3.out ?hy0 ?_
  case hy0 => intro w' hw'; go_simp; (try with_reducible rfl)
  simp only [Act.put, List.setIfInBounds_toArray, List.set_cons_zero, List.set_cons_succ]
  refine regS_take (i := 1) (v := ?_) rfl (by kernel_rfl) (by kernel_rfl) (by kernel_rfl) (fun _ _ _ h => h) (by rfl) HS3.out ?hy1 ?_
  case hy1 => intro w' hw'; go_simp; (try with_reducible rfl)
  simp only [Act.put, List.setIfInBounds_toArray, List.set_cons_zero, List.set_cons_succ]
  refine regS_take (i := 3) (v := ?_) rfl (by kernel_rfl) (by kernel_rfl) (by kernel_rfl) (fun _ _ _ h => h) (by rfl) HS3.out ?hy3 ?_
  case hy3 => intro w' hw'; go_simp; (try with_reducible rfl)
  simp only [Act.put, List.setIfInBounds_toArray, List.set_cons_zero, List.set_cons_succ]
  refine regS_take (i := 5) (v := Ent.val (a)) rfl (by kernel_rfl) (by kernel_rfl) (by kernel_rfl) (fun _ _ _ h => h) (by rfl) HS3.out ?hy5 ?_
  case hy5 => intro w' hw'; exact exec_load_whole Ent.isRec _ rfl gX rfl _ _ (Ent.len _) w' (Whole.below X2.out hw' X2.out.lt)
  simp only [Act.put, List.setIfInBounds_toArray, List.set_cons_zero, List.set_cons_succ]
  refine regS_take (i := 6) (v := Ent.val (b)) rfl (by kernel_rfl) (by kernel_rfl) (by kernel_rfl) (fun _ _ _ h => h) (by rfl) HS3.out ?hy6 ?_
  case hy6 => intro w' hw'; exact exec_load_whole Ent.isRec _ rfl gY rfl _ _ (Ent.len _) w' (Whole.below Y2.out hw' Y2.out.lt)
  simp only [Act.put, List.setIfInBounds_toArray, List.set_cons_zero, List.set_cons_succ]
  refine regS_three (i := 2) (j := 4) (k := 7) rfl rfl rfl (by kernel_rfl) (fun K' hK => ?_) (fun K' hK => ?_) (fun K' hK => ?_)
  · go_simp
    refine ((CS w3).out).mono ?_
    rintro e4 w4 ⟨v17, rfl, y17, b4⟩
    have X4 : Hid (Ent.At w4 gX a) := Lib.hid (Whole.below X3.out b4 X3.out.lt)
    have Y4 : Hid (Ent.At w4 gY b) := Lib.hid (Whole.below Y3.out b4 Y3.out.lt)
    have B4 := Lib.hid (B3.out.trans (b4.mono B3.out.size))
    have HS4 : Hid (From w2 w4) := Lib.hid (HS3.out.trans (b4.mono HS3.out.size))
    clear b4
    have S4 : Hid (BytesAt w4 v17 S) := Lib.hid y17
    refine hK.out _ _ HS4.out ?_
    clear hK K' X3 Y3 B3 HS3 y17
    refine regS_two (i := 4) (j := 7) rfl rfl (by kernel_rfl) (fun K' hK => ?_) (fun K' hK => ?_)
    · obtain ⟨vP, w5, r5, y5, b5⟩ := conv_str w4 ⟨(k).toArray⟩
      go_simp
      have X5 : Hid (Ent.At w5 gX a) := Lib.hid (Whole.below X4.out b5 X4.out.lt)
      have Y5 : Hid (Ent.At w5 gY b) := Lib.hid (Whole.below Y4.out b5 Y4.out.lt)
      have S5 : Hid (BytesAt w5 v17 S) := Lib.hid (S4.out.below b5)
      have B5 := Lib.hid (B4.out.trans (b5.mono B4.out.size))
      have HS5 : Hid (From w2 w5) := Lib.hid (HS4.out.trans (b5.mono HS4.out.size))
      clear b5
      have P5 : Hid (BytesAt w5 vP (k)) := Lib.hid (by simpa using y5)
      clear y5 r5
      refine hK.out _ _ HS5.out ?_
      clear hK K' X4 Y4 S4 B4 HS4
      refine regS_do (i := 7) rfl (by kernel_rfl) (fun K' hK => ?_)
      refine wp_two_ent _ _ rfl a b (by with_unfolding_all exact rfl) (by with_unfolding_all exact rfl) ?_
      intro w6 b6 x6
      obtain ⟨gL, hgL⟩ : ∃ g, g = w5.heap.size := ⟨_, rfl⟩
      have X6 : Hid (Ent.At w6 gX a) := Lib.hid (Whole.below X5.out b6 X5.out.lt)
      have Y6 : Hid (Ent.At w6 gY b) := Lib.hid (Whole.below Y5.out b6 Y5.out.lt)
      have S6 : Hid (BytesAt w6 v17 S) := Lib.hid (S5.out.below b6)
      have P6 : Hid (BytesAt w6 vP (k)) := Lib.hid (P5.out.below b6)
      have B6 := Lib.hid (B5.out.trans (b6.mono B5.out.size))
      have HS6 : Hid (From w2 w6) := Lib.hid (HS5.out.trans (b6.mono HS5.out.size))
      clear b6
      rw [← hgL] at x6 ⊢
      have L6 : Hid (RowsAt w6 (.slice (some ⟨gL, 0, none⟩) 2 2) 6 [a.enc, b.enc]) := Lib.hid x6
      clear x6 hgL
      refine hK.out _ _ HS6.out ?_
      clear hK K' X5 Y5 S5 P5 B5 HS5
      refine regS_do (i := 8) rfl (by kernel_rfl) (fun K' hK => ?_)
      go_simp
      refine ((CI _ 2 2 w6 L6.out).out).mono ?_
      rintro e7 w7 ⟨v23, rfl, y23, b7⟩
      have X7 : Hid (Ent.At w7 gX a) := Lib.hid (Whole.below X6.out b7 X6.out.lt)
      have Y7 : Hid (Ent.At w7 gY b) := Lib.hid (Whole.below Y6.out b7 Y6.out.lt)
      have S7 : Hid (BytesAt w7 v17 S) := Lib.hid (S6.out.below b7)
      have P7 : Hid (BytesAt w7 vP (k)) := Lib.hid (P6.out.below b7)
      have L7 : Hid (RowsAt w7 (.slice (some ⟨gL, 0, none⟩) 2 2) 6 [a.enc, b.enc]) := Lib.hid (L6.out.below b7)
      have B7 := Lib.hid (B6.out.trans (b7.mono B6.out.size))
      have HS7 : Hid (From w2 w7) := Lib.hid (HS6.out.trans (b7.mono HS6.out.size))
      clear b7
      have I7 : Hid (BytesAt w7 v23 I) := Lib.hid y23
      refine hK.out _ _ HS7.out ?_
      clear hK K' X6 Y6 S6 P6 L6 B6 HS6 y23
      refine regS_do (i := 9) rfl (by kernel_rfl) (fun K' hK => ?_)
      go_simp
      refine ((CK v17 vP v23 w7 S7.out P7.out I7.out (T0.out.below B7.out T0.out.pos)).out).mono ?_
      rintro e8 w8 ⟨v24, rfl, y24, b8⟩
      have X8 : Hid (Ent.At w8 gX a) := Lib.hid (Whole.below X7.out b8 X7.out.lt)
      have Y8 : Hid (Ent.At w8 gY b) := Lib.hid (Whole.below Y7.out b8 Y7.out.lt)
      have S8 : Hid (BytesAt w8 v17 S) := Lib.hid (S7.out.below b8)
      have P8 : Hid (BytesAt w8 vP (k)) := Lib.hid (P7.out.below b8)
      have L8 : Hid (RowsAt w8 (.slice (some ⟨gL, 0, none⟩) 2 2) 6 [a.enc, b.enc]) := Lib.hid (L7.out.below b8)
      have I8 : Hid (BytesAt w8 v23 I) := Lib.hid (I7.out.below b8)
      have B8 := Lib.hid (B7.out.trans (b8.mono B7.out.size))
      have HS8 : Hid (From w2 w8) := Lib.hid (HS7.out.trans (b8.mono HS7.out.size))
      clear b8
      have K8 : Hid (BytesAt w8 v24 G) := Lib.hid y24
      refine hK.out _ _ HS8.out ?_
      clear hK K' X7 Y7 S7 P7 L7 I7 B7 HS7 y24
      refine regS_take (i := 10) (v := ?_) rfl (by kernel_rfl) (by kernel_rfl) (by kernel_rfl) (fun _ _ _ h => h) (by rfl) HS8.out ?hy10 ?_
      case hy10 => intro w' hw'; go_simp; (try with_reducible rfl)
      simp only [Act.put, List.setIfInBounds_toArray, List.set_cons_zero, List.set_cons_succ]
      refine regS_take (i := 11) (v := ?_) rfl (by kernel_rfl) (by kernel_rfl) (by kernel_rfl) (fun _ _ _ h => h) (by rfl) HS8.out ?hy11 ?_
      case hy11 => intro w' hw'; go_simp; (try with_reducible rfl)
      simp only [Act.put, List.setIfInBounds_toArray, List.set_cons_zero, List.set_cons_succ]
      refine regS_take (i := 12) (v := ?_) rfl (by kernel_rfl) (by kernel_rfl) (by kernel_rfl) (fun _ _ _ h => h) (by rfl) HS8.out ?hy12 ?_
      case hy12 => intro w' hw'; go_simp; (try with_reducible rfl)
      simp only [Act.put, List.setIfInBounds_toArray, List.set_cons_zero, List.set_cons_succ]
      refine regS_take (i := 13) (v := ?_) rfl (by kernel_rfl) (by kernel_rfl) (by kernel_rfl) (fun _ _ _ h => h) (by rfl) HS8.out ?hy13 ?_
      case hy13 => intro w' hw'; go_simp; (try with_reducible rfl)
      simp only [Act.put, List.setIfInBounds_toArray, List.set_cons_zero, List.set_cons_succ]
      refine regS_take (i := 14) (v := ?_) rfl (by kernel_rfl) (by kernel_rfl) (by kernel_rfl) (fun _ _ _ h => h) (by rfl) HS8.out ?hy14 ?_
      case hy14 => intro w' hw'; go_simp; (try with_reducible rfl)
      simp only [Act.put, List.setIfInBounds_toArray, List.set_cons_zero, List.set_cons_succ]
      refine regS_end (by kernel_rfl) ?_
      clear HS8 X2 Y2
      obtain ⟨ad, cap, rfl, hcap, hF, hR⟩ := halves K8.out GL.out
      rw [ET.out] at hF
      rw [EB.out] at hR
      have HF := Lib.hid hF
      have HR := Lib.hid hR
      have j1 : (32 : Int) ≤ (cap : Int) := by omega
      have j2 : (64 : Int) ≤ (cap : Int) := by omega
      have j3 : cap ≠ 32 := by omega
      have BB := B8
      clear hF hR hcap
      go_wp2_with fail
      refine still_all (by kernel_rfl) (by kernel_rfl) fun w9 h9 b9 => ?_
      have B9 := Lib.hid (BB.out.trans (b9.mono BB.out.size))
      have r1 := conv_bytes (HF.out.below b9)
      have r2 := conv_bytes (HR.out.below b9)
      clear b9 h9 HF HR BB
      repeat still_step
      refine wpStill_nil ?_
      go_wp2
      go_ret2
      exact ⟨rfl, B9.out⟩
    · refine wp_two_ent _ _ rfl a b (by with_unfolding_all exact rfl) (by with_unfolding_all exact rfl) ?_
      intro w5 b5 x5
      obtain ⟨gL, hgL⟩ : ∃ g, g = w4.heap.size := ⟨_, rfl⟩
      have X5 : Hid (Ent.At w5 gX a) := Lib.hid (Whole.below X4.out b5 X4.out.lt)
      have Y5 : Hid (Ent.At w5 gY b) := Lib.hid (Whole.below Y4.out b5 Y4.out.lt)
      have S5 : Hid (BytesAt w5 v17 S) := Lib.hid (S4.out.below b5)
      have B5 := Lib.hid (B4.out.trans (b5.mono B4.out.size))
      have HS5 : Hid (From w2 w5) := Lib.hid (HS4.out.trans (b5.mono HS4.out.size))
      clear b5
      rw [← hgL] at x5 ⊢
      have L5 : Hid (RowsAt w5 (.slice (some ⟨gL, 0, none⟩) 2 2) 6 [a.enc, b.enc]) := Lib.hid x5
      clear x5 hgL
      refine hK.out _ _ HS5.out ?_
      clear hK K' X4 Y4 S4 B4 HS4
      refine regS_two (i := 4) (j := 8) rfl rfl (by kernel_rfl) (fun K' hK => ?_) (fun K' hK => ?_)
      · obtain ⟨vP, w6, r6, y6, b6⟩ := conv_str w5 ⟨(k).toArray⟩
        go_simp
        have X6 : Hid (Ent.At w6 gX a) := Lib.hid (Whole.below X5.out b6 X5.out.lt)
        have Y6 : Hid (Ent.At w6 gY b) := Lib.hid (Whole.below Y5.out b6 Y5.out.lt)
        have S6 : Hid (BytesAt w6 v17 S) := Lib.hid (S5.out.below b6)
        have L6 : Hid (RowsAt w6 (.slice (some ⟨gL, 0, none⟩) 2 2) 6 [a.enc, b.enc]) := Lib.hid (L5.out.below b6)
        have B6 := Lib.hid (B5.out.trans (b6.mono B5.out.size))
        have HS6 : Hid (From w2 w6) := Lib.hid (HS5.out.trans (b6.mono HS5.out.size))
        clear b6
        have P6 : Hid (BytesAt w6 vP (k)) := Lib.hid (by simpa using y6)
        clear y6 r6
        refine hK.out _ _ HS6.out ?_
        clear hK K' X5 Y5 S5 L5 B5 HS5
        refine regS_do (i := 8) rfl (by kernel_rfl) (fun K' hK => ?_)
        go_simp
        refine ((CI _ 2 2 w6 L6.out).out).mono ?_
        rintro e7 w7 ⟨v23, rfl, y23, b7⟩
        have X7 : Hid (Ent.At w7 gX a) := Lib.hid (Whole.below X6.out b7 X6.out.lt)
        have Y7 : Hid (Ent.At w7 gY b) := Lib.hid (Whole.below Y6.out b7 Y6.out.lt)
        have S7 : Hid (BytesAt w7 v17 S) := Lib.hid (S6.out.below b7)
        have L7 : Hid (RowsAt w7 (.slice (some ⟨gL, 0, none⟩) 2 2) 6 [a.enc, b.enc]) := Lib.hid (L6.out.below b7)
        have P7 : Hid (BytesAt w7 vP (k)) := Lib.hid (P6.out.below b7)
        have B7 := Lib.hid (B6.out.trans (b7.mono B6.out.size))
        have HS7 : Hid (From w2 w7) := Lib.hid (HS6.out.trans (b7.mono HS6.out.size))
        clear b7
        have I7 : Hid (BytesAt w7 v23 I) := Lib.hid y23
        refine hK.out _ _ HS7.out ?_
        clear hK K' X6 Y6 S6 L6 P6 B6 HS6 y23
        refine regS_do (i := 9) rfl (by kernel_rfl) (fun K' hK => ?_)
        go_simp
        refine ((CK v17 vP v23 w7 S7.out P7.out I7.out (T0.out.below B7.out T0.out.pos)).out).mono ?_
        rintro e8 w8 ⟨v24, rfl, y24, b8⟩
        have X8 : Hid (Ent.At w8 gX a) := Lib.hid (Whole.below X7.out b8 X7.out.lt)
        have Y8 : Hid (Ent.At w8 gY b) := Lib.hid (Whole.below Y7.out b8 Y7.out.lt)
        have S8 : Hid (BytesAt w8 v17 S) := Lib.hid (S7.out.below b8)
        have L8 : Hid (RowsAt w8 (.slice (some ⟨gL, 0, none⟩) 2 2) 6 [a.enc, b.enc]) := Lib.hid (L7.out.below b8)
        have P8 : Hid (BytesAt w8 vP (k)) := Lib.hid (P7.out.below b8)
        have I8 : Hid (BytesAt w8 v23 I) := Lib.hid (I7.out.below b8)
        have B8 := Lib.hid (B7.out.trans (b8.mono B7.out.size))
        have HS8 : Hid (From w2 w8) := Lib.hid (HS7.out.trans (b8.mono HS7.out.size))
        clear b8
        have K8 : Hid (BytesAt w8 v24 G) := Lib.hid y24
        refine hK.out _ _ HS8.out ?_
        clear hK K' X7 Y7 S7 L7 P7 I7 B7 HS7 y24
        refine regS_take (i := 10) (v := ?_) rfl (by kernel_rfl) (by kernel_rfl) (by kernel_rfl) (fun _ _ _ h => h) (by rfl) HS8.out ?hy10 ?_
        case hy10 => intro w' hw'; go_simp; (try with_reducible rfl)
        simp only [Act.put, List.setIfInBounds_toArray, List.set_cons_zero, List.set_cons_succ]
        refine regS_take (i := 11) (v := ?_) rfl (by kernel_rfl) (by kernel_rfl) (by kernel_rfl) (fun _ _ _ h => h) (by rfl) HS8.out ?hy11 ?_
        case hy11 => intro w' hw'; go_simp; (try with_reducible rfl)
        simp only [Act.put, List.setIfInBounds_toArray, List.set_cons_zero, List.set_cons_succ]
        refine regS_take (i := 12) (v := ?_) rfl (by kernel_rfl) (by kernel_rfl) (by kernel_rfl) (fun _ _ _ h => h) (by rfl) HS8.out ?hy12 ?_
        case hy12 => intro w' hw'; go_simp; (try with_reducible rfl)
        simp only [Act.put, List.setIfInBounds_toArray, List.set_cons_zero, List.set_cons_succ]
        refine regS_take (i := 13) (v := ?_) rfl (by kernel_rfl) (by kernel_rfl) (by kernel_rfl) (fun _ _ _ h => h) (by rfl) HS8.out ?hy13 ?_
        case hy13 => intro w' hw'; go_simp; (try with_reducible rfl)
        simp only [Act.put, List.setIfInBounds_toArray, List.set_cons_zero, List.set_cons_succ]
        refine regS_take (i := 14) (v := ?_) rfl (by kernel_rfl) (by kernel_rfl) (by kernel_rfl) (fun _ _ _ h => h) (by rfl) HS8.out ?hy14 ?_
        case hy14 => intro w' hw'; go_simp; (try with_reducible rfl)
        simp only [Act.put, List.setIfInBounds_toArray, List.set_cons_zero, List.set_cons_succ]
        refine regS_end (by kernel_rfl) ?_
        clear HS8 X2 Y2
        obtain ⟨ad, cap, rfl, hcap, hF, hR⟩ := halves K8.out GL.out
        rw [ET.out] at hF
        rw [EB.out] at hR
        have HF := Lib.hid hF
        have HR := Lib.hid hR
        have j1 : (32 : Int) ≤ (cap : Int) := by omega
        have j2 : (64 : Int) ≤ (cap : Int) := by omega
        have j3 : cap ≠ 32 := by omega
        have BB := B8
        clear hF hR hcap
        go_wp2_with fail
        refine still_all (by kernel_rfl) (by kernel_rfl) fun w9 h9 b9 => ?_
        have B9 := Lib.hid (BB.out.trans (b9.mono BB.out.size))
        have r1 := conv_bytes (HF.out.below b9)
        have r2 := conv_bytes (HR.out.below b9)
        clear b9 h9 HF HR BB
        repeat still_step
        refine wpStill_nil ?_
        go_wp2
        go_ret2
        exact ⟨rfl, B9.out⟩
      · go_simp
        refine ((CI _ 2 2 w5 L5.out).out).mono ?_
        rintro e6 w6 ⟨v23, rfl, y23, b6⟩
        have X6 : Hid (Ent.At w6 gX a) := Lib.hid (Whole.below X5.out b6 X5.out.lt)
        have Y6 : Hid (Ent.At w6 gY b) := Lib.hid (Whole.below Y5.out b6 Y5.out.lt)
        have S6 : Hid (BytesAt w6 v17 S) := Lib.hid (S5.out.below b6)
        have L6 : Hid (RowsAt w6 (.slice (some ⟨gL, 0, none⟩) 2 2) 6 [a.enc, b.enc]) := Lib.hid (L5.out.below b6)
        have B6 := Lib.hid (B5.out.trans (b6.mono B5.out.size))
        have HS6 : Hid (From w2 w6) := Lib.hid (HS5.out.trans (b6.mono HS5.out.size))
        clear b6
        have I6 : Hid (BytesAt w6 v23 I) := Lib.hid y23
        refine hK.out _ _ HS6.out ?_
        clear hK K' X5 Y5 S5 L5 B5 HS5 y23
        refine regS_do (i := 4) rfl (by kernel_rfl) (fun K' hK => ?_)
        obtain ⟨vP, w7, r7, y7, b7⟩ := conv_str w6 ⟨(k).toArray⟩
        go_simp
        have X7 : Hid (Ent.At w7 gX a) := Lib.hid (Whole.below X6.out b7 X6.out.lt)
        have Y7 : Hid (Ent.At w7 gY b) := Lib.hid (Whole.below Y6.out b7 Y6.out.lt)
        have S7 : Hid (BytesAt w7 v17 S) := Lib.hid (S6.out.below b7)
        have L7 : Hid (RowsAt w7 (.slice (some ⟨gL, 0, none⟩) 2 2) 6 [a.enc, b.enc]) := Lib.hid (L6.out.below b7)
        have I7 : Hid (BytesAt w7 v23 I) := Lib.hid (I6.out.below b7)
        have B7 := Lib.hid (B6.out.trans (b7.mono B6.out.size))
        have HS7 : Hid (From w2 w7) := Lib.hid (HS6.out.trans (b7.mono HS6.out.size))
        clear b7
        have P7 : Hid (BytesAt w7 vP (k)) := Lib.hid (by simpa using y7)
        clear y7 r7
        refine hK.out _ _ HS7.out ?_
        clear hK K' X6 Y6 S6 L6 I6 B6 HS6
        refine regS_do (i := 9) rfl (by kernel_rfl) (fun K' hK => ?_)
        go_simp
        refine ((CK v17 vP v23 w7 S7.out P7.out I7.out (T0.out.below B7.out T0.out.pos)).out).mono ?_
        rintro e8 w8 ⟨v24, rfl, y24, b8⟩
        have X8 : Hid (Ent.At w8 gX a) := Lib.hid (Whole.below X7.out b8 X7.out.lt)
        have Y8 : Hid (Ent.At w8 gY b) := Lib.hid (Whole.below Y7.out b8 Y7.out.lt)
        have S8 : Hid (BytesAt w8 v17 S) := Lib.hid (S7.out.below b8)
        have L8 : Hid (RowsAt w8 (.slice (some ⟨gL, 0, none⟩) 2 2) 6 [a.enc, b.enc]) := Lib.hid (L7.out.below b8)
        have I8 : Hid (BytesAt w8 v23 I) := Lib.hid (I7.out.below b8)
        have P8 : Hid (BytesAt w8 vP (k)) := Lib.hid (P7.out.below b8)
        have B8 := Lib.hid (B7.out.trans (b8.mono B7.out.size))
        have HS8 : Hid (From w2 w8) := Lib.hid (HS7.out.trans (b8.mono HS7.out.size))
        clear b8
        have K8 : Hid (BytesAt w8 v24 G) := Lib.hid y24
        refine hK.out _ _ HS8.out ?_
        clear hK K' X7 Y7 S7 L7 I7 P7 B7 HS7 y24
        refine regS_take (i := 10) (v := ?_) rfl (by kernel_rfl) (by kernel_rfl) (by kernel_rfl) (fun _ _ _ h => h) (by rfl) HS8.out ?hy10 ?_
        case hy10 => intro w' hw'; go_simp; (try with_reducible rfl)
        simp only [Act.put, List.setIfInBounds_toArray, List.set_cons_zero, List.set_cons_succ]
        refine regS_take (i := 11) (v := ?_) rfl (by kernel_rfl) (by kernel_rfl) (by kernel_rfl) (fun _ _ _ h => h) (by rfl) HS8.out ?hy11 ?_
        case hy11 => intro w' hw'; go_simp; (try with_reducible rfl)
        simp only [Act.put, List.setIfInBounds_toArray, List.set_cons_zero, List.set_cons_succ]
        refine regS_take (i := 12) (v := ?_) rfl (by kernel_rfl) (by kernel_rfl) (by kernel_rfl) (fun _ _ _ h => h) (by rfl) HS8.out ?hy12 ?_
        case hy12 => intro w' hw'; go_simp; (try with_reducible rfl)
        simp only [Act.put, List.setIfInBounds_toArray, List.set_cons_zero, List.set_cons_succ]
        refine regS_take (i := 13) (v := ?_) rfl (by kernel_rfl) (by kernel_rfl) (by kernel_rfl) (fun _ _ _ h => h) (by rfl) HS8.out ?hy13 ?_
        case hy13 => intro w' hw'; go_simp; (try with_reducible rfl)
        simp only [Act.put, List.setIfInBounds_toArray, List.set_cons_zero, List.set_cons_succ]
        refine regS_take (i := 14) (v := ?_) rfl (by kernel_rfl) (by kernel_rfl) (by kernel_rfl) (fun _ _ _ h => h) (by rfl) HS8.out ?hy14 ?_
        case hy14 => intro w' hw'; go_simp; (try with_reducible rfl)
        simp only [Act.put, List.setIfInBounds_toArray, List.set_cons_zero, List.set_cons_succ]
        refine regS_end (by kernel_rfl) ?_
        clear HS8 X2 Y2
        obtain ⟨ad, cap, rfl, hcap, hF, hR⟩ := halves K8.out GL.out
        rw [ET.out] at hF
        rw [EB.out] at hR
        have HF := Lib.hid hF
        have HR := Lib.hid hR
        have j1 : (32 : Int) ≤ (cap : Int) := by omega
        have j2 : (64 : Int) ≤ (cap : Int) := by omega
        have j3 : cap ≠ 32 := by omega
        have BB := B8
        clear hF hR hcap
        go_wp2_with fail
        refine still_all (by kernel_rfl) (by kernel_rfl) fun w9 h9 b9 => ?_
        have B9 := Lib.hid (BB.out.trans (b9.mono BB.out.size))
        have r1 := conv_bytes (HF.out.below b9)
        have r2 := conv_bytes (HR.out.below b9)
        clear b9 h9 HF HR BB
        repeat still_step
        refine wpStill_nil ?_
        go_wp2
        go_ret2
        exact ⟨rfl, B9.out⟩
  · obtain ⟨vP, w4, r4, y4, b4⟩ := conv_str w3 ⟨(k).toArray⟩
    go_simp
    have X4 : Hid (Ent.At w4 gX a) := Lib.hid (Whole.below X3.out b4 X3.out.lt)
    have Y4 : Hid (Ent.At w4 gY b) := Lib.hid (Whole.below Y3.out b4 Y3.out.lt)
    have B4 := Lib.hid (B3.out.trans (b4.mono B3.out.size))
    have HS4 : Hid (From w2 w4) := Lib.hid (HS3.out.trans (b4.mono HS3.out.size))
    clear b4
    have P4 : Hid (BytesAt w4 vP (k)) := Lib.hid (by simpa using y4)
    clear y4 r4
    refine hK.out _ _ HS4.out ?_
    clear hK K' X3 Y3 B3 HS3
    refine regS_two (i := 2) (j := 7) rfl rfl (by kernel_rfl) (fun K' hK => ?_) (fun K' hK => ?_)
    · go_simp
      refine ((CS w4).out).mono ?_
      rintro e5 w5 ⟨v17, rfl, y17, b5⟩
      have X5 : Hid (Ent.At w5 gX a) := Lib.hid (Whole.below X4.out b5 X4.out.lt)
      have Y5 : Hid (Ent.At w5 gY b) := Lib.hid (Whole.below Y4.out b5 Y4.out.lt)
      have P5 : Hid (BytesAt w5 vP (k)) := Lib.hid (P4.out.below b5)
      have B5 := Lib.hid (B4.out.trans (b5.mono B4.out.size))
      have HS5 : Hid (From w2 w5) := Lib.hid (HS4.out.trans (b5.mono HS4.out.size))
      clear b5
      have S5 : Hid (BytesAt w5 v17 S) := Lib.hid y17
      refine hK.out _ _ HS5.out ?_
      clear hK K' X4 Y4 P4 B4 HS4 y17
      refine regS_do (i := 7) rfl (by kernel_rfl) (fun K' hK => ?_)
      refine wp_two_ent _ _ rfl a b (by with_unfolding_all exact rfl) (by with_unfolding_all exact rfl) ?_
      intro w6 b6 x6
      obtain ⟨gL, hgL⟩ : ∃ g, g = w5.heap.size := ⟨_, rfl⟩
      have X6 : Hid (Ent.At w6 gX a) := Lib.hid (Whole.below X5.out b6 X5.out.lt)
      have Y6 : Hid (Ent.At w6 gY b) := Lib.hid (Whole.below Y5.out b6 Y5.out.lt)
      have P6 : Hid (BytesAt w6 vP (k)) := Lib.hid (P5.out.below b6)
      have S6 : Hid (BytesAt w6 v17 S) := Lib.hid (S5.out.below b6)
      have B6 := Lib.hid (B5.out.trans (b6.mono B5.out.size))
      have HS6 : Hid (From w2 w6) := Lib.hid (HS5.out.trans (b6.mono HS5.out.size))
      clear b6
      rw [← hgL] at x6 ⊢
      have L6 : Hid (RowsAt w6 (.slice (some ⟨gL, 0, none⟩) 2 2) 6 [a.enc, b.enc]) := Lib.hid x6
      clear x6 hgL
      refine hK.out _ _ HS6.out ?_
      clear hK K' X5 Y5 P5 S5 B5 HS5
      refine regS_do (i := 8) rfl (by kernel_rfl) (fun K' hK => ?_)
      go_simp
      refine ((CI _ 2 2 w6 L6.out).out).mono ?_
      rintro e7 w7 ⟨v23, rfl, y23, b7⟩
      have X7 : Hid (Ent.At w7 gX a) := Lib.hid (Whole.below X6.out b7 X6.out.lt)
      have Y7 : Hid (Ent.At w7 gY b) := Lib.hid (Whole.below Y6.out b7 Y6.out.lt)
      have P7 : Hid (BytesAt w7 vP (k)) := Lib.hid (P6.out.below b7)
      have S7 : Hid (BytesAt w7 v17 S) := Lib.hid (S6.out.below b7)
      have L7 : Hid (RowsAt w7 (.slice (some ⟨gL, 0, none⟩) 2 2) 6 [a.enc, b.enc]) := Lib.hid (L6.out.below b7)
      have B7 := Lib.hid (B6.out.trans (b7.mono B6.out.size))
      have HS7 : Hid (From w2 w7) := Lib.hid (HS6.out.trans (b7.mono HS6.out.size))
      clear b7
      have I7 : Hid (BytesAt w7 v23 I) := Lib.hid y23
      refine hK.out _ _ HS7.out ?_
      clear hK K' X6 Y6 P6 S6 L6 B6 HS6 y23
      refine regS_do (i := 9) rfl (by kernel_rfl) (fun K' hK => ?_)
      go_simp
      refine ((CK v17 vP v23 w7 S7.out P7.out I7.out (T0.out.below B7.out T0.out.pos)).out).mono ?_
      rintro e8 w8 ⟨v24, rfl, y24, b8⟩
      have X8 : Hid (Ent.At w8 gX a) := Lib.hid (Whole.below X7.out b8 X7.out.lt)
      have Y8 : Hid (Ent.At w8 gY b) := Lib.hid (Whole.below Y7.out b8 Y7.out.lt)
      have P8 : Hid (BytesAt w8 vP (k)) := Lib.hid (P7.out.below b8)
      have S8 : Hid (BytesAt w8 v17 S) := Lib.hid (S7.out.below b8)
      have L8 : Hid (RowsAt w8 (.slice (some ⟨gL, 0, none⟩) 2 2) 6 [a.enc, b.enc]) := Lib.hid (L7.out.below b8)
      have I8 : Hid (BytesAt w8 v23 I) := Lib.hid (I7.out.below b8)
      have B8 := Lib.hid (B7.out.trans (b8.mono B7.out.size))
      have HS8 : Hid (From w2 w8) := Lib.hid (HS7.out.trans (b8.mono HS7.out.size))
      clear b8
      have K8 : Hid (BytesAt w8 v24 G) := Lib.hid y24
      refine hK.out _ _ HS8.out ?_
      clear hK K' X7 Y7 P7 S7 L7 I7 B7 HS7 y24
      refine regS_take (i := 10) (v := ?_) rfl (by kernel_rfl) (by kernel_rfl) (by kernel_rfl) (fun _ _ _ h => h) (by rfl) HS8.out ?hy10 ?_
      case hy10 => intro w' hw'; go_simp; (try with_reducible rfl)
      simp only [Act.put, List.setIfInBounds_toArray, List.set_cons_zero, List.set_cons_succ]
      refine regS_take (i := 11) (v := ?_) rfl (by kernel_rfl) (by kernel_rfl) (by kernel_rfl) (fun _ _ _ h => h) (by rfl) HS8.out ?hy11 ?_
      case hy11 => intro w' hw'; go_simp; (try with_reducible rfl)
      simp only [Act.put, List.setIfInBounds_toArray, List.set_cons_zero, List.set_cons_succ]
      refine regS_take (i := 12) (v := ?_) rfl (by kernel_rfl) (by kernel_rfl) (by kernel_rfl) (fun _ _ _ h => h) (by rfl) HS8.out ?hy12 ?_
      case hy12 => intro w' hw'; go_simp; (try with_reducible rfl)
      simp only [Act.put, List.setIfInBounds_toArray, List.set_cons_zero, List.set_cons_succ]
      refine regS_take (i := 13) (v := ?_) rfl (by kernel_rfl) (by kernel_rfl) (by kernel_rfl) (fun _ _ _ h => h) (by rfl) HS8.out ?hy13 ?_
      case hy13 => intro w' hw'; go_simp; (try with_reducible rfl)
      simp only [Act.put, List.setIfInBounds_toArray, List.set_cons_zero, List.set_cons_succ]
      refine regS_take (i := 14) (v := ?_) rfl (by kernel_rfl) (by kernel_rfl) (by kernel_rfl) (fun _ _ _ h => h) (by rfl) HS8.out ?hy14 ?_
      case hy14 => intro w' hw'; go_simp; (try with_reducible rfl)
      simp only [Act.put, List.setIfInBounds_toArray, List.set_cons_zero, List.set_cons_succ]
      refine regS_end (by kernel_rfl) ?_
      clear HS8 X2 Y2
      obtain ⟨ad, cap, rfl, hcap, hF, hR⟩ := halves K8.out GL.out
      rw [ET.out] at hF
      rw [EB.out] at hR
      have HF := Lib.hid hF
      have HR := Lib.hid hR
      have j1 : (32 : Int) ≤ (cap : Int) := by omega
      have j2 : (64 : Int) ≤ (cap : Int) := by omega
      have j3 : cap ≠ 32 := by omega
      have BB := B8
      clear hF hR hcap
      go_wp2_with fail
      refine still_all (by kernel_rfl) (by kernel_rfl) fun w9 h9 b9 => ?_
      have B9 := Lib.hid (BB.out.trans (b9.mono BB.out.size))
      have r1 := conv_bytes (HF.out.below b9)
      have r2 := conv_bytes (HR.out.below b9)
      clear b9 h9 HF HR BB
      repeat still_step
      refine wpStill_nil ?_
      go_wp2
      go_ret2
      exact ⟨rfl, B9.out⟩
    · refine wp_two_ent _ _ rfl a b (by with_unfolding_all exact rfl) (by with_unfolding_all exact rfl) ?_
      intro w5 b5 x5
      obtain ⟨gL, hgL⟩ : ∃ g, g = w4.heap.size := ⟨_, rfl⟩
      have X5 : Hid (Ent.At w5 gX a) := Lib.hid (Whole.below X4.out b5 X4.out.lt)
      have Y5 : Hid (Ent.At w5 gY b) := Lib.hid (Whole.below Y4.out b5 Y4.out.lt)
      have P5 : Hid (BytesAt w5 vP (k)) := Lib.hid (P4.out.below b5)
      have B5 := Lib.hid (B4.out.trans (b5.mono B4.out.size))
      have HS5 : Hid (From w2 w5) := Lib.hid (HS4.out.trans (b5.mono HS4.out.size))
      clear b5
      rw [← hgL] at x5 ⊢
      have L5 : Hid (RowsAt w5 (.slice (some ⟨gL, 0, none⟩) 2 2) 6 [a.enc, b.enc]) := Lib.hid x5
      clear x5 hgL
      refine hK.out _ _ HS5.out ?_
      clear hK K' X4 Y4 P4 B4 HS4
      refine regS_do (i := 2) rfl (by kernel_rfl) (fun K' hK => ?_)
      go_simp
      refine ((CS w5).out).mono ?_
      rintro e6 w6 ⟨v17, rfl, y17, b6⟩
      have X6 : Hid (Ent.At w6 gX a) := Lib.hid (Whole.below X5.out b6 X5.out.lt)
      have Y6 : Hid (Ent.At w6 gY b) := Lib.hid (Whole.below Y5.out b6 Y5.out.lt)
      have P6 : Hid (BytesAt w6 vP (k)) := Lib.hid (P5.out.below b6)
      have L6 : Hid (RowsAt w6 (.slice (some ⟨gL, 0, none⟩) 2 2) 6 [a.enc, b.enc]) := Lib.hid (L5.out.below b6)
      have B6 := Lib.hid (B5.out.trans (b6.mono B5.out.size))
      have HS6 : Hid (From w2 w6) := Lib.hid (HS5.out.trans (b6.mono HS5.out.size))
      clear b6
      have S6 : Hid (BytesAt w6 v17 S) := Lib.hid y17
      refine hK.out _ _ HS6.out ?_
      clear hK K' X5 Y5 P5 L5 B5 HS5 y17
      refine regS_do (i := 8) rfl (by kernel_rfl) (fun K' hK => ?_)
      go_simp
      refine ((CI _ 2 2 w6 L6.out).out).mono ?_
      rintro e7 w7 ⟨v23, rfl, y23, b7⟩
      have X7 : Hid (Ent.At w7 gX a) := Lib.hid (Whole.below X6.out b7 X6.out.lt)
      have Y7 : Hid (Ent.At w7 gY b) := Lib.hid (Whole.below Y6.out b7 Y6.out.lt)
      have P7 : Hid (BytesAt w7 vP (k)) := Lib.hid (P6.out.below b7)
      have L7 : Hid (RowsAt w7 (.slice (some ⟨gL, 0, none⟩) 2 2) 6 [a.enc, b.enc]) := Lib.hid (L6.out.below b7)
      have S7 : Hid (BytesAt w7 v17 S) := Lib.hid (S6.out.below b7)
      have B7 := Lib.hid (B6.out.trans (b7.mono B6.out.size))
      have HS7 : Hid (From w2 w7) := Lib.hid (HS6.out.trans (b7.mono HS6.out.size))
      clear b7
      have I7 : Hid (BytesAt w7 v23 I) := Lib.hid y23
      refine hK.out _ _ HS7.out ?_
      clear hK K' X6 Y6 P6 L6 S6 B6 HS6 y23
      refine regS_do (i := 9) rfl (by kernel_rfl) (fun K' hK => ?_)
      go_simp
      refine ((CK v17 vP v23 w7 S7.out P7.out I7.out (T0.out.below B7.out T0.out.pos)).out).mono ?_
      rintro e8 w8 ⟨v24, rfl, y24, b8⟩
      have X8 : Hid (Ent.At w8 gX a) := Lib.hid (Whole.below X7.out b8 X7.out.lt)
      have Y8 : Hid (Ent.At w8 gY b) := Lib.hid (Whole.below Y7.out b8 Y7.out.lt)
      have P8 : Hid (BytesAt w8 vP (k)) := Lib.hid (P7.out.below b8)
      have L8 : Hid (RowsAt w8 (.slice (some ⟨gL, 0, none⟩) 2 2) 6 [a.enc, b.enc]) := Lib.hid (L7.out.below b8)
      have S8 : Hid (BytesAt w8 v17 S) := Lib.hid (S7.out.below b8)
      have I8 : Hid (BytesAt w8 v23 I) := Lib.hid (I7.out.below b8)
      have B8 := Lib.hid (B7.out.trans (b8.mono B7.out.size))
      have HS8 : Hid (From w2 w8) := Lib.hid (HS7.out.trans (b8.mono HS7.out.size))
      clear b8
      have K8 : Hid (BytesAt w8 v24 G) := Lib.hid y24
      refine hK.out _ _ HS8.out ?_
      clear hK K' X7 Y7 P7 L7 S7 I7 B7 HS7 y24
      refine regS_take (i := 10) (v := ?_) rfl (by kernel_rfl) (by kernel_rfl) (by kernel_rfl) (fun _ _ _ h => h) (by rfl) HS8.out ?hy10 ?_
      case hy10 => intro w' hw'; go_simp; (try with_reducible rfl)
      simp only [Act.put, List.setIfInBounds_toArray, List.set_cons_zero, List.set_cons_succ]
      refine regS_take (i := 11) (v := ?_) rfl (by kernel_rfl) (by kernel_rfl) (by kernel_rfl) (fun _ _ _ h => h) (by rfl) HS8.out ?hy11 ?_
      case hy11 => intro w' hw'; go_simp; (try with_reducible rfl)
      simp only [Act.put, List.setIfInBounds_toArray, List.set_cons_zero, List.set_cons_succ]
      refine regS_take (i := 12) (v := ?_) rfl (by kernel_rfl) (by kernel_rfl) (by kernel_rfl) (fun _ _ _ h => h) (by rfl) HS8.out ?hy12 ?_
      case hy12 => intro w' hw'; go_simp; (try with_reducible rfl)
      simp only [Act.put, List.setIfInBounds_toArray, List.set_cons_zero, List.set_cons_succ]
      refine regS_take (i := 13) (v := ?_) rfl (by kernel_rfl) (by kernel_rfl) (by kernel_rfl) (fun _ _ _ h => h) (by rfl) HS8.out ?hy13 ?_
      case hy13 => intro w' hw'; go_simp; (try with_reducible rfl)
      simp only [Act.put, List.setIfInBounds_toArray, List.set_cons_zero, List.set_cons_succ]
      refine regS_take (i := 14) (v := ?_) rfl (by kernel_rfl) (by kernel_rfl) (by kernel_rfl) (fun _ _ _ h => h) (by rfl) HS8.out ?hy14 ?_
      case hy14 => intro w' hw'; go_simp; (try with_reducible rfl)
      simp only [Act.put, List.setIfInBounds_toArray, List.set_cons_zero, List.set_cons_succ]
      refine regS_end (by kernel_rfl) ?_
      clear HS8 X2 Y2
      obtain ⟨ad, cap, rfl, hcap, hF, hR⟩ := halves K8.out GL.out
      rw [ET.out] at hF
      rw [EB.out] at hR
      have HF := Lib.hid hF
      have HR := Lib.hid hR
      have j1 : (32 : Int) ≤ (cap : Int) := by omega
      have j2 : (64 : Int) ≤ (cap : Int) := by omega
      have j3 : cap ≠ 32 := by omega
      have BB := B8
      clear hF hR hcap
      go_wp2_with fail
      refine still_all (by kernel_rfl) (by kernel_rfl) fun w9 h9 b9 => ?_
      have B9 := Lib.hid (BB.out.trans (b9.mono BB.out.size))
      have r1 := conv_bytes (HF.out.below b9)
      have r2 := conv_bytes (HR.out.below b9)
      clear b9 h9 HF HR BB
      repeat still_step
      refine wpStill_nil ?_
      go_wp2
      go_ret2
      exact ⟨rfl, B9.out⟩
  · refine wp_two_ent _ _ rfl a b (by with_unfolding_all exact rfl) (by with_unfolding_all exact rfl) ?_
    intro w4 b4 x4
    obtain ⟨gL, hgL⟩ : ∃ g, g = w3.heap.size := ⟨_, rfl⟩
    have X4 : Hid (Ent.At w4 gX a) := Lib.hid (Whole.below X3.out b4 X3.out.lt)
    have Y4 : Hid (Ent.At w4 gY b) := Lib.hid (Whole.below Y3.out b4 Y3.out.lt)
    have B4 := Lib.hid (B3.out.trans (b4.mono B3.out.size))
    have HS4 : Hid (From w2 w4) := Lib.hid (HS3.out.trans (b4.mono HS3.out.size))
    clear b4
    rw [← hgL] at x4 ⊢
    have L4 : Hid (RowsAt w4 (.slice (some ⟨gL, 0, none⟩) 2 2) 6 [a.enc, b.enc]) := Lib.hid x4
    clear x4 hgL
    refine hK.out _ _ HS4.out ?_
    clear hK K' X3 Y3 B3 HS3
    refine regS_two (i := 2) (j := 4) rfl rfl (by kernel_rfl) (fun K' hK => ?_) (fun K' hK => ?_)
    · go_simp
      refine ((CS w4).out).mono ?_
      rintro e5 w5 ⟨v17, rfl, y17, b5⟩
      have X5 : Hid (Ent.At w5 gX a) := Lib.hid (Whole.below X4.out b5 X4.out.lt)
      have Y5 : Hid (Ent.At w5 gY b) := Lib.hid (Whole.below Y4.out b5 Y4.out.lt)
      have L5 : Hid (RowsAt w5 (.slice (some ⟨gL, 0, none⟩) 2 2) 6 [a.enc, b.enc]) := Lib.hid (L4.out.below b5)
      have B5 := Lib.hid (B4.out.trans (b5.mono B4.out.size))
      have HS5 : Hid (From w2 w5) := Lib.hid (HS4.out.trans (b5.mono HS4.out.size))
      clear b5
      have S5 : Hid (BytesAt w5 v17 S) := Lib.hid y17
      refine hK.out _ _ HS5.out ?_
      clear hK K' X4 Y4 L4 B4 HS4 y17
      refine regS_two (i := 4) (j := 8) rfl rfl (by kernel_rfl) (fun K' hK => ?_) (fun K' hK => ?_)
      · obtain ⟨vP, w6, r6, y6, b6⟩ := conv_str w5 ⟨(k).toArray⟩
        go_simp
        have X6 : Hid (Ent.At w6 gX a) := Lib.hid (Whole.below X5.out b6 X5.out.lt)
        have Y6 : Hid (Ent.At w6 gY b) := Lib.hid (Whole.below Y5.out b6 Y5.out.lt)
        have L6 : Hid (RowsAt w6 (.slice (some ⟨gL, 0, none⟩) 2 2) 6 [a.enc, b.enc]) := Lib.hid (L5.out.below b6)
        have S6 : Hid (BytesAt w6 v17 S) := Lib.hid (S5.out.below b6)
        have B6 := Lib.hid (B5.out.trans (b6.mono B5.out.size))
        have HS6 : Hid (From w2 w6) := Lib.hid (HS5.out.trans (b6.mono HS5.out.size))
        clear b6
        have P6 : Hid (BytesAt w6 vP (k)) := Lib.hid (by simpa using y6)
        clear y6 r6
        refine hK.out _ _ HS6.out ?_
        clear hK K' X5 Y5 L5 S5 B5 HS5
        refine regS_do (i := 8) rfl (by kernel_rfl) (fun K' hK => ?_)
        go_simp
        refine ((CI _ 2 2 w6 L6.out).out).mono ?_
        rintro e7 w7 ⟨v23, rfl, y23, b7⟩
        have X7 : Hid (Ent.At w7 gX a) := Lib.hid (Whole.below X6.out b7 X6.out.lt)
        have Y7 : Hid (Ent.At w7 gY b) := Lib.hid (Whole.below Y6.out b7 Y6.out.lt)
        have L7 : Hid (RowsAt w7 (.slice (some ⟨gL, 0, none⟩) 2 2) 6 [a.enc, b.enc]) := Lib.hid (L6.out.below b7)
        have S7 : Hid (BytesAt w7 v17 S) := Lib.hid (S6.out.below b7)
        have P7 : Hid (BytesAt w7 vP (k)) := Lib.hid (P6.out.below b7)
        have B7 := Lib.hid (B6.out.trans (b7.mono B6.out.size))
        have HS7 : Hid (From w2 w7) := Lib.hid (HS6.out.trans (b7.mono HS6.out.size))
        clear b7
        have I7 : Hid (BytesAt w7 v23 I) := Lib.hid y23
        refine hK.out _ _ HS7.out ?_
        clear hK K' X6 Y6 L6 S6 P6 B6 HS6 y23
        refine regS_do (i := 9) rfl (by kernel_rfl) (fun K' hK => ?_)
        go_simp
        refine ((CK v17 vP v23 w7 S7.out P7.out I7.out (T0.out.below B7.out T0.out.pos)).out).mono ?_
        rintro e8 w8 ⟨v24, rfl, y24, b8⟩
        have X8 : Hid (Ent.At w8 gX a) := Lib.hid (Whole.below X7.out b8 X7.out.lt)
        have Y8 : Hid (Ent.At w8 gY b) := Lib.hid (Whole.below Y7.out b8 Y7.out.lt)
        have L8 : Hid (RowsAt w8 (.slice (some ⟨gL, 0, none⟩) 2 2) 6 [a.enc, b.enc]) := Lib.hid (L7.out.below b8)
        have S8 : Hid (BytesAt w8 v17 S) := Lib.hid (S7.out.below b8)
        have P8 : Hid (BytesAt w8 vP (k)) := Lib.hid (P7.out.below b8)
        have I8 : Hid (BytesAt w8 v23 I) := Lib.hid (I7.out.below b8)
        have B8 := Lib.hid (B7.out.trans (b8.mono B7.out.size))
        have HS8 : Hid (From w2 w8) := Lib.hid (HS7.out.trans (b8.mono HS7.out.size))
        clear b8
        have K8 : Hid (BytesAt w8 v24 G) := Lib.hid y24
        refine hK.out _ _ HS8.out ?_
        clear hK K' X7 Y7 L7 S7 P7 I7 B7 HS7 y24
        refine regS_take (i := 10) (v := ?_) rfl (by kernel_rfl) (by kernel_rfl) (by kernel_rfl) (fun _ _ _ h => h) (by rfl) HS8.out ?hy10 ?_
        case hy10 => intro w' hw'; go_simp; (try with_reducible rfl)
        simp only [Act.put, List.setIfInBounds_toArray, List.set_cons_zero, List.set_cons_succ]
        refine regS_take (i := 11) (v := ?_) rfl (by kernel_rfl) (by kernel_rfl) (by kernel_rfl) (fun _ _ _ h => h) (by rfl) HS8.out ?hy11 ?_
        case hy11 => intro w' hw'; go_simp; (try with_reducible rfl)
        simp only [Act.put, List.setIfInBounds_toArray, List.set_cons_zero, List.set_cons_succ]
        refine regS_take (i := 12) (v := ?_) rfl (by kernel_rfl) (by kernel_rfl) (by kernel_rfl) (fun _ _ _ h => h) (by rfl) HS8.out ?hy12 ?_
        case hy12 => intro w' hw'; go_simp; (try with_reducible rfl)
        simp only [Act.put, List.setIfInBounds_toArray, List.set_cons_zero, List.set_cons_succ]
        refine regS_take (i := 13) (v := ?_) rfl (by kernel_rfl) (by kernel_rfl) (by kernel_rfl) (fun _ _ _ h => h) (by rfl) HS8.out ?hy13 ?_
        case hy13 => intro w' hw'; go_simp; (try with_reducible rfl)
        simp only [Act.put, List.setIfInBounds_toArray, List.set_cons_zero, List.set_cons_succ]
        refine regS_take (i := 14) (v := ?_) rfl (by kernel_rfl) (by kernel_rfl) (by kernel_rfl) (fun _ _ _ h => h) (by rfl) HS8.out ?hy14 ?_
        case hy14 => intro w' hw'; go_simp; (try with_reducible rfl)
        simp only [Act.put, List.setIfInBounds_toArray, List.set_cons_zero, List.set_cons_succ]
        refine regS_end (by kernel_rfl) ?_
        clear HS8 X2 Y2
        obtain ⟨ad, cap, rfl, hcap, hF, hR⟩ := halves K8.out GL.out
        rw [ET.out] at hF
        rw [EB.out] at hR
        have HF := Lib.hid hF
        have HR := Lib.hid hR
        have j1 : (32 : Int) ≤ (cap : Int) := by omega
        have j2 : (64 : Int) ≤ (cap : Int) := by omega
        have j3 : cap ≠ 32 := by omega
        have BB := B8
        clear hF hR hcap
        go_wp2_with fail
        refine still_all (by kernel_rfl) (by kernel_rfl) fun w9 h9 b9 => ?_
        have B9 := Lib.hid (BB.out.trans (b9.mono BB.out.size))
        have r1 := conv_bytes (HF.out.below b9)
        have r2 := conv_bytes (HR.out.below b9)
        clear b9 h9 HF HR BB
        repeat still_step
        refine wpStill_nil ?_
        go_wp2
        go_ret2
        exact ⟨rfl, B9.out⟩
      · go_simp
        refine ((CI _ 2 2 w5 L5.out).out).mono ?_
        rintro e6 w6 ⟨v23, rfl, y23, b6⟩
        have X6 : Hid (Ent.At w6 gX a) := Lib.hid (Whole.below X5.out b6 X5.out.lt)
        have Y6 : Hid (Ent.At w6 gY b) := Lib.hid (Whole.below Y5.out b6 Y5.out.lt)
        have L6 : Hid (RowsAt w6 (.slice (some ⟨gL, 0, none⟩) 2 2) 6 [a.enc, b.enc]) := Lib.hid (L5.out.below b6)
        have S6 : Hid (BytesAt w6 v17 S) := Lib.hid (S5.out.below b6)
        have B6 := Lib.hid (B5.out.trans (b6.mono B5.out.size))
        have HS6 : Hid (From w2 w6) := Lib.hid (HS5.out.trans (b6.mono HS5.out.size))
        clear b6
        have I6 : Hid (BytesAt w6 v23 I) := Lib.hid y23
        refine hK.out _ _ HS6.out ?_
        clear hK K' X5 Y5 L5 S5 B5 HS5 y23
        refine regS_do (i := 4) rfl (by kernel_rfl) (fun K' hK => ?_)
        obtain ⟨vP, w7, r7, y7, b7⟩ := conv_str w6 ⟨(k).toArray⟩
        go_simp
        have X7 : Hid (Ent.At w7 gX a) := Lib.hid (Whole.below X6.out b7 X6.out.lt)
        have Y7 : Hid (Ent.At w7 gY b) := Lib.hid (Whole.below Y6.out b7 Y6.out.lt)
        have L7 : Hid (RowsAt w7 (.slice (some ⟨gL, 0, none⟩) 2 2) 6 [a.enc, b.enc]) := Lib.hid (L6.out.below b7)
        have S7 : Hid (BytesAt w7 v17 S) := Lib.hid (S6.out.below b7)
        have I7 : Hid (BytesAt w7 v23 I) := Lib.hid (I6.out.below b7)
        have B7 := Lib.hid (B6.out.trans (b7.mono B6.out.size))
        have HS7 : Hid (From w2 w7) := Lib.hid (HS6.out.trans (b7.mono HS6.out.size))
        clear b7
        have P7 : Hid (BytesAt w7 vP (k)) := Lib.hid (by simpa using y7)
        clear y7 r7
        refine hK.out _ _ HS7.out ?_
        clear hK K' X6 Y6 L6 S6 I6 B6 HS6
        refine regS_do (i := 9) rfl (by kernel_rfl) (fun K' hK => ?_)
        go_simp
        refine ((CK v17 vP v23 w7 S7.out P7.out I7.out (T0.out.below B7.out T0.out.pos)).out).mono ?_
        rintro e8 w8 ⟨v24, rfl, y24, b8⟩
        have X8 : Hid (Ent.At w8 gX a) := Lib.hid (Whole.below X7.out b8 X7.out.lt)
        have Y8 : Hid (Ent.At w8 gY b) := Lib.hid (Whole.below Y7.out b8 Y7.out.lt)
        have L8 : Hid (RowsAt w8 (.slice (some ⟨gL, 0, none⟩) 2 2) 6 [a.enc, b.enc]) := Lib.hid (L7.out.below b8)
        have S8 : Hid (BytesAt w8 v17 S) := Lib.hid (S7.out.below b8)
        have I8 : Hid (BytesAt w8 v23 I) := Lib.hid (I7.out.below b8)
        have P8 : Hid (BytesAt w8 vP (k)) := Lib.hid (P7.out.below b8)
        have B8 := Lib.hid (B7.out.trans (b8.mono B7.out.size))
        have HS8 : Hid (From w2 w8) := Lib.hid (HS7.out.trans (b8.mono HS7.out.size))
        clear b8
        have K8 : Hid (BytesAt w8 v24 G) := Lib.hid y24
        refine hK.out _ _ HS8.out ?_
        clear hK K' X7 Y7 L7 S7 I7 P7 B7 HS7 y24
        refine regS_take (i := 10) (v := ?_) rfl (by kernel_rfl) (by kernel_rfl) (by kernel_rfl) (fun _ _ _ h => h) (by rfl) HS8.out ?hy10 ?_
        case hy10 => intro w' hw'; go_simp; (try with_reducible rfl)
        simp only [Act.put, List.setIfInBounds_toArray, List.set_cons_zero, List.set_cons_succ]
        refine regS_take (i := 11) (v := ?_) rfl (by kernel_rfl) (by kernel_rfl) (by kernel_rfl) (fun _ _ _ h => h) (by rfl) HS8.out ?hy11 ?_
        case hy11 => intro w' hw'; go_simp; (try with_reducible rfl)
        simp only [Act.put, List.setIfInBounds_toArray, List.set_cons_zero, List.set_cons_succ]
        refine regS_take (i := 12) (v := ?_) rfl (by kernel_rfl) (by kernel_rfl) (by kernel_rfl) (fun _ _ _ h => h) (by rfl) HS8.out ?hy12 ?_
        case hy12 => intro w' hw'; go_simp; (try with_reducible rfl)
        simp only [Act.put, List.setIfInBounds_toArray, List.set_cons_zero, List.set_cons_succ]
        refine regS_take (i := 13) (v := ?_) rfl (by kernel_rfl) (by kernel_rfl) (by kernel_rfl) (fun _ _ _ h => h) (by rfl) HS8.out ?hy13 ?_
        case hy13 => intro w' hw'; go_simp; (try with_reducible rfl)
        simp only [Act.put, List.setIfInBounds_toArray, List.set_cons_zero, List.set_cons_succ]
        refine regS_take (i := 14) (v := ?_) rfl (by kernel_rfl) (by kernel_rfl) (by kernel_rfl) (fun _ _ _ h => h) (by rfl) HS8.out ?hy14 ?_
        case hy14 => intro w' hw'; go_simp; (try with_reducible rfl)
        simp only [Act.put, List.setIfInBounds_toArray, List.set_cons_zero, List.set_cons_succ]
        refine regS_end (by kernel_rfl) ?_
        clear HS8 X2 Y2
        obtain ⟨ad, cap, rfl, hcap, hF, hR⟩ := halves K8.out GL.out
        rw [ET.out] at hF
        rw [EB.out] at hR
        have HF := Lib.hid hF
        have HR := Lib.hid hR
        have j1 : (32 : Int) ≤ (cap : Int) := by omega
        have j2 : (64 : Int) ≤ (cap : Int) := by omega
        have j3 : cap ≠ 32 := by omega
        have BB := B8
        clear hF hR hcap
        go_wp2_with fail
        refine still_all (by kernel_rfl) (by kernel_rfl) fun w9 h9 b9 => ?_
        have B9 := Lib.hid (BB.out.trans (b9.mono BB.out.size))
        have r1 := conv_bytes (HF.out.below b9)
        have r2 := conv_bytes (HR.out.below b9)
        clear b9 h9 HF HR BB
        repeat still_step
        refine wpStill_nil ?_
        go_wp2
        go_ret2
        exact ⟨rfl, B9.out⟩
    · obtain ⟨vP, w5, r5, y5, b5⟩ := conv_str w4 ⟨(k).toArray⟩
      go_simp
      have X5 : Hid (Ent.At w5 gX a) := Lib.hid (Whole.below X4.out b5 X4.out.lt)
      have Y5 : Hid (Ent.At w5 gY b) := Lib.hid (Whole.below Y4.out b5 Y4.out.lt)
      have L5 : Hid (RowsAt w5 (.slice (some ⟨gL, 0, none⟩) 2 2) 6 [a.enc, b.enc]) := Lib.hid (L4.out.below b5)
      have B5 := Lib.hid (B4.out.trans (b5.mono B4.out.size))
      have HS5 : Hid (From w2 w5) := Lib.hid (HS4.out.trans (b5.mono HS4.out.size))
      clear b5
      have P5 : Hid (BytesAt w5 vP (k)) := Lib.hid (by simpa using y5)
      clear y5 r5
      refine hK.out _ _ HS5.out ?_
      clear hK K' X4 Y4 L4 B4 HS4
      refine regS_do (i := 2) rfl (by kernel_rfl) (fun K' hK => ?_)
      go_simp
      refine ((CS w5).out).mono ?_
      rintro e6 w6 ⟨v17, rfl, y17, b6⟩
      have X6 : Hid (Ent.At w6 gX a) := Lib.hid (Whole.below X5.out b6 X5.out.lt)
      have Y6 : Hid (Ent.At w6 gY b) := Lib.hid (Whole.below Y5.out b6 Y5.out.lt)
      have L6 : Hid (RowsAt w6 (.slice (some ⟨gL, 0, none⟩) 2 2) 6 [a.enc, b.enc]) := Lib.hid (L5.out.below b6)
      have P6 : Hid (BytesAt w6 vP (k)) := Lib.hid (P5.out.below b6)
      have B6 := Lib.hid (B5.out.trans (b6.mono B5.out.size))
      have HS6 : Hid (From w2 w6) := Lib.hid (HS5.out.trans (b6.mono HS5.out.size))
      clear b6
      have S6 : Hid (BytesAt w6 v17 S) := Lib.hid y17
      refine hK.out _ _ HS6.out ?_
      clear hK K' X5 Y5 L5 P5 B5 HS5 y17
      refine regS_do (i := 8) rfl (by kernel_rfl) (fun K' hK => ?_)
      go_simp
      refine ((CI _ 2 2 w6 L6.out).out).mono ?_
      rintro e7 w7 ⟨v23, rfl, y23, b7⟩
      have X7 : Hid (Ent.At w7 gX a) := Lib.hid (Whole.below X6.out b7 X6.out.lt)
      have Y7 : Hid (Ent.At w7 gY b) := Lib.hid (Whole.below Y6.out b7 Y6.out.lt)
      have L7 : Hid (RowsAt w7 (.slice (some ⟨gL, 0, none⟩) 2 2) 6 [a.enc, b.enc]) := Lib.hid (L6.out.below b7)
      have P7 : Hid (BytesAt w7 vP (k)) := Lib.hid (P6.out.below b7)
      have S7 : Hid (BytesAt w7 v17 S) := Lib.hid (S6.out.below b7)
      have B7 := Lib.hid (B6.out.trans (b7.mono B6.out.size))
      have HS7 : Hid (From w2 w7) := Lib.hid (HS6.out.trans (b7.mono HS6.out.size))
      clear b7
      have I7 : Hid (BytesAt w7 v23 I) := Lib.hid y23
      refine hK.out _ _ HS7.out ?_
      clear hK K' X6 Y6 L6 P6 S6 B6 HS6 y23
      refine regS_do (i := 9) rfl (by kernel_rfl) (fun K' hK => ?_)
      go_simp
      refine ((CK v17 vP v23 w7 S7.out P7.out I7.out (T0.out.below B7.out T0.out.pos)).out).mono ?_
      rintro e8 w8 ⟨v24, rfl, y24, b8⟩
      have X8 : Hid (Ent.At w8 gX a) := Lib.hid (Whole.below X7.out b8 X7.out.lt)
      have Y8 : Hid (Ent.At w8 gY b) := Lib.hid (Whole.below Y7.out b8 Y7.out.lt)
      have L8 : Hid (RowsAt w8 (.slice (some ⟨gL, 0, none⟩) 2 2) 6 [a.enc, b.enc]) := Lib.hid (L7.out.below b8)
      have P8 : Hid (BytesAt w8 vP (k)) := Lib.hid (P7.out.below b8)
      have S8 : Hid (BytesAt w8 v17 S) := Lib.hid (S7.out.below b8)
      have I8 : Hid (BytesAt w8 v23 I) := Lib.hid (I7.out.below b8)
      have B8 := Lib.hid (B7.out.trans (b8.mono B7.out.size))
      have HS8 : Hid (From w2 w8) := Lib.hid (HS7.out.trans (b8.mono HS7.out.size))
      clear b8
      have K8 : Hid (BytesAt w8 v24 G) := Lib.hid y24
      refine hK.out _ _ HS8.out ?_
      clear hK K' X7 Y7 L7 P7 S7 I7 B7 HS7 y24
      refine regS_take (i := 10) (v := ?_) rfl (by kernel_rfl) (by kernel_rfl) (by kernel_rfl) (fun _ _ _ h => h) (by rfl) HS8.out ?hy10 ?_
      case hy10 => intro w' hw'; go_simp; (try with_reducible rfl)
      simp only [Act.put, List.setIfInBounds_toArray, List.set_cons_zero, List.set_cons_succ]
      refine regS_take (i := 11) (v := ?_) rfl (by kernel_rfl) (by kernel_rfl) (by kernel_rfl) (fun _ _ _ h => h) (by rfl) HS8.out ?hy11 ?_
      case hy11 => intro w' hw'; go_simp; (try with_reducible rfl)
      simp only [Act.put, List.setIfInBounds_toArray, List.set_cons_zero, List.set_cons_succ]
      refine regS_take (i := 12) (v := ?_) rfl (by kernel_rfl) (by kernel_rfl) (by kernel_rfl) (fun _ _ _ h => h) (by rfl) HS8.out ?hy12 ?_
      case hy12 => intro w' hw'; go_simp; (try with_reducible rfl)
      simp only [Act.put, List.setIfInBounds_toArray, List.set_cons_zero, List.set_cons_succ]
      refine regS_take (i := 13) (v := ?_) rfl (by kernel_rfl) (by kernel_rfl) (by kernel_rfl) (fun _ _ _ h => h) (by rfl) HS8.out ?hy13 ?_
      case hy13 => intro w' hw'; go_simp; (try with_reducible rfl)
      simp only [Act.put, List.setIfInBounds_toArray, List.set_cons_zero, List.set_cons_succ]
      refine regS_take (i := 14) (v := ?_) rfl (by kernel_rfl) (by kernel_rfl) (by kernel_rfl) (fun _ _ _ h => h) (by rfl) HS8.out ?hy14 ?_
      case hy14 => intro w' hw'; go_simp; (try with_reducible rfl)
      simp only [Act.put, List.setIfInBounds_toArray, List.set_cons_zero, List.set_cons_succ]
      refine regS_end (by kernel_rfl) ?_
      clear HS8 X2 Y2
      obtain ⟨ad, cap, rfl, hcap, hF, hR⟩ := halves K8.out GL.out
      rw [ET.out] at hF
      rw [EB.out] at hR
      have HF := Lib.hid hF
      have HR := Lib.hid hR
      have j1 : (32 : Int) ≤ (cap : Int) := by omega
      have j2 : (64 : Int) ≤ (cap : Int) := by omega
      have j3 : cap ≠ 32 := by omega
      have BB := B8
      clear hF hR hcap
      go_wp2_with fail
      refine still_all (by kernel_rfl) (by kernel_rfl) fun w9 h9 b9 => ?_
      have B9 := Lib.hid (BB.out.trans (b9.mono BB.out.size))
      have r1 := conv_bytes (HF.out.below b9)
      have r2 := conv_bytes (HR.out.below b9)
      clear b9 h9 HF HR BB
      repeat still_step
      refine wpStill_nil ?_
      go_wp2
      go_ret2
      exact ⟨rfl, B9.out⟩

theorem epoch_str (e : Int) : ((⟨#[101, 112, 111, 99, 104, 32]⟩ : ByteArray) ++ ⟨(numL e).toArray⟩).data.toList = epochHead ++ numL e := by
  simp [epochHead]

set_option maxRecDepth 100000 in
set_option maxHeartbeats 1000000 in
theorem keEpoch_any (r : List UInt8) (e : Int) (h1 : -9223372036854775808 ≤ e) (h2 : e < 9223372036854775808) (w : World) (hr : r.length ≤ 5000) (T : Tab w) (PW : PowT w) :
    Calls Tryd.prog 9 #[.string ⟨r.toArray⟩, .int .i64 e] w fun x w' => x = .returned (.string ⟨(epochK r e).toArray⟩) ∧ Below w.heap.size w w' := by
  have T0 := Lib.hid T
  have P0 := Lib.hid PW
  have CN := fun w T => Lib.hid (labelNumber_any e h1 h2 w T)
  have LN : ((⟨#[101, 112, 111, 99, 104, 32]⟩ : ByteArray) ++ ⟨(numL e).toArray⟩).size ≤ 4700 := by
    have := numL_most e h1 h2
    show ((⟨#[101, 112, 111, 99, 104, 32]⟩ : ByteArray) ++ ⟨(numL e).toArray⟩).data.size ≤ 4700
    simp
    omega
  have CK := fun v w h T => Lib.hid (show Calls Tryd.prog 21 #[v, .string ((⟨#[101, 112, 111, 99, 104, 32]⟩ : ByteArray) ++ ⟨(numL e).toArray⟩)] w fun x w' => ∃ v', x = .returned v' ∧ BytesAt w' v' (epochK r e) ∧ Below w.heap.size w w' from by
    have := named_any v _ r w h hr LN T
    rw [epoch_str] at this
    exact this)
  have lm := numL_most e h1 h2
  generalize epochK r e = G at *
  generalize numL e = M at *
  have j1 : 6 + M.length < 9223372036854775807 := by omega
  clear T PW h1 h2 hr LN
  go_enter Tryd.func9, Tryd.ntmps9
  obtain ⟨vK, w1, rK, y1, b1⟩ := conv_str w ⟨(r).toArray⟩
  have B1 := Lib.hid b1
  have K1 : Hid (BytesAt w1 vK (r)) := Lib.hid (by simpa using y1)
  clear b1 y1 
  go_wp2_with fail
  refine ((CN w1 (P0.out.below B1.out)).out).mono ?_
  rintro e2 w2 ⟨rfl, b2⟩
  have K2 : Hid (BytesAt w2 vK (r)) := Lib.hid (K1.out.below b2)
  have B2 := Lib.hid (B1.out.trans (b2.mono B1.out.size))
  clear b2 K1 B1
  go_wp2_with fail
  refine ((CK vK w2 K2.out (T0.out.below B2.out T0.out.pos)).out).mono ?_
  rintro e3 w3 ⟨v9, rfl, y9, b3⟩
  have K3 : Hid (BytesAt w3 vK (r)) := Lib.hid (K2.out.below b3)
  have B3 := Lib.hid (B2.out.trans (b3.mono B2.out.size))
  have G3 : Hid (BytesAt w3 v9 G) := Lib.hid y9
  clear b3 K2 B2 y9
  have rm := conv_bytes G3.out
  go_wp2
  go_ret
  exact ⟨rfl, B3.out⟩
end Go.Proofs.YtieidemmajdpmaaDoor
