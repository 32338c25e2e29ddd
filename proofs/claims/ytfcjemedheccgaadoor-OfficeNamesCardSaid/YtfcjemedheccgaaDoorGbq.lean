/- The chapter's example (works of layer 14). -/
import Derived.Test.YtfcjemedheccgaaDoorGbn
import Derived.Test.YtfcjemedheccgaaDoorGbp
namespace Go.Proofs.YtfcjemedheccgaaDoor
set_option maxRecDepth 100000
open Go.RowKit

set_option maxHeartbeats 1000000 in
theorem gate_nil (w : World) :
    Calls Tryd.prog 11 #[.pointer none] w fun e w' => e = .returned (gateV 0 []) ∧ Below w.heap.size w w' := by
  go_enter Tryd.func11, Tryd.ntmps11
  go_wp2_with fail
  exact bodyPost_ret (results_gate rfl _ _ _ 0 [] rfl (Whole.new _ _ _)) rfl ⟨rfl, (Below.refl _ _).alloc (Nat.le_refl _) _⟩
def exN : List UInt8 := [97]
theorem ex14 : ∃ (s0 s1 s2 : OS) (e1 e2 : Ent), s0 = ⟨seedN, 1, 0, [], []⟩ ∧ s0.Ok 0 ∧ s1.Ok 1 ∧ issC s0 exN 1 2 = 0 ∧ issE s0 exN 7 1 2 = e1 ∧ issS s0 exN 7 1 2 = s1 ∧ s1.idx ≠ s1.len ∧ s1.out = [e2] ∧ s1.next.more s1.out = s2 ∧ s2.idx = s2.len ∧ e1.name = exN ∧ e2.index = 1 ∧ e2.id = 7 := by
  have h0 : (⟨seedN, 1, 0, [], []⟩ : OS).Ok 0 := ⟨by decide, by decide, by decide, by decide, by decide, by decide, by decide, fun e he => by cases he⟩
  have hc : issC ⟨seedN, 1, 0, [], []⟩ exN 1 2 = 0 := by
    rw [issC, if_neg (by decide), if_neg (by decide), if_neg (by decide)]
  obtain ⟨s0, hs⟩ : ∃ s : OS, s = ⟨seedN, 1, 0, [], []⟩ := ⟨_, rfl⟩
  obtain ⟨e1, he1⟩ : ∃ e, e = s0.sign ⟨exN, 7, 1, 2, 0, []⟩ := ⟨_, rfl⟩
  rw [← hs] at h0 hc
  have hi : issS s0 exN 7 1 2 = s0.more [e1] := by rw [issS, if_pos hc, he1]
  have ho : (s0.more [e1]).out = [(s0.more [e1]).next.sign e1] := by
    have h : (s0.more [e1]).issued = [e1] := by rw [hs]; rfl
    have h' : (s0.more [e1]).gone = [] := by rw [hs]; rfl
    rw [OS.out, h, h', show latest [] [e1] = [e1] from by simp [latest, latStep]]
    rfl
  refine ⟨s0, s0.more [e1], _, e1, _, hs, h0, hi ▸ h0.iss exN 7 1 2 (by decide) (by decide), hc, by rw [issE, if_pos hc, he1], hi, ?_, ho, rfl, ?_, ?_, ?_, ?_⟩
  · rw [hs]; show (0 : Int) ≠ 1; decide
  · rw [hs]; rfl
  · rw [he1]; rfl
  · rw [hs]; rfl
  · rw [he1]; rfl
theorem own_slice {w : World} {b : Nat} {x : Value} {e : Ent} (h : OwnRows w b 48 6 x [e.enc]) : ∃ gl cap, x = .slice (some ⟨gl, 0, none⟩) 1 cap ∧ b ≤ gl ∧ gl < w.heap.size ∧ ∀ j u, e.enc[j]? = some u → w.cell? ⟨gl, j, none⟩ = some u := by
  obtain ⟨gl, cap, e', h1, h2, hc⟩ := h.spot (by simp)
  refine ⟨gl, cap, e', h1, h2, fun j u hj => ?_⟩
  have q := hc 0 _ rfl j u hj
  rwa [Nat.zero_mul, Nat.zero_add] at q
set_option maxHeartbeats 2000000 in
theorem works14 (w : World) (T : Tab w) :
    Calls Tryd.prog 7 #[] w fun e w' => e = .returned (.bool true) ∧ Below w.heap.size w w' := by
  have T0 := Lib.hid T
  obtain ⟨s0, s1, s2, e1, e2, hs0, ok0, ok1, hc, he, hi, hne, hout, hs2, hend, hn1, hx2, hd2⟩ := ex14
  have C0 := Lib.hid (offNew_good seedN 1 (by decide) (by decide) w T)
  rw [← hs0] at C0
  have C1 := fun g w T hA h => Lib.hid (issue_any g (.slice none 0 0) (.slice none 0 0) s0 0 ok0 (by decide) exN 7 1 2 (by decide) (by decide) w T hA h)
  rw [hc, he, hi] at C1
  have C2 := fun g v w T hA h => Lib.hid (advance_on g v (.slice none 0 0) s1 1 ok1 (by decide) hne w T hA h)
  rw [hs2, hout] at C2
  simp only [List.map_cons, List.map_nil] at C2
  have C3 := fun g v w h => Lib.hid (advance_end g v (.slice none 0 0) s2 hend w h)
  have C4 := fun w => Lib.hid (issue_nil exN 1 1 1 w)
  have C5 := fun w => Lib.hid (issued_nil w)
  have C6 := fun w => Lib.hid (gate_nil w)
  have HN := Lib.hid hn1
  have HX := Lib.hid hx2
  have HD := Lib.hid hd2
  clear ok0 ok1 hs0 hc he hi hne hout hs2 hend hn1 hx2 hd2 T
  go_enter Tryd.func7, Tryd.ntmps7
  go_wp2_with fail
  refine C0.out.mono ?_
  rintro e w1 ⟨g, rfl, o1, hg, b1⟩
  have O1 := Lib.hid o1
  have B1 := Lib.hid b1
  have HG := Lib.hid hg
  have T1 := Lib.hid (T0.out.below b1 T0.out.pos)
  have A1 : Hid (Away (Foot g (.slice none 0 0) (.slice none 0 0))) := Lib.hid (by
    rintro (k | k | k)
    · have := T0.out.pos; omega
    · cases k
    · cases k)
  have F1 : Hid (∀ i, Foot g (.slice none 0 0) (.slice none 0 0) i → w.heap.size ≤ i) := Lib.hid (by
    rintro i (k | k | k)
    · omega
    · cases k
    · cases k)
  clear o1 b1 hg C0
  go_wp2_with fail
  refine (C1 g w1 T1.out A1.out O1.out).out.mono ?_
  rintro e w2 ⟨rfl, v', o2, m2⟩
  have O2 := Lib.hid o2
  have M2 := Lib.hid m2
  have T2 := Lib.hid (T1.out.moves m2 A1.out)
  have A2 := Lib.hid (m2.away T1.out A1.out)
  have B2 := Lib.hid (B1.out.trans (m2.keeps.below F1.out B1.out.size))
  have F2 : Hid (∀ i, Foot g v' (.slice none 0 0) i → w.heap.size ≤ i) := Lib.hid (fun i k => (m2.foot i k).elim (F1.out i) (fun q => Nat.le_trans B1.out.size q))
  clear o2 m2 C1 M2 O1 T1 A1 F1 B1
  go_wp2_with (refine wpList_alloc_row rfl 48 rfl ent0.cells ent_zero ?_)
  intro w3 b3 x3 z3
  have X3 := Lib.hid x3
  have O3 := Lib.hid (O2.out.below b3)
  have HF3 := Lib.hid O2.out.lt
  have B3 := Lib.hid (B2.out.trans (b3.mono B2.out.size))
  have T3 := Lib.hid (T2.out.below b3 T2.out.pos)
  have S3 := Lib.hid B2.out.size
  obtain ⟨X, hX⟩ : ∃ q, q = w2.heap.size := ⟨_, rfl⟩
  rw [← hX] at X3 S3 HF3 ⊢
  clear b3 x3 z3 hX O2 B2 T2
  go_wp2_with (with_reducible refine wpList_store_whole rfl 48 _ _ rfl X e1.cells (by with_unfolding_all exact rfl) (by with_unfolding_all exact rfl) _ _ X3.out (ent_size' _) rfl (Ent.cells_one _) ?_)
  intro w4 q4 x4 z4
  have X4 : Hid (EntAt w4 X e1) := Lib.hid x4
  have k4 : Keeps (fun i => i = X) w3 w4 := Keeps.of_grown q4 (fun k hk => .inl (by injection hk with hk; exact hk.symm))
  have O4 := Lib.hid (O3.out.keeps k4 (fun i k e => by have := HF3.out i k; omega))
  have B4 := Lib.hid (B3.out.grown q4 B3.out.size (fun k hk => by injection hk with hk; have := S3.out; omega))
  have T4 := Lib.hid (T0.out.below B4.out T0.out.pos)
  clear q4 x4 z4 k4 X3 O3 B3 T3
  go_wp2_with fail
  refine (C2 g v' w4 T4.out A2.out O4.out).out.mono ?_
  rintro e w5 ⟨x, v'', rfl, r5, o5, m5⟩
  have X5 : Hid (EntAt w5 X e1) := Lib.hid (Whole.keeps X4.out m5.keeps (fun k => by have := HF3.out X k; omega))
  have O5 := Lib.hid o5
  have B5 := Lib.hid (B4.out.trans (m5.keeps.below F2.out B4.out.size))
  obtain ⟨gl, cap, rfl, -, hgl, hcl⟩ := own_slice r5
  have R5 := Lib.hid (fun j u h => hcl j u h)
  have G5 := Lib.hid hgl
  clear r5 o5 m5 C2 X4 O4 B4 hgl hcl
  go_wp2_with fail
  refine (C3 g v'' w5 O5.out).out.mono ?_
  rintro e w6 ⟨rfl, b6⟩
  have X6 := Lib.hid (EntAt.below X5.out b6 X5.out.lt)
  have B6 := Lib.hid (B5.out.trans (b6.mono B5.out.size))
  have R6 := Lib.hid (fun j u h => (b6.cell (p := ⟨gl, j, none⟩) G5.out).trans (R5.out j u h))
  have G6 := Lib.hid (Nat.lt_of_lt_of_le G5.out b6.size)
  clear b6 C3 X5 B5 R5 O5 G5
  go_wp2_with fail
  refine (C4 w6).out.mono ?_
  rintro e w7 ⟨rfl, b7⟩
  have X7 := Lib.hid (EntAt.below X6.out b7 X6.out.lt)
  have B7 := Lib.hid (B6.out.trans (b7.mono B6.out.size))
  have R7 := Lib.hid (fun j u h => (b7.cell (p := ⟨gl, j, none⟩) G6.out).trans (R6.out j u h))
  have G7 := Lib.hid (Nat.lt_of_lt_of_le G6.out b7.size)
  clear b7 C4 X6 B6 R6 G6
  go_wp2_with (refine wpList_alloc_row rfl 48 rfl ent0.cells ent_zero ?_)
  intro w8 b8 x8 z8
  have Y8 := Lib.hid x8
  have X8 := Lib.hid (EntAt.below X7.out b8 X7.out.lt)
  have B8 := Lib.hid (B7.out.trans (b8.mono B7.out.size))
  have R8 := Lib.hid (fun j u h => (b8.cell (p := ⟨gl, j, none⟩) G7.out).trans (R7.out j u h))
  have S8 := Lib.hid (And.intro B7.out.size (And.intro G7.out X7.out.lt))
  obtain ⟨Y, hY⟩ : ∃ q, q = w7.heap.size := ⟨_, rfl⟩
  rw [← hY] at Y8 S8 ⊢
  clear b8 x8 z8 hY X7 B7 R7 G7
  go_wp2_with (with_reducible refine wpList_store_whole rfl 48 _ _ rfl Y ent0.cells (by with_unfolding_all exact rfl) (by with_unfolding_all exact rfl) _ _ Y8.out (ent_size' _) rfl (Ent.cells_one _) ?_)
  intro w9 q9 x9 z9
  have X9 : Hid (EntAt w9 X e1) := Lib.hid (grown_far X8.out q9 (by have := S8.out; omega))
  have B9 := Lib.hid (B8.out.grown q9 B8.out.size (fun k hk => by injection hk with hk; have := S8.out; omega))
  have R9 := Lib.hid (fun j u h => ((q9.cell (a := ⟨gl, j, none⟩) (R8.out j u h) (by have := S8.out.2.1; intro e; injection e with e; have e : gl = Y := e; omega))))
  clear q9 x9 z9 X8 B8 R8 Y8
  obtain ⟨c0, -⟩ := X9.out.six
  rw [HN.out] at c0
  have d1 : w9.cell? ⟨gl, 1, none⟩ = some (.int .u64 7) := by have := R9.out 1 _ rfl; rwa [HD.out] at this
  have d4 : w9.cell? ⟨gl, 4, none⟩ = some (.int .i64 1) := by have := R9.out 4 _ rfl; rwa [HX.out] at this
  go_wp2_with fail
  refine (C5 w9).out.mono ?_
  rintro e w10 ⟨rfl, rfl⟩
  go_wp2_with fail
  refine (C6 _).out.mono ?_
  rintro e w11 ⟨rfl, b11⟩
  have B11 := Lib.hid (B9.out.trans (b11.mono B9.out.size))
  clear b11 C5 C6 X9 B9 R9
  go_wp2_with (with_reducible refine wpList_eq_rec_w Gate.isRec (by kernel_rfl) _ _ rfl Gate.zero.enc Gate.zero.enc Gate.zero.fits Gate.zero.fits (by with_unfolding_all exact rfl) (by with_unfolding_all exact rfl) true (by kernel_rfl) ?_)
  go_ret
  exact ⟨rfl, B11.out⟩
end Go.Proofs.YtfcjemedheccgaaDoor
