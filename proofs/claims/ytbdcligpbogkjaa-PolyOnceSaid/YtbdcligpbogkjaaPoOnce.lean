/- The statement PolyOnce: a tag has 16 bytes, and is the text's; with one byte changed, or one less, it is not. For every input. -/
import Derived.Test.YtbdcligpbogkjaaPoW
import Derived.Test.YtbdcligpbogkjaaGenR
namespace Go.Proofs.Ytbdcligpbogkjaa
open Go.RowKit Go.ChangeShapes Go.WideShapes Go.ChangeAt

theorem BytesAt.of_whole {w : World} {g : Nat} {t : TypeId} {l : List UInt8} {n : Nat} (h : Whole w g t (bv l).toArray) (hn : l.length = n) : BytesAt w (.slice (some ⟨g, 0, none⟩) n n) l := by
  subst hn
  refine ⟨_, _, rfl, Nat.le_refl _, fun _ => ⟨_, rfl, fun j c hj => ?_⟩⟩
  have ha : (⟨g, 0, none⟩ : Addr).add j = ⟨g, j, none⟩ := by unfold Addr.add; split <;> simp_all
  rw [ha, h.at_ j]
  simp [bv, hj]
theorem set_same (l : List UInt8) (j : Nat) (c y : UInt8) (hj : l[j]? = some c) : decide (l = l.set j (c ^^^ y)) = ((y.toNat : Int) == 0) := by
  obtain ⟨hlt, hc⟩ := List.getElem?_eq_some_iff.1 hj
  rw [Bool.eq_iff_iff]
  simp only [decide_eq_true_eq, beq_iff_eq]
  constructor
  · intro h
    have h1 : (l.set j (c ^^^ y))[j]? = some c := by rw [← h]; exact hj
    rw [List.getElem?_set_self hlt] at h1
    injection h1 with h1
    have h2 : y = 0 := by
      have h3 : c ^^^ (c ^^^ y) = c ^^^ c := by rw [h1]
      rw [xor_self_left] at h3
      simpa using h3
    rw [h2]
    rfl
  · intro h
    have h2 : y = 0 := UInt8.toNat_inj.1 (by simpa using h)
    subst h2
    rw [UInt8.xor_zero, ← hc, List.set_getElem_self]

/-- A byte stored into a place of a row that is known. -/
theorem wpList_put_cell {ops : Array Oper} {rest : List Oper} {o : Oper} {a : Act} {w : World} {Q : Exit → Act → World → Prop} (hgd : o.guard = none) (x y : Operand) (ho : o.op = .store 5 x y)
    (g i : Nat) (hx : a.eval x = .pointer (some ⟨g, i, none⟩)) (c : UInt8) (hy : a.eval y = .int .u8 (c.toNat : Int)) (t : TypeId) (cs : Array Value) (hg : Whole w g t cs) (old : Value) (hi : cs[i]? = some old)
    (h : ∀ w', w.grownBy w' (some g) → Whole w' g t (cs.setIfInBounds i (.int .u8 (c.toNat : Int))) → w'.heap.size = w.heap.size → wpList Try.prog ops Q rest (a.put o.dst undef) w') : wpList Try.prog ops Q (o :: rest) a w := by
  refine wpList_plain hgd fun K hK => ?_
  have c1 : w.cell? ⟨g, i, none⟩ = some old := (hg.at_ i).trans hi
  have hh := hK _ _ (h _ (grown_store w g i (.int .u8 (c.toNat : Int))) (hg.stored i _) (by simp))
  have hz : (sizeOf 5).run Try.prog w = .ok 1 w := by kernel_rfl
  unfold Oper.wp execOp
  have hc : (Value.int .u8 (c.toNat : Int)).cells = #[.int .u8 (c.toNat : Int)] := rfl
  simp only [ho, hx, hy, Instr.storeAt, Instr.sureAddr, storeVar, hc, Sem.run_bind, Sem.run_pure, Result.andThen_ok, hz, List.size_toArray, List.length_cons, List.length_nil, ne_eq, not_true_eq_false, if_false, store_byte_at w g i _ c1 (hg.free i) c, Oper.upon]
  exact hh

set_option maxRecDepth 100000 in
set_option maxHeartbeats 4000000 in
theorem once_great (H : PolyIs) (A1 : Option Addr) (n1 cap1 : Nat) (key msg : List UInt8) (at_ y : UInt8) (hk : key.length = 32) (hg : 1000 < n1) (w : World) (h1 : BytesAt w (.slice A1 n1 cap1) msg) :
    Calls Try.prog 4 #[.agg (bv key).toArray, .slice A1 n1 cap1, .int .u8 (at_.toNat : Int), .int .u8 (y.toNat : Int)] w fun e w' => e = .returned (.bool true) ∧ Below w.heap.size w w' := by
  have d0 : decide ((1000 : Int) < (n1 : Int)) = true := by simp; omega
  have H1 := Lib.hid h1
  have KL := Lib.hid hk
  clear h1 hk
  go_enter Try.func4, Try.ntmps4
  go_wp2_with (with_reducible refine wpList_box_row rfl _ _ rfl (bv key).toArray ?hx ?_)
  case hx => exact rfl
  intro w1 b1 y1 z1
  have B1 := Lib.hid b1
  have Y1 := Lib.hid (BytesAt.of_whole y1 KL.out)
  clear b1
  have GKs : Hid (w.heap.size < w1.heap.size) := Lib.hid (by have := (y1.lt); omega)
  clear y1 z1
  generalize w.heap.size = gk at Y1 GKs ⊢
  go_wp2_with fail
  refine (works7 H w1).mono ?_
  rintro e w3 ⟨rfl, b3⟩
  have GK3 : Hid (gk < w3.heap.size) := Lib.hid (Nat.lt_of_lt_of_le GKs.out b3.size)
  have B3 := Lib.hid (B1.out.trans (b3.mono B1.out.size))
  have K3 := Lib.hid (Y1.out.below b3)
  have M3 := Lib.hid (H1.out.below B3.out)
  clear b3 B1 Y1
  go_wp2
  go_ret
  exact ⟨rfl, B3.out⟩

set_option maxRecDepth 100000 in
set_option maxHeartbeats 4000000 in
theorem once_small (H : PolyIs) (A1 : Option Addr) (n1 cap1 : Nat) (key msg : List UInt8) (at_ y : UInt8) (hk : key.length = 32) (hn : n1 ≤ 1000) (w : World) (h1 : BytesAt w (.slice A1 n1 cap1) msg) :
    Calls Try.prog 4 #[.agg (bv key).toArray, .slice A1 n1 cap1, .int .u8 (at_.toNat : Int), .int .u8 (y.toNat : Int)] w fun e w' => e = .returned (.bool true) ∧ Below w.heap.size w w' := by
  have d0 : decide ((1000 : Int) < (n1 : Int)) = false := by simp; omega
  have HN := Lib.hid hn
  clear hn
  have H1 := Lib.hid h1
  have KL := Lib.hid hk
  clear h1 hk
  go_enter Try.func4, Try.ntmps4
  go_wp2_with (with_reducible refine wpList_box_row rfl _ _ rfl (bv key).toArray ?hx ?_)
  case hx => exact rfl
  intro w1 b1 y1 z1
  have B1 := Lib.hid b1
  have Y1 := Lib.hid (BytesAt.of_whole y1 KL.out)
  clear b1
  have GKs : Hid (w.heap.size < w1.heap.size) := Lib.hid (by have := (y1.lt); omega)
  clear y1 z1
  generalize w.heap.size = gk at Y1 GKs ⊢
  go_wp2_with fail
  refine (works7 H w1).mono ?_
  rintro e w3 ⟨rfl, b3⟩
  have GK3 : Hid (gk < w3.heap.size) := Lib.hid (Nat.lt_of_lt_of_le GKs.out b3.size)
  have B3 := Lib.hid (B1.out.trans (b3.mono B1.out.size))
  have K3 := Lib.hid (Y1.out.below b3)
  have M3 := Lib.hid (H1.out.below B3.out)
  clear b3 B1 Y1
  go_wp2_with fail
  refine (H.tag _ _ n1 _ _ key msg w3 (by have := HN.out; omega) K3.out M3.out).mono ?_
  rintro e w4 ⟨v4, rfl, y4, b4⟩
  obtain ⟨g, off, cap, t, cs, rfl, hc16, hB, hw, hcell⟩ := id y4
  have TL := tagL_length key msg
  rw [TL] at hc16 y4 ⊢
  have Y4 := Lib.hid y4.bytes
  have HW := Lib.hid hw
  have HC := Lib.hid hcell
  have GB := Lib.hid hB
  have B3s := Lib.hid B3.out.size
  have B4 := Lib.hid (B3.out.trans (b4.mono B3.out.size))
  have K4 := Lib.hid (K3.out.below b4)
  have M4 := Lib.hid (H1.out.below B4.out)
  obtain ⟨T, hT⟩ : ∃ T, T = tagL key msg := ⟨_, rfl⟩
  rw [← hT] at TL Y4 HC
  have HL := Lib.hid TL
  have HTe := Lib.hid hT
  have c15 : (15 : Int) ≤ (cap : Int) := by omega
  clear y4 hw hcell hB b4 hT TL B3 K3 M3
  have C1 : Hid (∀ w', Below w4.heap.size w4 w' → Calls Try.prog 9 #[.slice (some ⟨gk, 0, none⟩) 32 32, .slice A1 n1 cap1, .slice (some ⟨g, off, none⟩) 16 cap] w' fun e w'' => e = .returned (.bool true) ∧ Below w'.heap.size w' w'') := Lib.hid fun w' h => by
    have q := H.check _ _ _ 32 n1 16 _ _ _ key msg T w' (by have := HN.out; omega) (by decide) (K4.out.below h) (M4.out.below h) (Y4.out.below h)
    rw [← HTe.out] at q
    have e : decide (32 = 32 ∧ T = T) = true := by simp
    rw [e] at q
    exact q
  have C2 : Hid (∀ w', Below w4.heap.size w4 w' → Calls Try.prog 9 #[.slice (some ⟨gk, 0, none⟩) 32 32, .slice A1 n1 cap1, .slice (some ⟨g, off, none⟩) 15 cap] w' fun e w'' => e = .returned (.bool false) ∧ Below w'.heap.size w' w'') := Lib.hid fun w' h => by
    have q := H.check _ _ _ 32 n1 15 _ _ _ key msg (T.take 15) w' (by have := HN.out; omega) (by decide) (K4.out.below h) (M4.out.below h) ((Y4.out.below h).first 15 (by decide))
    rw [← HTe.out] at q
    have e : decide (32 = 32 ∧ T = T.take 15) = false := by
      have hne : ¬ T = T.take 15 := fun e => by
        have := congrArg List.length e
        rw [List.length_take, HL.out] at this
        simp at this
      simp [hne]
    rw [e] at q
    exact q
  go_wp2_with fail
  refine reg_begin (by kernel_rfl) fun w5 hb hz => ?_
  have B5 := Lib.hid hb
  clear hb hz
  refine reg_take (i := 0) (v := ?_) rfl (by kernel_rfl) (by kernel_rfl) (by kernel_rfl) (fun _ _ _ h => h) (by rfl) ?hy0 ?_
  case hy0 => intro w' hw'; go_simp; (try with_reducible rfl)
  simp only [Act.put, List.setIfInBounds_toArray, List.set_cons_zero, List.set_cons_succ]
  refine reg_take (i := 1) (v := ?_) rfl (by kernel_rfl) (by kernel_rfl) (by kernel_rfl) (fun _ _ _ h => h) (by rfl) ?hy1 ?_
  case hy1 => intro w' hw'; go_simp; (try with_reducible rfl)
  simp only [Act.put, List.setIfInBounds_toArray, List.set_cons_zero, List.set_cons_succ]
  refine reg_take (i := 2) (v := ?_) rfl (by kernel_rfl) (by kernel_rfl) (by kernel_rfl) (fun _ _ _ h => h) (by rfl) ?hy2 ?_
  case hy2 => intro w' hw'; go_simp; (try with_reducible rfl)
  simp only [Act.put, List.setIfInBounds_toArray, List.set_cons_zero, List.set_cons_succ]
  refine reg_take (i := 3) (v := ?_) rfl (by kernel_rfl) (by kernel_rfl) (by kernel_rfl) (fun _ _ _ h => h) (by rfl) ?hy3 ?_
  case hy3 => intro w' hw'; go_simp; (try with_reducible rfl)
  simp only [Act.put, List.setIfInBounds_toArray, List.set_cons_zero, List.set_cons_succ]
  refine reg_take (i := 4) (v := ?_) rfl (by kernel_rfl) (by kernel_rfl) (by kernel_rfl) (fun _ _ _ h => h) (by rfl) ?hy4 ?_
  case hy4 => intro w' hw'; go_simp; (try with_reducible rfl)
  simp only [Act.put, List.setIfInBounds_toArray, List.set_cons_zero, List.set_cons_succ]
  refine reg_take (i := 5) (v := ?_) rfl (by kernel_rfl) (by kernel_rfl) (by kernel_rfl) (fun _ _ _ h => h) (by rfl) ?hy5 ?_
  case hy5 => intro w' hw'; go_simp; (try with_reducible rfl)
  simp only [Act.put, List.setIfInBounds_toArray, List.set_cons_zero, List.set_cons_succ]
  refine reg_take (i := 6) (v := ?_) rfl (by kernel_rfl) (by kernel_rfl) (by kernel_rfl) (fun _ _ _ h => h) (by rfl) ?hy6 ?_
  case hy6 => intro w' hw'; go_simp; (try with_reducible rfl)
  simp only [Act.put, List.setIfInBounds_toArray, List.set_cons_zero, List.set_cons_succ]
  refine reg_take (i := 7) (v := ?_) rfl (by kernel_rfl) (by kernel_rfl) (by kernel_rfl) (fun _ _ _ h => h) (by rfl) ?hy7 ?_
  case hy7 => intro w' hw'; go_simp; (try with_reducible rfl)
  simp only [Act.put, List.setIfInBounds_toArray, List.set_cons_zero, List.set_cons_succ]
  refine reg_take (i := 8) (v := ?_) rfl (by kernel_rfl) (by kernel_rfl) (by kernel_rfl) (fun _ _ _ h => h) (by rfl) ?hy8 ?_
  case hy8 => intro w' hw'; go_simp; (try with_reducible rfl)
  simp only [Act.put, List.setIfInBounds_toArray, List.set_cons_zero, List.set_cons_succ]
  refine reg_take (i := 9) (v := ?_) rfl (by kernel_rfl) (by kernel_rfl) (by kernel_rfl) (fun _ _ _ h => h) (by rfl) ?hy9 ?_
  case hy9 => intro w' hw'; go_simp; (try with_reducible rfl)
  simp only [Act.put, List.setIfInBounds_toArray, List.set_cons_zero, List.set_cons_succ]
  refine reg_take (i := 10) (v := ?_) rfl (by kernel_rfl) (by kernel_rfl) (by kernel_rfl) (fun _ _ _ h => h) (by rfl) ?hy10 ?_
  case hy10 => intro w' hw'; go_simp; (try with_reducible rfl)
  simp only [Act.put, List.setIfInBounds_toArray, List.set_cons_zero, List.set_cons_succ]
  refine reg_call (i := 11) rfl (by kernel_rfl) (fun K' hK => ?_)
  go_simp
  refine (C1.out w5 B5.out).mono ?_
  rintro e w6 ⟨rfl, hb⟩
  have B6 := Lib.hid (B5.out.trans (hb.mono B5.out.size))
  refine hK.out _ _ hb ?_
  clear hK K' hb B5
  refine reg_take (i := 12) (v := ?_) rfl (by kernel_rfl) (by kernel_rfl) (by kernel_rfl) (fun _ _ _ h => h) (by rfl) ?hy12 ?_
  case hy12 => intro w' hw'; go_simp; (try with_reducible rfl)
  simp only [Act.put, List.setIfInBounds_toArray, List.set_cons_zero, List.set_cons_succ]
  refine reg_take (i := 13) (v := ?_) rfl (by kernel_rfl) (by kernel_rfl) (by kernel_rfl) (fun _ _ _ h => h) (by rfl) ?hy13 ?_
  case hy13 => intro w' hw'; go_simp; (try with_reducible rfl)
  simp only [Act.put, List.setIfInBounds_toArray, List.set_cons_zero, List.set_cons_succ]
  refine reg_take (i := 14) (v := ?_) rfl (by kernel_rfl) (by kernel_rfl) (by kernel_rfl) (fun _ _ _ h => h) (by rfl) ?hy14 ?_
  case hy14 => intro w' hw'; go_simp; (try with_reducible rfl)
  simp only [Act.put, List.setIfInBounds_toArray, List.set_cons_zero, List.set_cons_succ]
  refine reg_take (i := 15) (v := ?_) rfl (by kernel_rfl) (by kernel_rfl) (by kernel_rfl) (fun _ _ _ h => h) (by rfl) ?hy15 ?_
  case hy15 => intro w' hw'; go_simp; (try with_reducible rfl)
  simp only [Act.put, List.setIfInBounds_toArray, List.set_cons_zero, List.set_cons_succ]
  refine reg_take (i := 16) (v := ?_) rfl (by kernel_rfl) (by kernel_rfl) (by kernel_rfl) (fun _ _ _ h => h) (by rfl) ?hy16 ?_
  case hy16 => intro w' hw'; go_simp; (try with_reducible rfl)
  simp only [Act.put, List.setIfInBounds_toArray, List.set_cons_zero, List.set_cons_succ]
  refine reg_take (i := 17) (v := ?_) rfl (by kernel_rfl) (by kernel_rfl) (by kernel_rfl) (fun _ _ _ h => h) (by rfl) ?hy17 ?_
  case hy17 => intro w' hw'; go_simp; (try with_reducible rfl)
  simp only [Act.put, List.setIfInBounds_toArray, List.set_cons_zero, List.set_cons_succ]
  refine reg_take (i := 18) (v := ?_) rfl (by kernel_rfl) (by kernel_rfl) (by kernel_rfl) (fun _ _ _ h => h) (by rfl) ?hy18 ?_
  case hy18 => intro w' hw'; go_simp; (try with_reducible rfl)
  simp only [Act.put, List.setIfInBounds_toArray, List.set_cons_zero, List.set_cons_succ]
  refine reg_call (i := 19) rfl (by kernel_rfl) (fun K' hK => ?_)
  go_simp
  refine (C2.out w6 B6.out).mono ?_
  rintro e w7 ⟨rfl, hb⟩
  have B7 := Lib.hid (B6.out.trans (hb.mono B6.out.size))
  refine hK.out _ _ hb ?_
  clear hK K' hb B6 C1 C2
  refine reg_take (i := 20) (v := ?_) rfl (by kernel_rfl) (by kernel_rfl) (by kernel_rfl) (fun _ _ _ h => h) (by rfl) ?hy20 ?_
  case hy20 => intro w' hw'; go_simp; (try with_reducible rfl)
  simp only [Act.put, List.setIfInBounds_toArray, List.set_cons_zero, List.set_cons_succ]
  refine reg_end (by kernel_rfl) ?_
  obtain ⟨j, hj⟩ : ∃ j, j = at_.toNat % 16 := ⟨_, rfl⟩
  have tj : (at_.toNat : Int).tmod 16 = (j : Int) := by rw [Int.tmod_eq_emod_of_nonneg (by omega)]; omega
  have tj2 : (at_.toNat : Int) % 16 = (j : Int) := by omega
  have j16 : (j : Int) < 16 := by omega
  have J : Hid (j < 16) := Lib.hid (by omega)
  obtain ⟨c, hc⟩ : ∃ c, T[j]? = some c := ⟨_, List.getElem?_eq_getElem (by rw [HL.out]; exact J.out)⟩
  have W7 := Lib.hid (HW.out.below B7.out HW.out.lt)
  have HCj := Lib.hid (HC.out j c hc)
  have cc := (W7.out.at_ (off + j)).trans HCj.out
  have xc := xor_cell c y
  have SS := Lib.hid (set_same T j c y hc)
  clear hj hc
  go_wp2_with (with_reducible refine wpList_put_cell rfl _ _ rfl g (off + j) ?hx (c ^^^ y) ?hy t cs W7.out _ HCj.out ?_)
  case hx => exact rfl
  case hy => first | exact rfl | exact congrArg (Value.int .u8) xc | (refine congrArg (Value.int .u8) (?_ : _ = (((c ^^^ y).toNat : Nat) : Int)); rw [UInt8.toNat_xor])
  intro w8 g8 x8 z8
  have YT : Hid (BytesAt w8 (.slice (some ⟨g, off, none⟩) 16 cap) (T.set j (c ^^^ y))) := by
    have hlen : (T.set j (c ^^^ y)).length = 16 := by rw [List.length_set, HL.out]
    refine Lib.hid ⟨_, cap, by rw [hlen], by rw [hlen]; omega, fun _ => ⟨_, rfl, fun i d hd => ?_⟩⟩
    have ha : (⟨g, off, none⟩ : Addr).add i = ⟨g, off + i, none⟩ := by unfold Addr.add; split <;> simp_all
    rw [ha, x8.at_]
    rw [List.getElem?_set] at hd
    by_cases e : j = i
    · subst e
      have hlt : j < T.length := by rw [HL.out]; exact J.out
      simp only [if_true, hlt] at hd
      injection hd with hd
      subst hd
      have hsz : off + j < cs.size := (Array.getElem?_eq_some_iff.1 HCj.out).1
      simp [hsz]
    · rw [if_neg e] at hd
      have ne : off + j ≠ off + i := by omega
      rw [Array.getElem?_setIfInBounds_ne ne]
      exact HC.out i d hd
  have K8 : Hid (BytesAt w8 (.slice (some ⟨gk, 0, none⟩) 32 32) key) := Lib.hid ((K4.out.below B7.out).keep fun _ k hk hb => g8.block k hk (fun e => by
    have e1 : some gk = some k := hb
    injection e with e
    injection e1 with e1
    have := GB.out
    have := GK3.out
    omega))
  have M8 : Hid (BytesAt w8 (.slice A1 n1 cap1) msg) := Lib.hid (H1.out.keep fun _ k hk _ => (g8.block k (Nat.lt_of_lt_of_le hk (Nat.le_trans B4.out.size B7.out.size)) (fun e => by
    injection e with e
    have := GB.out
    have := B3s.out
    omega)).trans ((B7.out.block k (Nat.lt_of_lt_of_le hk B4.out.size)).trans (B4.out.block k hk)))
  have B8 : Hid (Below w.heap.size w w8) := Lib.hid ((B4.out.trans (B7.out.mono B4.out.size)).grown g8 (Nat.le_trans B4.out.size B7.out.size) (fun k hk => by have := GB.out; have := B3s.out; injection hk; omega))
  have C3 : Hid (Calls Try.prog 9 #[.slice (some ⟨gk, 0, none⟩) 32 32, .slice A1 n1 cap1, .slice (some ⟨g, off, none⟩) 16 cap] w8 fun e w'' => e = .returned (.bool ((y.toNat : Int) == 0)) ∧ Below w8.heap.size w8 w'') := by
    have q := H.check _ _ _ 32 n1 16 _ _ _ key msg (T.set j (c ^^^ y)) w8 (by have := HN.out; omega) (by decide) K8.out M8.out YT.out
    rw [← HTe.out] at q
    have e : decide (32 = 32 ∧ T = T.set j (c ^^^ y)) = ((y.toNat : Int) == 0) := by
      rw [← SS.out]
      simp
    rw [e] at q
    exact Lib.hid q
  clear g8 x8 z8 tj tj2 j16 cc xc W7 HW HC HCj K8 M8 YT c15
  go_wp2_with fail
  refine C3.out.mono ?_
  rintro e w9 ⟨rfl, b9⟩
  have B9 := Lib.hid (B8.out.trans (b9.mono B8.out.size))
  clear b9 B8 C3
  go_wp2
  go_ret
  exact ⟨rfl, B9.out⟩

theorem once_core (H : PolyIs) (A1 : Option Addr) (n1 cap1 : Nat) (key msg : List UInt8) (at_ y : UInt8) (hk : key.length = 32) (w : World) (h1 : BytesAt w (.slice A1 n1 cap1) msg) :
    Calls Try.prog 4 #[.agg (bv key).toArray, .slice A1 n1 cap1, .int .u8 (at_.toNat : Int), .int .u8 (y.toNat : Int)] w fun e w' => e = .returned (.bool true) ∧ Below w.heap.size w w' := by
  by_cases hg : 1000 < n1
  · exact once_great H A1 n1 cap1 key msg at_ y hk hg w h1
  · exact once_small H A1 n1 cap1 key msg at_ y hk (by omega) w h1
end Go.Proofs.Ytbdcligpbogkjaa
