/- The statement PolyNothing: under a key whose first 16 bytes are 0, and of a text without bytes under any key, the tag is the key's other 16 bytes. For every input. -/
import Derived.Test.YtbdcligpbogkjaaPoW
import Derived.Test.YtbdcligpbogkjaaGenS
namespace Go.Proofs.Ytbdcligpbogkjaa
open Go.RowKit Go.ChangeShapes Go.WideShapes Go.ChangeAt

theorem BytesAt.of_whole {w : World} {g : Nat} {t : TypeId} {l : List UInt8} {n : Nat} (h : Whole w g t (bv l).toArray) (hn : l.length = n) : BytesAt w (.slice (some ⟨g, 0, none⟩) n n) l := by
  subst hn
  refine ⟨_, _, rfl, Nat.le_refl _, fun _ => ⟨_, rfl, fun j c hj => ?_⟩⟩
  have ha : (⟨g, 0, none⟩ : Addr).add j = ⟨g, j, none⟩ := by unfold Addr.add; split <;> simp_all
  rw [ha, h.at_ j]
  simp [bv, hj]
theorem BytesAt.tail16 {w : World} {g : Nat} {l : List UInt8} {cap : Nat} (h : BytesAt w (.slice (some ⟨g, 0, none⟩) 32 cap) l) : BytesAt w (.slice (some ⟨g, 16, none⟩) 16 (cap - 16)) (l.drop 16) := by
  have hs := h.size
  obtain ⟨b, off, e, hb, hcell⟩ := h.spots (by intro e; rw [e] at hs; simp at hs)
  injection e with e
  injection e with e1 e2
  subst e1 e2
  have q := bytes_part (w := w) hcell 16 16 (cap - 16) (by omega) (by omega)
  have hl : (l.drop 16).length = 16 := by simp; omega
  rw [List.take_of_length_le (by omega), Nat.zero_add] at q
  exact q
/-- The bytes of a number of 16 bytes. -/
theorem le_back (K : List UInt8) (hK : K.length = 16) : ((List.range 16).map fun i => UInt8.ofNat (leNat K / 256 ^ i)) = K := by
  apply List.ext_getElem?
  intro i
  rcases Nat.lt_or_ge i 16 with h | h
  · simp only [List.getElem?_map, List.getElem?_range h, Option.map_some]
    obtain ⟨c, hc⟩ : ∃ c, K[i]? = some c := ⟨_, List.getElem?_eq_getElem (by omega)⟩
    rw [hc]
    congr 1
    have hp : 0 < 256 ^ i := Nat.pow_pos (by decide)
    have hd : ∀ j, (K.map (·.toNat)).getD j 0 < 256 := fun j => by
      simp only [List.getD, List.getElem?_map]
      cases K[j]? with
      | none => decide
      | some c => exact c.toNat_lt
    obtain ⟨Z, hZ⟩ := vt_split (K.map (·.toNat)) (i + 1) (16 - (i + 1))
    rw [show i + 1 + (16 - (i + 1)) = 16 by omega] at hZ
    have e1 : vt (K.map (·.toNat)) (i + 1) = vt (K.map (·.toNat)) i + 256 ^ i * c.toNat := by
      rw [vt]
      simp [List.getD, hc]
    have e2 := vt_lt (K.map (·.toNat)) i hd
    have e3 : leNat K = vt (K.map (·.toNat)) i + 256 ^ i * (c.toNat + 256 * Z) := by
      rw [leNat, hK, hZ, e1, Nat.pow_succ, Nat.mul_add, Nat.mul_assoc]
      omega
    rw [e3, Nat.add_mul_div_left _ _ hp, Nat.div_eq_of_lt e2, Nat.zero_add]
    apply UInt8.toNat_inj.1
    have := c.toNat_lt
    simp only [UInt8.toNat_ofNat']
    omega
  · rw [List.getElem?_eq_none (by simp; omega), List.getElem?_eq_none (by omega)]
theorem accN_zero (msg : List UInt8) (k : Nat) : accN 0 msg k = 0 := by
  cases k with
  | zero => rfl
  | succ k => rw [accN, Nat.mul_zero, Nat.zero_mod]
/-- Of a text without bytes. -/
theorem tag_nothing (key : List UInt8) (hk : key.length = 32) : tagL key [] = key.drop 16 := by
  have hl : (key.drop 16).length = 16 := by simp; omega
  have e : tagN key [] = leNat (key.drop 16) := by
    rw [tagN, List.take_of_length_le (by omega)]
    show 0 + _ = _
    rw [Nat.zero_add]
  rw [tagL, e]
  exact le_back _ hl
/-- Under a key that begins with zeros. -/
theorem tag_zeros (key msg : List UInt8) (hk : key.length = 32) : tagL (List.replicate 16 0 ++ key.drop 16) msg = key.drop 16 := by
  have hl : (key.drop 16).length = 16 := by simp; omega
  have hc : clampL (List.replicate 16 0 ++ key.drop 16) = List.replicate 16 0 := by
    have hn : ¬ (List.replicate 16 (0 : UInt8) ++ key.drop 16).length < 16 := by simp
    rw [clampL, if_neg hn]
    show ([0, 0, 0, 0 % 16, 0 - 0 % 4, 0, 0, 0 % 16, 0 - 0 % 4, 0, 0, 0 % 16, 0 - 0 % 4, 0, 0, 0 % 16] : List UInt8) = List.replicate 16 0
    decide
  have hz : leNat (List.replicate 16 0) = 0 := by decide +kernel
  have e : tagN (List.replicate 16 0 ++ key.drop 16) msg = leNat (key.drop 16) := by
    rw [tagN, hc, hz, accN_zero, Nat.zero_add]
    have : (List.replicate 16 (0 : UInt8) ++ key.drop 16).drop 16 = key.drop 16 := by rw [List.drop_left' (by simp)]
    rw [this, List.take_of_length_le (by omega)]
  rw [tagL, e]
  exact le_back _ hl
theorem wp_make_row {o : Oper} {a : Act} {w : World} {K : Act → World → Prop} {Q : Exit → Act → World → Prop} (l c : Operand) (ho : o.op = .makeSlice 22 l c) (n : Nat) (hl : a.eval l = .int .i64 (n : Int)) (hc : a.eval c = .int .i64 (n : Int)) (hn : n ≤ 10000000)
    (h : ∀ w', w'.ownsRow w.heap.size 5 1 (.slice (some ⟨w.heap.size, 0, none⟩) n n) n (bv (List.replicate n 0)) → Below w.heap.size w w' → w.heap.size < w'.heap.size → K (a.put o.dst (.slice (some ⟨w.heap.size, 0, none⟩) n n)) w') : o.wp Try.prog a w K Q := by
  obtain ⟨i0, hi0, hz0, hz1, hz2⟩ := info_parts byte_info
  obtain ⟨w', hrun, r1, r2⟩ := run_make_full (P := Try.prog) w w.heap.size 22 5 i0 (.int .u8 0) 1 Try.underlying22 hi0 hz0 hz1 .i64 .i64 n (by rw [hz2]; omega) (by simp only [maxLen]; omega) (Nat.le_refl _)
  have e : (madeCells (Value.int .u8 0).cells (n * 1)).toList = bv (List.replicate n 0) := by rw [Nat.mul_one]; exact made_bytes n
  rw [e] at r1
  have hb : Below w.heap.size w w' := (Below.refl w.heap.size w).grown r2 (Nat.le_refl _) (fun k hk => by cases hk)
  have q := h w' r1 hb (r1.lt _ rfl).2
  unfold Oper.wp execOp
  simp [ho, hl, hc, hrun, Result.andThen, Oper.upon]
  exact q

set_option maxRecDepth 100000 in
set_option maxHeartbeats 4000000 in
theorem nothing_great (H : PolyIs) (A1 : Option Addr) (n1 cap1 : Nat) (key msg : List UInt8) (hk : key.length = 32) (hg : 1000 < n1) (w : World) (h1 : BytesAt w (.slice A1 n1 cap1) msg) :
    Calls Try.prog 5 #[.agg (bv key).toArray, .slice A1 n1 cap1] w fun e w' => e = .returned (.bool true) ∧ Below w.heap.size w w' := by
  have d0 : decide ((1000 : Int) < (n1 : Int)) = true := by simp; omega
  have H1 := Lib.hid h1
  have KL := Lib.hid hk
  clear h1 hk
  go_enter Try.func5, Try.ntmps5
  go_wp2_with (with_reducible refine wpList_box_row rfl _ _ rfl (bv key).toArray ?hx ?_)
  case hx => exact rfl
  intro w1 b1 y1 z1
  have B1 := Lib.hid b1
  have Y1 := Lib.hid (BytesAt.of_whole y1 KL.out)
  clear b1 y1 z1
  generalize w.heap.size = gk at Y1 ⊢
  go_wp2_with fail
  refine (works7 H w1).mono ?_
  rintro e w3 ⟨rfl, b3⟩
  have B3 := Lib.hid (B1.out.trans (b3.mono B1.out.size))
  have K3 := Lib.hid (Y1.out.below b3)
  clear b3 B1 Y1
  go_wp2
  go_ret
  exact ⟨rfl, B3.out⟩

set_option maxRecDepth 100000 in
set_option maxHeartbeats 4000000 in
theorem nothing_small (H : PolyIs) (A1 : Option Addr) (n1 cap1 : Nat) (key msg : List UInt8) (hk : key.length = 32) (hn : n1 ≤ 1000) (w : World) (h1 : BytesAt w (.slice A1 n1 cap1) msg) :
    Calls Try.prog 5 #[.agg (bv key).toArray, .slice A1 n1 cap1] w fun e w' => e = .returned (.bool true) ∧ Below w.heap.size w w' := by
  have d0 : decide ((1000 : Int) < (n1 : Int)) = false := by simp; omega
  have HN := Lib.hid hn
  clear hn
  have H1 := Lib.hid h1
  have KL := Lib.hid hk
  clear h1 hk
  go_enter Try.func5, Try.ntmps5
  go_wp2_with (with_reducible refine wpList_box_row rfl _ _ rfl (bv key).toArray ?hx ?_)
  case hx => exact rfl
  intro w1 b1 y1 z1
  have B1 := Lib.hid b1
  have Y1 := Lib.hid (BytesAt.of_whole y1 KL.out)
  clear b1 y1 z1
  generalize w.heap.size = gk at Y1 ⊢
  go_wp2_with fail
  refine (works7 H w1).mono ?_
  rintro e w3 ⟨rfl, b3⟩
  have B3 := Lib.hid (B1.out.trans (b3.mono B1.out.size))
  have K3 := Lib.hid (Y1.out.below b3)
  clear b3 B1 Y1
  have E1 := Lib.hid (tag_nothing key KL.out)
  have E2 := Lib.hid (tag_zeros key msg KL.out)
  have DL : Hid ((key.drop 16).length = 16) := by have := KL.out; exact Lib.hid (by simp; omega)
  go_wp2_with fail
  refine (H.tag _ none 0 _ 0 key [] w3 (by decide) K3.out (BytesAt.nil w3)).mono ?_
  rintro e w4 ⟨v4, rfl, y4, b4⟩
  have Y4 : Hid (BytesAt w4 v4 (key.drop 16)) := by rw [← E1.out]; exact Lib.hid y4.bytes
  have B4 := Lib.hid (B3.out.trans (b4.mono B3.out.size))
  have K4 := Lib.hid (K3.out.below b4)
  clear y4 b4 B3 K3
  go_wp2_with fail
  refine regS_begin (fun w' => Below w4.heap.size w4 w') (by kernel_rfl) (Below.refl _ _).drew ?_
  have hS : Below w4.heap.size w4 w4.drew := (Below.refl _ _).drew
  generalize w4.drew = w5 at *
  refine regS_take (i := 1) (v := ?_) rfl (by kernel_rfl) (by kernel_rfl) (by kernel_rfl) (fun _ _ _ h => h) (by rfl) hS ?hy1 ?_
  case hy1 => intro w' hw'; go_simp; (try with_reducible rfl)
  simp only [Act.put, List.setIfInBounds_toArray, List.set_cons_zero, List.set_cons_succ]
  refine regS_do (i := 0) rfl (by kernel_rfl) (fun K' hK => ?_)
  rw [if_pos (by rfl)]
  refine wp_make_row _ _ rfl 16 rfl rfl (by decide) ?_
  intro w6 o6 b6 z6
  have O6 := Lib.hid o6
  have S6 : Below w4.heap.size w4 w6 := hS.trans (b6.mono hS.size)
  have W5 := Lib.hid hS.size
  refine hK.out _ _ S6 ?_
  clear hK K' hS o6 b6 z6
  have hS := S6
  have T6 := Lib.hid (K4.out.below S6).tail16
  simp only [Act.put, List.setIfInBounds_toArray, List.set_cons_zero, List.set_cons_succ]
  refine regS_do (i := 2) rfl (by kernel_rfl) (fun K' hK => ?_)
  refine step_append_bytes (by rfl) _ _ rfl w5.heap.size _ 16 _ rfl O6.out _ (key.drop 16) rfl T6.out (by rw [DL.out]; decide) (Nat.le_of_lt (show w5.heap.size < w6.heap.size from (O6.out.lt _ rfl).2)) ?_
  intro v7 w7 o7 g7
  have o7 : w7.ownsRow w5.heap.size 5 1 v7 32 (bv (List.replicate 16 0 ++ key.drop 16)) := by
    rw [DL.out, ← bv_append] at o7
    exact o7
  have S7 : Below w4.heap.size w4 w7 := S6.grown g7 S6.size (fun k hk => by
    have e : some w5.heap.size = some k := hk
    injection e with e
    have := W5.out
    omega)
  have L32 : Hid ((List.replicate 16 (0 : UInt8) ++ key.drop 16).length = 32) := Lib.hid (by rw [List.length_append, DL.out]; rfl)
  have Y7 : Hid (BytesAt w7 v7 (List.replicate 16 0 ++ key.drop 16)) := Lib.hid (BytesAt.of_own (base := w5.heap.size) (by rw [L32.out]; exact o7))
  obtain ⟨A7, c7, rfl⟩ := own_form o7
  refine hK.out _ _ S7 ?_
  clear hK K' hS S6 o7 g7 O6 T6
  have hS := S7
  simp only [Act.put, List.setIfInBounds_toArray, List.set_cons_zero, List.set_cons_succ]
  refine regS_take (i := 3) (v := ?_) rfl (by kernel_rfl) (by kernel_rfl) (by kernel_rfl) (fun _ _ _ h => h) (by rfl) hS ?hy3 ?_
  case hy3 => intro w' hw'; go_simp; (try with_reducible rfl)
  simp only [Act.put, List.setIfInBounds_toArray, List.set_cons_zero, List.set_cons_succ]
  refine regS_end (by kernel_rfl) ?_
  have B7 := Lib.hid (B4.out.trans (S7.mono B4.out.size))
  have V7 := Lib.hid (Y4.out.below S7)
  have K7 := Lib.hid (K4.out.below S7)
  clear hS S7 B4 Y4 K4 W5
  go_wp2_with fail
  refine (H.tag _ _ n1 _ _ (List.replicate 16 0 ++ key.drop 16) msg w7 (by have := HN.out; omega) Y7.out (H1.out.below B7.out)).mono ?_
  rintro e w8 ⟨v8, rfl, y8, b8⟩
  have Y8 : Hid (BytesAt w8 v8 (key.drop 16)) := by rw [← E2.out]; exact Lib.hid y8.bytes
  have B8 := Lib.hid (B7.out.trans (b8.mono B7.out.size))
  have V8 := Lib.hid (V7.out.below b8)
  have T8 := Lib.hid (K7.out.below b8).tail16
  clear y8 b8 B7 V7 K7 Y7 L32
  generalize key.drop 16 = KD at *
  go_wp2_with fail
  refine regS_begin (fun w' => Below w8.heap.size w8 w') (by kernel_rfl) (Below.refl _ _).drew ?_
  have hS : Below w8.heap.size w8 w8.drew := (Below.refl _ _).drew
  have B9 : Hid (Below w.heap.size w w8.drew) := Lib.hid B8.out.drew
  generalize w8.drew = w9 at *
  have r1 : ∀ w', Below w8.heap.size w8 w' → (convert 22 9 v4).run Try.prog w' = .ok (.string ⟨KD.toArray⟩) w' := fun w' h => conv_bytes (V8.out.below h)
  have r2 : ∀ w', Below w8.heap.size w8 w' → (convert 22 9 v8).run Try.prog w' = .ok (.string ⟨KD.toArray⟩) w' := fun w' h => conv_bytes (Y8.out.below h)
  have r3 : ∀ w', Below w8.heap.size w8 w' → (convert 22 9 (.slice (some ⟨gk, 16, none⟩) 16 16)).run Try.prog w' = .ok (.string ⟨KD.toArray⟩) w' := fun w' h => conv_bytes (T8.out.below h)
  refine regS_take (i := 0) (v := ?_) rfl (by kernel_rfl) (by kernel_rfl) (by kernel_rfl) (fun _ _ _ h => h) (by rfl) hS ?hy0 ?_
  case hy0 => intro w' hw'; go_simp; (try with_reducible rfl)
  simp only [Act.put, List.setIfInBounds_toArray, List.set_cons_zero, List.set_cons_succ]
  refine regS_take (i := 1) (v := ?_) rfl (by kernel_rfl) (by kernel_rfl) (by kernel_rfl) (fun _ _ _ h => h) (by rfl) hS ?hy1 ?_
  case hy1 => intro w' hw'; go_simp; (try with_reducible rfl)
  simp only [Act.put, List.setIfInBounds_toArray, List.set_cons_zero, List.set_cons_succ]
  refine regS_take (i := 2) (v := ?_) rfl (by kernel_rfl) (by kernel_rfl) (by kernel_rfl) (fun _ _ _ h => h) (by rfl) hS ?hy2 ?_
  case hy2 => intro w' hw'; go_simp; (try with_reducible rfl)
  simp only [Act.put, List.setIfInBounds_toArray, List.set_cons_zero, List.set_cons_succ]
  refine regS_take (i := 3) (v := ?_) rfl (by kernel_rfl) (by kernel_rfl) (by kernel_rfl) (fun _ _ _ h => h) (by rfl) hS ?hy3 ?_
  case hy3 => intro w' hw'; go_simp; (try with_reducible rfl)
  simp only [Act.put, List.setIfInBounds_toArray, List.set_cons_zero, List.set_cons_succ]
  refine regS_take (i := 4) (v := ?_) rfl (by kernel_rfl) (by kernel_rfl) (by kernel_rfl) (fun _ _ _ h => h) (by rfl) hS ?hy4 ?_
  case hy4 => intro w' hw'; go_simp; (try with_reducible rfl)
  simp only [Act.put, List.setIfInBounds_toArray, List.set_cons_zero, List.set_cons_succ]
  refine regS_take (i := 5) (v := ?_) rfl (by kernel_rfl) (by kernel_rfl) (by kernel_rfl) (fun _ _ _ h => h) (by rfl) hS ?hy5 ?_
  case hy5 => intro w' hw'; go_simp; (try with_reducible rfl)
  simp only [Act.put, List.setIfInBounds_toArray, List.set_cons_zero, List.set_cons_succ]
  refine regS_take (i := 6) (v := ?_) rfl (by kernel_rfl) (by kernel_rfl) (by kernel_rfl) (fun _ _ _ h => h) (by rfl) hS ?hy6 ?_
  case hy6 => intro w' hw'; go_simp; (try with_reducible rfl)
  simp only [Act.put, List.setIfInBounds_toArray, List.set_cons_zero, List.set_cons_succ]
  refine regS_take (i := 7) (v := ?_) rfl (by kernel_rfl) (by kernel_rfl) (by kernel_rfl) (fun _ _ _ h => h) (by rfl) hS ?hy7 ?_
  case hy7 => intro w' hw'; go_simp; (try with_reducible rfl)
  simp only [Act.put, List.setIfInBounds_toArray, List.set_cons_zero, List.set_cons_succ]
  refine regS_take (i := 8) (v := ?_) rfl (by kernel_rfl) (by kernel_rfl) (by kernel_rfl) (fun _ _ _ h => h) (by rfl) hS ?hy8 ?_
  case hy8 => intro w' hw'; go_simp; (try with_reducible rfl)
  simp only [Act.put, List.setIfInBounds_toArray, List.set_cons_zero, List.set_cons_succ]
  refine regS_take (i := 9) (v := ?_) rfl (by kernel_rfl) (by kernel_rfl) (by kernel_rfl) (fun _ _ _ h => h) (by rfl) hS ?hy9 ?_
  case hy9 => intro w' hw'; go_simp; (try with_reducible rfl)
  simp only [Act.put, List.setIfInBounds_toArray, List.set_cons_zero, List.set_cons_succ]
  refine regS_take (i := 10) (v := ?_) rfl (by kernel_rfl) (by kernel_rfl) (by kernel_rfl) (fun _ _ _ h => h) (by rfl) hS ?hy10 ?_
  case hy10 => intro w' hw'; go_simp; (try with_reducible rfl)
  simp only [Act.put, List.setIfInBounds_toArray, List.set_cons_zero, List.set_cons_succ]
  refine regS_take (i := 11) (v := ?_) rfl (by kernel_rfl) (by kernel_rfl) (by kernel_rfl) (fun _ _ _ h => h) (by rfl) hS ?hy11 ?_
  case hy11 => intro w' hw'; go_simp; (try with_reducible rfl)
  simp only [Act.put, List.setIfInBounds_toArray, List.set_cons_zero, List.set_cons_succ]
  refine regS_take (i := 12) (v := ?_) rfl (by kernel_rfl) (by kernel_rfl) (by kernel_rfl) (fun _ _ _ h => h) (by rfl) hS ?hy12 ?_
  case hy12 => intro w' hw'; go_simp; (try with_reducible rfl)
  simp only [Act.put, List.setIfInBounds_toArray, List.set_cons_zero, List.set_cons_succ]
  refine regS_take (i := 13) (v := ?_) rfl (by kernel_rfl) (by kernel_rfl) (by kernel_rfl) (fun _ _ _ h => h) (by rfl) hS ?hy13 ?_
  case hy13 => intro w' hw'; go_simp; (try with_reducible rfl)
  simp only [Act.put, List.setIfInBounds_toArray, List.set_cons_zero, List.set_cons_succ]
  refine regS_take (i := 14) (v := ?_) rfl (by kernel_rfl) (by kernel_rfl) (by kernel_rfl) (fun _ _ _ h => h) (by rfl) hS ?hy14 ?_
  case hy14 => intro w' hw'; go_simp; (try with_reducible rfl)
  simp only [Act.put, List.setIfInBounds_toArray, List.set_cons_zero, List.set_cons_succ]
  refine regS_take (i := 15) (v := ?_) rfl (by kernel_rfl) (by kernel_rfl) (by kernel_rfl) (fun _ _ _ h => h) (by rfl) hS ?hy15 ?_
  case hy15 => intro w' hw'; go_simp; (try with_reducible rfl)
  simp only [Act.put, List.setIfInBounds_toArray, List.set_cons_zero, List.set_cons_succ]
  refine regS_take (i := 16) (v := ?_) rfl (by kernel_rfl) (by kernel_rfl) (by kernel_rfl) (fun _ _ _ h => h) (by rfl) hS ?hy16 ?_
  case hy16 => intro w' hw'; go_simp; (try with_reducible rfl)
  simp only [Act.put, List.setIfInBounds_toArray, List.set_cons_zero, List.set_cons_succ]
  refine regS_take (i := 17) (v := ?_) rfl (by kernel_rfl) (by kernel_rfl) (by kernel_rfl) (fun _ _ _ h => h) (by rfl) hS ?hy17 ?_
  case hy17 => intro w' hw'; go_simp; (try with_reducible rfl)
  simp only [Act.put, List.setIfInBounds_toArray, List.set_cons_zero, List.set_cons_succ]
  refine regS_take (i := 18) (v := ?_) rfl (by kernel_rfl) (by kernel_rfl) (by kernel_rfl) (fun _ _ _ h => h) (by rfl) hS ?hy18 ?_
  case hy18 => intro w' hw'; go_simp; (try with_reducible rfl)
  simp only [Act.put, List.setIfInBounds_toArray, List.set_cons_zero, List.set_cons_succ]
  refine regS_take (i := 19) (v := ?_) rfl (by kernel_rfl) (by kernel_rfl) (by kernel_rfl) (fun _ _ _ h => h) (by rfl) hS ?hy19 ?_
  case hy19 => intro w' hw'; go_simp; (try with_reducible rfl)
  simp only [Act.put, List.setIfInBounds_toArray, List.set_cons_zero, List.set_cons_succ]
  refine regS_take (i := 20) (v := ?_) rfl (by kernel_rfl) (by kernel_rfl) (by kernel_rfl) (fun _ _ _ h => h) (by rfl) hS ?hy20 ?_
  case hy20 => intro w' hw'; go_simp; (try with_reducible rfl)
  simp only [Act.put, List.setIfInBounds_toArray, List.set_cons_zero, List.set_cons_succ]
  refine regS_end (by kernel_rfl) ?_
  clear r1 r2 r3
  go_wp2
  go_ret
  exact ⟨rfl, B9.out⟩

theorem nothing_core (H : PolyIs) (A1 : Option Addr) (n1 cap1 : Nat) (key msg : List UInt8) (hk : key.length = 32) (w : World) (h1 : BytesAt w (.slice A1 n1 cap1) msg) :
    Calls Try.prog 5 #[.agg (bv key).toArray, .slice A1 n1 cap1] w fun e w' => e = .returned (.bool true) ∧ Below w.heap.size w w' := by
  by_cases hg : 1000 < n1
  · exact nothing_great H A1 n1 cap1 key msg hk hg w h1
  · exact nothing_small H A1 n1 cap1 key msg hk (by omega) w h1
end Go.Proofs.Ytbdcligpbogkjaa
