/- The statement CipherBack: what a text is changed to is changed back; of a text that begins like another one what it is changed to begins alike, too. For every input. -/
import Derived.Test.YthphneiecihkiaaCiW
import Derived.Test.YthphneiecihkiaaCiF
namespace Go.Proofs.Ythphneiecihkiaa
open Go.RowKit Go.ChangeShapes Go.WideShapes Go.ChangeAt

theorem BytesAt.of_whole {w : World} {g : Nat} {t : TypeId} {l : List UInt8} {n : Nat} (h : Whole w g t (bv l).toArray) (hn : l.length = n) : BytesAt w (.slice (some ⟨g, 0, none⟩) n n) l := by
  subst hn
  refine ⟨_, _, rfl, Nat.le_refl _, fun _ => ⟨_, rfl, fun j c hj => ?_⟩⟩
  have ha : (⟨g, 0, none⟩ : Addr).add j = ⟨g, j, none⟩ := by unfold Addr.add; split <;> simp_all
  rw [ha, h.at_ j]
  simp [bv, hj]

set_option maxRecDepth 100000 in
set_option maxHeartbeats 4000000 in
theorem back_great (H : CipherIs) (A3 : Option Addr) (n3 cap3 : Nat) (key nonce msg : List UInt8) (c : UInt32) (x : Nat) (hk : key.length = 32) (hc : nonce.length = 12) (hg : 1000 < n3) (w : World) (h3 : BytesAt w (.slice A3 n3 cap3) msg) :
    Calls Try.prog 6 #[.agg (bv key).toArray, .agg (bv nonce).toArray, .int .u32 (c.toNat : Int), .slice A3 n3 cap3, .int .u16 (x : Int)] w fun e w' => e = .returned (.bool true) ∧ Below w.heap.size w w' := by
  have d0 : decide ((1000 : Int) < (n3 : Int)) = true := by simp; omega
  have H3 := Lib.hid h3
  have KL := Lib.hid hk
  have NL := Lib.hid hc
  clear h3 hk hc
  go_enter Try.func6, Try.ntmps6
  go_wp2_with (with_reducible refine wpList_box_row rfl _ _ rfl (bv key).toArray ?hx ?_)
  case hx => exact rfl
  intro w1 b1 y1 z1
  have B1 := Lib.hid b1
  have Y1 := Lib.hid (BytesAt.of_whole y1 KL.out)
  clear b1 y1 z1
  generalize w.heap.size = gk at Y1 ⊢
  go_wp2_with (with_reducible refine wpList_box_row rfl _ _ rfl (bv nonce).toArray ?hx ?_)
  case hx => exact rfl
  intro w2 b2 y2 z2
  have B2 := Lib.hid (B1.out.trans (b2.mono B1.out.size))
  have K2 := Lib.hid (Y1.out.below b2)
  have N2 := Lib.hid (BytesAt.of_whole y2 NL.out)
  have M2 := Lib.hid (H3.out.below B2.out)
  clear b2 y2 z2 Y1 B1 H3
  generalize w1.heap.size = gn at N2 ⊢
  go_wp2_with fail
  refine (works6 H w2).mono ?_
  rintro e w3 ⟨rfl, b3⟩
  have B3 := Lib.hid (B2.out.trans (b3.mono B2.out.size))
  have K3 := Lib.hid (K2.out.below b3)
  have N3 := Lib.hid (N2.out.below b3)
  have M3 := Lib.hid (M2.out.below b3)
  clear b3 B2 K2 N2 M2
  go_wp2
  go_ret
  exact ⟨rfl, B3.out⟩

set_option maxRecDepth 100000 in
set_option maxHeartbeats 4000000 in
theorem back_big (H : CipherIs) (A3 : Option Addr) (n3 cap3 : Nat) (key nonce msg : List UInt8) (c : UInt32) (x : Nat) (hk : key.length = 32) (hc : nonce.length = 12) (hn : n3 ≤ 1000) (hb : 4294967296 - c.toNat < (n3 + 63) / 64) (w : World) (h3 : BytesAt w (.slice A3 n3 cap3) msg) :
    Calls Try.prog 6 #[.agg (bv key).toArray, .agg (bv nonce).toArray, .int .u32 (c.toNat : Int), .slice A3 n3 cap3, .int .u16 (x : Int)] w fun e w' => e = .returned (.bool true) ∧ Below w.heap.size w w' := by
  have d0 : decide ((1000 : Int) < (n3 : Int)) = false := by simp; omega
  have d1 : decide ((2147483648 : Int) < (c.toNat : Int)) = true := by have := c.toNat_lt; simp; omega
  have H3 := Lib.hid h3
  have KL := Lib.hid hk
  have NL := Lib.hid hc
  clear h3 hk hc
  go_enter Try.func6, Try.ntmps6
  go_wp2_with (with_reducible refine wpList_box_row rfl _ _ rfl (bv key).toArray ?hx ?_)
  case hx => exact rfl
  intro w1 b1 y1 z1
  have B1 := Lib.hid b1
  have Y1 := Lib.hid (BytesAt.of_whole y1 KL.out)
  clear b1 y1 z1
  generalize w.heap.size = gk at Y1 ⊢
  go_wp2_with (with_reducible refine wpList_box_row rfl _ _ rfl (bv nonce).toArray ?hx ?_)
  case hx => exact rfl
  intro w2 b2 y2 z2
  have B2 := Lib.hid (B1.out.trans (b2.mono B1.out.size))
  have K2 := Lib.hid (Y1.out.below b2)
  have N2 := Lib.hid (BytesAt.of_whole y2 NL.out)
  have M2 := Lib.hid (H3.out.below B2.out)
  clear b2 y2 z2 Y1 B1 H3
  generalize w1.heap.size = gn at N2 ⊢
  go_wp2_with fail
  refine (works6 H w2).mono ?_
  rintro e w3 ⟨rfl, b3⟩
  have B3 := Lib.hid (B2.out.trans (b3.mono B2.out.size))
  have K3 := Lib.hid (K2.out.below b3)
  have N3 := Lib.hid (N2.out.below b3)
  have M3 := Lib.hid (M2.out.below b3)
  clear b3 B2 K2 N2 M2
  go_wp2_with fail
  refine reg_begin (by kernel_rfl) fun w4 hb4 hz4 => ?_
  have B4 := Lib.hid (B3.out.trans (hb4.mono B3.out.size))
  have K4 := Lib.hid (K3.out.below hb4)
  have N4 := Lib.hid (N3.out.below hb4)
  have M4 := Lib.hid (M3.out.below hb4)
  clear hb4 hz4 B3 K3 N3 M3
  refine reg_take (i := 0) (v := ?_) rfl (by kernel_rfl) (by kernel_rfl) (by kernel_rfl) (fun _ _ _ h => h) (by rfl) ?hy0 ?_
  case hy0 => intro w' hw'; go_simp; (try with_reducible rfl)
  simp only [Act.put, List.setIfInBounds_toArray, List.set_cons_zero, List.set_cons_succ]
  refine reg_take (i := 1) (v := ?_) rfl (by kernel_rfl) (by kernel_rfl) (by kernel_rfl) (fun _ _ _ h => h) (by rfl) ?hy1 ?_
  case hy1 => intro w' hw'; go_simp; (try with_reducible rfl)
  simp only [Act.put, List.setIfInBounds_toArray, List.set_cons_zero, List.set_cons_succ]
  refine reg_take (i := 2) (v := ?_) rfl (by kernel_rfl) (by kernel_rfl) (by kernel_rfl) (fun _ _ _ h => h) (by rfl) ?hy2 ?_
  case hy2 => intro w' hw'; go_simp; (try with_reducible rfl)
  simp only [Act.put, List.setIfInBounds_toArray, List.set_cons_zero, List.set_cons_succ]
  refine reg_take (i := 3) (v := ?_) rfl (by kernel_rfl) (by kernel_rfl) (by kernel_rfl) (fun _ _ _ h => h) (by rfl) ?hy3 ?_
  case hy3 => intro w' hw'; go_simp; (try with_reducible rfl)
  simp only [Act.put, List.setIfInBounds_toArray, List.set_cons_zero, List.set_cons_succ]
  refine reg_call (i := 4) rfl (by kernel_rfl) (fun K' hK => ?_)
  go_simp
  refine (H.xorBig _ _ _ n3 32 12 cap3 c hb (by omega) w4).mono ?_
  rintro e w5 ⟨rfl, b5⟩
  have B5 := Lib.hid (B4.out.trans (b5.mono B4.out.size))
  refine hK.out _ _ b5 ?_
  clear hK K' b5 B4
  refine reg_take (i := 5) (v := ?_) rfl (by kernel_rfl) (by kernel_rfl) (by kernel_rfl) (fun _ _ _ h => h) (by rfl) ?hy5 ?_
  case hy5 => intro w' hw'; go_simp; (try with_reducible rfl)
  simp only [Act.put, List.setIfInBounds_toArray, List.set_cons_zero, List.set_cons_succ]
  refine reg_take (i := 6) (v := ?_) rfl (by kernel_rfl) (by kernel_rfl) (by kernel_rfl) (fun _ _ _ h => h) (by rfl) ?hy6 ?_
  case hy6 => intro w' hw'; go_simp; (try with_reducible rfl)
  simp only [Act.put, List.setIfInBounds_toArray, List.set_cons_zero, List.set_cons_succ]
  refine reg_take (i := 7) (v := ?_) rfl (by kernel_rfl) (by kernel_rfl) (by kernel_rfl) (fun _ _ _ h => h) (by rfl) ?hy7 ?_
  case hy7 => intro w' hw'; go_simp; (try with_reducible rfl)
  simp only [Act.put, List.setIfInBounds_toArray, List.set_cons_zero, List.set_cons_succ]
  refine reg_take (i := 8) (v := ?_) rfl (by kernel_rfl) (by kernel_rfl) (by kernel_rfl) (fun _ _ _ h => h) (by rfl) ?hy8 ?_
  case hy8 => intro w' hw'; go_simp; (try with_reducible rfl)
  simp only [Act.put, List.setIfInBounds_toArray, List.set_cons_zero, List.set_cons_succ]
  refine reg_take (i := 9) (v := ?_) rfl (by kernel_rfl) (by kernel_rfl) (by kernel_rfl) (fun _ _ _ h => h) (by rfl) ?hy9 ?_
  case hy9 => intro w' hw'; go_simp; (try with_reducible rfl)
  simp only [Act.put, List.setIfInBounds_toArray, List.set_cons_zero, List.set_cons_succ]
  refine reg_end (by kernel_rfl) ?_
  go_wp2
  go_ret
  exact ⟨rfl, B5.out⟩

set_option maxRecDepth 100000 in
set_option maxHeartbeats 4000000 in
theorem back_less (H : CipherIs) (A3 : Option Addr) (n3 cap3 : Nat) (key nonce msg : List UInt8) (c : UInt32) (x : Nat) (hk : key.length = 32) (hc : nonce.length = 12) (hn : n3 ≤ 1000) (hb : (n3 + 63) / 64 ≤ 4294967296 - c.toNat) (hk2 : x ≤ n3) (w : World) (h3 : BytesAt w (.slice A3 n3 cap3) msg) :
    Calls Try.prog 6 #[.agg (bv key).toArray, .agg (bv nonce).toArray, .int .u32 (c.toNat : Int), .slice A3 n3 cap3, .int .u16 (x : Int)] w fun e w' => e = .returned (.bool true) ∧ Below w.heap.size w w' := by
  have d0 : decide ((1000 : Int) < (n3 : Int)) = false := by simp; omega
  have XL := Lib.hid (xorC_length key nonce c msg)
  have XX := Lib.hid (xorC_xorC key nonce c msg)
  have XT := Lib.hid (xorC_take key nonce c msg x)
  have ML := Lib.hid h3.size.1
  have hcap3 := h3.size.2
  have hkn : x ≤ n3 := by omega
  have hkc : x ≤ cap3 := by omega
  have H3 := Lib.hid h3
  have KL := Lib.hid hk
  have NL := Lib.hid hc
  clear h3 hk hc
  go_enter Try.func6, Try.ntmps6
  go_wp2_with (with_reducible refine wpList_box_row rfl _ _ rfl (bv key).toArray ?hx ?_)
  case hx => exact rfl
  intro w1 b1 y1 z1
  have B1 := Lib.hid b1
  have Y1 := Lib.hid (BytesAt.of_whole y1 KL.out)
  clear b1 y1 z1
  generalize w.heap.size = gk at Y1 ⊢
  go_wp2_with (with_reducible refine wpList_box_row rfl _ _ rfl (bv nonce).toArray ?hx ?_)
  case hx => exact rfl
  intro w2 b2 y2 z2
  have B2 := Lib.hid (B1.out.trans (b2.mono B1.out.size))
  have K2 := Lib.hid (Y1.out.below b2)
  have N2 := Lib.hid (BytesAt.of_whole y2 NL.out)
  have M2 := Lib.hid (H3.out.below B2.out)
  clear b2 y2 z2 Y1 B1 H3
  generalize w1.heap.size = gn at N2 ⊢
  go_wp2_with fail
  refine (works6 H w2).mono ?_
  rintro e w3 ⟨rfl, b3⟩
  have B3 := Lib.hid (B2.out.trans (b3.mono B2.out.size))
  have K3 := Lib.hid (K2.out.below b3)
  have N3 := Lib.hid (N2.out.below b3)
  have M3 := Lib.hid (M2.out.below b3)
  clear b3 B2 K2 N2 M2
  go_wp2_with fail
  refine reg_begin (by kernel_rfl) fun w4 hb4 hz4 => ?_
  have B4 := Lib.hid (B3.out.trans (hb4.mono B3.out.size))
  have K4 := Lib.hid (K3.out.below hb4)
  have N4 := Lib.hid (N3.out.below hb4)
  have M4 := Lib.hid (M3.out.below hb4)
  clear hb4 hz4 B3 K3 N3 M3
  refine reg_take (i := 0) (v := ?_) rfl (by kernel_rfl) (by kernel_rfl) (by kernel_rfl) (fun _ _ _ h => h) (by rfl) ?hy0 ?_
  case hy0 => intro w' hw'; go_simp; (try with_reducible rfl)
  simp only [Act.put, List.setIfInBounds_toArray, List.set_cons_zero, List.set_cons_succ]
  refine reg_take (i := 1) (v := ?_) rfl (by kernel_rfl) (by kernel_rfl) (by kernel_rfl) (fun _ _ _ h => h) (by rfl) ?hy1 ?_
  case hy1 => intro w' hw'; go_simp; (try with_reducible rfl)
  simp only [Act.put, List.setIfInBounds_toArray, List.set_cons_zero, List.set_cons_succ]
  refine reg_take (i := 2) (v := ?_) rfl (by kernel_rfl) (by kernel_rfl) (by kernel_rfl) (fun _ _ _ h => h) (by rfl) ?hy2 ?_
  case hy2 => intro w' hw'; go_simp; (try with_reducible rfl)
  simp only [Act.put, List.setIfInBounds_toArray, List.set_cons_zero, List.set_cons_succ]
  refine reg_take (i := 3) (v := ?_) rfl (by kernel_rfl) (by kernel_rfl) (by kernel_rfl) (fun _ _ _ h => h) (by rfl) ?hy3 ?_
  case hy3 => intro w' hw'; go_simp; (try with_reducible rfl)
  simp only [Act.put, List.setIfInBounds_toArray, List.set_cons_zero, List.set_cons_succ]
  refine reg_call (i := 4) rfl (by kernel_rfl) (fun K' hK => ?_)
  go_simp
  refine (H.xor _ _ _ n3 32 12 cap3 key nonce msg c hb (by omega) w4 K4.out N4.out M4.out).mono ?_
  rintro e w5 ⟨v5, rfl, y5, b5⟩
  have B5 := Lib.hid (B4.out.trans (b5.mono B4.out.size))
  have K5 := Lib.hid (K4.out.below b5)
  have N5 := Lib.hid (N4.out.below b5)
  have M5 := Lib.hid (M4.out.below b5)
  obtain ⟨A5, cap5, rfl, hc5, -⟩ := id y5
  have el5 : (xorC key nonce c msg).length = n3 := by rw [XL.out]; exact ML.out.symm
  rw [el5] at y5 hc5 ⊢
  have Y5 := Lib.hid y5
  have hk5 : x ≤ cap5 := by omega
  refine hK.out _ _ b5 ?_
  clear hK K' b5 B4 K4 N4 M4 y5 el5
  refine reg_take (i := 5) (v := ?_) rfl (by kernel_rfl) (by kernel_rfl) (by kernel_rfl) (fun _ _ _ h => h) (by rfl) ?hy5 ?_
  case hy5 => intro w' hw'; go_simp; (try with_reducible rfl)
  simp only [Act.put, List.setIfInBounds_toArray, List.set_cons_zero, List.set_cons_succ]
  refine reg_take (i := 6) (v := ?_) rfl (by kernel_rfl) (by kernel_rfl) (by kernel_rfl) (fun _ _ _ h => h) (by rfl) ?hy6 ?_
  case hy6 => intro w' hw'; go_simp; (try with_reducible rfl)
  simp only [Act.put, List.setIfInBounds_toArray, List.set_cons_zero, List.set_cons_succ]
  refine reg_take (i := 7) (v := ?_) rfl (by kernel_rfl) (by kernel_rfl) (by kernel_rfl) (fun _ _ _ h => h) (by rfl) ?hy7 ?_
  case hy7 => intro w' hw'; go_simp; (try with_reducible rfl)
  simp only [Act.put, List.setIfInBounds_toArray, List.set_cons_zero, List.set_cons_succ]
  refine reg_take (i := 8) (v := ?_) rfl (by kernel_rfl) (by kernel_rfl) (by kernel_rfl) (fun _ _ _ h => h) (by rfl) ?hy8 ?_
  case hy8 => intro w' hw'; go_simp; (try with_reducible rfl)
  simp only [Act.put, List.setIfInBounds_toArray, List.set_cons_zero, List.set_cons_succ]
  refine reg_take (i := 9) (v := ?_) rfl (by kernel_rfl) (by kernel_rfl) (by kernel_rfl) (fun _ _ _ h => h) (by rfl) ?hy9 ?_
  case hy9 => intro w' hw'; go_simp; (try with_reducible rfl)
  simp only [Act.put, List.setIfInBounds_toArray, List.set_cons_zero, List.set_cons_succ]
  refine reg_end (by kernel_rfl) ?_
  go_wp2_with fail
  refine reg_begin (by kernel_rfl) fun w6 hb6 hz6 => ?_
  have B6 := Lib.hid (B5.out.trans (hb6.mono B5.out.size))
  have K6 := Lib.hid (K5.out.below hb6)
  have N6 := Lib.hid (N5.out.below hb6)
  have M6 := Lib.hid (M5.out.below hb6)
  have Y6 := Lib.hid (Y5.out.below hb6)
  clear hb6 hz6 B5 K5 N5 M5 Y5
  refine reg_take (i := 0) (v := ?_) rfl (by kernel_rfl) (by kernel_rfl) (by kernel_rfl) (fun _ _ _ h => h) (by rfl) ?hy0 ?_
  case hy0 => intro w' hw'; go_simp; (try with_reducible rfl)
  simp only [Act.put, List.setIfInBounds_toArray, List.set_cons_zero, List.set_cons_succ]
  refine reg_take (i := 1) (v := ?_) rfl (by kernel_rfl) (by kernel_rfl) (by kernel_rfl) (fun _ _ _ h => h) (by rfl) ?hy1 ?_
  case hy1 => intro w' hw'; go_simp; (try with_reducible rfl)
  simp only [Act.put, List.setIfInBounds_toArray, List.set_cons_zero, List.set_cons_succ]
  refine reg_take (i := 2) (v := ?_) rfl (by kernel_rfl) (by kernel_rfl) (by kernel_rfl) (fun _ _ _ h => h) (by rfl) ?hy2 ?_
  case hy2 => intro w' hw'; go_simp; (try with_reducible rfl)
  simp only [Act.put, List.setIfInBounds_toArray, List.set_cons_zero, List.set_cons_succ]
  refine reg_take (i := 3) (v := ?_) rfl (by kernel_rfl) (by kernel_rfl) (by kernel_rfl) (fun _ _ _ h => h) (by rfl) ?hy3 ?_
  case hy3 => intro w' hw'; go_simp; (try with_reducible rfl)
  simp only [Act.put, List.setIfInBounds_toArray, List.set_cons_zero, List.set_cons_succ]
  refine reg_call (i := 4) rfl (by kernel_rfl) (fun K' hK => ?_)
  go_simp
  refine (H.xor _ _ _ n3 32 12 cap5 key nonce (xorC key nonce c msg) c hb (by omega) w6 K6.out N6.out Y6.out).mono ?_
  rintro e w7 ⟨v7, rfl, y7, b7⟩
  rw [XX.out] at y7
  have B7 := Lib.hid (B6.out.trans (b7.mono B6.out.size))
  have K7 := Lib.hid (K6.out.below b7)
  have N7 := Lib.hid (N6.out.below b7)
  have M7 := Lib.hid (M6.out.below b7)
  have Y7 := Lib.hid (Y6.out.below b7)
  have Z7 := Lib.hid y7
  refine hK.out _ _ b7 ?_
  clear hK K' b7 B6 K6 N6 M6 Y6 y7
  refine reg_take (i := 5) (v := ?_) rfl (by kernel_rfl) (by kernel_rfl) (by kernel_rfl) (fun _ _ _ h => h) (by rfl) ?hy5 ?_
  case hy5 => intro w' hw'; go_simp; (try with_reducible rfl)
  simp only [Act.put, List.setIfInBounds_toArray, List.set_cons_zero, List.set_cons_succ]
  refine reg_take (i := 6) (v := ?_) rfl (by kernel_rfl) (by kernel_rfl) (by kernel_rfl) (fun _ _ _ h => h) (by rfl) ?hy6 ?_
  case hy6 => intro w' hw'; go_simp; (try with_reducible rfl)
  simp only [Act.put, List.setIfInBounds_toArray, List.set_cons_zero, List.set_cons_succ]
  refine reg_take (i := 7) (v := ?_) rfl (by kernel_rfl) (by kernel_rfl) (by kernel_rfl) (fun _ _ _ h => h) (by rfl) ?hy7 ?_
  case hy7 => intro w' hw'; go_simp; (try with_reducible rfl)
  simp only [Act.put, List.setIfInBounds_toArray, List.set_cons_zero, List.set_cons_succ]
  refine reg_take (i := 8) (v := ?_) rfl (by kernel_rfl) (by kernel_rfl) (by kernel_rfl) (fun _ _ _ h => h) (by rfl) ?hy8 ?_
  case hy8 => intro w' hw'; go_simp; (try with_reducible rfl)
  simp only [Act.put, List.setIfInBounds_toArray, List.set_cons_zero, List.set_cons_succ]
  refine reg_take (i := 9) (v := ?_) rfl (by kernel_rfl) (by kernel_rfl) (by kernel_rfl) (fun _ _ _ h => h) (by rfl) ?hy9 ?_
  case hy9 => intro w' hw'; go_simp; (try with_reducible rfl)
  simp only [Act.put, List.setIfInBounds_toArray, List.set_cons_zero, List.set_cons_succ]
  refine reg_end (by kernel_rfl) ?_
  go_wp2_with fail
  refine reg_begin (by kernel_rfl) fun w8 hb8 hz8 => ?_
  have B8 := Lib.hid (B7.out.trans (hb8.mono B7.out.size))
  have K8 := Lib.hid (K7.out.below hb8)
  have N8 := Lib.hid (N7.out.below hb8)
  have M8 := Lib.hid (M7.out.below hb8)
  have Y8 := Lib.hid (Y7.out.below hb8)
  have Z8 := Lib.hid (Z7.out.below hb8)
  clear hb8 hz8 B7 K7 N7 M7 Y7 Z7
  refine reg_take (i := 0) (v := ?_) rfl (by kernel_rfl) (by kernel_rfl) (by kernel_rfl) (fun _ _ _ h => h) (by rfl) ?hy0 ?_
  case hy0 => intro w' hw'; go_simp; (try with_reducible rfl)
  simp only [Act.put, List.setIfInBounds_toArray, List.set_cons_zero, List.set_cons_succ]
  refine reg_take (i := 1) (v := ?_) rfl (by kernel_rfl) (by kernel_rfl) (by kernel_rfl) (fun _ _ _ h => h) (by rfl) ?hy1 ?_
  case hy1 => intro w' hw'; go_simp; (try with_reducible rfl)
  simp only [Act.put, List.setIfInBounds_toArray, List.set_cons_zero, List.set_cons_succ]
  refine reg_take (i := 2) (v := ?_) rfl (by kernel_rfl) (by kernel_rfl) (by kernel_rfl) (fun _ _ _ h => h) (by rfl) ?hy2 ?_
  case hy2 => intro w' hw'; go_simp; (try with_reducible rfl)
  simp only [Act.put, List.setIfInBounds_toArray, List.set_cons_zero, List.set_cons_succ]
  refine reg_take (i := 3) (v := ?_) rfl (by kernel_rfl) (by kernel_rfl) (by kernel_rfl) (fun _ _ _ h => h) (by rfl) ?hy3 ?_
  case hy3 => intro w' hw'; go_simp; (try with_reducible rfl)
  simp only [Act.put, List.setIfInBounds_toArray, List.set_cons_zero, List.set_cons_succ]
  refine reg_take (i := 4) (v := ?_) rfl (by kernel_rfl) (by kernel_rfl) (by kernel_rfl) (fun _ _ _ h => h) (by rfl) ?hy4 ?_
  case hy4 => intro w' hw'; go_simp; (try with_reducible rfl)
  simp only [Act.put, List.setIfInBounds_toArray, List.set_cons_zero, List.set_cons_succ]
  refine reg_take (i := 5) (v := ?_) rfl (by kernel_rfl) (by kernel_rfl) (by kernel_rfl) (fun _ _ _ h => h) (by rfl) ?hy5 ?_
  case hy5 => intro w' hw'; go_simp; (try with_reducible rfl)
  simp only [Act.put, List.setIfInBounds_toArray, List.set_cons_zero, List.set_cons_succ]
  refine reg_call (i := 6) rfl (by kernel_rfl) (fun K' hK => ?_)
  go_simp
  have HK := Lib.hid (H.xor _ _ _ x 32 12 cap3 key nonce (msg.take x) c (by omega) (by omega) w8 K8.out N8.out (M8.out.first x (by omega)))
  rw [XT.out] at HK
  refine HK.out.mono ?_
  rintro e w9 ⟨v9, rfl, y9, b9⟩
  have B9 := Lib.hid (B8.out.trans (b9.mono B8.out.size))
  have M9 := Lib.hid (M8.out.below b9)
  have Y9 := Lib.hid (Y8.out.below b9)
  have Z9 := Lib.hid (Z8.out.below b9)
  have X9 := Lib.hid y9
  refine hK.out _ _ b9 ?_
  clear hK K' b9 B8 K8 N8 M8 Y8 Z8 y9 HK
  refine reg_take (i := 7) (v := ?_) rfl (by kernel_rfl) (by kernel_rfl) (by kernel_rfl) (fun _ _ _ h => h) (by rfl) ?hy7 ?_
  case hy7 => intro w' hw'; go_simp; (try with_reducible rfl)
  simp only [Act.put, List.setIfInBounds_toArray, List.set_cons_zero, List.set_cons_succ]
  refine reg_take (i := 8) (v := ?_) rfl (by kernel_rfl) (by kernel_rfl) (by kernel_rfl) (fun _ _ _ h => h) (by rfl) ?hy8 ?_
  case hy8 => intro w' hw'; go_simp; (try with_reducible rfl)
  simp only [Act.put, List.setIfInBounds_toArray, List.set_cons_zero, List.set_cons_succ]
  refine reg_take (i := 9) (v := ?_) rfl (by kernel_rfl) (by kernel_rfl) (by kernel_rfl) (fun _ _ _ h => h) (by rfl) ?hy9 ?_
  case hy9 => intro w' hw'; go_simp; (try with_reducible rfl)
  simp only [Act.put, List.setIfInBounds_toArray, List.set_cons_zero, List.set_cons_succ]
  refine reg_take (i := 10) (v := ?_) rfl (by kernel_rfl) (by kernel_rfl) (by kernel_rfl) (fun _ _ _ h => h) (by rfl) ?hy10 ?_
  case hy10 => intro w' hw'; go_simp; (try with_reducible rfl)
  simp only [Act.put, List.setIfInBounds_toArray, List.set_cons_zero, List.set_cons_succ]
  refine reg_take (i := 11) (v := ?_) rfl (by kernel_rfl) (by kernel_rfl) (by kernel_rfl) (fun _ _ _ h => h) (by rfl) ?hy11 ?_
  case hy11 => intro w' hw'; go_simp; (try with_reducible rfl)
  simp only [Act.put, List.setIfInBounds_toArray, List.set_cons_zero, List.set_cons_succ]
  refine reg_end (by kernel_rfl) ?_
  go_wp2_with fail
  refine still_all (by kernel_rfl) (by kernel_rfl) fun w10 h10 b10 => ?_
  have B10 := Lib.hid (B9.out.trans (b10.mono B9.out.size))
  have r1 := conv_bytes (M9.out.below b10)
  have r2 := conv_bytes (Z9.out.below b10)
  have r3 := conv_bytes (X9.out.below b10)
  have r4 := conv_bytes ((Y9.out.below b10).first x (by omega))
  clear b10 h10 B9 M9 Y9 Z9 X9 XL XX XT ML
  generalize (xorC key nonce c msg).take x = T at *
  repeat still_step
  refine wpStill_nil ?_
  go_wp2
  go_ret
  exact ⟨rfl, B10.out⟩

set_option maxRecDepth 100000 in
set_option maxHeartbeats 4000000 in
theorem back_more (H : CipherIs) (A3 : Option Addr) (n3 cap3 : Nat) (key nonce msg : List UInt8) (c : UInt32) (x : Nat) (hk : key.length = 32) (hc : nonce.length = 12) (hn : n3 ≤ 1000) (hb : (n3 + 63) / 64 ≤ 4294967296 - c.toNat) (hxb : x < 65536) (hk2 : n3 < x) (w : World) (h3 : BytesAt w (.slice A3 n3 cap3) msg) :
    Calls Try.prog 6 #[.agg (bv key).toArray, .agg (bv nonce).toArray, .int .u32 (c.toNat : Int), .slice A3 n3 cap3, .int .u16 (x : Int)] w fun e w' => e = .returned (.bool true) ∧ Below w.heap.size w w' := by
  have d0 : decide ((1000 : Int) < (n3 : Int)) = false := by simp; omega
  have XL := Lib.hid (xorC_length key nonce c msg)
  have XX := Lib.hid (xorC_xorC key nonce c msg)
  have XT := Lib.hid (xorC_take key nonce c msg n3)
  have ML := Lib.hid h3.size.1
  have hcap3 := h3.size.2
  have hkn : n3 ≤ n3 := by omega
  have hkc : n3 ≤ cap3 := by omega
  have H3 := Lib.hid h3
  have KL := Lib.hid hk
  have NL := Lib.hid hc
  clear h3 hk hc
  go_enter Try.func6, Try.ntmps6
  go_wp2_with (with_reducible refine wpList_box_row rfl _ _ rfl (bv key).toArray ?hx ?_)
  case hx => exact rfl
  intro w1 b1 y1 z1
  have B1 := Lib.hid b1
  have Y1 := Lib.hid (BytesAt.of_whole y1 KL.out)
  clear b1 y1 z1
  generalize w.heap.size = gk at Y1 ⊢
  go_wp2_with (with_reducible refine wpList_box_row rfl _ _ rfl (bv nonce).toArray ?hx ?_)
  case hx => exact rfl
  intro w2 b2 y2 z2
  have B2 := Lib.hid (B1.out.trans (b2.mono B1.out.size))
  have K2 := Lib.hid (Y1.out.below b2)
  have N2 := Lib.hid (BytesAt.of_whole y2 NL.out)
  have M2 := Lib.hid (H3.out.below B2.out)
  clear b2 y2 z2 Y1 B1 H3
  generalize w1.heap.size = gn at N2 ⊢
  go_wp2_with fail
  refine (works6 H w2).mono ?_
  rintro e w3 ⟨rfl, b3⟩
  have B3 := Lib.hid (B2.out.trans (b3.mono B2.out.size))
  have K3 := Lib.hid (K2.out.below b3)
  have N3 := Lib.hid (N2.out.below b3)
  have M3 := Lib.hid (M2.out.below b3)
  clear b3 B2 K2 N2 M2
  go_wp2_with fail
  refine reg_begin (by kernel_rfl) fun w4 hb4 hz4 => ?_
  have B4 := Lib.hid (B3.out.trans (hb4.mono B3.out.size))
  have K4 := Lib.hid (K3.out.below hb4)
  have N4 := Lib.hid (N3.out.below hb4)
  have M4 := Lib.hid (M3.out.below hb4)
  clear hb4 hz4 B3 K3 N3 M3
  refine reg_take (i := 0) (v := ?_) rfl (by kernel_rfl) (by kernel_rfl) (by kernel_rfl) (fun _ _ _ h => h) (by rfl) ?hy0 ?_
  case hy0 => intro w' hw'; go_simp; (try with_reducible rfl)
  simp only [Act.put, List.setIfInBounds_toArray, List.set_cons_zero, List.set_cons_succ]
  refine reg_take (i := 1) (v := ?_) rfl (by kernel_rfl) (by kernel_rfl) (by kernel_rfl) (fun _ _ _ h => h) (by rfl) ?hy1 ?_
  case hy1 => intro w' hw'; go_simp; (try with_reducible rfl)
  simp only [Act.put, List.setIfInBounds_toArray, List.set_cons_zero, List.set_cons_succ]
  refine reg_take (i := 2) (v := ?_) rfl (by kernel_rfl) (by kernel_rfl) (by kernel_rfl) (fun _ _ _ h => h) (by rfl) ?hy2 ?_
  case hy2 => intro w' hw'; go_simp; (try with_reducible rfl)
  simp only [Act.put, List.setIfInBounds_toArray, List.set_cons_zero, List.set_cons_succ]
  refine reg_take (i := 3) (v := ?_) rfl (by kernel_rfl) (by kernel_rfl) (by kernel_rfl) (fun _ _ _ h => h) (by rfl) ?hy3 ?_
  case hy3 => intro w' hw'; go_simp; (try with_reducible rfl)
  simp only [Act.put, List.setIfInBounds_toArray, List.set_cons_zero, List.set_cons_succ]
  refine reg_call (i := 4) rfl (by kernel_rfl) (fun K' hK => ?_)
  go_simp
  refine (H.xor _ _ _ n3 32 12 cap3 key nonce msg c hb (by omega) w4 K4.out N4.out M4.out).mono ?_
  rintro e w5 ⟨v5, rfl, y5, b5⟩
  have B5 := Lib.hid (B4.out.trans (b5.mono B4.out.size))
  have K5 := Lib.hid (K4.out.below b5)
  have N5 := Lib.hid (N4.out.below b5)
  have M5 := Lib.hid (M4.out.below b5)
  obtain ⟨A5, cap5, rfl, hc5, -⟩ := id y5
  have el5 : (xorC key nonce c msg).length = n3 := by rw [XL.out]; exact ML.out.symm
  rw [el5] at y5 hc5 ⊢
  have Y5 := Lib.hid y5
  have hk5 : n3 ≤ cap5 := by omega
  refine hK.out _ _ b5 ?_
  clear hK K' b5 B4 K4 N4 M4 y5 el5
  refine reg_take (i := 5) (v := ?_) rfl (by kernel_rfl) (by kernel_rfl) (by kernel_rfl) (fun _ _ _ h => h) (by rfl) ?hy5 ?_
  case hy5 => intro w' hw'; go_simp; (try with_reducible rfl)
  simp only [Act.put, List.setIfInBounds_toArray, List.set_cons_zero, List.set_cons_succ]
  refine reg_take (i := 6) (v := ?_) rfl (by kernel_rfl) (by kernel_rfl) (by kernel_rfl) (fun _ _ _ h => h) (by rfl) ?hy6 ?_
  case hy6 => intro w' hw'; go_simp; (try with_reducible rfl)
  simp only [Act.put, List.setIfInBounds_toArray, List.set_cons_zero, List.set_cons_succ]
  refine reg_take (i := 7) (v := ?_) rfl (by kernel_rfl) (by kernel_rfl) (by kernel_rfl) (fun _ _ _ h => h) (by rfl) ?hy7 ?_
  case hy7 => intro w' hw'; go_simp; (try with_reducible rfl)
  simp only [Act.put, List.setIfInBounds_toArray, List.set_cons_zero, List.set_cons_succ]
  refine reg_take (i := 8) (v := ?_) rfl (by kernel_rfl) (by kernel_rfl) (by kernel_rfl) (fun _ _ _ h => h) (by rfl) ?hy8 ?_
  case hy8 => intro w' hw'; go_simp; (try with_reducible rfl)
  simp only [Act.put, List.setIfInBounds_toArray, List.set_cons_zero, List.set_cons_succ]
  refine reg_take (i := 9) (v := ?_) rfl (by kernel_rfl) (by kernel_rfl) (by kernel_rfl) (fun _ _ _ h => h) (by rfl) ?hy9 ?_
  case hy9 => intro w' hw'; go_simp; (try with_reducible rfl)
  simp only [Act.put, List.setIfInBounds_toArray, List.set_cons_zero, List.set_cons_succ]
  refine reg_end (by kernel_rfl) ?_
  go_wp2_with fail
  refine reg_begin (by kernel_rfl) fun w6 hb6 hz6 => ?_
  have B6 := Lib.hid (B5.out.trans (hb6.mono B5.out.size))
  have K6 := Lib.hid (K5.out.below hb6)
  have N6 := Lib.hid (N5.out.below hb6)
  have M6 := Lib.hid (M5.out.below hb6)
  have Y6 := Lib.hid (Y5.out.below hb6)
  clear hb6 hz6 B5 K5 N5 M5 Y5
  refine reg_take (i := 0) (v := ?_) rfl (by kernel_rfl) (by kernel_rfl) (by kernel_rfl) (fun _ _ _ h => h) (by rfl) ?hy0 ?_
  case hy0 => intro w' hw'; go_simp; (try with_reducible rfl)
  simp only [Act.put, List.setIfInBounds_toArray, List.set_cons_zero, List.set_cons_succ]
  refine reg_take (i := 1) (v := ?_) rfl (by kernel_rfl) (by kernel_rfl) (by kernel_rfl) (fun _ _ _ h => h) (by rfl) ?hy1 ?_
  case hy1 => intro w' hw'; go_simp; (try with_reducible rfl)
  simp only [Act.put, List.setIfInBounds_toArray, List.set_cons_zero, List.set_cons_succ]
  refine reg_take (i := 2) (v := ?_) rfl (by kernel_rfl) (by kernel_rfl) (by kernel_rfl) (fun _ _ _ h => h) (by rfl) ?hy2 ?_
  case hy2 => intro w' hw'; go_simp; (try with_reducible rfl)
  simp only [Act.put, List.setIfInBounds_toArray, List.set_cons_zero, List.set_cons_succ]
  refine reg_take (i := 3) (v := ?_) rfl (by kernel_rfl) (by kernel_rfl) (by kernel_rfl) (fun _ _ _ h => h) (by rfl) ?hy3 ?_
  case hy3 => intro w' hw'; go_simp; (try with_reducible rfl)
  simp only [Act.put, List.setIfInBounds_toArray, List.set_cons_zero, List.set_cons_succ]
  refine reg_call (i := 4) rfl (by kernel_rfl) (fun K' hK => ?_)
  go_simp
  refine (H.xor _ _ _ n3 32 12 cap5 key nonce (xorC key nonce c msg) c hb (by omega) w6 K6.out N6.out Y6.out).mono ?_
  rintro e w7 ⟨v7, rfl, y7, b7⟩
  rw [XX.out] at y7
  have B7 := Lib.hid (B6.out.trans (b7.mono B6.out.size))
  have K7 := Lib.hid (K6.out.below b7)
  have N7 := Lib.hid (N6.out.below b7)
  have M7 := Lib.hid (M6.out.below b7)
  have Y7 := Lib.hid (Y6.out.below b7)
  have Z7 := Lib.hid y7
  refine hK.out _ _ b7 ?_
  clear hK K' b7 B6 K6 N6 M6 Y6 y7
  refine reg_take (i := 5) (v := ?_) rfl (by kernel_rfl) (by kernel_rfl) (by kernel_rfl) (fun _ _ _ h => h) (by rfl) ?hy5 ?_
  case hy5 => intro w' hw'; go_simp; (try with_reducible rfl)
  simp only [Act.put, List.setIfInBounds_toArray, List.set_cons_zero, List.set_cons_succ]
  refine reg_take (i := 6) (v := ?_) rfl (by kernel_rfl) (by kernel_rfl) (by kernel_rfl) (fun _ _ _ h => h) (by rfl) ?hy6 ?_
  case hy6 => intro w' hw'; go_simp; (try with_reducible rfl)
  simp only [Act.put, List.setIfInBounds_toArray, List.set_cons_zero, List.set_cons_succ]
  refine reg_take (i := 7) (v := ?_) rfl (by kernel_rfl) (by kernel_rfl) (by kernel_rfl) (fun _ _ _ h => h) (by rfl) ?hy7 ?_
  case hy7 => intro w' hw'; go_simp; (try with_reducible rfl)
  simp only [Act.put, List.setIfInBounds_toArray, List.set_cons_zero, List.set_cons_succ]
  refine reg_take (i := 8) (v := ?_) rfl (by kernel_rfl) (by kernel_rfl) (by kernel_rfl) (fun _ _ _ h => h) (by rfl) ?hy8 ?_
  case hy8 => intro w' hw'; go_simp; (try with_reducible rfl)
  simp only [Act.put, List.setIfInBounds_toArray, List.set_cons_zero, List.set_cons_succ]
  refine reg_take (i := 9) (v := ?_) rfl (by kernel_rfl) (by kernel_rfl) (by kernel_rfl) (fun _ _ _ h => h) (by rfl) ?hy9 ?_
  case hy9 => intro w' hw'; go_simp; (try with_reducible rfl)
  simp only [Act.put, List.setIfInBounds_toArray, List.set_cons_zero, List.set_cons_succ]
  refine reg_end (by kernel_rfl) ?_
  have hw : wrap64 (x : Int) = (x : Int) := IntWalk.wrap64_in _ (by omega)
  have hw2 : IntKind.i64.wrap (x : Int) = (x : Int) := IntWalk.i64_in _ (by omega)
  have hle : ¬ ((x : Int) ≤ (n3 : Int)) := by omega
  have hle2 : ¬ (x ≤ n3) := by omega
  go_wp2_with fail
  refine reg_begin (by kernel_rfl) fun w8 hb8 hz8 => ?_
  have B8 := Lib.hid (B7.out.trans (hb8.mono B7.out.size))
  have K8 := Lib.hid (K7.out.below hb8)
  have N8 := Lib.hid (N7.out.below hb8)
  have M8 := Lib.hid (M7.out.below hb8)
  have Y8 := Lib.hid (Y7.out.below hb8)
  have Z8 := Lib.hid (Z7.out.below hb8)
  clear hb8 hz8 B7 K7 N7 M7 Y7 Z7
  refine reg_take (i := 0) (v := ?_) rfl (by kernel_rfl) (by kernel_rfl) (by kernel_rfl) (fun _ _ _ h => h) (by rfl) ?hy0 ?_
  case hy0 => intro w' hw'; go_simp; (try with_reducible rfl)
  simp only [Act.put, List.setIfInBounds_toArray, List.set_cons_zero, List.set_cons_succ]
  refine reg_take (i := 1) (v := ?_) rfl (by kernel_rfl) (by kernel_rfl) (by kernel_rfl) (fun _ _ _ h => h) (by rfl) ?hy1 ?_
  case hy1 => intro w' hw'; go_simp; (try with_reducible rfl)
  simp only [Act.put, List.setIfInBounds_toArray, List.set_cons_zero, List.set_cons_succ]
  refine reg_take (i := 2) (v := ?_) rfl (by kernel_rfl) (by kernel_rfl) (by kernel_rfl) (fun _ _ _ h => h) (by rfl) ?hy2 ?_
  case hy2 => intro w' hw'; go_simp; (try with_reducible rfl)
  simp only [Act.put, List.setIfInBounds_toArray, List.set_cons_zero, List.set_cons_succ]
  refine reg_take (i := 3) (v := ?_) rfl (by kernel_rfl) (by kernel_rfl) (by kernel_rfl) (fun _ _ _ h => h) (by rfl) ?hy3 ?_
  case hy3 => intro w' hw'; go_simp; (try with_reducible rfl)
  simp only [Act.put, List.setIfInBounds_toArray, List.set_cons_zero, List.set_cons_succ]
  refine reg_take (i := 4) (v := ?_) rfl (by kernel_rfl) (by kernel_rfl) (by kernel_rfl) (fun _ _ _ h => h) (by rfl) ?hy4 ?_
  case hy4 => intro w' hw'; go_simp; (try with_reducible rfl)
  simp only [Act.put, List.setIfInBounds_toArray, List.set_cons_zero, List.set_cons_succ]
  refine reg_take (i := 5) (v := ?_) rfl (by kernel_rfl) (by kernel_rfl) (by kernel_rfl) (fun _ _ _ h => h) (by rfl) ?hy5 ?_
  case hy5 => intro w' hw'; go_simp; (try with_reducible rfl)
  simp only [Act.put, List.setIfInBounds_toArray, List.set_cons_zero, List.set_cons_succ]
  refine reg_call (i := 6) rfl (by kernel_rfl) (fun K' hK => ?_)
  go_simp
  have HK := Lib.hid (H.xor _ _ _ n3 32 12 cap3 key nonce (msg.take n3) c (by omega) (by omega) w8 K8.out N8.out (M8.out.first n3 (by omega)))
  rw [XT.out] at HK
  refine HK.out.mono ?_
  rintro e w9 ⟨v9, rfl, y9, b9⟩
  have B9 := Lib.hid (B8.out.trans (b9.mono B8.out.size))
  have M9 := Lib.hid (M8.out.below b9)
  have Y9 := Lib.hid (Y8.out.below b9)
  have Z9 := Lib.hid (Z8.out.below b9)
  have X9 := Lib.hid y9
  refine hK.out _ _ b9 ?_
  clear hK K' b9 B8 K8 N8 M8 Y8 Z8 y9 HK
  refine reg_take (i := 7) (v := ?_) rfl (by kernel_rfl) (by kernel_rfl) (by kernel_rfl) (fun _ _ _ h => h) (by rfl) ?hy7 ?_
  case hy7 => intro w' hw'; go_simp; (try with_reducible rfl)
  simp only [Act.put, List.setIfInBounds_toArray, List.set_cons_zero, List.set_cons_succ]
  refine reg_take (i := 8) (v := ?_) rfl (by kernel_rfl) (by kernel_rfl) (by kernel_rfl) (fun _ _ _ h => h) (by rfl) ?hy8 ?_
  case hy8 => intro w' hw'; go_simp; (try with_reducible rfl)
  simp only [Act.put, List.setIfInBounds_toArray, List.set_cons_zero, List.set_cons_succ]
  refine reg_take (i := 9) (v := ?_) rfl (by kernel_rfl) (by kernel_rfl) (by kernel_rfl) (fun _ _ _ h => h) (by rfl) ?hy9 ?_
  case hy9 => intro w' hw'; go_simp; (try with_reducible rfl)
  simp only [Act.put, List.setIfInBounds_toArray, List.set_cons_zero, List.set_cons_succ]
  refine reg_take (i := 10) (v := ?_) rfl (by kernel_rfl) (by kernel_rfl) (by kernel_rfl) (fun _ _ _ h => h) (by rfl) ?hy10 ?_
  case hy10 => intro w' hw'; go_simp; (try with_reducible rfl)
  simp only [Act.put, List.setIfInBounds_toArray, List.set_cons_zero, List.set_cons_succ]
  refine reg_take (i := 11) (v := ?_) rfl (by kernel_rfl) (by kernel_rfl) (by kernel_rfl) (fun _ _ _ h => h) (by rfl) ?hy11 ?_
  case hy11 => intro w' hw'; go_simp; (try with_reducible rfl)
  simp only [Act.put, List.setIfInBounds_toArray, List.set_cons_zero, List.set_cons_succ]
  refine reg_end (by kernel_rfl) ?_
  go_wp2_with fail
  refine still_all (by kernel_rfl) (by kernel_rfl) fun w10 h10 b10 => ?_
  have B10 := Lib.hid (B9.out.trans (b10.mono B9.out.size))
  have r1 := conv_bytes (M9.out.below b10)
  have r2 := conv_bytes (Z9.out.below b10)
  have r3 := conv_bytes (X9.out.below b10)
  have r4 := conv_bytes ((Y9.out.below b10).first n3 (by omega))
  clear b10 h10 B9 M9 Y9 Z9 X9 XL XX XT ML
  generalize (xorC key nonce c msg).take n3 = T at *
  repeat still_step
  refine wpStill_nil ?_
  go_wp2
  go_ret
  exact ⟨rfl, B10.out⟩

theorem back_core (H : CipherIs) (A3 : Option Addr) (n3 cap3 : Nat) (key nonce msg : List UInt8) (y x : Nat) (hy : y < 4294967296) (hx : x < 65536) (hk : key.length = 32) (hc : nonce.length = 12) (w : World) (h3 : BytesAt w (.slice A3 n3 cap3) msg) :
    Calls Try.prog 6 #[.agg (bv key).toArray, .agg (bv nonce).toArray, .int .u32 (y : Int), .slice A3 n3 cap3, .int .u16 (x : Int)] w fun e w' => e = .returned (.bool true) ∧ Below w.heap.size w w' := by
  have e := num_wd y hy
  rw [wd] at e
  rw [e]
  by_cases hg : 1000 < n3
  · exact back_great H A3 n3 cap3 key nonce msg _ x hk hc hg w h3
  · by_cases hb : 4294967296 - (UInt32.ofNat y).toNat < (n3 + 63) / 64
    · exact back_big H A3 n3 cap3 key nonce msg _ x hk hc (by omega) hb w h3
    · by_cases hl : x ≤ n3
      · exact back_less H A3 n3 cap3 key nonce msg _ x hk hc (by omega) (by omega) hl w h3
      · exact back_more H A3 n3 cap3 key nonce msg _ x hk hc (by omega) (by omega) hx (by omega) w h3
end Go.Proofs.Ythphneiecihkiaa
