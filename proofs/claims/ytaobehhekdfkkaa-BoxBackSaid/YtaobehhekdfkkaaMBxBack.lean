/- The statement BoxBack: what is sealed is 16 bytes longer, and is opened as it was; with one byte of its tag changed it is not. For every input. -/
import Derived.Test.YtaobehhekdfkkaaGk
import Derived.Test.YtaobehhekdfkkaaGa
namespace Go.Proofs.Ytaobehhekdfkkaa
open Go.RowKit Go.ChangeShapes Go.WideShapes Go.ChangeAt

/-- What is opened when one byte of the tag is changed by y. -/
theorem back_math (key nonce wth msg : List UInt8) (j : Nat) (c y : UInt8) (hj : j < 16) (hc : (sealC key nonce wth msg)[msg.length + j]? = some c) :
    (y = 0 → opC 32 12 key nonce wth ((sealC key nonce wth msg).set (msg.length + j) (c ^^^ y)) = 0) ∧ (y ≠ 0 → opC 32 12 key nonce wth ((sealC key nonce wth msg).set (msg.length + j) (c ^^^ y)) = 21 ∧ opA 32 12 key nonce wth ((sealC key nonce wth msg).set (msg.length + j) (c ^^^ y)) = []) := by
  constructor
  · rintro rfl
    obtain ⟨hlt, he⟩ := List.getElem?_eq_some_iff.1 hc
    have e : (sealC key nonce wth msg).set (msg.length + j) (c ^^^ 0) = sealC key nonce wth msg := by
      rw [UInt8.xor_zero, ← he, List.set_getElem_self]
    rw [e]
    exact (seal_opens key nonce wth msg).1
  · intro hy
    refine seal_changed key nonce wth msg j _ hj fun e => hy ?_
    have hxl : (xorC key nonce 1 msg).length = msg.length := xorC_length ..
    have e2 : (sealC key nonce wth msg)[msg.length + j]? = (boxTag key nonce wth (xorC key nonce 1 msg))[j]? := by
      rw [sealC, List.getElem?_append_right (by omega), hxl, Nat.add_sub_cancel_left]
    rw [e2, e] at hc
    injection hc with h1
    have h3 : c ^^^ (c ^^^ y) = c ^^^ c := by rw [h1]
    rw [xor_self_left] at h3
    simpa using h3

set_option maxRecDepth 100000 in
set_option maxHeartbeats 4000000 in
theorem back_great (H : BoxIs) (A2 A3 : Option Addr) (n2 n3 cap2 cap3 : Nat) (key : List UInt8) (v1 v4 v5 : Value) (hg : 600 < n2 ∨ 600 < n3) (w : World) :
    Calls Try.prog 5 #[.agg (bv key).toArray, v1, .slice A2 n2 cap2, .slice A3 n3 cap3, v4, v5] w fun e w' => e = .returned (.bool true) ∧ Below w.heap.size w w' := by
  have hd : (decide ((600 : Int) < (n2 : Int)) = true) ∨ (decide ((600 : Int) < (n2 : Int)) = false ∧ decide ((600 : Int) < (n3 : Int)) = true) := by
    simp only [decide_eq_true_eq, decide_eq_false_iff_not]
    omega
  clear hg
  rcases hd with d0 | ⟨d0, d1⟩
  all_goals
    go_enter Try.func5, Try.ntmps5
    go_wp2_with (with_reducible refine wpList_box_row rfl _ _ rfl (bv key).toArray ?hx ?_)
    case hx => exact rfl
    intro w1 b1 y1 z1
    have B1 := Lib.hid b1
    clear b1 y1 z1
    go_wp2_with fail
    refine (works8 H w1).mono ?_
    rintro e w3 ⟨rfl, b3⟩
    have B3 := Lib.hid (B1.out.trans (b3.mono B1.out.size))
    clear b3 B1
    go_wp2
    go_ret
    exact ⟨rfl, B3.out⟩

set_option maxRecDepth 100000 in
set_option maxHeartbeats 4000000 in
theorem back_small (H : BoxIs) (A2 A3 : Option Addr) (n2 n3 cap2 cap3 n : Nat) (key wth msg : List UInt8) (at_ y : UInt8) (hk : key.length = 32) (hn : n < 18446744073709551616) (hn2 : n2 ≤ 600) (hn3 : n3 ≤ 600) (w : World) (h2 : BytesAt w (.slice A2 n2 cap2) wth) (h3 : BytesAt w (.slice A3 n3 cap3) msg) :
    Calls Try.prog 5 #[.agg (bv key).toArray, .int .u64 (n : Int), .slice A2 n2 cap2, .slice A3 n3 cap3, .int .u8 (at_.toNat : Int), .int .u8 (y.toNat : Int)] w fun e w' => e = .returned (.bool true) ∧ Below w.heap.size w w' := by
  have d0 : decide ((600 : Int) < (n2 : Int)) = false := by simp; omega
  have d1 : decide ((600 : Int) < (n3 : Int)) = false := by simp; omega
  have HN := Lib.hid (And.intro hn (And.intro hn2 hn3))
  have H2 := Lib.hid h2
  have H3 := Lib.hid h3
  have ML := Lib.hid h3.size.1
  have KL := Lib.hid hk
  have HNo := fun w => Lib.hid (H.nonce n w hn)
  have NL := Lib.hid (nonceB_length n)
  obtain ⟨N, hN⟩ : ∃ N, N = nonceB n := ⟨_, rfl⟩
  rw [← hN] at NL
  simp only [← hN] at HNo
  clear h2 h3 hk hn hn2 hn3 hN
  go_enter Try.func5, Try.ntmps5
  go_wp2_with (with_reducible refine wpList_box_row rfl _ _ rfl (bv key).toArray ?hx ?_)
  case hx => exact rfl
  intro w1 b1 y1 z1
  have B1 := Lib.hid b1
  have Y1 := Lib.hid (block_bytes (n := 32) (cap := 32) y1 KL.out.symm (Nat.le_refl _))
  have GKs : Hid (w.heap.size < w1.heap.size) := Lib.hid (by have := (y1.lt); omega)
  clear b1 y1 z1
  obtain ⟨gk, hgk⟩ : ∃ g, g = w.heap.size := ⟨_, rfl⟩
  rw [← hgk] at Y1 GKs ⊢
  have HGK := Lib.hid hgk
  clear hgk
  go_wp2_with fail
  refine (works8 H w1).mono ?_
  rintro e w2 ⟨rfl, b2⟩
  have GK2 : Hid (gk < w2.heap.size) := Lib.hid (Nat.lt_of_lt_of_le GKs.out b2.size)
  have B2 := Lib.hid (B1.out.trans (b2.mono B1.out.size))
  have K2 := Lib.hid (Y1.out.below b2)
  clear b2 B1 Y1 GKs
  go_wp2_with fail
  refine reg_begin (by kernel_rfl) fun w3 hb hz => ?_
  have B3 : Hid (Below w.heap.size w w3) := Lib.hid (B2.out.trans (hb.mono B2.out.size))
  have K3 := Lib.hid (K2.out.below hb)
  have GK3 : Hid (gk < w3.heap.size) := Lib.hid (Nat.lt_of_lt_of_le GK2.out hb.size)
  clear hb hz B2 K2 GK2
  refine reg_take (i := 0) (v := ?_) rfl (by kernel_rfl) (by kernel_rfl) (by kernel_rfl) (fun _ _ _ h => h) (by rfl) ?hy0 ?_
  case hy0 => intro w' hw'; go_simp; (try with_reducible rfl)
  simp only [Act.put, List.setIfInBounds_toArray, List.set_cons_zero, List.set_cons_succ]
  refine reg_take (i := 1) (v := ?_) rfl (by kernel_rfl) (by kernel_rfl) (by kernel_rfl) (fun _ _ _ h => h) (by rfl) ?hy1 ?_
  case hy1 => intro w' hw'; go_simp; (try with_reducible rfl)
  simp only [Act.put, List.setIfInBounds_toArray, List.set_cons_zero, List.set_cons_succ]
  refine reg_take (i := 3) (v := ?_) rfl (by kernel_rfl) (by kernel_rfl) (by kernel_rfl) (fun _ _ _ h => h) (by rfl) ?hy3 ?_
  case hy3 => intro w' hw'; go_simp; (try with_reducible rfl)
  simp only [Act.put, List.setIfInBounds_toArray, List.set_cons_zero, List.set_cons_succ]
  refine reg_take (i := 4) (v := ?_) rfl (by kernel_rfl) (by kernel_rfl) (by kernel_rfl) (fun _ _ _ h => h) (by rfl) ?hy4 ?_
  case hy4 => intro w' hw'; go_simp; (try with_reducible rfl)
  simp only [Act.put, List.setIfInBounds_toArray, List.set_cons_zero, List.set_cons_succ]
  refine reg_call (i := 2) rfl (by kernel_rfl) (fun K' hK => ?_)
  go_simp
  refine (HNo w3).out.mono ?_
  rintro e w4 ⟨v4, rfl, y4, hb⟩
  obtain ⟨An, cn, rfl, -, -⟩ := id y4
  rw [NL.out] at y4 ⊢
  have B4 : Hid (Below w.heap.size w w4) := Lib.hid (B3.out.trans (hb.mono B3.out.size))
  have K4 := Lib.hid (K3.out.below hb)
  have GK4 : Hid (gk < w4.heap.size) := Lib.hid (Nat.lt_of_lt_of_le GK3.out hb.size)
  have Y4 := Lib.hid y4
  refine hK.out _ _ hb ?_
  clear hK K' hb B3 K3 GK3 y4
  refine reg_call (i := 5) rfl (by kernel_rfl) (fun K' hK => ?_)
  go_simp
  refine (H.seals _ _ _ _ n2 n3 32 _ _ _ key N wth msg w4 (by have := HN.out; omega) (by have := HN.out; omega) K4.out Y4.out (H2.out.below B4.out) (H3.out.below B4.out)).mono ?_
  rintro e w5 ⟨v5, rfl, y5, hb⟩
  have B5 : Hid (Below w.heap.size w w5) := Lib.hid (B4.out.trans (hb.mono B4.out.size))
  have K5 := Lib.hid (K4.out.below hb)
  obtain ⟨g, off, cap, t, cs, rfl, hcap, hB, hw, hcell⟩ := id y5
  have SO := Lib.hid (seal_opens key N wth msg)
  have SL := Lib.hid (sealC_length key N wth msg)
  have BM := Lib.hid (fun (j : Nat) (c : UInt8) => back_math key N wth msg j c y)
  obtain ⟨S, hS⟩ : ∃ S, S = sealC key N wth msg := ⟨_, rfl⟩
  simp only [← hS] at SO SL BM hcap hcell y5 ⊢
  have Y5 := Lib.hid y5.bytes
  have HW5 := Lib.hid hw
  have HC5 := Lib.hid hcell
  have GB : Hid (w4.heap.size ≤ g) := Lib.hid hB
  obtain ⟨m, hm⟩ : ∃ m, m = S.length := ⟨_, rfl⟩
  have MM : Hid (m = n3 + 16) := Lib.hid (by rw [hm, SL.out, ML.out])
  rw [← hm] at Y5 hcap ⊢
  have HM := Lib.hid hm
  have HCAP := Lib.hid hcap
  refine hK.out _ _ hb ?_
  clear hK K' hb y5 hw hcell hB hS hm hcap Y4 K4
  refine reg_take (i := 6) (v := ?_) rfl (by kernel_rfl) (by kernel_rfl) (by kernel_rfl) (fun _ _ _ h => h) (by rfl) ?hy6 ?_
  case hy6 => intro w' hw'; go_simp; (try with_reducible rfl)
  simp only [Act.put, List.setIfInBounds_toArray, List.set_cons_zero, List.set_cons_succ]
  refine reg_take (i := 7) (v := ?_) rfl (by kernel_rfl) (by kernel_rfl) (by kernel_rfl) (fun _ _ _ h => h) (by rfl) ?hy7 ?_
  case hy7 => intro w' hw'; go_simp; (try with_reducible rfl)
  simp only [Act.put, List.setIfInBounds_toArray, List.set_cons_zero, List.set_cons_succ]
  refine reg_take (i := 8) (v := ?_) rfl (by kernel_rfl) (by kernel_rfl) (by kernel_rfl) (fun _ _ _ h => h) (by rfl) ?hy8 ?_
  case hy8 => intro w' hw'; go_simp; (try with_reducible rfl)
  simp only [Act.put, List.setIfInBounds_toArray, List.set_cons_zero, List.set_cons_succ]
  refine reg_take (i := 9) (v := ?_) rfl (by kernel_rfl) (by kernel_rfl) (by kernel_rfl) (fun _ _ _ h => h) (by rfl) ?hy9 ?_
  case hy9 => intro w' hw'; go_simp; (try with_reducible rfl)
  simp only [Act.put, List.setIfInBounds_toArray, List.set_cons_zero, List.set_cons_succ]
  refine reg_take (i := 10) (v := ?_) rfl (by kernel_rfl) (by kernel_rfl) (by kernel_rfl) (fun _ _ _ h => h) (by rfl) ?hy10 ?_
  case hy10 => intro w' hw'; go_simp; (try with_reducible rfl)
  simp only [Act.put, List.setIfInBounds_toArray, List.set_cons_zero, List.set_cons_succ]
  refine reg_end (by kernel_rfl) ?_
  go_wp2_with fail
  refine reg_begin (by kernel_rfl) fun w6 hb hz => ?_
  have B6 : Hid (Below w.heap.size w w6) := Lib.hid (B5.out.trans (hb.mono B5.out.size))
  have K6 := Lib.hid (K5.out.below hb)
  have Y6 := Lib.hid (Y5.out.below hb)
  have D6 : Hid (Below w5.heap.size w5 w6) := Lib.hid hb
  clear hb hz B5 K5
  refine reg_take (i := 0) (v := ?_) rfl (by kernel_rfl) (by kernel_rfl) (by kernel_rfl) (fun _ _ _ h => h) (by rfl) ?hy0 ?_
  case hy0 => intro w' hw'; go_simp; (try with_reducible rfl)
  simp only [Act.put, List.setIfInBounds_toArray, List.set_cons_zero, List.set_cons_succ]
  refine reg_take (i := 1) (v := ?_) rfl (by kernel_rfl) (by kernel_rfl) (by kernel_rfl) (fun _ _ _ h => h) (by rfl) ?hy1 ?_
  case hy1 => intro w' hw'; go_simp; (try with_reducible rfl)
  simp only [Act.put, List.setIfInBounds_toArray, List.set_cons_zero, List.set_cons_succ]
  refine reg_take (i := 3) (v := ?_) rfl (by kernel_rfl) (by kernel_rfl) (by kernel_rfl) (fun _ _ _ h => h) (by rfl) ?hy3 ?_
  case hy3 => intro w' hw'; go_simp; (try with_reducible rfl)
  simp only [Act.put, List.setIfInBounds_toArray, List.set_cons_zero, List.set_cons_succ]
  refine reg_take (i := 4) (v := ?_) rfl (by kernel_rfl) (by kernel_rfl) (by kernel_rfl) (fun _ _ _ h => h) (by rfl) ?hy4 ?_
  case hy4 => intro w' hw'; go_simp; (try with_reducible rfl)
  simp only [Act.put, List.setIfInBounds_toArray, List.set_cons_zero, List.set_cons_succ]
  refine reg_call (i := 2) rfl (by kernel_rfl) (fun K' hK => ?_)
  go_simp
  refine (HNo w6).out.mono ?_
  rintro e w7 ⟨v7, rfl, y7, hb⟩
  obtain ⟨Aq, cq, rfl, -, -⟩ := id y7
  rw [NL.out] at y7 ⊢
  have B7 : Hid (Below w.heap.size w w7) := Lib.hid (B6.out.trans (hb.mono B6.out.size))
  have K7 := Lib.hid (K6.out.below hb)
  have YS7 := Lib.hid (Y6.out.below hb)
  have D7 : Hid (Below w5.heap.size w5 w7) := Lib.hid (D6.out.trans (hb.mono D6.out.size))
  have Y7 := Lib.hid y7
  refine hK.out _ _ hb ?_
  clear hK K' hb B6 K6 Y6 D6 y7
  refine reg_call (i := 5) rfl (by kernel_rfl) (fun K' hK => ?_)
  go_simp
  refine (H.opens _ _ _ _ 32 12 n2 m 32 _ _ _ key N wth S w7 (by have := HN.out; omega) (by have := HN.out; have := MM.out; omega) K7.out Y7.out (H2.out.below B7.out) YS7.out).mono ?_
  rintro e w8 ⟨v8, rfl, y8, hb⟩
  rw [SO.out.1]
  rw [SO.out.2] at y8
  have B8 : Hid (Below w.heap.size w w8) := Lib.hid (B7.out.trans (hb.mono B7.out.size))
  have K8 := Lib.hid (K7.out.below hb)
  have D8 : Hid (Below w5.heap.size w5 w8) := Lib.hid (D7.out.trans (hb.mono D7.out.size))
  have Y8 := Lib.hid y8
  refine hK.out _ _ hb ?_
  clear hK K' hb B7 K7 D7 y8 YS7 Y7
  refine reg_take (i := 6) (v := ?_) rfl (by kernel_rfl) (by kernel_rfl) (by kernel_rfl) (fun _ _ _ h => h) (by rfl) ?hy6 ?_
  case hy6 => intro w' hw'; go_simp; (try with_reducible rfl)
  simp only [Act.put, List.setIfInBounds_toArray, List.set_cons_zero, List.set_cons_succ]
  refine reg_take (i := 7) (v := ?_) rfl (by kernel_rfl) (by kernel_rfl) (by kernel_rfl) (fun _ _ _ h => h) (by rfl) ?hy7 ?_
  case hy7 => intro w' hw'; go_simp; (try with_reducible rfl)
  simp only [Act.put, List.setIfInBounds_toArray, List.set_cons_zero, List.set_cons_succ]
  refine reg_take (i := 8) (v := ?_) rfl (by kernel_rfl) (by kernel_rfl) (by kernel_rfl) (fun _ _ _ h => h) (by rfl) ?hy8 ?_
  case hy8 => intro w' hw'; go_simp; (try with_reducible rfl)
  simp only [Act.put, List.setIfInBounds_toArray, List.set_cons_zero, List.set_cons_succ]
  refine reg_take (i := 9) (v := ?_) rfl (by kernel_rfl) (by kernel_rfl) (by kernel_rfl) (fun _ _ _ h => h) (by rfl) ?hy9 ?_
  case hy9 => intro w' hw'; go_simp; (try with_reducible rfl)
  simp only [Act.put, List.setIfInBounds_toArray, List.set_cons_zero, List.set_cons_succ]
  refine reg_take (i := 10) (v := ?_) rfl (by kernel_rfl) (by kernel_rfl) (by kernel_rfl) (fun _ _ _ h => h) (by rfl) ?hy10 ?_
  case hy10 => intro w' hw'; go_simp; (try with_reducible rfl)
  simp only [Act.put, List.setIfInBounds_toArray, List.set_cons_zero, List.set_cons_succ]
  refine reg_end (by kernel_rfl) ?_
  have r1 := conv_bytes Y8.out
  have r2 := conv_bytes (H3.out.below B8.out)
  have t1 : IntKind.i64.wrap ((n3 : Int) + 16) = (m : Int) := by have := HN.out; have := MM.out; rw [IntWalk.i64_in _ (by omega)]; omega
  obtain ⟨j, hj⟩ : ∃ j, j = at_.toNat % 16 := ⟨_, rfl⟩
  have tj : (at_.toNat : Int).tmod 16 = (j : Int) := by rw [Int.tmod_eq_emod_of_nonneg (by omega)]; omega
  have tj2 : (at_.toNat : Int) % 16 = (j : Int) := by omega
  have J : Hid (j < 16) := Lib.hid (by omega)
  have t3 : IntKind.i64.wrap (j : Int) = (j : Int) := by rw [IntWalk.i64_in _ (by omega)]
  obtain ⟨q, hq⟩ : ∃ q, q = n3 + j := ⟨_, rfl⟩
  have t4 : IntKind.i64.wrap ((n3 : Int) + (j : Int)) = (q : Int) := by have := HN.out; rw [IntWalk.i64_in _ (by omega)]; omega
  have jq : (q : Int) < (m : Int) := by have h1 := MM.out; have h2 := J.out; omega
  have QL : Hid (q < S.length) := Lib.hid (by have := HM.out; omega)
  obtain ⟨c, hc⟩ : ∃ c, S[q]? = some c := ⟨_, List.getElem?_eq_getElem QL.out⟩
  have W8 := Lib.hid (HW5.out.below D8.out HW5.out.lt)
  have HCj := Lib.hid (HC5.out q c hc)
  have cc := (W8.out.at_ (off + q)).trans HCj.out
  obtain ⟨d, hd⟩ : ∃ d, d = c ^^^ y := ⟨_, rfl⟩
  have xc : bits .xor .u8 (c.toNat : Int) (y.toNat : Int) = (d.toNat : Int) := by rw [hd]; exact xor_cell c y
  have BMj := BM.out j c J.out (by rw [← ML.out, ← hq]; exact hc)
  rw [← ML.out, ← hq, ← hd] at BMj
  have HBM := Lib.hid BMj
  have HQ := Lib.hid hq
  clear hj hc hq hd BMj
  go_wp2_with (with_reducible refine wpList_put_at rfl _ _ rfl g (off + q) ?hx d ?hy t cs W8.out _ HCj.out ?_)
  case hx => exact rfl
  case hy => exact rfl
  intro w9 g9 x9 z9
  have YT : Hid (BytesAt w9 (.slice (some ⟨g, off, none⟩) m cap) (S.set q d)) := Lib.hid (by
    have e := bytes_changed (cap := cap) x9 HC5.out QL.out (by rw [← HM.out]; exact HCAP.out)
    rw [← HM.out] at e
    exact e)
  have K9 : Hid (BytesAt w9 (.slice (some ⟨gk, 0, none⟩) 32 32) key) := Lib.hid (K8.out.keep fun _ k hk hb => g9.block k hk (fun e => by
    have e1 : some gk = some k := hb
    injection e with e
    injection e1 with e1
    have := GB.out
    have := GK4.out
    omega))
  have M9 : Hid (BytesAt w9 (.slice A2 n2 cap2) wth) := Lib.hid (H2.out.keep fun _ k hk _ => (g9.block k (Nat.lt_of_lt_of_le hk B8.out.size) (fun e => by
    injection e with e
    have := GB.out
    have := B4.out.size
    omega)).trans (B8.out.block k hk))
  have B9 : Hid (Below w.heap.size w w9) := Lib.hid (B8.out.grown g9 B8.out.size (fun k hk => by have := GB.out; have := B4.out.size; injection hk; omega))
  clear g9 x9 z9 tj tj2 t1 t3 t4 jq cc xc W8 HW5 HC5 HCj K8 B8 r1 r2 Y8 D8 BM
  obtain ⟨S', hS'⟩ : ∃ S', S' = S.set q d := ⟨_, rfl⟩
  have HBM2 := HBM.out
  rw [← hS'] at YT HBM2
  by_cases hy : y = 0
  · have HC := Lib.hid (HBM2.1 hy)
    have yy : (y.toNat : Int) = 0 := by rw [hy]; rfl
    clear HBM2 HBM hS' hy
    go_wp2_with fail
    refine reg_begin (by kernel_rfl) fun w10 hb hz => ?_
    have B10 : Hid (Below w.heap.size w w10) := Lib.hid (B9.out.trans (hb.mono B9.out.size))
    have K10 := Lib.hid (K9.out.below hb)
    have M10 := Lib.hid (M9.out.below hb)
    have T10 := Lib.hid (YT.out.below hb)
    clear hb hz B9 K9 M9 YT
    refine reg_take (i := 0) (v := ?_) rfl (by kernel_rfl) (by kernel_rfl) (by kernel_rfl) (fun _ _ _ h => h) (by rfl) ?hy0 ?_
    case hy0 => intro w' hw'; go_simp; (try with_reducible rfl)
    simp only [Act.put, List.setIfInBounds_toArray, List.set_cons_zero, List.set_cons_succ]
    refine reg_take (i := 1) (v := ?_) rfl (by kernel_rfl) (by kernel_rfl) (by kernel_rfl) (fun _ _ _ h => h) (by rfl) ?hy1 ?_
    case hy1 => intro w' hw'; go_simp; (try with_reducible rfl)
    simp only [Act.put, List.setIfInBounds_toArray, List.set_cons_zero, List.set_cons_succ]
    refine reg_take (i := 3) (v := ?_) rfl (by kernel_rfl) (by kernel_rfl) (by kernel_rfl) (fun _ _ _ h => h) (by rfl) ?hy3 ?_
    case hy3 => intro w' hw'; go_simp; (try with_reducible rfl)
    simp only [Act.put, List.setIfInBounds_toArray, List.set_cons_zero, List.set_cons_succ]
    refine reg_take (i := 4) (v := ?_) rfl (by kernel_rfl) (by kernel_rfl) (by kernel_rfl) (fun _ _ _ h => h) (by rfl) ?hy4 ?_
    case hy4 => intro w' hw'; go_simp; (try with_reducible rfl)
    simp only [Act.put, List.setIfInBounds_toArray, List.set_cons_zero, List.set_cons_succ]
    refine reg_call (i := 2) rfl (by kernel_rfl) (fun K' hK => ?_)
    go_simp
    refine (HNo w10).out.mono ?_
    rintro e w11 ⟨v11, rfl, y11, hb⟩
    obtain ⟨Ar, cr, rfl, -, -⟩ := id y11
    rw [NL.out] at y11 ⊢
    have B11 : Hid (Below w.heap.size w w11) := Lib.hid (B10.out.trans (hb.mono B10.out.size))
    have K11 := Lib.hid (K10.out.below hb)
    have M11 := Lib.hid (M10.out.below hb)
    have T11 := Lib.hid (T10.out.below hb)
    have Y11 := Lib.hid y11
    refine hK.out _ _ hb ?_
    clear hK K' hb B10 K10 M10 T10 y11
    refine reg_call (i := 5) rfl (by kernel_rfl) (fun K' hK => ?_)
    go_simp
    refine (H.opens _ _ _ _ 32 12 n2 m 32 _ _ _ key N wth S' w11 (by have := HN.out; omega) (by have := HN.out; have := MM.out; omega) K11.out Y11.out M11.out T11.out).mono ?_
    rintro e w12 ⟨v12, rfl, -, hb⟩
    rw [HC.out]
    have B12 : Hid (Below w.heap.size w w12) := Lib.hid (B11.out.trans (hb.mono B11.out.size))
    refine hK.out _ _ hb ?_
    clear hK K' hb B11 K11 M11 T11 Y11
    refine reg_take (i := 6) (v := ?_) rfl (by kernel_rfl) (by kernel_rfl) (by kernel_rfl) (fun _ _ _ h => h) (by rfl) ?hy6 ?_
    case hy6 => intro w' hw'; go_simp; (try with_reducible rfl)
    simp only [Act.put, List.setIfInBounds_toArray, List.set_cons_zero, List.set_cons_succ]
    refine reg_take (i := 7) (v := ?_) rfl (by kernel_rfl) (by kernel_rfl) (by kernel_rfl) (fun _ _ _ h => h) (by rfl) ?hy7 ?_
    case hy7 => intro w' hw'; go_simp; (try with_reducible rfl)
    simp only [Act.put, List.setIfInBounds_toArray, List.set_cons_zero, List.set_cons_succ]
    refine reg_take (i := 8) (v := ?_) rfl (by kernel_rfl) (by kernel_rfl) (by kernel_rfl) (fun _ _ _ h => h) (by rfl) ?hy8 ?_
    case hy8 => intro w' hw'; go_simp; (try with_reducible rfl)
    simp only [Act.put, List.setIfInBounds_toArray, List.set_cons_zero, List.set_cons_succ]
    refine reg_take (i := 9) (v := ?_) rfl (by kernel_rfl) (by kernel_rfl) (by kernel_rfl) (fun _ _ _ h => h) (by rfl) ?hy9 ?_
    case hy9 => intro w' hw'; go_simp; (try with_reducible rfl)
    simp only [Act.put, List.setIfInBounds_toArray, List.set_cons_zero, List.set_cons_succ]
    refine reg_take (i := 10) (v := ?_) rfl (by kernel_rfl) (by kernel_rfl) (by kernel_rfl) (fun _ _ _ h => h) (by rfl) ?hy10 ?_
    case hy10 => intro w' hw'; go_simp; (try with_reducible rfl)
    simp only [Act.put, List.setIfInBounds_toArray, List.set_cons_zero, List.set_cons_succ]
    refine reg_end (by kernel_rfl) ?_
    go_wp2
    go_ret
    exact ⟨rfl, B12.out⟩
  · have HC := Lib.hid (HBM2.2 hy)
    have yy : ((y.toNat : Int) == 0) = false := by
      rw [beq_eq_false_iff_ne]
      exact fun e => hy (UInt8.toNat_inj.1 (by simpa using e))
    clear HBM2 HBM hS' hy
    go_wp2_with fail
    refine reg_begin (by kernel_rfl) fun w10 hb hz => ?_
    have B10 : Hid (Below w.heap.size w w10) := Lib.hid (B9.out.trans (hb.mono B9.out.size))
    have K10 := Lib.hid (K9.out.below hb)
    have M10 := Lib.hid (M9.out.below hb)
    have T10 := Lib.hid (YT.out.below hb)
    clear hb hz B9 K9 M9 YT
    refine reg_take (i := 0) (v := ?_) rfl (by kernel_rfl) (by kernel_rfl) (by kernel_rfl) (fun _ _ _ h => h) (by rfl) ?hy0 ?_
    case hy0 => intro w' hw'; go_simp; (try with_reducible rfl)
    simp only [Act.put, List.setIfInBounds_toArray, List.set_cons_zero, List.set_cons_succ]
    refine reg_take (i := 1) (v := ?_) rfl (by kernel_rfl) (by kernel_rfl) (by kernel_rfl) (fun _ _ _ h => h) (by rfl) ?hy1 ?_
    case hy1 => intro w' hw'; go_simp; (try with_reducible rfl)
    simp only [Act.put, List.setIfInBounds_toArray, List.set_cons_zero, List.set_cons_succ]
    refine reg_take (i := 3) (v := ?_) rfl (by kernel_rfl) (by kernel_rfl) (by kernel_rfl) (fun _ _ _ h => h) (by rfl) ?hy3 ?_
    case hy3 => intro w' hw'; go_simp; (try with_reducible rfl)
    simp only [Act.put, List.setIfInBounds_toArray, List.set_cons_zero, List.set_cons_succ]
    refine reg_take (i := 4) (v := ?_) rfl (by kernel_rfl) (by kernel_rfl) (by kernel_rfl) (fun _ _ _ h => h) (by rfl) ?hy4 ?_
    case hy4 => intro w' hw'; go_simp; (try with_reducible rfl)
    simp only [Act.put, List.setIfInBounds_toArray, List.set_cons_zero, List.set_cons_succ]
    refine reg_call (i := 2) rfl (by kernel_rfl) (fun K' hK => ?_)
    go_simp
    refine (HNo w10).out.mono ?_
    rintro e w11 ⟨v11, rfl, y11, hb⟩
    obtain ⟨Ar, cr, rfl, -, -⟩ := id y11
    rw [NL.out] at y11 ⊢
    have B11 : Hid (Below w.heap.size w w11) := Lib.hid (B10.out.trans (hb.mono B10.out.size))
    have K11 := Lib.hid (K10.out.below hb)
    have M11 := Lib.hid (M10.out.below hb)
    have T11 := Lib.hid (T10.out.below hb)
    have Y11 := Lib.hid y11
    refine hK.out _ _ hb ?_
    clear hK K' hb B10 K10 M10 T10 y11
    refine reg_call (i := 5) rfl (by kernel_rfl) (fun K' hK => ?_)
    go_simp
    refine (H.opens _ _ _ _ 32 12 n2 m 32 _ _ _ key N wth S' w11 (by have := HN.out; omega) (by have := HN.out; have := MM.out; omega) K11.out Y11.out M11.out T11.out).mono ?_
    rintro e w12 ⟨v12, rfl, y12, hb⟩
    rw [HC.out.1]
    rw [HC.out.2] at y12
    obtain ⟨Av, cv, rfl, -, -⟩ := id y12
    have B12 : Hid (Below w.heap.size w w12) := Lib.hid (B11.out.trans (hb.mono B11.out.size))
    refine hK.out _ _ hb ?_
    clear hK K' hb B11 K11 M11 T11 Y11 y12
    refine reg_take (i := 6) (v := ?_) rfl (by kernel_rfl) (by kernel_rfl) (by kernel_rfl) (fun _ _ _ h => h) (by rfl) ?hy6 ?_
    case hy6 => intro w' hw'; go_simp; (try with_reducible rfl)
    simp only [Act.put, List.setIfInBounds_toArray, List.set_cons_zero, List.set_cons_succ]
    refine reg_take (i := 7) (v := ?_) rfl (by kernel_rfl) (by kernel_rfl) (by kernel_rfl) (fun _ _ _ h => h) (by rfl) ?hy7 ?_
    case hy7 => intro w' hw'; go_simp; (try with_reducible rfl)
    simp only [Act.put, List.setIfInBounds_toArray, List.set_cons_zero, List.set_cons_succ]
    refine reg_take (i := 8) (v := ?_) rfl (by kernel_rfl) (by kernel_rfl) (by kernel_rfl) (fun _ _ _ h => h) (by rfl) ?hy8 ?_
    case hy8 => intro w' hw'; go_simp; (try with_reducible rfl)
    simp only [Act.put, List.setIfInBounds_toArray, List.set_cons_zero, List.set_cons_succ]
    refine reg_take (i := 9) (v := ?_) rfl (by kernel_rfl) (by kernel_rfl) (by kernel_rfl) (fun _ _ _ h => h) (by rfl) ?hy9 ?_
    case hy9 => intro w' hw'; go_simp; (try with_reducible rfl)
    simp only [Act.put, List.setIfInBounds_toArray, List.set_cons_zero, List.set_cons_succ]
    refine reg_take (i := 10) (v := ?_) rfl (by kernel_rfl) (by kernel_rfl) (by kernel_rfl) (fun _ _ _ h => h) (by rfl) ?hy10 ?_
    case hy10 => intro w' hw'; go_simp; (try with_reducible rfl)
    simp only [Act.put, List.setIfInBounds_toArray, List.set_cons_zero, List.set_cons_succ]
    refine reg_end (by kernel_rfl) ?_
    go_wp2
    go_ret
    exact ⟨rfl, B12.out⟩

theorem back_core (H : BoxIs) (A2 A3 : Option Addr) (n2 n3 cap2 cap3 n : Nat) (key wth msg : List UInt8) (at_ y : UInt8) (hk : key.length = 32) (hn : n < 18446744073709551616) (w : World) (h2 : BytesAt w (.slice A2 n2 cap2) wth) (h3 : BytesAt w (.slice A3 n3 cap3) msg) :
    Calls Try.prog 5 #[.agg (bv key).toArray, .int .u64 (n : Int), .slice A2 n2 cap2, .slice A3 n3 cap3, .int .u8 (at_.toNat : Int), .int .u8 (y.toNat : Int)] w fun e w' => e = .returned (.bool true) ∧ Below w.heap.size w w' := by
  by_cases hg : 600 < n2 ∨ 600 < n3
  · exact back_great H A2 A3 n2 n3 cap2 cap3 key _ _ _ hg w
  · exact back_small H A2 A3 n2 n3 cap2 cap3 n key wth msg at_ y hk hn (by omega) (by omega) w h2 h3
end Go.Proofs.Ytaobehhekdfkkaa
