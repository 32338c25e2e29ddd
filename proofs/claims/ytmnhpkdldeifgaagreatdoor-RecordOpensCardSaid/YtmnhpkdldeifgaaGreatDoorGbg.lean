/- What package cipher's Xor answers. Package cipher as landed is what the statements' texts lean on. What package box's oneKey and tagged answer. Plain mathematics: numbers of parts by any base (poly's five parts of 26 bits, say), as XPoM's vt has them by 256. It speaks of no program. -/
import Derived.Test.YtmnhpkdldeifgaaGreatDoorGbf
import Derived.Test.YtmnhpkdldeifgaaGreatDoorGn
import Derived.Test.YtmnhpkdldeifgaaGreatDoorGbc
namespace Go.Proofs.YtmnhpkdldeifgaaGreatDoor
set_option maxRecDepth 100000
open Go.RowKit

theorem conv_wd64 (x : UInt32) (w : World) : (convert 57 22 (wd x)).run Tryz.prog w = .ok (.int .u64 (x.toNat : Int)) w := by
  have := x.toNat_lt
  have e : IntKind.u64.wrap (x.toNat : Int) = (x.toNat : Int) := by rw [IntWalk.u64_in _ (by omega)]
  simp only [wd]
  go_simp
theorem conv_int32 (q : Nat) (hq : q < 4294967296) : Value.int .u32 (IntKind.u32.wrap (q : Int)) = wd (UInt32.ofNat q) := by
  rw [IntWalk.u32_in _ (by omega)]
  exact num_wd q hq

/-- A row of one's own, behind a change of another. -/
theorem own_grown {w w' : World} {B : Nat} {e : TypeId} {s n m cap g k : Nat} {xs : List Value} (h : w.ownsRow B e s (.slice (some ⟨g, 0, none⟩) m cap) n xs) (hg : w.grownBy w' (some k)) (hne : g ≠ k) : w'.ownsRow B e s (.slice (some ⟨g, 0, none⟩) m cap) n xs := by
  exact h.kept hg (.inr (by simp [Value.ownBlock]; exact hne))

theorem pkgXor_bad (A0 A1 A3 : Option Addr) (n0 n1 n cap0 cap1 cap3 : Nat) (c : UInt32) (hn : n0 ≠ 32 ∨ n1 ≠ 12) (w : World) :
    Calls Tryz.prog 30 #[.slice A0 n0 cap0, .slice A1 n1 cap1, wd c, .slice A3 n cap3] w fun e w' => e = .returned (.tuple #[.slice none 0 0, .int .i64 2]) ∧ Below w.heap.size w w' := by
  have CF := Lib.hid (fit_any A0 A1 n0 n1 cap0 cap1 w)
  have e : decide (n0 = 32 ∧ n1 = 12) = false := by simp; omega
  rw [e] at CF
  clear hn e
  go_enter Tryz.func30, Tryz.ntmps30
  go_wp2_with fail
  refine CF.out.mono ?_
  rintro e w1 ⟨rfl, rfl⟩
  go_wp2
  go_ret2
  exact ⟨rfl, Below.refl _ _⟩

theorem pkgXor_big (A0 A1 A3 : Option Addr) (n cap0 cap1 cap3 : Nat) (c : UInt32) (hb : 4294967296 - c.toNat < (n + 63) / 64) (hn : n ≤ 1000000) (w : World) :
    Calls Tryz.prog 30 #[.slice A0 32 cap0, .slice A1 12 cap1, wd c, .slice A3 n cap3] w fun e w' => e = .returned (.tuple #[.slice none 0 0, .int .i64 3]) ∧ Below w.heap.size w w' := by
  have CF := Lib.hid (fit_any A0 A1 32 12 cap0 cap1 w)
  have DT : decide (32 = 32 ∧ 12 = 12) = true := rfl
  rw [DT] at CF
  have cl := c.toNat_lt
  have cv := conv_wd64 c
  obtain ⟨m, hm⟩ : ∃ m, m = 4294967296 - c.toNat := ⟨_, rfl⟩
  obtain ⟨p, hp⟩ : ∃ p, p = 64 * m := ⟨_, rfl⟩
  have e1 : IntKind.u64.wrap (4294967296 - (c.toNat : Int)) = (m : Int) := by rw [IntWalk.u64_in _ (by omega)]; omega
  have e2 : IntKind.u64.wrap (64 * (m : Int)) = (p : Int) := by rw [IntWalk.u64_in _ (by omega)]; omega
  have e3 : IntKind.u64.wrap (n : Int) = (n : Int) := by rw [IntWalk.u64_in _ (by omega)]
  have e4 : p < n := by omega
  clear hb hn cl hm hp DT
  go_enter Tryz.func30, Tryz.ntmps30
  go_wp2_with fail
  refine CF.out.mono ?_
  rintro e w1 ⟨rfl, rfl⟩
  go_wp2
  go_ret2
  exact ⟨rfl, Below.refl _ _⟩

set_option maxRecDepth 100000 in
set_option maxHeartbeats 4000000 in
theorem pkgXor_any (A0 A1 A3 : Option Addr) (n cap0 cap1 cap3 : Nat) (key nonce msg : List UInt8) (c : UInt32) (hb : (n + 63) / 64 ≤ 4294967296 - c.toNat) (hn : n ≤ 1000000) (w : World)
    (h0 : BytesAt w (.slice A0 32 cap0) key) (h1 : BytesAt w (.slice A1 12 cap1) nonce) (h3 : BytesAt w (.slice A3 n cap3) msg) :
    Calls Tryz.prog 30 #[.slice A0 32 cap0, .slice A1 12 cap1, wd c, .slice A3 n cap3] w fun e w' => ∃ v', e = .returned (.tuple #[v', .int .i64 0]) ∧ BytesAt w' v' (xorC key nonce c msg) ∧ Below w.heap.size w w' := by
  have CF := Lib.hid (fit_any A0 A1 32 12 cap0 cap1 w)
  have DT : decide (32 = 32 ∧ 12 = 12) = true := rfl
  rw [DT] at CF
  have CB := Lib.hid (begin_any A0 A1 cap0 cap1 key nonce c w h0 h1)
  have CS : ∀ c' w', Hid (Calls Tryz.prog 51 #[.agg (wv (words16C key nonce c'))] w' fun e w'' => e = .returned (.agg (bv (blockC key nonce c')).toArray) ∧ Below w'.heap.size w' w'') := fun c' w' => by
    have q := stream_any (words16C key nonce c') (words16C_length key nonce c') w'
    rw [streamC_words] at q
    exact Lib.hid q
  have LW : ∀ c', Hid ((words16C key nonce c').length = 16) := fun c' => Lib.hid (words16C_length key nonce c')
  have LB : ∀ c', Hid ((blockC key nonce c').length = 64) := fun c' => Lib.hid (blockC_length key nonce c')
  have HM := Lib.hid h3.size
  have H3 := Lib.hid h3
  have LX : Hid ((xorC key nonce c msg).length = n) := by rw [Hid, xorC_length]; exact HM.out.1.symm
  have cl := c.toNat_lt
  have cv := conv_wd64 c
  obtain ⟨m, hm⟩ : ∃ m, m = 4294967296 - c.toNat := ⟨_, rfl⟩
  obtain ⟨p, hp⟩ : ∃ p, p = 64 * m := ⟨_, rfl⟩
  have e1 : IntKind.u64.wrap (4294967296 - (c.toNat : Int)) = (m : Int) := by rw [IntWalk.u64_in _ (by omega)]; omega
  have e2 : IntKind.u64.wrap (64 * (m : Int)) = (p : Int) := by rw [IntWalk.u64_in _ (by omega)]; omega
  have e3 : IntKind.u64.wrap (n : Int) = (n : Int) := by rw [IntWalk.u64_in _ (by omega)]
  have e4 : ¬ p < n := by omega
  clear hb cl hm hp DT h0 h1 h3
  go_enter Tryz.func30, Tryz.ntmps30
  go_wp2_with fail
  refine CF.out.mono ?_
  rintro e w1 ⟨rfl, rfl⟩
  go_wp2_with fail
  refine CB.out.mono ?_
  rintro e w2 ⟨rfl, b2⟩
  have B2 := Lib.hid b2
  clear b2 CF CB e1 e2 e3 e4 cv
  go_wp2_with (refine wpList_alloc_row rfl 75 rfl _ zero_w16 ?_)
  intro w3 b3 x3 z3
  have X3 := Lib.hid x3
  have B3 := Lib.hid (B2.out.trans (b3.mono B2.out.size))
  have Z3 := Lib.hid z3
  clear x3 b3 z3
  go_wp2_with (refine wpList_store_whole rfl 75 _ _ rfl _ _ rfl rfl _ _ X3.out (size_of16 _ (LW c).out) (same16 _ _ rfl (LW c).out) (wv_one _) ?_)
  intro w4 g4 x4 z4
  have X4 := Lib.hid x4
  have B4 := Lib.hid (B3.out.grown g4 B3.out.size (fun k hk => by have := B2.out.size; injection hk; omega))
  have Z10 := Lib.hid B2.out.size
  have Z4 : Hid (w2.heap.size < w4.heap.size) := by have := Z3.out; exact Lib.hid (by omega)
  clear g4 x4 z4 X3 B3 Z3 B2
  obtain ⟨g10, hg10⟩ : ∃ g10, g10 = w2.heap.size := ⟨_, rfl⟩
  rw [← hg10] at X4 Z10 Z4 ⊢
  clear hg10
  go_wp2_with (at_make; refine wpList_make_row rfl _ _ rfl n rfl rfl (by omega) ?_)
  intro w5 o5 b5 z5
  rw [← doneTo_zero (xorC key nonce c msg) n] at o5
  have O5 := Lib.hid o5
  have X5 := Lib.hid (X4.out.below b5 X4.out.lt)
  have B5 := Lib.hid (B4.out.trans (b5.mono B4.out.size))
  have Z5 := Lib.hid z5
  clear o5 b5 z5 X4
  obtain ⟨g11, hg11⟩ : ∃ g11, g11 = w4.heap.size := ⟨_, rfl⟩
  rw [← hg11] at O5 Z4 Z5 ⊢
  clear hg11 B4
  go_wp2_with (refine wpList_alloc_row rfl 77 rfl _ zero_b64 ?_)
  intro w6 b6 x6 z6
  have X6 : Hid (Whole w6 w5.heap.size 77 (bv (List.replicate 64 0)).toArray) := x6
  have Y6 := Lib.hid (X5.out.below b6 X5.out.lt)
  have O6 := Lib.hid (kept_below O5.out b6 rfl)
  have B6 := Lib.hid (B5.out.trans (b6.mono B5.out.size))
  clear x6 b6 z6 X5 O5 B5
  obtain ⟨g12, hg12⟩ : ∃ g12, g12 = w5.heap.size := ⟨_, rfl⟩
  rw [← hg12] at X6 Z5 ⊢
  clear hg12
  have ZZ : Hid (w.heap.size ≤ g10 ∧ g10 < g11 ∧ g11 < g12) := Lib.hid ⟨Z10.out, Z4.out, Z5.out⟩
  clear Z10 Z4 Z5
  go_wp2_with fail
  go_loopw [37] (fun i wr => ∃ (k : Nat) (ck : UInt32) (Bk : List UInt8), k ≤ n ∧ i = .int .i64 (k : Int) ∧ Bk.length = 64 ∧ (k % 64 ≠ 0 → Bk = blockC key nonce (c + UInt32.ofNat (k / 64))) ∧ Whole wr g10 75 (wv (words16C key nonce ck)) ∧ Whole wr g12 77 (bv Bk).toArray ∧ wr.ownsRow g11 5 1 (.slice (some ⟨g11, 0, none⟩) n n) n (bv (doneTo (xorC key nonce c msg) n k)) ∧ Below w.heap.size w wr) (fun i _ => n - (intOf i).toNat)
  case atStart => exact ⟨0, c, _, Nat.zero_le _, rfl, rfl, fun h => absurd rfl h, Y6.out, X6.out, O6.out, B6.out⟩
  case round =>
    obtain ⟨k, ck, Bk, hk, rfl, hl, hB, x1, x2, ho, hb⟩ := hrel
    have LK := Lib.hid hl
    have HB0 := Lib.hid hB
    have X1 := Lib.hid x1
    have X2 := Lib.hid x2
    have HO := Lib.hid ho
    have HB := Lib.hid hb
    clear hl hB x1 x2 ho hb Y6 X6 O6 B6
    by_cases hlt : k < n
    · have dk : decide ((k : Int) < (n : Int)) = true := by simp; omega
      obtain ⟨b3, off3, rfl, hb3, hcell⟩ := H3.out.spots (by intro e; have := HM.out.1; rw [e] at this; simp at this; omega)
      obtain ⟨x, hx⟩ : ∃ x, msg[k]? = some x := ⟨_, List.getElem?_eq_getElem (by rw [← HM.out.1]; exact hlt)⟩
      have KC := Lib.hid (hcell k x hx)
      have hv : (xorC key nonce c msg)[k]? = some (x ^^^ keyByte key nonce c k) := by simp [xorC, hx]
      have HS := Lib.hid (doneTo_put (xorC key nonce c msg) n k _ LX.out hv)
      have LD := Lib.hid (doneTo_length (xorC key nonce c msg) n k LX.out hk)
      have HK : Hid (keyByte key nonce c k = (blockC key nonce (c + UInt32.ofNat (k / 64))).getD (k % 64) 0) := Lib.hid rfl
      obtain ⟨q, hq⟩ : ∃ q, q = k / 64 := ⟨_, rfl⟩
      obtain ⟨r, hr⟩ : ∃ r, r = k % 64 := ⟨_, rfl⟩
      have tq : IntKind.i64.wrap ((k : Int) / 64) = (q : Int) := by rw [IntWalk.i64_in _ (by omega)]; omega
      have tr : (k : Int).tmod 64 = (r : Int) := by rw [Int.tmod_eq_emod_of_nonneg (by omega)]; omega
      have jr : (r : Int) < 64 := by omega
      have jk : (k : Int) < (n : Int) := by omega
      have cq := conv_int32 q (by omega)
      obtain ⟨r1, -, -, -, -⟩ := rules_w
      have HQ : Hid (r < 64 ∧ ((k + 1) % 64 ≠ 0 → (k + 1) / 64 = q)) := Lib.hid (by omega)
      rw [← hq, ← hr] at HK
      rw [← hr, ← hq] at HB0
      have QR := Lib.hid (And.intro hq hr)
      clear hx hcell hv hq hr
      by_cases hr0 : r = 0
      · have d0 : ((r : Int) == 0) = true := by simp; omega
        clear hr0
        go_wp2_with (with_reducible refine wpList_put_w rfl _ _ rfl _ 12 ?hx (c + UInt32.ofNat q) ?hy _ _ X1.out ?hi ?_)
        case hx => exact rfl
        case hy => exact rfl
        case hi => rw [(LW ck).out]; decide
        intro w7 g7 x7 z7
        rw [words16C_set] at x7
        have U1 := Lib.hid x7
        have U2 := Lib.hid (X2.out.grown g7 (by have := ZZ.out; simp; omega))
        have UO := Lib.hid (own_grown HO.out g7 (by have := ZZ.out; omega))
        have UB := Lib.hid (HB.out.grown g7 HB.out.size (fun k hk => by have := ZZ.out; injection hk; omega))
        clear g7 x7 z7 X1 X2 HO HB tq cq r1
        go_wp2_with (refine wpList_load_row rfl 75 _ rfl _ rfl _ _ _ _ U1.out Tryz.underlying75 rfl (size_of16 _ (LW _).out) ?_)
        refine (CS _ w7).out.mono ?_
        rintro e w8 ⟨rfl, b8⟩
        have V1 := Lib.hid (U1.out.below b8 U1.out.lt)
        have V2 := Lib.hid (U2.out.below b8 U2.out.lt)
        have VO := Lib.hid (kept_below UO.out b8 rfl)
        have VB := Lib.hid (UB.out.trans (b8.mono UB.out.size))
        clear b8 U1 U2 UO UB
        go_wp2_with (refine wpList_store_whole rfl 77 _ _ rfl _ _ rfl rfl _ _ V2.out (size_of64 _ (LB _).out) (same64 _ _ LK.out (LB _).out) (ba_one _) ?_)
        intro w9 g9 x9 z9
        have HBk : Hid (blockC key nonce (c + UInt32.ofNat q) = blockC key nonce (c + UInt32.ofNat q)) := Lib.hid rfl
        have LK' := LB (c + UInt32.ofNat q)
        generalize hBk' : blockC key nonce (c + UInt32.ofNat q) = Bk' at x9 HBk LK'
        have HE := Lib.hid hBk'
        rw [← HE.out] at HBk
        have X2 := Lib.hid x9
        have X1 := Lib.hid (V1.out.grown g9 (by have := ZZ.out; simp; omega))
        have HO := Lib.hid (own_grown VO.out g9 (by have := ZZ.out; omega))
        have HB := Lib.hid (VB.out.grown g9 VB.out.size (fun k hk => by have := ZZ.out; injection hk; omega))
        clear g9 x9 z9 V1 V2 VO VB hBk' HBk
        obtain ⟨y, hy⟩ : ∃ y, Bk'[r]? = some y := ⟨_, List.getElem?_eq_getElem (by rw [LK'.out]; exact HQ.out.1)⟩
        have HY : Hid (keyByte key nonce c k = y) := by rw [Hid, HK.out, HE.out]; simp [List.getD, hy]
        rw [HY.out] at HS
        have KY := Lib.hid ((X2.out.at_ r).trans (ba_at _ _ _ hy))
        have KX := Lib.hid ((HB.out.cell (p := ⟨b3, off3 + k, none⟩) hb3).trans KC.out)
        have xc := Lib.hid (xor_cell x y)
        clear hy
        go_wp2_with fail
        refine still_tail 12 (by kernel_rfl) (by kernel_rfl) fun wt ht bt => ?_
        simp only [List.take_succ_cons, List.take_zero, List.drop_succ_cons, List.drop_zero]
        have kx := (World.cell?_of_block (a := ⟨b3, off3 + k, none⟩) (by rw [ht])).trans KX.out
        have ky := (World.cell?_of_block (a := ⟨g12, r, none⟩) (by rw [ht])).trans KY.out
        repeat still_step
        refine wpStill_nil ?_
        have X1t := Lib.hid (X1.out.of_heap ht)
        have X2t := Lib.hid (X2.out.of_heap ht)
        have HOt := Lib.hid (kept_below HO.out bt rfl)
        have HBt := Lib.hid (HB.out.trans (bt.mono HB.out.size))
        clear kx ky ht bt X1 X2 HO HB KX KY
        generalize x ^^^ y = z at *
        refine wpList_put_own rfl _ _ rfl g11 g11 k n n rfl z (congrArg (Value.int .u8) xc.out) _ LD.out HOt.out hlt ?_
        intro wu gu ou zu
        rw [HS.out] at ou
        have HOu := Lib.hid ou
        have X1u := Lib.hid (X1t.out.grown gu (by have := ZZ.out; simp; omega))
        have X2u := Lib.hid (X2t.out.grown gu (by have := ZZ.out; simp; omega))
        have HBu := Lib.hid (HBt.out.grown gu HBt.out.size (fun k hk => by have := ZZ.out; injection hk; omega))
        clear gu ou zu X1t X2t HOt HBt xc d0 tr jr
        refine wpList_nil ?_
        go_wp2_with fail
        exact ⟨⟨k + 1, (c + UInt32.ofNat q), Bk', by omega, by go_num, LK'.out, fun hne => by rw [HQ.out.2 hne]; exact HE.out.symm, X1u.out, X2u.out, HOu.out, HBu.out⟩, by simp [intOf]; omega⟩
      · have d0 : ((r : Int) == 0) = false := by simp; omega
        have HE : Hid (blockC key nonce (c + UInt32.ofNat q) = Bk) := Lib.hid (HB0.out hr0).symm
        clear tq cq r1 hr0
        obtain ⟨y, hy⟩ : ∃ y, Bk[r]? = some y := ⟨_, List.getElem?_eq_getElem (by rw [LK.out]; exact HQ.out.1)⟩
        have HY : Hid (keyByte key nonce c k = y) := by rw [Hid, HK.out, HE.out]; simp [List.getD, hy]
        rw [HY.out] at HS
        have KY := Lib.hid ((X2.out.at_ r).trans (ba_at _ _ _ hy))
        have KX := Lib.hid ((HB.out.cell (p := ⟨b3, off3 + k, none⟩) hb3).trans KC.out)
        have xc := Lib.hid (xor_cell x y)
        clear hy
        go_wp2_with fail
        refine still_tail 12 (by kernel_rfl) (by kernel_rfl) fun wt ht bt => ?_
        simp only [List.take_succ_cons, List.take_zero, List.drop_succ_cons, List.drop_zero]
        have kx := (World.cell?_of_block (a := ⟨b3, off3 + k, none⟩) (by rw [ht])).trans KX.out
        have ky := (World.cell?_of_block (a := ⟨g12, r, none⟩) (by rw [ht])).trans KY.out
        repeat still_step
        refine wpStill_nil ?_
        have X1t := Lib.hid (X1.out.of_heap ht)
        have X2t := Lib.hid (X2.out.of_heap ht)
        have HOt := Lib.hid (kept_below HO.out bt rfl)
        have HBt := Lib.hid (HB.out.trans (bt.mono HB.out.size))
        clear kx ky ht bt X1 X2 HO HB KX KY
        generalize x ^^^ y = z at *
        refine wpList_put_own rfl _ _ rfl g11 g11 k n n rfl z (congrArg (Value.int .u8) xc.out) _ LD.out HOt.out hlt ?_
        intro wu gu ou zu
        rw [HS.out] at ou
        have HOu := Lib.hid ou
        have X1u := Lib.hid (X1t.out.grown gu (by have := ZZ.out; simp; omega))
        have X2u := Lib.hid (X2t.out.grown gu (by have := ZZ.out; simp; omega))
        have HBu := Lib.hid (HBt.out.grown gu HBt.out.size (fun k hk => by have := ZZ.out; injection hk; omega))
        clear gu ou zu X1t X2t HOt HBt xc d0 tr jr
        refine wpList_nil ?_
        go_wp2_with fail
        exact ⟨⟨k + 1, ck, Bk, by omega, by go_num, LK.out, fun hne => by rw [HQ.out.2 hne]; exact HE.out.symm, X1u.out, X2u.out, HOu.out, HBu.out⟩, by simp [intOf]; omega⟩
    · obtain rfl : k = n := by omega
      have HY : Hid (BytesAt wr (.slice (some ⟨g11, 0, none⟩) k k) (xorC key nonce c msg)) := by
        have q := HO.out
        rw [doneTo_all _ _ LX.out] at q
        have e := LX.out
        exact Lib.hid (BytesAt.of_own (base := g11) (by rw [e]; exact q))
      clear HO
      go_wp2
      go_ret2
      exact ⟨_, rfl, HY.out, HB.out⟩
end Go.Proofs.YtmnhpkdldeifgaaGreatDoor

namespace Go.Proofs.YtmnhpkdldeifgaaGreatDoor
set_option maxRecDepth 100000
open Go.RowKit

theorem cipher_is : CipherIs where
  quarter := quarter_any
  blockBad := fun A0 A1 n0 n1 cap0 cap1 c hn w => block_bad A0 A1 n0 n1 cap0 cap1 c hn w
  block := fun A0 A1 cap0 cap1 key nonce c w h0 h1 => ciBlock_any A0 A1 cap0 cap1 key nonce c w h0 h1
  xorBad := fun A0 A1 A3 n0 n1 n cap0 cap1 cap3 c hn _ w => pkgXor_bad A0 A1 A3 n0 n1 n cap0 cap1 cap3 c hn w
  xorBig := fun A0 A1 A3 n cap0 cap1 cap3 c hb hn w => pkgXor_big A0 A1 A3 n cap0 cap1 cap3 c hb hn w
  xor := fun A0 A1 A3 n cap0 cap1 cap3 key nonce msg c hb hn w h0 h1 h3 => pkgXor_any A0 A1 A3 n cap0 cap1 cap3 key nonce msg c hb hn w h0 h1 h3
end Go.Proofs.YtmnhpkdldeifgaaGreatDoor

namespace Go.Proofs.YtmnhpkdldeifgaaGreatDoor
set_option maxRecDepth 100000
open Go.RowKit

theorem oneKey_bad (A0 A1 : Option Addr) (n0 n1 cap0 cap1 : Nat) (w : World) (h : n0 ≠ 32 ∨ n1 ≠ 12) :
    Calls Tryz.prog 31 #[.slice A0 n0 cap0, .slice A1 n1 cap1] w fun e w' => e = .returned (.tuple #[.slice none 0 0, .int .i64 2]) ∧ Below w.heap.size w w' := by
  have C : Hid (Calls Tryz.prog 52 #[.slice A0 n0 cap0, .slice A1 n1 cap1, .int .u32 0] w _) := Lib.hid (cipher_is.blockBad A0 A1 n0 n1 cap0 cap1 0 h w)
  clear h
  go_enter Tryz.func31, Tryz.ntmps31
  go_wp2_with fail
  refine C.out.mono ?_
  rintro e w1 ⟨rfl, b1⟩
  have B1 := Lib.hid b1
  clear b1
  go_wp2
  go_ret2
  exact ⟨rfl, B1.out⟩

set_option maxHeartbeats 1000000 in
theorem oneKey_any (A0 A1 : Option Addr) (cap0 cap1 : Nat) (key nonce : List UInt8) (w : World) (h0 : BytesAt w (.slice A0 32 cap0) key) (h1 : BytesAt w (.slice A1 12 cap1) nonce) :
    Calls Tryz.prog 31 #[.slice A0 32 cap0, .slice A1 12 cap1] w fun e w' => ∃ A cap, e = .returned (.tuple #[.slice A 32 cap, .int .i64 0]) ∧ BytesAt w' (.slice A 32 cap) ((blockC key nonce 0).take 32) ∧ Below w.heap.size w w' := by
  have C : Hid (Calls Tryz.prog 52 #[.slice A0 32 cap0, .slice A1 12 cap1, .int .u32 0] w _) := Lib.hid (cipher_is.block A0 A1 cap0 cap1 key nonce 0 w h0 h1)
  have LK := Lib.hid (blockC_length key nonce 0)
  obtain ⟨B, hB⟩ : ∃ B, B = blockC key nonce 0 := ⟨_, rfl⟩
  rw [← hB] at C LK ⊢
  clear hB h0 h1
  go_enter Tryz.func31, Tryz.ntmps31
  go_wp2_with fail
  refine C.out.mono ?_
  rintro e w1 ⟨v1, rfl, y1, b1⟩
  obtain ⟨A, cap, rfl, hc, -⟩ := id y1
  rw [LK.out] at y1 hc ⊢
  have Y1 := Lib.hid (y1.first 32 (by decide))
  have B1 := Lib.hid b1
  have k1 : (32 : Int) ≤ (cap : Int) := by omega
  clear y1 b1 C
  go_wp2
  go_ret2
  exact ⟨_, _, rfl, Y1.out, B1.out⟩

set_option maxHeartbeats 2000000 in
theorem tagged_any (A0 A1 : Option Addr) (n0 n1 cap0 cap1 : Nat) (wth text : List UInt8) (w : World) (hn0 : n0 ≤ 100000) (hn1 : n1 ≤ 100000) (h0 : BytesAt w (.slice A0 n0 cap0) wth) (h1 : BytesAt w (.slice A1 n1 cap1) text) :
    Calls Tryz.prog 33 #[.slice A0 n0 cap0, .slice A1 n1 cap1] w fun e w' => ∃ v', e = .returned v' ∧ BytesAt w' v' (tagged wth text) ∧ Below w.heap.size w w' := by
  have TL := tagged_length wth text
  have z0 := h0.size.1
  have z1 := h1.size.1
  have E : Hid (padB wth ++ padB text ++ lenB n0 ++ lenB n1 = tagged wth text) := Lib.hid (by rw [tagged, z0, z1])
  have EL := Lib.hid (show (tagged wth text).length ≤ 1000000 by omega)
  have H0 := Lib.hid h0
  have H1 := Lib.hid h1
  have C0 := Lib.hid (padded_any A0 n0 cap0 wth w (by omega) h0)
  clear h0 h1 z0 z1 TL
  go_enter Tryz.func33, Tryz.ntmps33
  go_wp2_with fail
  refine C0.out.mono ?_
  rintro e w1 ⟨v1, rfl, y1, b1⟩
  obtain ⟨E1, k1, rfl, -, -⟩ := id y1
  have Y1 := Lib.hid y1
  have B1 := Lib.hid b1
  clear y1 b1 C0
  have C0 := Lib.hid (padded_any A1 n1 cap1 text w1 (by omega) (H1.out.below B1.out))
  go_wp2_with fail
  refine C0.out.mono ?_
  rintro e w2 ⟨v2, rfl, y2, b2⟩
  obtain ⟨E2, k2, rfl, -, -⟩ := id y2
  have Y2 := Lib.hid y2
  have X1 := Lib.hid (Y1.out.below b2)
  have B2 := Lib.hid (B1.out.trans (b2.mono B1.out.size))
  clear y2 b2 C0 B1 Y1
  have C0 := Lib.hid (length_any A0 n0 cap0 (by omega) w2)
  go_wp2_with fail
  refine C0.out.mono ?_
  rintro e w3 ⟨v3, rfl, y3, b3⟩
  obtain ⟨E3, k3, rfl, -, -⟩ := id y3
  have Y3 := Lib.hid y3
  have X2 := Lib.hid (Y2.out.below b3)
  have Z1 := Lib.hid (X1.out.below b3)
  have B3 := Lib.hid (B2.out.trans (b3.mono B2.out.size))
  clear y3 b3 C0 B2 X1 Y2
  have C0 := Lib.hid (length_any A1 n1 cap1 (by omega) w3)
  go_wp2_with fail
  refine C0.out.mono ?_
  rintro e w4 ⟨v4, rfl, y4, b4⟩
  obtain ⟨E4, k4, rfl, -, -⟩ := id y4
  have P := Lib.hid (parts4_at w4 25 _ _ _ _ _ _ _ _ (Z1.out.below b4) (X2.out.below b4) (Y3.out.below b4) y4)
  have B4 := Lib.hid ((B3.out.trans (b4.mono B3.out.size)).alloc (Nat.le_trans B3.out.size b4.size) (.cells #[.slice E1 (padB wth).length k1, .slice E2 (padB text).length k2, .slice E3 (lenB n0).length k3, .slice E4 (lenB n1).length k4] 25))
  have FL : Hid ([padB wth, padB text, lenB n0, lenB n1].flatten = tagged wth text) := Lib.hid (by rw [← E.out]; simp)
  have CC := Lib.hid (concat_list w4.heap.size 4 _ rfl _ P.out (by decide) (by rw [FL.out]; exact EL.out))
  rw [FL.out] at CC
  clear y4 b4 C0 B3 Z1 X2 Y3 P
  go_wp2_with fail
  refine CC.out.mono ?_
  rintro e w5 ⟨v5, rfl, y5, b5⟩
  have Y5 := Lib.hid y5
  have B5 := Lib.hid (B4.out.trans (b5.mono B4.out.size))
  clear y5 b5 CC
  go_wp2
  go_ret
  exact ⟨_, rfl, Y5.out, B5.out⟩
end Go.Proofs.YtmnhpkdldeifgaaGreatDoor

namespace Go.Proofs.YtmnhpkdldeifgaaGreatDoor
set_option maxRecDepth 100000

/-- What the first m parts stand for. -/
def vb (b : Nat) (l : List Nat) : Nat → Nat
  | 0 => 0
  | i + 1 => vb b l i + b ^ i * l.getD i 0
theorem vb_256 (l : List Nat) (m : Nat) : vb 256 l m = vt l m := by
  induction m with
  | zero => rfl
  | succ m ih => rw [vb, vt, ih]
theorem vb_ext (b : Nat) (l l' : List Nat) (m : Nat) (h : ∀ i, i < m → l.getD i 0 = l'.getD i 0) : vb b l m = vb b l' m := by
  induction m with
  | zero => rfl
  | succ m ih => rw [vb, vb, ih fun i hi => h i (by omega), h m (by omega)]
theorem vb_set (b : Nat) (l : List Nat) (i x m : Nat) (hl : i < l.length) (hm : i < m) : vb b (l.set i x) m + b ^ i * l.getD i 0 = vb b l m + b ^ i * x := by
  induction m with
  | zero => omega
  | succ m ih =>
    rw [vb, vb, getD_set _ _ _ _ hl]
    by_cases h : i = m
    · subst h
      have e : vb b (l.set i x) i = vb b l i := vb_ext _ _ _ _ fun j hj => by rw [getD_set _ _ _ _ hl, if_neg (by omega)]
      rw [if_pos rfl, e]
      omega
    · have := ih (by omega)
      rw [if_neg h]
      omega
theorem vb_add (b : Nat) (l : List Nat) (i a m : Nat) (hl : i < l.length) (hm : i < m) : vb b (l.set i (l.getD i 0 + a)) m = vb b l m + b ^ i * a := by
  have h := vb_set b l i (l.getD i 0 + a) m hl hm
  rw [Nat.mul_add] at h
  omega
theorem vb_le (b : Nat) (hb : 2 ≤ b) (l : List Nat) (D m : Nat) (h : ∀ i, l.getD i 0 ≤ D) : vb b l m ≤ D * b ^ m := by
  induction m with
  | zero => simp [vb]
  | succ m ih =>
    have h1 := Nat.mul_le_mul_left (b ^ m) (h m)
    have e : D * b ^ (m + 1) = b * (D * b ^ m) := by rw [Nat.pow_succ, Nat.mul_comm (b ^ m), ← Nat.mul_assoc, ← Nat.mul_assoc, Nat.mul_comm D b]
    have e2 : b ^ m * D = D * b ^ m := Nat.mul_comm _ _
    have e3 := Nat.mul_le_mul_right (D * b ^ m) hb
    rw [vb]
    omega
theorem vb_lt (b : Nat) (l : List Nat) (m : Nat) (hb : 0 < b) (h : ∀ i, i < m → l.getD i 0 < b) : vb b l m < b ^ m := by
  induction m with
  | zero => simp [vb]
  | succ m ih =>
    have h0 := ih fun i hi => h i (by omega)
    have h1 := Nat.mul_le_mul_left (b ^ m) (show l.getD m 0 ≤ b - 1 by have := h m (by omega); omega)
    have e : b ^ (m + 1) = b ^ m * (b - 1) + b ^ m := by
      rw [Nat.pow_succ]
      have : b = (b - 1) + 1 := by omega
      calc b ^ m * b = b ^ m * ((b - 1) + 1) := by rw [← this]
        _ = b ^ m * (b - 1) + b ^ m := by rw [Nat.mul_add, Nat.mul_one]
    rw [vb, e]
    omega
/-- What stands over a part is carried to the next one: the number stays. -/
theorem vb_carry (b : Nat) (l : List Nat) (i m : Nat) (hl : i + 1 < l.length) (hm : i + 1 < m) :
    vb b ((l.set i (l.getD i 0 % b)).set (i + 1) (l.getD (i + 1) 0 + l.getD i 0 / b)) m = vb b l m := by
  have h1 := vb_set b l i (l.getD i 0 % b) m (by omega) (by omega)
  have e0 : (l.set i (l.getD i 0 % b)).getD (i + 1) 0 = l.getD (i + 1) 0 := by rw [getD_set _ _ _ _ (by omega), if_neg (by omega)]
  have h2 := vb_add b (l.set i (l.getD i 0 % b)) (i + 1) (l.getD i 0 / b) m (by simpa using hl) hm
  rw [e0] at h2
  have h3 := Nat.div_add_mod (l.getD i 0) b
  have h4 : b ^ (i + 1) * (l.getD i 0 / b) = b ^ i * (b * (l.getD i 0 / b)) := by rw [Nat.pow_succ, Nat.mul_assoc]
  have h5 : b ^ i * l.getD i 0 = b ^ i * (b * (l.getD i 0 / b)) + b ^ i * (l.getD i 0 % b) := by rw [← Nat.mul_add, h3]
  rw [h2]
  omega
/-- What stands over the last of five parts of 26 bits is taken five times: the same modulo 2^130 - 5. -/
theorem vb_over (l : List Nat) (hl : l.length = 5) :
    (vb (2 ^ 26) ((l.set 4 (l.getD 4 0 % 2 ^ 26)).set 0 (l.getD 0 0 + 5 * (l.getD 4 0 / 2 ^ 26))) 5) % pP = vb (2 ^ 26) l 5 % pP := by
  have h1 := vb_set (2 ^ 26) l 4 (l.getD 4 0 % 2 ^ 26) 5 (by omega) (by omega)
  have e0 : (l.set 4 (l.getD 4 0 % 2 ^ 26)).getD 0 0 = l.getD 0 0 := by rw [getD_set _ _ _ _ (by omega), if_neg (by omega)]
  have h2 := vb_add (2 ^ 26) (l.set 4 (l.getD 4 0 % 2 ^ 26)) 0 (5 * (l.getD 4 0 / 2 ^ 26)) 5 (by simp [hl]) (by omega)
  rw [e0] at h2
  have h3 := Nat.div_add_mod (l.getD 4 0) (2 ^ 26)
  have e : vb (2 ^ 26) l 5 = vb (2 ^ 26) ((l.set 4 (l.getD 4 0 % 2 ^ 26)).set 0 (l.getD 0 0 + 5 * (l.getD 4 0 / 2 ^ 26))) 5 + pP * (l.getD 4 0 / 2 ^ 26) := by
    rw [h2, pP]
    generalize vb (2 ^ 26) (l.set 4 (l.getD 4 0 % 2 ^ 26)) 5 = X at *
    omega
  rw [e, Nat.add_mul_mod_self_left]
end Go.Proofs.YtmnhpkdldeifgaaGreatDoor
