/- Package office as landed: New, mark, knows, Issued. The document's Sign, Check and Valid of layer 13. What the texts of layer 13's statements lean on of package token, as one thing to prove; the chapter's example (works). -/
import Derived.Test.YtfcjemedheccgaaDoorGx
import Derived.Test.YtfcjemedheccgaaDoorGj
import Derived.Test.YtfcjemedheccgaaDoorGu
import Derived.Test.YtfcjemedheccgaaDoorGa
import Derived.Test.YtfcjemedheccgaaDoorGl
namespace Go.Proofs.YtfcjemedheccgaaDoor
set_option maxRecDepth 100000
open Go.RowKit

set_option maxHeartbeats 1000000 in
theorem offNew_bad (seed : List UInt8) (len : Int) (hs : seed.length ≤ 4000) (h : keyBad len 0) (w : World) (T : Tab w) :
    Calls Tryd.prog 8 #[.string ⟨seed.toArray⟩, .int .i64 len] w fun e w' => e = .returned (.tuple #[.pointer none, .int .i64 2]) ∧ Below w.heap.size w w' := by
  have C := Lib.hid (chKey_any seed len 0 w hs T)
  rw [chKeyC, if_pos h] at C
  generalize keyA seed len 0 = kk at *
  clear h T hs
  go_enter Tryd.func8, Tryd.ntmps8
  go_wp2_with fail
  refine C.out.mono ?_
  rintro e w1 ⟨rfl, b1⟩
  have B1 := Lib.hid b1
  clear b1 C
  go_wp2
  go_ret2
  exact ⟨rfl, B1.out⟩
set_option maxHeartbeats 1000000 in
theorem offNew_good (seed : List UInt8) (len : Int) (hs : seed.length ≤ 4000) (h : ¬ keyBad len 0) (w : World) (T : Tab w) :
    Calls Tryd.prog 8 #[.string ⟨seed.toArray⟩, .int .i64 len] w fun e w' => ∃ g, e = .returned (.tuple #[.pointer (some ⟨g, 0, none⟩), .int .i64 0]) ∧ OffAt w' g (.slice none 0 0) (.slice none 0 0) ⟨seed, len, 0, [], []⟩ ∧ w.heap.size ≤ g ∧ Below w.heap.size w w' := by
  have C := Lib.hid (chKey_any seed len 0 w hs T)
  rw [chKeyC, if_neg h] at C
  generalize keyA seed len 0 = kk at *
  clear h T hs
  go_enter Tryd.func8, Tryd.ntmps8
  go_wp2_with fail
  refine C.out.mono ?_
  rintro e w1 ⟨rfl, b1⟩
  have B1 := Lib.hid b1
  clear b1 C
  go_wp2_with (refine wpList_box_row rfl 63 _ rfl (offC (.slice none 0 0) (.slice none 0 0) ⟨seed, len, 0, [], []⟩).toArray (by with_unfolding_all exact rfl) ?_)
  intro w2 b2 x2 z2
  have X2 := Lib.hid x2
  have B2 := Lib.hid (B1.out.trans (b2.mono B1.out.size))
  have S2 := Lib.hid B1.out.size
  obtain ⟨g, hg⟩ : ∃ g, g = w1.heap.size := ⟨_, rfl⟩
  rw [← hg] at X2 S2 ⊢
  clear b2 x2 z2 B1 hg
  go_wp2
  go_ret2
  exact ⟨_, rfl, ObjAt.new X2.out, S2.out, B2.out⟩

set_option maxHeartbeats 1000000 in
theorem mark_any (g : Nat) (v u : Value) (s : OS) (n : List UInt8) (N : Nat) (ok : s.Ok N) (hN : N ≤ 4000000) (w : World) (h : OffAt w g v u s) :
    Calls Tryd.prog 34 #[.pointer (some ⟨g, 0, none⟩), .string ⟨n.toArray⟩] w fun e w' => e = .returned (.tuple #[]) ∧ ∃ u', OffAt w' g v u' (s.mark n) ∧ Moves (Foot g v u) (Foot g v u') w w' := by
  have O := Lib.hid h
  have HL : Hid ((nmC s.gone).length + (nmC [n]).length ≤ 10000000) := Lib.hid (by rw [nmC_length]; have := ok.gone; simp [nmC]; omega)
  clear h ok hN
  have c0 := OffAt.c0 O.out
  go_enter Tryd.func34, Tryd.ntmps34
  go_wp2_with (with_reducible refine wpList_one_str rfl _ rfl n (by with_unfolding_all exact rfl) ?_)
  intro w1 b1 y1 z1
  have O1 := Lib.hid (O.out.below b1)
  have M1 := Lib.hid (Moves.of_below (Foot g v u) b1)
  have Y1 := Lib.hid y1
  clear b1 y1 z1 c0
  go_wp2_with (with_reducible refine wpList_append_rows_at strZ rfl _ _ rfl u (by with_unfolding_all exact rfl) O1.out.names _ (nmC [n]) (by with_unfolding_all exact rfl) Y1.out (nmC_one _) HL.out (Nat.zero_le _) ?_)
  intro u' w2 o2 q2 h2
  have X2 : Hid (Whole w2 g 63 (offC v u s).toArray) := Lib.hid (O1.out.whole.grown_own q2 O1.out.gu)
  rw [← nmC_append] at o2
  obtain ⟨A, cap, hu⟩ := o2.form
  have o2' := Lib.hid o2
  have q2' := Lib.hid q2
  have h2' := Lib.hid h2
  subst hu
  clear o2 q2 h2
  go_wp2_with (with_reducible refine wpList_put_cell 42 ⟨by kernel_rfl, by kernel_rfl⟩ rfl _ _ rfl g 0 (by with_unfolding_all exact rfl) _ (by with_unfolding_all exact rfl) (by with_unfolding_all exact rfl) (by with_unfolding_all exact rfl) _ _ X2.out _ (by with_unfolding_all exact rfl) ?_)
  intro w3 q3 x3 z3
  have E := Lib.hid (O1.out.gone_more (n := n) q2'.out o2'.out h2'.out q3 x3)
  clear q3 x3 z3 X2 o2' q2' h2'
  go_wp2
  go_end0
  exact ⟨rfl, _, E.out.1, M1.out.trans E.out.2⟩

set_option maxHeartbeats 1000000 in
theorem issued_any (g : Nat) (v u : Value) (s : OS) (N : Nat) (ok : s.Ok N) (hN : N ≤ 4000000) (w : World) (h : OffAt w g v u s) :
    Calls Tryd.prog 14 #[.pointer (some ⟨g, 0, none⟩)] w fun e w' => ∃ x, e = .returned x ∧ OwnRows w' w.heap.size 48 6 x (s.issued.map Ent.enc) ∧ Below w.heap.size w w' := by
  have O := Lib.hid h
  have HL : Hid (s.issued.length ≤ 10000000) := Lib.hid (by have := ok.many; omega)
  obtain ⟨A, cap, hv⟩ := h.rows.form
  rw [List.length_map] at hv
  subst hv
  clear h ok hN
  have c4 := OffAt.c4 O.out
  go_enter Tryd.func14, Tryd.ntmps14
  go_wp2_with (with_reducible refine wpList_make_rows entZ rfl _ _ rfl s.issued.length (by with_unfolding_all exact rfl) (by with_unfolding_all exact rfl) HL.out ?_)
  intro w1 xs o1 b1 z1
  have O1 := Lib.hid (O.out.below b1)
  have X1 := Lib.hid o1
  have B1 := Lib.hid b1
  clear o1 b1 z1 c4
  have c4 := OffAt.c4 O1.out
  go_wp2_with (with_reducible refine wpList_copy_rows entZ rfl _ _ rfl w.heap.size s.issued.length s.issued.length (by with_unfolding_all exact rfl) xs X1.out _ (s.issued.map Ent.enc) (by with_unfolding_all exact rfl) O1.out.rows.rows (entC_one _) (by rw [List.length_map]) ?_)
  intro w2 o2 q2 z2
  have X2 := Lib.hid o2
  have B2 := Lib.hid (B1.out.grown q2 B1.out.size (fun k hk => by injection hk with hk; omega))
  clear o2 q2 z2 X1 B1 c4
  go_wp2
  go_ret
  exact ⟨_, rfl, X2.out, B2.out⟩
theorem issued_rows (g : Nat) (v u : Value) (s : OS) (N : Nat) (ok : s.Ok N) (hN : N ≤ 4000000) (w : World) (h : OffAt w g v u s) :
    Calls Tryd.prog 14 #[.pointer (some ⟨g, 0, none⟩)] w fun e w' => ∃ x, e = .returned x ∧ RowsAt w' x 6 (s.issued.map Ent.enc) ∧ Below w.heap.size w w' :=
  (issued_any g v u s N ok hN w h).mono fun _ _ ⟨x, a, b, c⟩ => ⟨x, a, b.rows, c⟩
set_option maxHeartbeats 1000000 in
theorem issued_nil (w : World) : Calls Tryd.prog 14 #[.pointer none] w fun e w' => e = .returned (.slice none 0 0) ∧ w' = w := by
  go_enter Tryd.func14, Tryd.ntmps14
  go_wp2
  go_ret
  exact ⟨rfl, rfl⟩

set_option maxHeartbeats 1000000 in
theorem knows1_any (x : Ent) (n : List UInt8) (B : Nat) (w : World) (hc : w.cell? ⟨B, 0, none⟩ = some (.string ⟨n.toArray⟩)) (hB : B < w.heap.size) :
    Calls Tryd.prog 48 #[x.val, .pointer (some ⟨B, 0, none⟩)] w fun e w' => e = .returned (.bool (decide (x.name = n))) ∧ Below w.heap.size w w' := by
  have HC := Lib.hid hc
  have HB := Lib.hid hB
  clear hc hB
  go_enter Tryd.func48, Tryd.ntmps48
  go_wp2_with (refine wpList_box_row rfl 48 _ rfl x.enc.toArray (by with_unfolding_all exact rfl) ?_)
  intro w1 b1 x1 z1
  obtain ⟨gX, hgX⟩ : ∃ g, g = w.heap.size := ⟨_, rfl⟩
  have M_X := Lib.hid (show w.heap.size ≤ gX from by rw [hgX]; exact Nat.le_refl _)
  have B1 := Lib.hid b1
  rw [← hgX] at x1 ⊢
  have X1 : Hid (Ent.At w1 gX x) := Lib.hid x1
  clear b1 x1 z1 hgX 
  have c1 := Ent.At.at_name X1.out
  have c2 := (B1.out.cell (p := ⟨B, 0, none⟩) HB.out).trans HC.out
  have HQ : Hid ((x.name == n) = decide (x.name = n)) := Lib.hid (by rw [Bool.eq_iff_iff]; simp)
  go_wp2
  go_ret
  exact ⟨by rw [← HQ.out]; rfl, B1.out⟩
set_option maxHeartbeats 1000000 in
theorem knowsI_any (A : Option Addr) (m cap : Nat) (l : List Ent) (n : List UInt8) (B : Nat) (hm : m ≤ 10000000) (w : World) (h : RowsAt w (.slice A m cap) 6 (l.map Ent.enc)) (hc : w.cell? ⟨B, 0, none⟩ = some (.string ⟨n.toArray⟩)) (hB : B < w.heap.size) :
    Calls Tryd.prog 60 #[.slice A m cap, .func (.func 48) #[] #[.pointer (some ⟨B, 0, none⟩)]] w fun e w' => e = .returned (.int .i64 (findN n (l.map (·.name)) 0)) ∧ Below w.heap.size w w' := by
  have hlen := h.size.1
  rw [List.length_map] at hlen
  have H := Lib.hid h
  have HL := Lib.hid hlen
  have CK := Lib.hid (fun x w' (b : Below w.heap.size w w') => knows1_any x n B w' ((b.cell (p := ⟨B, 0, none⟩) hB).trans hc) (Nat.lt_of_lt_of_le hB b.size))
  obtain ⟨R, hR⟩ : ∃ R, R = findN n (l.map (·.name)) 0 := ⟨_, rfl⟩
  have HR : Hid (findN n ((l.map (·.name)).drop 0) 0 = R) := Lib.hid (by rw [hR]; rfl)
  rw [← hR]
  clear h hlen hR hc hB
  go_enter Tryd.func60, Tryd.ntmps60
  go_wp2_with fail
  go_loopw [8] (fun i wr => ∃ k : Nat, k ≤ m ∧ i = .int .i64 (k : Int) ∧ findN n ((l.map (·.name)).drop k) k = R ∧ Below w.heap.size w wr) (fun i _ => m - (intOf i).toNat)
  case atStart => exact ⟨0, Nat.zero_le _, rfl, HR.out, Below.refl _ _⟩
  case round =>
    obtain ⟨k, hk, rfl, hr, hb⟩ := hrel
    have HK := Lib.hid hr
    have B0 := Lib.hid hb
    clear hr hb HR
    by_cases hlt : k < m
    · have dk : decide ((k : Int) < (m : Int)) = true := by simp; omega
      obtain ⟨x, hx⟩ : ∃ x, l[k]? = some x := ⟨_, List.getElem?_eq_getElem (by rw [← HL.out]; exact hlt)⟩
      obtain ⟨b, off, rfl, hbl, hc⟩ := H.out.row (fun c hc => (entC_one l c hc).1) (by decide) (by rw [List.getElem?_map, hx]; rfl : (l.map Ent.enc)[k]? = some x.enc)
      have HC := Lib.hid (fun j u (hj : x.enc[j]? = some u) => (B0.out.cell (p := ⟨b, off + k * 6 + j, none⟩) hbl).trans (hc j u hj))
      have HD := Lib.hid (drop_at (by rw [List.getElem?_map, hx]; rfl : (l.map (·.name))[k]? = some x.name))
      have jk : (k : Int) < (m : Int) := by omega
      have r4 : IntKind.i64.wrap ((k : Int) + 1) = ((k + 1 : Nat) : Int) := by rw [IntWalk.i64_in _ (by omega)]; omega
      have C1 := Lib.hid (CK.out x wr B0.out)
      clear hc hx
      by_cases hn : x.name = n
      · rw [decide_eq_true hn] at C1
        have HV : Hid ((k : Int) = R) := Lib.hid (by have q := HK.out; rw [HD.out, findN, if_pos hn] at q; exact q)
        clear hn
        go_wp2_with (with_reducible refine wpList_load_rec Ent.isRec rfl _ rfl b (off + k * 6) (by with_unfolding_all exact rfl) x.enc (Ent.len _) HC.out ?_)
        refine C1.out.mono ?_
        rintro e w1 ⟨rfl, b1⟩
        have B1 := Lib.hid (B0.out.trans (b1.mono B0.out.size))
        clear b1 C1
        go_wp2
        go_ret
        exact ⟨by rw [← HV.out]; rfl, B1.out⟩
      · rw [decide_eq_false hn] at C1
        have HV : Hid (findN n ((l.map (·.name)).drop (k + 1)) (k + 1) = R) := Lib.hid (by have q := HK.out; rw [HD.out, findN, if_neg hn] at q; exact q)
        clear hn
        go_wp2_with (with_reducible refine wpList_load_rec Ent.isRec rfl _ rfl b (off + k * 6) (by with_unfolding_all exact rfl) x.enc (Ent.len _) HC.out ?_)
        refine C1.out.mono ?_
        rintro e w1 ⟨rfl, b1⟩
        have B1 := Lib.hid (B0.out.trans (b1.mono B0.out.size))
        clear b1 C1
        go_wp2
        exact ⟨⟨k + 1, by omega, by go_num, HV.out, B1.out⟩, by simp [intOf]; omega⟩
    · obtain rfl : k = m := by omega
      have dk : decide ((k : Int) < (k : Int)) = false := by simp
      have HV : Hid ((-1 : Int) = R) := Lib.hid (by have q := HK.out; rw [List.drop_eq_nil_of_le (by rw [List.length_map, ← HL.out]; exact Nat.le_refl _)] at q; exact q)
      go_wp2
      go_ret
      exact ⟨by rw [← HV.out]; rfl, B0.out⟩
set_option maxHeartbeats 1000000 in
theorem knowsC_any (A : Option Addr) (m cap : Nat) (l : List Ent) (n : List UInt8) (B : Nat) (hm : m ≤ 10000000) (w : World) (h : RowsAt w (.slice A m cap) 6 (l.map Ent.enc)) (hc : w.cell? ⟨B, 0, none⟩ = some (.string ⟨n.toArray⟩)) (hB : B < w.heap.size) :
    Calls Tryd.prog 47 #[.slice A m cap, .func (.func 48) #[] #[.pointer (some ⟨B, 0, none⟩)]] w fun e w' => e = .returned (.bool (decide (n ∈ l.map (·.name)))) ∧ Below w.heap.size w w' := by
  have C := Lib.hid (knowsI_any A m cap l n B hm w h hc hB)
  have HQ := Lib.hid (findN_pos n (l.map (·.name)) 0)
  generalize findN n (l.map (·.name)) 0 = R at *
  clear h hc hB
  go_enter Tryd.func47, Tryd.ntmps47
  go_wp2_with fail
  refine C.out.mono ?_
  rintro e w1 ⟨rfl, b1⟩
  have B1 := Lib.hid b1
  clear b1 C
  go_wp2
  go_ret
  exact ⟨by rw [← HQ.out]; rfl, B1.out⟩
set_option maxHeartbeats 1000000 in
theorem knows_any (g : Nat) (v u : Value) (s : OS) (n : List UInt8) (N : Nat) (ok : s.Ok N) (hN : N ≤ 4000000) (w : World) (h : OffAt w g v u s) :
    Calls Tryd.prog 33 #[.pointer (some ⟨g, 0, none⟩), .string ⟨n.toArray⟩] w fun e w' => e = .returned (.bool (s.knows n)) ∧ Below w.heap.size w w' := by
  have HL : Hid (s.issued.length ≤ 10000000) := Lib.hid (by have := ok.many; omega)
  obtain ⟨A, cap, hv⟩ := h.rows.form
  rw [List.length_map] at hv
  subst hv
  have b1 : Below w.heap.size w (w.alloc (.cells #[.string ⟨n.toArray⟩] 9)) := (Below.refl _ _).alloc (Nat.le_refl _) _
  have B1 := Lib.hid b1
  have O1 := Lib.hid (h.below b1)
  have c4 := OffAt.c4 O1.out
  have C := Lib.hid (knowsC_any A s.issued.length cap s.issued n w.heap.size HL.out (w.alloc (.cells #[.string ⟨n.toArray⟩] 9)) O1.out.rows.rows ((Whole.new w 9 #[.string ⟨n.toArray⟩]).at_ 0) (by simp))
  rw [show decide (n ∈ s.issued.map (·.name)) = s.knows n from rfl] at C
  clear h ok hN b1 O1
  go_enter Tryd.func33, Tryd.ntmps33
  go_wp2_with fail
  refine C.out.mono ?_
  rintro e w2 ⟨rfl, b2⟩
  have B2 := Lib.hid (B1.out.trans (b2.mono B1.out.size))
  clear b2 C B1
  go_wp2
  go_ret
  exact ⟨rfl, B2.out⟩
end Go.Proofs.YtfcjemedheccgaaDoor

namespace Go.Proofs.YtfcjemedheccgaaDoor
set_option maxRecDepth 100000
open Go.RowKit

set_option maxRecDepth 100000 in
set_option maxHeartbeats 1000000 in
theorem refSign_any (k : List UInt8) (a : Ent) (hk : k.length ≤ 4000) (hn : a.name.length ≤ 1000) (hi : a.id < 18446744073709551616) (w : World) :
    Calls Tryd.prog 57 #[.string ⟨k.toArray⟩, a.val] w fun e w' => e = .returned (signE k a).val ∧ Below w.heap.size w w' := by
  have HN := Lib.hid (And.intro hn hi)
  have HKL := Lib.hid hk
  have BL := Lib.hid (show (bodyL a).length ≤ 1020 by rw [bodyL_length]; omega)
  have hv : a.val = .agg a.cells := rfl
  have HS : Hid (signE k a = { a with tag := macL k (bodyL a) }) := Lib.hid rfl
  obtain ⟨M, hM⟩ : ∃ M, M = macL k (bodyL a) := ⟨_, rfl⟩
  have HM := Lib.hid hM
  rw [← hM] at HS
  obtain ⟨S, hS⟩ : ∃ S, S = signE k a := ⟨_, rfl⟩
  rw [← hS] at HS ⊢
  rw [hv]
  clear hk hn hi hv hM hS
  go_enter Tryd.func57, Tryd.ntmps57
  go_wp2_with (refine wpList_box_row rfl 48 (.tmp 1) rfl a.cells rfl ?_)
  intro w1 b1 x1 z1
  have X1 : Hid (EntAt w1 w.heap.size a) := Lib.hid x1
  have B1 := Lib.hid b1
  clear b1 x1 z1
  go_wp2_with (refine wpList_alloc_row rfl 48 rfl ent0.cells ent_zero ?_)
  intro w2 b2 x2 z2
  have X2 : Hid (EntAt w2 w.heap.size a) := Lib.hid (Whole.below X1.out b2 X1.out.lt)
  have R2 : Hid (Whole w2 w1.heap.size 48 ent0.cells) := Lib.hid x2
  have B2 := Lib.hid (B1.out.trans (b2.mono B1.out.size))
  have Z2 := Lib.hid (And.intro B1.out.size X1.out.lt)
  obtain ⟨g, hg⟩ : ∃ g, g = w.heap.size := ⟨_, rfl⟩
  have GG := Lib.hid hg
  rw [← hg] at X2 Z2 ⊢
  obtain ⟨x, hx⟩ : ∃ x, x = w1.heap.size := ⟨_, rfl⟩
  rw [← hx] at R2 Z2 ⊢
  clear b2 x2 z2 X1 B1 hg hx
  obtain ⟨vs, w3, r3, y3, b3⟩ := conv_str w2 ⟨k.toArray⟩
  have X3 : Hid (EntAt w3 g a) := Lib.hid (Whole.below X2.out b3 X2.out.lt)
  have R3 : Hid (Whole w3 x 48 ent0.cells) := Lib.hid (Whole.below R2.out b3 R2.out.lt)
  have B3 := Lib.hid (B2.out.trans (b3.mono B2.out.size))
  have Y3 : Hid (BytesAt w3 vs k) := Lib.hid (by simpa using y3)
  clear b3 y3 X2 R2 B2
  go_wp2_with (with_reducible refine wpList_load_ent rfl _ rfl g (by with_unfolding_all exact rfl) a X3.out ?_)
  refine (refBody_any a HN.out.1 HN.out.2 w3).mono ?_
  rintro e w4 ⟨v4, rfl, o4, b4⟩
  have Y4 := Lib.hid (BytesAt.of_own o4)
  have X4 : Hid (EntAt w4 g a) := Lib.hid (Whole.below X3.out b4 X3.out.lt)
  have R4 : Hid (Whole w4 x 48 ent0.cells) := Lib.hid (Whole.below R3.out b4 R3.out.lt)
  have B4 := Lib.hid (B3.out.trans (b4.mono B3.out.size))
  have C := Lib.hid (refMac_any vs v4 k (bodyL a) w4 (Y3.out.below b4) Y4.out (by have := HKL.out; omega) (by have := BL.out; omega))
  rw [← HM.out] at C
  clear o4 b4 X3 R3 B3 r3 Y3
  go_wp2_with fail
  refine C.out.mono ?_
  rintro e w5 ⟨v5, rfl, y5, b5⟩
  have r5 := conv_bytes y5
  have X5 : Hid (EntAt w5 g a) := Lib.hid (Whole.below X4.out b5 X4.out.lt)
  have R5 : Hid (Whole w5 x 48 ent0.cells) := Lib.hid (Whole.below R4.out b5 R4.out.lt)
  have B5 := Lib.hid (B4.out.trans (b5.mono B4.out.size))
  have f5 := X5.out.free 5
  have c5 := (EntAt.six X5.out).2.2.2.2.2
  have X6 : Hid (EntAt (w5.setCell ⟨g, 5, none⟩ (.string ⟨M.toArray⟩)) g S) := Lib.hid (by rw [HS.out]; exact X5.out.tag M)
  have R6 : Hid (Whole (w5.setCell ⟨g, 5, none⟩ (.string ⟨M.toArray⟩)) x 48 ent0.cells) := Lib.hid (R5.out.far (by have := Z2.out; simp; omega) _)
  have B6 : Hid (Below w.heap.size w (w5.setCell ⟨g, 5, none⟩ (.string ⟨M.toArray⟩))) := Lib.hid (B5.out.grown (grown_store w5 g 5 _) B5.out.size (fun k hk => by injection hk with hk; have := GG.out; omega))
  clear y5 b5 X4 R4 B4 C
  go_wp2_with (first | (with_reducible refine wpList_load_ent rfl _ rfl g (by with_unfolding_all exact rfl) S X6.out ?_) | (with_reducible refine wpList_store_whole rfl 48 _ _ rfl x S.cells (by with_unfolding_all exact rfl) (by with_unfolding_all exact rfl) _ _ R6.out (ent_size' _) rfl (Ent.cells_one _) ?_))
  intro w7 g7 x7 z7
  have R7 : Hid (EntAt w7 x S) := Lib.hid x7
  have B7 := Lib.hid (B6.out.grown g7 B6.out.size (fun k hk => by injection hk with hk; have := GG.out; have := Z2.out; omega))
  clear g7 x7 z7 X6 R6 B6 X5 R5 B5 f5 c5 r5
  go_wp2
  exact bodyPost_ret (results_ent rfl _ _ _ _ rfl R7.out) rfl ⟨rfl, B7.out⟩

theorem ent_tag (S : Ent) (w : World) : (Instr.field 48 S.val 5).run Tryd.prog w = .ok (.string ⟨S.tag.toArray⟩) w := by
  obtain ⟨n, i, f, u, x, t⟩ := S
  simp only [Ent.val, Ent.enc]
  kernel_rfl
theorem exec_ent_tag {ev : Operand → Value} {o : Oper} (x : Operand) (ho : o.op = .field 48 x 5) (S : Ent) (hx : ev x = S.val) (w : World) :
    (execOp ev o).run Tryd.prog w = .ok (.value (.string ⟨S.tag.toArray⟩)) w := by
  have h := ent_tag S w
  unfold execOp
  simp [ho, hx, h]

end Go.Proofs.YtfcjemedheccgaaDoor

namespace Go.Proofs.YtfcjemedheccgaaDoor
set_option maxRecDepth 100000
open Go.RowKit

structure TokenIs : Prop where
  sign : ∀ (k : List UInt8) (a : Ent) (w : World) (_ : k.length ≤ 4000) (_ : a.name.length ≤ 1000) (_ : a.id < 18446744073709551616) (_ : Tab w),
    Calls Tryd.prog 46 #[.string ⟨k.toArray⟩, a.val] w fun e w' => e = .returned (signE k a).val ∧ Below w.heap.size w w'
  check : ∀ (k : List UInt8) (a : Ent) (w : World) (_ : k.length ≤ 4000) (_ : a.name.length ≤ 1000) (_ : a.tag.length ≤ 1000) (_ : a.id < 18446744073709551616) (_ : Tab w),
    Calls Tryd.prog 36 #[.string ⟨k.toArray⟩, a.val] w fun e w' => e = .returned (.bool (checkT k a)) ∧ Below w.heap.size w w'
  valid : ∀ (gi : Int) (gk : List UInt8) (a : Ent) (now : Int) (w : World) (_ : gk.length ≤ 4000) (_ : a.name.length ≤ 1000) (_ : a.tag.length ≤ 1000) (_ : a.id < 18446744073709551616) (_ : Tab w),
    Calls Tryd.prog 22 #[gateV gi gk, a.val, .int .i64 now] w fun e w' => e = .returned (.int .i64 (validX gi gk a now)) ∧ Below w.heap.size w w'

end Go.Proofs.YtfcjemedheccgaaDoor
